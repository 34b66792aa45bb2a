/- A literal is put, in memory. -/
import Derived.Test.YtggighikemhnfaaDoorZUnT
namespace Go.Proofs.YtggighikemhnfaaDoor.Tm
open Go.RowKit
set_option linter.unusedVariables false
def LookR (W0 w' : World) (b : Nat) (s : USt) (ls : List Int) (rv lv : Value) : Prop := ∃ pg qv xs L, RunX W0 w' b s ls pg rv qv lv xs L
def OkW (s : USt) : Prop := ∀ r ∈ s.rows, I64 r.w0 ∧ I64 r.w1 ∧ ∀ y ∈ r.rest, I64 y
theorem look_len (s : USt) (t : Nat) : (lookM s t).rows.length = s.rows.length := by
  unfold lookM
  split
  · rfl
  · split
    · rfl
    · split
      · simp
      · split <;> simp
theorem look_q (s : USt) (t : Nat) : (lookM s t).q.length ≤ s.q.length + 1 := by
  unfold lookM
  split
  · simp
  · split
    · simp
    · split
      · simp
      · split <;> simp
theorem look_rows {s : USt} {t u : Nat} (hne : u ≠ t) {r : URow} (hr : s.rows[u / 2]? = some r) : ∃ r', (lookM s t).rows[u / 2]? = some r' ∧ nxt r' (u % 2) = nxt r (u % 2) := by
  unfold lookM
  split
  · exact ⟨r, hr, rfl⟩
  · rename_i r0 h0
    split
    · exact ⟨r, hr, rfl⟩
    · split
      · dsimp only
        rw [get_set h0]
        split
        · rename_i e
          rw [e, h0] at hr
          cases hr
          refine ⟨_, rfl, ?_⟩
          rw [nxt_putW (Nat.mod_lt _ (by omega)) (Nat.mod_lt _ (by omega)), if_neg (fun e' => hne (by omega))]
        · exact ⟨r, hr, rfl⟩
      · split <;> dsimp only <;> rw [get_set h0] <;> split
        · rename_i e
          rw [e, h0] at hr
          cases hr
          exact ⟨_, rfl, rfl⟩
        · exact ⟨r, hr, rfl⟩
        · rename_i e
          rw [e, h0] at hr
          cases hr
          exact ⟨_, rfl, rfl⟩
        · exact ⟨r, hr, rfl⟩
theorem look_chain {s : USt} {t : Nat} {n : Int} {r : List Nat} (h : ChainL s.rows n r) (ht : t ∉ r) : ChainL (lookM s t).rows n r :=
  h.same (fun u hu v hv => look_rows (fun e => ht (by rw [← e]; exact hu)) hv)
theorem look_ok {s : USt} {t : Nat} (h : OkW s) : OkW (lookM s t) := by
  unfold lookM
  split
  · exact h
  · rename_i r0 h0
    have hr0 := h r0 (List.mem_of_getElem? h0)
    split
    · exact h
    · split
      · rename_i x rest hs
        obtain ⟨_, _, pre, s3, _⟩ := seekM_some hs
        intro r hr
        rcases List.mem_or_eq_of_mem_set hr with hr | rfl
        · exact h r hr
        · have hx : I64 x := hr0.2.2 x (by rw [s3]; simp)
          have hrest : ∀ y ∈ rest, I64 y := fun y hy => hr0.2.2 y (by rw [s3]; simp [hy])
          unfold putW
          split
          · exact ⟨hx, hr0.2.1, hrest⟩
          · exact ⟨hr0.1, hx, hrest⟩
      · split
        · intro r hr
          rcases List.mem_or_eq_of_mem_set hr with hr | rfl
          · exact h r hr
          · exact ⟨hr0.1, hr0.2.1, fun y hy => by cases hy⟩
        · intro r hr
          rcases List.mem_or_eq_of_mem_set hr with hr | rfl
          · exact h r hr
          · exact ⟨hr0.1, hr0.2.1, fun y hy => by cases hy⟩
set_option maxRecDepth 100000 in
set_option maxHeartbeats 8000000 in
theorem put_any {W0 : World} {b : Nat} {s : USt} {pg : Nat → Option Nat} {rv qv lv : Value} {xs : List RowV} {L : List Int} (l : Int) (cs : List Nat) (w : World) (h : RunX W0 w b s s.ps pg rv qv lv xs L) (hl : valL s.ps l = 0) (hch : ChainL s.rows (s.heads (negM l)) cs) (hcn : cs.Nodup)
    (hrv : cs = [] ∨ ∃ rb n rc, rv = .slice (some ⟨rb, 0, none⟩) n rc) (hok : OkW s) (hq : s.q.length + cs.length ≤ 800000) (hm : s.rows.length ≤ 800000) (hps : s.ps.length ≤ 800000) :
    Calls Tryd.prog 40 #[.pointer (some ⟨b, 0, none⟩), .int .i64 l] w fun e w' => e = .returned (.tuple #[]) ∧ ∃ lv', LookR W0 w' b (cs.foldl lookM { s with ps := s.ps ++ [l] }) (s.ps ++ [l]) rv lv' := by
  obtain ⟨i0, hi_, hz0, hz1, hz2⟩ := info_parts info_int
  obtain ⟨_, _, b2, _, blt, bfz⟩ := h.box.cells
  have f1 := bfz 1027
  obtain ⟨lm, _, _⟩ := val_zero hl
  obtain ⟨l0, l9⟩ := mayU_iff.1 lm
  have hlI : I64 l := ⟨by omega, by omega⟩
  obtain ⟨k, hkk⟩ : ∃ k : Nat, l / 1024 = (k : Int) := ⟨(l / 1024).toNat, by omega⟩
  obtain ⟨jj, hjj⟩ : ∃ jj : Nat, l % 1024 = (jj : Int) := ⟨(l % 1024).toNat, by omega⟩
  have hjl : jj < 1024 := by omega
  obtain ⟨ng, hng⟩ : ∃ ng, negM l = ng := ⟨_, rfl⟩
  have hn0 : 0 ≤ ng := by rw [← hng]; exact negM_nonneg l0
  have hnk : ng / 1024 = (k : Int) := by rw [← hng]; unfold negM; split <;> omega
  obtain ⟨j2, hj2⟩ : ∃ j2 : Nat, ng % 1024 = (j2 : Int) := ⟨(ng % 1024).toNat, by omega⟩
  have hj2l : (j2 : Int) < 1024 := by omega
  have hnI : ng ≤ 9223372036854775807 := by omega
  have hand : bits .and .i64 l 1023 = (jj : Int) := (i64_and1023 l l0 (by omega)).trans hjj
  have hand2 : bits .and .i64 ng 1023 = (j2 : Int) := (i64_and1023 ng hn0 hnI).trans hj2
  obtain ⟨j3, hj3⟩ : ∃ j3 : Nat, (jj : Int) / 2 = (j3 : Int) := ⟨jj / 2, by omega⟩
  have hj3l : (j3 : Int) < 512 := by omega
  have hj3n : j3 < 512 := by omega
  have hl2 : l / 2 = ((512 * k + j3 : Nat) : Int) := by omega
  have hyk : ng = ((1024 * k + j2 : Nat) : Int) := by omega
  obtain ⟨va, hva⟩ : ∃ va, (if l % 2 = 1 then (2 : Int) else 1) = va := ⟨_, rfl⟩
  have HNg : Hid (∀ W, Calls Tryd.prog 62 #[.int .i64 l] W fun e w' => e = .returned (.int .i64 ng) ∧ W = w') := fun W => by have := Neg_any l W hlI; rw [hng] at this; exact this
  have HNd : Hid (∀ W, Calls Tryd.prog 46 #[.int .i64 jj] W fun e w' => e = .returned (.int .i64 j3) ∧ W = w') := fun W => by have := Node_any (jj : Int) W ⟨by omega, by omega⟩; rw [hj3] at this; exact this
  have HVd : Hid (∀ W, Calls Tryd.prog 47 #[.int .i64 l] W fun e w' => e = .returned (.int .i8 va) ∧ W = w') := fun W => valued_any l va W hlI hva
  obtain ⟨la, lc, hlv, hlc, hlm, _⟩ := own_at h.lits
  subst hlv
  have hown : w.ownsRow W0.heap.size 3 1 (.slice la s.ps.length lc) s.ps.length (s.ps.map (Value.int .i64)) := h.lits
  have hWs := h.bel.size
  have HX := Lib.hid h
  have HHl := Lib.hid hl
  have HL1 : Hid (∀ g9 c9 w9, w9.ownsRow W0.heap.size 3 1 (.slice (some ⟨g9, 0, none⟩) (s.ps.length + 1) c9) (s.ps.length + 1) (s.ps.map (Value.int .i64) ++ [.int .i64 l]) → (w.alloc (.cells #[.int .i64 l] 3)).grownBy w9 (Value.slice la s.ps.length lc).ownBlock → ((Value.slice la s.ps.length lc).ownBlock = some g9 ∨ g9 = w.heap.size + 1) →
      (w9.cell? ⟨b, 1027, none⟩ = some (.slice la s.ps.length lc) ∧ w9.frozen? ⟨b, 1027, none⟩ = false ∧ b < w9.heap.size) ∧ RunX W0 (w9.setCell ⟨b, 1027, none⟩ (.slice (some ⟨g9, 0, none⟩) (s.ps.length + 1) c9)) b s (s.ps ++ [l]) pg rv qv (.slice (some ⟨g9, 0, none⟩) (s.ps.length + 1) c9) xs L) := fun g9 c9 w9 h1 h2 h3 => HX.out.lits_end h1 h2 (by rw [World.size_alloc]; exact h3)
  have HPg : Hid (∀ W lv', RunX W0 W b s (s.ps ++ [l]) pg rv qv lv' xs L → Calls Tryd.prog 63 #[.pointer (some ⟨b, 0, none⟩), .int .i64 l] W fun e w' => ∃ g, e = .returned (.pointer (some ⟨g, 0, none⟩)) ∧ PageO W0 w' b s (s.ps ++ [l]) k g rv qv lv' xs L) := fun W lv' hX => page_any l k W hX lm hkk
  obtain ⟨S, hS⟩ : ∃ S, cs.foldl lookM { s with ps := s.ps ++ [l] } = S := ⟨_, rfl⟩
  rw [hS]
  have HS := Lib.hid hS
  have HYk := Lib.hid hyk
  have HVa := Lib.hid hva
  have HL2 := Lib.hid hl2
  have HKk := Lib.hid hkk
  rw [hng] at hch
  have HCh := Lib.hid (And.intro hch hcn)
  have HRv := Lib.hid hrv
  have HOk := Lib.hid (And.intro hok (And.intro hq hm))
  obtain ⟨hd, hhd⟩ : ∃ hd, s.heads ng = hd := ⟨_, rfl⟩
  have HHd := Lib.hid hhd
  obtain ⟨ps1, hps1⟩ : ∃ ps1, s.ps ++ [l] = ps1 := ⟨_, rfl⟩
  have HPs := Lib.hid hps1
  have hpl : s.ps.length ≤ 800000 := hps
  rw [hps1] at HL1 HPg ⊢
  clear h hl hch hcn hrv hok hq hm hps hS hyk hva hl2 hkk hjj hng hn0 hnk hj2 hj3 hhd hps1 bfz lm l0 l9 hjl hlI hnI
  go_enter Tryd.func40, Tryd.ntmps40
  go_wp2_with (at_builtin; refine wpList_append_lies _ rfl _ _ 23 rfl W0.heap.size 3 i0 _ 1 8 Tryd.underlying23 hi_ hz0 hz1 hz2 rfl (by decide) (Value.slice la s.ps.length lc) s.ps.length (s.ps.map (Value.int .i64)) (by rfl) (hown.alloc _) ⟨w.heap.size, 0, none⟩ 1 1 [.int .i64 l] (by rfl) rfl (World.news_of_block (B := w.heap.size) (cs := #[.int .i64 l]) (t := 3) (fr := (0, 0)) (heap_alloc_new w _)) (by simp [Value.oneCell']) (by omega) (by simp only [maxLen]; omega) (by omega) (by simp; omega) _ rfl ?_)
  intro g9 c9 w9 hown9 hgrow9 hat9 hlt9
  obtain ⟨⟨k9, f9, l9⟩, hX1⟩ := HL1.out g9 c9 w9 hown9 hgrow9 hat9
  have HX1 := Lib.hid hX1
  clear hown hown9 hgrow9 hat9 hlt9 hX1 b2 f1
  go_wp2_with (first | (go_at_call 62; with_reducible refine (HNg.out _).mono ?_; rintro e w1 ⟨rfl, rfl⟩))
  with_reducible refine (HPg.out _ _ HX1.out).mono ?_
  rintro e w2 ⟨g, rfl, pg', hpg, hX2⟩
  have hp3 := (hX2.pages k g hpg).2.2
  have hgl := (Array.getElem?_eq_some_iff.1 hp3).1
  have hv0 : w2.cell? ⟨g, j3, none⟩ = some (.int .i8 (nodeV s.ps (512 * k + j3))) := by
    obtain ⟨g', o', e2, _, hc⟩ := (page_val hp3).tat (by rw [List.length_map, pgN_len]; omega)
    cases e2
    have := hc j3 (.int .i8 (nodeV s.ps (512 * k + j3))) (by rw [List.getElem?_map]; unfold pgN; rw [List.getElem?_map, List.getElem?_range hj3n]; rfl)
    rw [Nat.zero_add] at this
    exact this
  have hf0 : w2.frozen? ⟨g, j3, none⟩ = false := by simp [World.frozen?, hp3]
  have hX3 : RunX W0 (w2.setCell ⟨g, j3, none⟩ (.int .i8 va)) b { s with ps := s.ps ++ [l] } ps1 pg' rv qv (.slice (some ⟨g9, 0, none⟩) (s.ps.length + 1) c9) xs L := by
    have := hX2.setV hpg HHl.out hj3n HKk.out HL2.out
    rw [HVa.out] at this
    exact this
  have HX3 := Lib.hid (And.intro hpg hX3)
  obtain ⟨v0, hv0e⟩ : ∃ v0, nodeV s.ps (512 * k + j3) = v0 := ⟨_, rfl⟩
  rw [hv0e] at hv0
  clear HX1 hX2 hX3 hp3 hpg hv0e k9 f9 l9
  go_wp2_with fail
  go_region_with (first | (go_at_call 46; with_reducible refine (HNd.out _).mono ?_; rintro e w3 ⟨rfl, rfl⟩) | (go_at_call 47; with_reducible refine (HVd.out _).mono ?_; rintro e w3 ⟨rfl, rfl⟩))
  have hX4 : RunX W0 ((w2.setCell ⟨g, j3, none⟩ (.int .i8 va)).drew) b { s with ps := s.ps ++ [l] } ps1 pg' rv qv (.slice (some ⟨g9, 0, none⟩) (s.ps.length + 1) c9) xs L := HX3.out.2.drewN 1
  obtain ⟨k1, k2, k3⟩ := head_cell (hX4.pages k g HX3.out.1).2.2 (by omega : j2 < 1024) HYk.out
  dsimp only at k1
  rw [HHd.out] at k1
  have HStart : Hid (ChainL { s with ps := s.ps ++ [l] }.rows hd cs ∧ cs.Nodup) := by show _ ∧ _; rw [← HHd.out]; exact HCh.out
  have HLR : Hid (LookR W0 ((w2.setCell ⟨g, j3, none⟩ (.int .i8 va)).drew) b { s with ps := s.ps ++ [l] } ps1 rv (.slice (some ⟨g9, 0, none⟩) (s.ps.length + 1) c9)) := ⟨_, _, _, _, hX4⟩
  clear hX4 k2 HX3
  go_wp2_with fail
  go_loopg [6] cs.length (fun N nv wr => ∃ (cs' : List Nat) (s' : USt) (z : Int), nv = .int .i64 z ∧ Hid (N = cs'.length) ∧ Hid (ChainL s'.rows z cs' ∧ cs'.Nodup) ∧ Hid (cs'.foldl lookM s' = S) ∧ Hid (OkW s' ∧ s'.q.length + cs'.length ≤ 800000 ∧ s'.rows.length ≤ 800000) ∧ (cs' = [] ∨ ∃ rb n rc, rv = .slice (some ⟨rb, 0, none⟩) n rc) ∧ Hid (LookR W0 wr b s' ps1 rv (.slice (some ⟨g9, 0, none⟩) (s.ps.length + 1) c9)))
  case atStart => exact ⟨cs, { s with ps := s.ps ++ [l] }, hd, rfl, rfl, HStart, HS, HOk, HRv.out, HLR⟩
  case round =>
    clear HStart HLR HS HOk HRv k1 k3
    obtain ⟨cs', s', z, rfl, HN, HC, HF, HB, hrv', HLR⟩ := hrel
    cases cs' with
    | nil =>
      have hz : z = 0 := HC.out.1
      subst hz
      have HE : Hid (LookR W0 wr b S ps1 rv (.slice (some ⟨g9, 0, none⟩) (s.ps.length + 1) c9)) := by
        have := HF.out
        rw [List.foldl_nil] at this
        show LookR _ _ _ _ _ _ _
        rw [← this]
        exact HLR.out
      clear HF HB HC HN HLR hrv'
      go_wp2_with fail
      go_end0
      exact ⟨rfl, _, HE.out⟩
    | cons t r =>
      obtain ⟨hz, x0, hc2, hc3⟩ := HC.out.1
      have hcn := List.nodup_cons.1 HC.out.2
      obtain ⟨rb, nn, rc, hrvv⟩ : ∃ rb n rc, rv = .slice (some ⟨rb, 0, none⟩) n rc := hrv'.resolve_left (by simp)
      subst hrvv
      obtain ⟨pgx, qx, xx, Lx, hX⟩ := HLR.out
      have htl : t / 2 < s'.rows.length := (List.getElem?_eq_some_iff.1 hc2).1
      obtain ⟨x, hx0⟩ := hX.getRow htl
      have hro := hX.rowOf hx0
      obtain rfl : x0 = x.r := by rw [hc2] at hro; exact Option.some.inj hro
      obtain ⟨m, hmm⟩ : ∃ m, t / 2 = m := ⟨_, rfl⟩
      rw [hmm] at hx0 hro hc2 htl
      have hx := hx0
      obtain ⟨b0, _, _, _, blt, _⟩ := hX.box.cells
      obtain ⟨r0, r1, r2, r3, r4, rlt, _⟩ := hX.rowAt hx
      have hOx := HB.out.1 x.r (List.mem_of_getElem? hro)
      have hq' : s'.q.length ≤ 800000 := by have := HB.out.2.1; omega
      have hm' : m ≤ 800000 := by have := HB.out.2.2; omega
      have hmn : (m : Int) < (nn : Int) := by
        obtain ⟨a, c, e, h1, _⟩ := own_at hX.rows
        cases e
        have := (List.getElem?_eq_some_iff.1 hx).1
        omega
      have hnc : nn ≤ 9223372036854775807 := by
        obtain ⟨a, c, e, h1, h2, _⟩ := own_at hX.rows
        cases e
        simp only [maxLen] at h2
        omega
      have hL : True := trivial
      have hlk : True := trivial
      have hc1 : True := trivial
      clear HLR hrv' hx0 htl
      rcases (by omega : t = 2 * m ∨ t = 2 * m + 1) with htm | htm

      · subst htm
        have hta : bits .and .i64 (((2 * m : Nat)) : Int) 1 = 0 := by rw [i64_and1 _ ⟨by omega, by omega⟩]; omega
        have hth : (((2 * m : Nat)) : Int) / 2 = (m : Int) := by omega
        rw [show (2 * m) % 2 = 0 by omega] at hc3
        have hc4 : ChainL s'.rows x.r.n0 r := hc3
        have HLk : Hid (Calls Tryd.prog 58 #[.pointer (some ⟨b, 0, none⟩), .int .i64 ((2 * m : Nat) : Int)] wr fun e w' => e = .returned (.tuple #[]) ∧ LookO W0 w' b (lookM s' (2 * m)) ps1 rb nn rc (.slice (some ⟨g9, 0, none⟩) (s.ps.length + 1) c9)) := look_any0 (2 * m) m rfl x wr hX hx hq' hm' hOx.2.1 hOx.2.2
        have HNx : Hid (ChainL (lookM s' (2 * m)).rows x.r.n0 r ∧ r.Nodup) := ⟨look_chain hc4 hcn.1, hcn.2⟩
        have HFx : Hid (r.foldl lookM (lookM s' (2 * m)) = S) := HF.out
        have HBx : Hid (OkW (lookM s' (2 * m)) ∧ (lookM s' (2 * m)).q.length + r.length ≤ 800000 ∧ (lookM s' (2 * m)).rows.length ≤ 800000) := ⟨look_ok HB.out.1, by have := look_q s' (2 * m); have := HB.out.2.1; simp only [List.length_cons] at this; omega, by rw [look_len]; exact HB.out.2.2⟩
        obtain ⟨nx, hnx⟩ : ∃ nx, x.r.n0 = nx := ⟨_, rfl⟩
        rw [hnx] at r3 HNx
        obtain ⟨tv, htv⟩ : ∃ tv : Nat, 2 * m = tv := ⟨_, rfl⟩
        rw [htv] at hta hth HLk HNx HFx HBx hz
        have htb : (tv : Int) ≤ 2000000 := by omega
        have hz1 : z = (tv : Int) + 1 := hz
        clear hX hc1 hc2 hc3 hc4 hcn hOx hx hnx htv hz HF HB HC hlk hro hq' hm' hL
        subst hz1
        have hzn : ((tv : Int) + 1 != 0) = true := ne_t (by omega)
        go_wp2_with (first | (go_at_call 58; with_reducible refine HLk.out.mono ?_; rintro e w1 ⟨rfl, hO⟩; have HO := Lib.hid hO; clear hO))
        go_roundg r.length
        case measure => have := HN.out; simp only [List.length_cons] at this; omega
        case rel => exact ⟨r, lookM s' tv, nx, rfl, rfl, HNx, HFx, HBx, .inr ⟨rb, nn, rc, rfl⟩, HO⟩

      · subst htm
        have hta : bits .and .i64 (((2 * m + 1 : Nat)) : Int) 1 = 1 := by rw [i64_and1 _ ⟨by omega, by omega⟩]; omega
        have hth : (((2 * m + 1 : Nat)) : Int) / 2 = (m : Int) := by omega
        rw [show (2 * m + 1) % 2 = 1 by omega] at hc3
        have hc4 : ChainL s'.rows x.r.n1 r := hc3
        have HLk : Hid (Calls Tryd.prog 58 #[.pointer (some ⟨b, 0, none⟩), .int .i64 ((2 * m + 1 : Nat) : Int)] wr fun e w' => e = .returned (.tuple #[]) ∧ LookO W0 w' b (lookM s' (2 * m + 1)) ps1 rb nn rc (.slice (some ⟨g9, 0, none⟩) (s.ps.length + 1) c9)) := look_any1 (2 * m + 1) m rfl x wr hX hx hq' hm' hOx.1 hOx.2.2
        have HNx : Hid (ChainL (lookM s' (2 * m + 1)).rows x.r.n1 r ∧ r.Nodup) := ⟨look_chain hc4 hcn.1, hcn.2⟩
        have HFx : Hid (r.foldl lookM (lookM s' (2 * m + 1)) = S) := HF.out
        have HBx : Hid (OkW (lookM s' (2 * m + 1)) ∧ (lookM s' (2 * m + 1)).q.length + r.length ≤ 800000 ∧ (lookM s' (2 * m + 1)).rows.length ≤ 800000) := ⟨look_ok HB.out.1, by have := look_q s' (2 * m + 1); have := HB.out.2.1; simp only [List.length_cons] at this; omega, by rw [look_len]; exact HB.out.2.2⟩
        obtain ⟨nx, hnx⟩ : ∃ nx, x.r.n1 = nx := ⟨_, rfl⟩
        rw [hnx] at r4 HNx
        obtain ⟨tv, htv⟩ : ∃ tv : Nat, 2 * m + 1 = tv := ⟨_, rfl⟩
        rw [htv] at hta hth HLk HNx HFx HBx hz
        have htb : (tv : Int) ≤ 2000000 := by omega
        have hz1 : z = (tv : Int) + 1 := hz
        clear hX hc1 hc2 hc3 hc4 hcn hOx hx hnx htv hz HF HB HC hlk hro hq' hm' hL
        subst hz1
        have hzn : ((tv : Int) + 1 != 0) = true := ne_t (by omega)
        go_wp2_with (first | (go_at_call 58; with_reducible refine HLk.out.mono ?_; rintro e w1 ⟨rfl, hO⟩; have HO := Lib.hid hO; clear hO))
        go_roundg r.length
        case measure => have := HN.out; simp only [List.length_cons] at this; omega
        case rel => exact ⟨r, lookM s' tv, nx, rfl, rfl, HNx, HFx, HBx, .inr ⟨rb, nn, rc, rfl⟩, HO⟩
end Go.Proofs.YtggighikemhnfaaDoor.Tm
