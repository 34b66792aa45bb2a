/- rup.Core. -/
import Derived.Test.YtggighikemhnfaaDoorZRcD
namespace Go.Proofs.YtggighikemhnfaaDoor.Tm
open Go.RowKit
set_option linter.unusedVariables false
theorem sel_map {rs : List RowD} {cls : List (List Int)} (hcl : rs.map (·.xs) = cls) : ∀ Q : List Nat, (Q.filterMap (fun i => rs[i]?)).map (·.xs) = sel cls Q := fun Q => by
  unfold sel
  rw [List.map_filterMap]
  congr 1
  funext i
  rw [← hcl, List.getElem?_map]
theorem sel_sub {rs : List RowD} {Q : List Nat} : ∀ y ∈ Q.filterMap (fun i => rs[i]?), y ∈ rs := fun y hy => by
  obtain ⟨i, _, h⟩ := List.mem_filterMap.1 hy
  exact List.mem_of_getElem? h
theorem ints_nil (w : World) : IntsR w ([] : List Int) none 0 := ⟨by simp, by simp [maxLen], fun h => absurd h (by simp), fun x hx => by cases hx⟩
theorem lits_row {w : World} (y : RowD) (hy : IntsR w y.xs y.a y.c) : RowsR (w.alloc (.cells #[rowV y] 23)) [y] (some ⟨w.heap.size, 0, none⟩) 1 := by
  refine ⟨by simp, by simp [maxLen], fun _ => ⟨w.heap.size, 0, rfl, by simp, fun i v hv => ?_⟩, fun r hr => ?_⟩
  · rcases i with _ | i
    · rw [List.map_cons, List.getElem?_cons_zero] at hv
      cases hv
      exact (cell_of_row _ _ 0 _ _ _ (heap_alloc_new w _)).trans rfl
    · simp at hv
  · rw [List.mem_singleton.1 hr]
    exact hy.below ((Below.refl _ w).alloc (Nat.le_refl _) _)
theorem RowO.at {w : World} {base n c : Nat} {xs : List Int} {a : Option Addr} (h : RowO w base xs (.slice a n c)) (hn : xs.length = n) (hok : ∀ x ∈ xs, I64 x) : IntsR w xs a c := by
  obtain ⟨a', c', e, h1, h2, h3, _⟩ := own_at h
  injection e with e1 _ e3
  subst e1
  subst e3
  exact ⟨h1, h2, h3, hok⟩
set_option maxRecDepth 100000 in
set_option maxHeartbeats 4000000 in
theorem Core_any (rs : List RowD) (a : Option Addr) (c : Nat) (xs : List Int) (b : Option Addr) (d : Nat) (cls : List (List Int)) (w : World) (hcl : rs.map (·.xs) = cls) (hG : GC w) (hR : RowsR w rs a c) (hA : IntsR w xs b d) (hl : rs.length ≤ 400) (hx : ∀ y ∈ rs, y.xs.length ≤ 100) (hxl : xs.length ≤ 1000) :
    Calls Tryd.prog 31 #[.slice a rs.length c, .slice b xs.length d] w fun e w' => ∃ (P : List Nat) (a' : Option Addr) (c' : Nat), e = .returned (.slice a' P.length c') ∧ Hid (CoreP cls xs P ∧ IntsR w' (P.map (fun i : Nat => (i : Int))) a' c' ∧ Below w.heap.size w w') := by
  obtain ⟨i0, hi0, hiz0, hiz1, hiz2⟩ := info_parts info_int
  have HFo : Hid (∀ V, Below w.heap.size w V → Calls Tryd.prog 24 #[.slice a rs.length c, .slice b xs.length d] V fun e w' => (∃ q : Bool, e = .returned (.bool q) ∧ (q = true ↔ Fol cls xs)) ∧ Hid (Below V.heap.size V w')) := fun V hV => (Follows_any rs a c xs b d cls V hcl (hG.below hV) (hR.below hV) (hA.below hV) (by omega) (by rw [← hcl]; have := flat_hund hx; omega) hxl).mono fun e w' ⟨h1, h2⟩ => ⟨h1, h2⟩
  have HNg : Hid (∀ V, Below w.heap.size w V → Calls Tryd.prog 50 #[.slice b xs.length d] V fun e w' => ∃ a' c', e = .returned (.slice a' (xs.map negM).length c') ∧ Hid (IntsR w' (xs.map negM) a' c' ∧ Below V.heap.size V w')) := fun V hV => negs_any xs b d V (hA.below hV) hxl
  have l1 : rs.length ≤ c := hR.le
  have l2 : c ≤ 9223372036854775807 := by have := hR.cap; simp only [maxLen] at this; omega
  have HLt : Hid (cls.length = rs.length) := by show cls.length = _; rw [← hcl, List.length_map]
  have HRG : Hid (∀ V, w.heap.size ≤ V.heap.size → (∀ k, k < w.heap.size → V.heap[k]? = w.heap[k]?) → GC V ∧ RowsR V rs a c) := fun V h1 h2 => ⟨hG.same h1 h2, hR.same h1 h2⟩
  have HB1 : Hid (Below w.heap.size w (w.alloc (.cells #[.slice a rs.length c] 22))) := (Below.refl _ w).alloc (Nat.le_refl _) _
  have e1 : Hid ((w.alloc (.cells #[.slice a rs.length c] 22)).heap[w.heap.size]? = some (.cells #[.slice a rs.length c] 22 (0, 0))) := heap_alloc_new w _
  have HX := Lib.hid hx
  have HCl := Lib.hid hcl
  have HXl := Lib.hid hxl
  clear hG hR hA hx hcl hxl
  go_enter Tryd.func31, Tryd.ntmps31
  go_wp2_with fail
  with_reducible refine (HFo.out _ HB1.out).mono ?_
  rintro e w2 ⟨⟨q, rfl, hq⟩, HB2⟩
  have HQ := Lib.hid hq
  clear hq
  have HW2 : Hid (Below w.heap.size w w2) := ball HB1.out HB2.out
  have eN := (HB2.out.block _ (Array.getElem?_eq_some_iff.1 e1.out).1).trans e1.out
  have HN := Lib.hid eN
  have c0 : w2.cell? ⟨w.heap.size, 0, none⟩ = some (.slice a rs.length c) := (cell_of_row _ _ 0 _ _ _ eN).trans rfl
  have z0 : w.heap.size < w2.heap.size := (Array.getElem?_eq_some_iff.1 eN).1
  clear e1 HB1 HB2 eN
  cases q with
  | false =>
    clear HFo HNg HRG HLt
    go_wp2_with fail
    go_ret
    exact ⟨[], none, 0, rfl, ⟨.inl ⟨fun h => (by have := HQ.out.2 h; cases this), rfl⟩, ints_nil _, HW2.out⟩⟩
  | true =>
    have HF : Hid (Fol cls xs) := HQ.out.1 rfl
    have HW3 : Hid (Below w.heap.size w (w2.alloc (.cells #[.slice none 0 0] 22))) := HW2.out.alloc HW2.out.size _
    clear HFo HQ
    go_wp2_with fail
    with_reducible refine (HNg.out _ HW3.out).mono ?_
    rintro e w3 ⟨ga, gc, rfl, HX3⟩
    clear HNg
    obtain ⟨gs, hgs⟩ : ∃ gs, xs.map negM = gs := ⟨_, rfl⟩
    rw [hgs] at HX3
    have HGs := Lib.hid hgs
    have hgl : gs.length = xs.length := by rw [← hgs, List.length_map]
    have HGl := Lib.hid hgl
    have hn2 : (xs.map negM).length = xs.length := List.length_map _
    try rw [hn2]
    have hW2 := HW2.out
    have hb3 := HX3.out.2
    have hz3 : w2.heap.size + 1 ≤ w3.heap.size := by have := hb3.size; simpa using this
    have e6 : w3.heap[w2.heap.size]? = some (.cells #[.slice none 0 0] 22 (0, 0)) := (hb3.block _ (by simp)).trans (heap_alloc_new w2 _)
    have eN3 : w3.heap[w.heap.size]? = some (.cells #[.slice a rs.length c] 22 (0, 0)) := (hb3.block _ (by simp; omega)).trans (alloc_at HN.out)
    have H4 : Hid (Below w.heap.size w (w3.alloc (.cells #[.slice ga xs.length gc] 23)) ∧ IntsR (w3.alloc (.cells #[.slice ga xs.length gc] 23)) gs ga gc ∧ (w3.alloc (.cells #[.slice ga xs.length gc] 23)).heap[w.heap.size]? = some (.cells #[.slice a rs.length c] 22 (0, 0)) ∧ (w3.alloc (.cells #[.slice ga xs.length gc] 23)).heap[w2.heap.size]? = some (.cells #[.slice none 0 0] 22 (0, 0)) ∧ (w3.alloc (.cells #[.slice ga xs.length gc] 23)).heap[w3.heap.size]? = some (.cells #[.slice ga xs.length gc] 23 (0, 0))) := by
      have hb := ball HW3.out hb3
      exact ⟨hb.alloc hb.size _, HX3.out.1.below ((Below.refl _ w3).alloc (Nat.le_refl _) _), alloc_at eN3, alloc_at e6, heap_alloc_new w3 _⟩
    have c4 : (w3.alloc (.cells #[.slice ga xs.length gc] 23)).cell? ⟨w.heap.size, 0, none⟩ = some (.slice a rs.length c) := (cell_of_row _ _ 0 _ _ _ H4.out.2.2.1).trans rfl
    have z4 : w.heap.size < w3.heap.size + 1 := by omega
    have HLs : Hid (Calls Tryd.prog 55 #[.int .i64 rs.length, .func (.func 53) #[] #[.pointer (some ⟨w.heap.size, 0, none⟩), .pointer (some ⟨w2.heap.size, 0, none⟩), .pointer (some ⟨w3.heap.size, 0, none⟩)]] (w3.alloc (.cells #[.slice ga xs.length gc] 23)) fun e w' => ∃ m : Nat, e = .returned (.int .i64 m) ∧ Hid (m ≤ rs.length ∧ Fol (cls.take m ++ sel cls []) xs ∧ ∀ k, k < m → ¬ Fol (cls.take k ++ sel cls []) xs) ∧ Hid (Below (w3.alloc (.cells #[.slice ga xs.length gc] 23)).heap.size (w3.alloc (.cells #[.slice ga xs.length gc] 23)) w')) := by
      obtain ⟨h1, h2, h3, h4, h5⟩ := H4.out
      obtain ⟨g1, g2⟩ := HRG.out _ h1.size (fun k hk => h1.block k hk)
      exact core_least w.heap.size w2.heap.size w3.heap.size rs a c [] none 0 xs gs ga gc cls [] rs.length _ HCl.out rfl g1 g2 ⟨by simp, by simp [maxLen], fun h => absurd h (by simp), fun r hr => by cases hr⟩ h2 hgs c4 ((cell_of_row _ _ 0 _ _ _ h4).trans rfl) ((cell_of_row _ _ 0 _ _ _ h5).trans (by rw [hgl]; rfl)) (Nat.le_refl _) (by simp; omega) (fun y hy => HX.out y (by simpa using hy)) HXl.out (by
        rw [List.take_of_length_le (by have := HLt.out; omega)]
        exact HF.out.mono (fun d hd => List.mem_append_left _ hd))
    clear hgs c0 z0 hW2 hb3 e6 eN3 HW3
    go_wp2_with fail
    with_reducible refine HLs.out.mono ?_
    rintro e w5 ⟨n0, rfl, HM0, HB5⟩
    have H5 : Hid (Below w.heap.size w w5 ∧ IntsR w5 gs ga gc ∧ w5.heap[w.heap.size]? = some (.cells #[.slice a rs.length c] 22 (0, 0)) ∧ w5.heap[w2.heap.size]? = some (.cells #[.slice none 0 0] 22 (0, 0)) ∧ w5.heap[w3.heap.size]? = some (.cells #[.slice ga xs.length gc] 23 (0, 0))) := by
      obtain ⟨h1, h2, h3, h4, h5⟩ := H4.out
      have hb := HB5.out
      exact ⟨ball h1 hb, h2.below hb, (hb.block _ (Array.getElem?_eq_some_iff.1 h3).1).trans h3, (hb.block _ (Array.getElem?_eq_some_iff.1 h4).1).trans h4, (hb.block _ (Array.getElem?_eq_some_iff.1 h5).1).trans h5⟩
    have z6 : w2.heap.size < w5.heap.size := (Array.getElem?_eq_some_iff.1 H5.out.2.2.2.1).1
    have z7 : w3.heap.size < w5.heap.size := (Array.getElem?_eq_some_iff.1 H5.out.2.2.2.2).1
    have zN : w.heap.size < w2.heap.size := (Array.getElem?_eq_some_iff.1 HN.out).1
    have HD : Hid (∀ V Q ks ka kc pv, ks = Q.filterMap (fun i => rs[i]?) → CoS w5 w2.heap.size Q ks ka kc pv V → Below w.heap.size w V ∧ V.heap[w.heap.size]? = some (.cells #[.slice a rs.length c] 22 (0, 0)) ∧ V.heap[w3.heap.size]? = some (.cells #[.slice ga xs.length gc] 23 (0, 0)) ∧ GC V ∧ RowsR V rs a c ∧ RowsR V ks ka kc ∧ IntsR V gs ga gc) := fun V Q ks ka kc pv hks h => by
      obtain ⟨h1, h2, h3, h4, h5⟩ := H5.out
      have hb : ∀ k, k < w.heap.size → V.heap[k]? = w.heap[k]? := fun k hk => (h.block k (by omega) (by omega)).trans (h1.block k hk)
      obtain ⟨g1, g2⟩ := HRG.out V (Nat.le_trans h1.size h.size) hb
      refine ⟨⟨h.os.trans h1.os, h.tape.trans h1.tape, h.output.trans h1.output, Nat.le_trans h1.size h.size, hb⟩, (h.block _ (by omega) (by omega)).trans h3, (h.block _ (by omega) (by omega)).trans h5, g1, g2, RowsO.rows h.kept (fun y hy => g2.ok y (sel_sub y (hks ▸ hy))), h2.off h4 h.size h.block⟩
    have HLs : Hid (∀ V Q ks ka kc pv n, ks = Q.filterMap (fun i => rs[i]?) → CoS w5 w2.heap.size Q ks ka kc pv V → Q.length ≤ 400 → n ≤ rs.length → Fol (cls.take n ++ sel cls Q) xs → Calls Tryd.prog 55 #[.int .i64 (n : Int), .func (.func 53) #[] #[.pointer (some ⟨w.heap.size, 0, none⟩), .pointer (some ⟨w2.heap.size, 0, none⟩), .pointer (some ⟨w3.heap.size, 0, none⟩)]] V fun e w' => ∃ m : Nat, e = .returned (.int .i64 m) ∧ Hid (m ≤ n ∧ Fol (cls.take m ++ sel cls Q) xs ∧ ∀ k, k < m → ¬ Fol (cls.take k ++ sel cls Q) xs) ∧ Hid (Below V.heap.size V w')) := fun V Q ks ka kc pv n hks h hQ hn hF => by
      obtain ⟨h1, h2, h3, h4, h5, h6, h7⟩ := HD.out V Q ks ka kc pv hks h
      refine core_least w.heap.size w2.heap.size w3.heap.size rs a c ks ka kc xs gs ga gc cls Q n V HCl.out (by rw [hks]; exact sel_map HCl.out Q) h4 h5 h6 h7 HGs.out ((cell_of_row _ _ 0 _ _ _ h2).trans rfl) ((cell_of_row _ _ 0 _ _ _ h.b6).trans rfl) ((cell_of_row _ _ 0 _ _ _ h3).trans (by rw [hgl]; rfl)) hn ?_ ?_ HXl.out hF
      · have := List.length_filterMap_le (fun i => rs[i]?) Q
        rw [hks]
        omega
      · intro y hy
        rcases List.mem_append.1 hy with hy | hy
        · exact HX.out y hy
        · exact HX.out y (sel_sub y (hks ▸ hy))
    have HP0 : Hid (CoP cls xs n0 []) := CoP.start (by have := HLt.out; have := HM0.out.1; omega) HM0.out.2.1 HM0.out.2.2
    have HS0 : Hid (CoS w5 w2.heap.size [] [] none 0 (.slice none 0 0) w5) := ⟨rfl, rfl, rfl, Nat.le_refl _, fun _ _ _ => rfl, H5.out.2.2.2.1, ⟨rfl, .inl ⟨rfl, rfl⟩⟩, ⟨rfl, .inl ⟨rfl, rfl⟩⟩⟩
    clear HM0 HB5 H4 HX3
    go_wp2_with fail
    go_loopw [5, 9] (fun pv nv wr => ∃ (n : Nat) (Q : List Nat) (pa : Option Addr) (pc : Nat) (ka : Option Addr) (kc : Nat), pv = .slice pa Q.length pc ∧ nv = .int .i64 n ∧ Hid (CoP cls xs n Q) ∧ Hid (CoS w5 w2.heap.size Q (Q.filterMap (fun i => rs[i]?)) ka kc (.slice pa Q.length pc) wr)) (fun _ nv _ => (intOf nv).toNat)
    case atStart => exact ⟨n0, [], none, 0, none, 0, rfl, rfl, HP0, HS0⟩
    case round =>
      clear HP0 HS0
      obtain ⟨n, Q, pa, pc, ka, kc, rfl, rfl, HP, HS⟩ := hrel
      have hnQ : n + Q.length ≤ 400 := by have := HP.out.le; have := HLt.out; omega
      by_cases h0 : 0 < n
      · obtain ⟨n1, hn1⟩ : ∃ n1, n = n1 + 1 := ⟨n - 1, by omega⟩
        have d0 : (0 : Int) < (n : Int) := by omega
        have e1 : (n : Int) - 1 = (n1 : Int) := by omega
        have hw : IntKind.i64.wrap (n1 : Int) = (n1 : Int) := i64_keep (by omega) (by omega)
        have HP1 : Hid (CoP cls xs (n1 + 1) Q) := by have h := HP.out; rw [hn1] at h; exact h
        have hlt : n1 < rs.length := by have := HP.out.le; have := HLt.out; omega
        have hlt2 : (n1 : Int) < (rs.length : Int) := by omega
        have hn1' : n1 < n := by omega
        obtain ⟨y, hy⟩ : ∃ y, rs[n1]? = some y := ⟨_, List.getElem?_eq_getElem hlt⟩
        obtain ⟨g, o, ha, hg, q0⟩ := (HRG.out w (Nat.le_refl _) (fun _ _ => rfl)).2.cell hy
        have HQ0 := Lib.hid (And.intro hg q0)
        obtain ⟨Q', hQ'⟩ : ∃ Q', Q ++ [n1] = Q' := ⟨_, rfl⟩
        have HQl : Hid (Q'.length = Q.length + 1) := by show _ = _; rw [← hQ']; simp
        obtain ⟨ks, hks⟩ : ∃ ks, Q.filterMap (fun i => rs[i]?) = ks := ⟨_, rfl⟩
        have HKs : Hid (ks ++ [y] = Q'.filterMap (fun i => rs[i]?)) := by
          show _ = _
          rw [← hQ', List.filterMap_append, ← hks]
          simp [hy]
        rw [hks] at HS
        have hkl : ks.length ≤ 400 := by have := List.length_filterMap_le (fun i => rs[i]?) Q; rw [hks] at this; omega
        have HQe := Lib.hid hQ'
        have hown : wr.ownsRow w5.heap.size 3 1 (.slice pa Q.length pc) Q.length ((Q.map (fun i : Nat => (i : Int))).map (Value.int .i64)) := by
          have h := HS.out.pl
          unfold RowO at h
          rw [List.length_map] at h
          exact h
        have hzw : w5.heap.size ≤ wr.heap.size := HS.out.size
        clear hy hQ' hks hg q0 hn1 h0
        subst ha
        go_wp2_with (at_builtin; refine wpList_append_lies _ rfl _ _ 23 rfl w5.heap.size 3 i0 _ 1 8 Tryd.underlying23 hi0 hiz0 hiz1 hiz2 rfl (by decide) (Value.slice pa Q.length pc) Q.length ((Q.map (fun i : Nat => (i : Int))).map (Value.int .i64)) (by rfl) (World.ownsRow.alloc hown _) ⟨wr.heap.size, 0, none⟩ 1 1 [.int .i64 (n1 : Int)] (by rfl) rfl (World.news_of_block (B := wr.heap.size) (cs := #[.int .i64 (n1 : Int)]) (t := 3) (fr := (0, 0)) (heap_alloc_new wr _)) (by simp [Value.oneCell']) (by omega) (by simp only [maxLen]; omega) (by omega) (by simp; omega) _ rfl ?_; intro g9 c9 w9 hown9 hgrow9 hat9 hlt9; have HS9 : Hid (CoS w5 w2.heap.size Q' ks ka kc (.slice (some ⟨g9, 0, none⟩) (Q.length + 1) c9) w9) := HS.out.place z6 ((Below.refl _ wr).alloc (Nat.le_refl _) _) hgrow9 (by unfold RowO; rw [← HQe.out, List.length_map, List.length_append, List.map_append, List.map_append]; exact hown9); clear hown9 hgrow9 hat9 hlt9 hown hzw)
        have zs9 : w5.heap.size ≤ w9.heap.size := HS9.out.size
        have HSx : Hid (∀ W : World, w9.heap.size ≤ W.heap.size → (∀ k, k < w5.heap.size → k ≠ w2.heap.size → W.heap[k]? = w9.heap[k]?) → W.cell? ⟨w.heap.size, 0, none⟩ = some (.slice (some ⟨g, o, none⟩) rs.length c) ∧ W.cell? ⟨g, o + n1, none⟩ = some (.slice y.a y.xs.length y.c) ∧ w.heap.size < W.heap.size ∧ g < W.heap.size) := fun W h1 h2 => by
          have h5 := H5.out.1.size
          have k1 : W.heap[w.heap.size]? = some (.cells #[.slice (some ⟨g, o, none⟩) rs.length c] 22 (0, 0)) := (h2 _ (by omega) (by omega)).trans ((HS9.out.block _ (by omega) (by omega)).trans H5.out.2.2.1)
          have k2 : W.heap[g]? = w.heap[g]? := (h2 _ (by have := HQ0.out.1; omega) (by have := HQ0.out.1; omega)).trans ((HS9.out.block _ (by have := HQ0.out.1; omega) (by have := HQ0.out.1; omega)).trans (H5.out.1.block _ HQ0.out.1))
          exact ⟨(cell_of_row _ _ 0 _ _ _ k1).trans rfl, (World.cell?_of_block (a := ⟨g, o + n1, none⟩) k2).trans HQ0.out.2, by omega, by have := HQ0.out.1; omega⟩
        have HSb : Hid (∀ W : World, Below w5.heap.size w9 W → W.cell? ⟨w.heap.size, 0, none⟩ = some (.slice (some ⟨g, o, none⟩) rs.length c) ∧ W.cell? ⟨g, o + n1, none⟩ = some (.slice y.a y.xs.length y.c) ∧ w.heap.size < W.heap.size ∧ g < W.heap.size) := fun W hW => HSx.out W hW.size (fun k h1 _ => hW.block k h1)
        have HBd : Hid (Below w9.heap.size w9 w9.drew) := (Below.refl _ w9).drew
        have HBl : Hid (Below w9.heap.size w9 (w9.alloc (.cells #[.slice y.a y.xs.length y.c] 23)).drew) := ((Below.refl _ w9).drew).alloc (Nat.le_refl _) _
        have c6 : w9.cell? ⟨w2.heap.size, 0, none⟩ = some (.slice ka ks.length kc) := (cell_of_row _ _ 0 _ _ _ HS9.out.b6).trans rfl
        have z69 : w2.heap.size < w9.heap.size := by omega
        have c6l : (w9.alloc (.cells #[.slice y.a y.xs.length y.c] 23)).cell? ⟨w2.heap.size, 0, none⟩ = some (.slice ka ks.length kc) := (cell_of_row _ _ 0 _ _ _ (alloc_at HS9.out.b6)).trans rfl
        have z6l : w2.heap.size < w9.heap.size + 1 := by omega
        have HYr : Hid (RowsR (w9.alloc (.cells #[.slice y.a y.xs.length y.c] 23)).drew [y] (some ⟨w9.heap.size, 0, none⟩) 1) := by
          have h0 := (HRG.out w9 (Nat.le_trans H5.out.1.size zs9) (fun k hk => (HS9.out.block k (by have := H5.out.1.size; omega) (by omega)).trans (H5.out.1.block k hk))).2
          have h1 : y ∈ rs := by
            have hm : y ∈ Q'.filterMap (fun i => rs[i]?) := by rw [← HKs.out]; simp
            exact sel_sub y hm
          exact lits_row (w := w9.drew) y ((h0.ok y h1).below HBd.out)
        have HKd : Hid (RowsO (w9.alloc (.cells #[.slice y.a y.xs.length y.c] 23)).drew w5.heap.size ks (.slice ka ks.length kc)) := (HS9.out.below HBl.out).kept
        have HKl : Hid (∃ ml, (ks ++ [y]).length = ml) := ⟨_, rfl⟩
        refine wp_region_held_drew (S := fun (W : World) => W.cell? ⟨w.heap.size, 0, none⟩ = some (.slice (some ⟨g, o, none⟩) rs.length c) ∧ W.cell? ⟨g, o + n1, none⟩ = some (.slice y.a y.xs.length y.c) ∧ w.heap.size < W.heap.size ∧ g < W.heap.size) (by kernel_rfl) (HSb.out _ (HBd.out.mono zs9)) (fun hHeld => ?_)
        refine tkY 1 (.slice (some ⟨g, o, none⟩) rs.length c) ?_
        try simp only [kP, kA, kZ, kS]
        refine tkY 2 (.int .i64 (n : Int)) ?_
        try simp only [kP, kA, kZ, kS]
        refine tkY 3 (.int .i64 (n1 : Int)) ?_
        try simp only [kP, kA, kZ, kS]
        refine tkY 4 (.pointer (some ⟨g, o + n1, none⟩)) ?_
        try simp only [kP, kA, kZ, kS]
        refine tkY 5 (.slice y.a y.xs.length y.c) ?_
        try simp only [kP, kA, kZ, kS]
        refine wpAnyH_ready (rs := [0, 6]) (by kernel_rfl) (by simp) ?_
        refine AllReadyH.cons (o := { dst := some 32, op := Op.load 22 (Operand.tmp 6), type := 22, pos := "rup.go:89", after := #[], guard := none }) rfl (fun K hK => ?_) (AllReadyH.cons (o := { dst := some 38, op := Op.buildSlice 22 1 #[(0, Operand.tmp 37)], type := 22, pos := "rup.go:89", after := #[{ on := 5, ground := Ground.data }], guard := none }) rfl (fun K hK => ?_) AllReadyH.nil)
        · go_simp
          refine hK.out _ _ ?_ (fun hHeld => ?_)
          · exact HSb.out _ (HBd.out.mono zs9)
          clear hK K
          try simp only [kP, kA, kZ, kS]
          refine wpAnyH_ready (rs := [6]) (by kernel_rfl) (by simp) ?_
          refine AllReadyH.cons (o := { dst := some 38, op := Op.buildSlice 22 1 #[(0, Operand.tmp 37)], type := 22, pos := "rup.go:89", after := #[{ on := 5, ground := Ground.data }], guard := none }) rfl (fun K hK => ?_) AllReadyH.nil
          go_simp
          refine hK.out _ _ ?_ (fun hHeld => ?_)
          · exact HSb.out _ (HBl.out.mono zs9)
          clear hK K
          try simp only [kP, kA, kZ, kS]
          refine wpAnyH_ready (rs := [7]) (by kernel_rfl) (by simp) ?_
          refine AllReadyH.cons (o := { dst := some 39, op := Op.call { callee := Callee.builtin Builtin.append, args := #[Operand.tmp 32, Operand.tmp 38], argTypes := #[22, 22] }, type := 22, pos := "rup.go:89", after := #[{ on := 0, ground := Ground.data }, { on := 6, ground := Ground.data }], guard := none }) rfl (fun K hK => ?_) AllReadyH.nil
          refine step_appR rfl _ _ rfl rfl w5.heap.size _ ks [y] (some ⟨w9.heap.size, 0, none⟩) 1 (by rfl) (by rfl) HKd.out HYr.out (Nat.le_trans zs9 HBl.out.size) (by simp; omega) ?_
          intro v8 u8 hr8 hg8
          obtain ⟨ml, hml⟩ : ∃ ml, (ks ++ [y]).length = ml := ⟨_, rfl⟩
          obtain ⟨a8, c8, e8, _⟩ := own_at hr8
          rw [hml] at e8
          subst e8
          have HMl := Lib.hid hml
          have HU8 : Hid (Below w5.heap.size w9 u8) := (HBl.out.mono zs9).trans ((Below.refl _ _).grown hg8 (Nat.le_trans zs9 HBl.out.size) (fun k e => (own_lt HKd.out e).1))
          have HC8 : Hid (CoS w5 w2.heap.size Q' (ks ++ [y]) a8 c8 (.slice (some ⟨g9, 0, none⟩) (Q.length + 1) c9) (u8.setCell ⟨w2.heap.size, 0, none⟩ (.slice a8 ml c8))) := HS9.out.keep z6 HBl.out hg8 hr8 hml
          have hb6 := (HU8.out.block _ z6).trans HS9.out.b6
          have c6u : u8.cell? ⟨w2.heap.size, 0, none⟩ = some (.slice ka ks.length kc) := (cell_of_row _ _ 0 _ _ _ hb6).trans rfl
          have f6u : u8.frozen? ⟨w2.heap.size, 0, none⟩ = false := by simp [World.frozen?, hb6]
          have z6u : w2.heap.size < u8.heap.size := (Array.getElem?_eq_some_iff.1 hb6).1
          clear hr8 hg8 hml hb6
          refine hK.out _ _ ?_ (fun hHeld => ?_)
          · exact HSb.out _ HU8.out
          clear hK K
          try simp only [kP, kA, kZ, kS]
          refine wpAnyH_ready (rs := [8]) (by kernel_rfl) (by simp) ?_
          refine AllReadyH.cons (o := { dst := none, op := Op.store 22 (Operand.tmp 6) (Operand.tmp 39), type := 0, pos := "rup.go:89", after := #[{ on := 7, ground := Ground.data }, { on := 7, ground := Ground.chain }, { on := 0, ground := Ground.phase }, { on := 1, ground := Ground.phase }, { on := 2, ground := Ground.phase }, { on := 3, ground := Ground.phase }, { on := 4, ground := Ground.phase }, { on := 5, ground := Ground.phase }, { on := 6, ground := Ground.phase }, { on := 7, ground := Ground.phase }], guard := none }) rfl (fun K hK => ?_) AllReadyH.nil
          go_simp
          refine hK.out _ _ ?_ (fun hHeld => ?_)
          · exact HSx.out _ (by have := HU8.out.size; simpa [World.setCell] using this) (fun k h1 h2 => (Below.heap_setCell _ _ _ _ h2).trans (HU8.out.block k h1))
          clear hK K
          try simp only [kP, kA, kZ, kS]
          refine wpAnyH_done (by kernel_rfl) ?_ _
          clear hHeld
          have HLr := Lib.hid (HLs.out _ Q' (ks ++ [y]) a8 c8 _ n1 HKs.out HC8.out (by have := HQl.out; omega) (by omega) (by have h := HP1.out.turn; rw [HQe.out] at h; exact h))
          go_wp2_with fail
          with_reducible refine HLr.out.mono ?_
          rintro e w10 ⟨m, rfl, HM, HB10⟩
          have hmn : m < n := by have := HM.out.1; omega
          have HPn : Hid (CoP cls xs m Q') := by have h := HM.out; rw [← HQe.out] at h ⊢; exact HP1.out.next h.1 h.2.1 h.2.2
          have HSn : Hid (CoS w5 w2.heap.size Q' (Q'.filterMap (fun i => rs[i]?)) a8 c8 (.slice (some ⟨g9, 0, none⟩) Q'.length c9) w10) := by rw [← HKs.out, HQl.out]; exact HC8.out.below HB10.out
          clear HM HLr HC8 HU8 c6u f6u z6u
          go_wp2_with fail
          go_roundw
          case rel => exact ⟨m, Q', some ⟨g9, 0, none⟩, c9, a8, c8, by rw [HQl.out], rfl, HPn, HSn⟩
          case measure => simp [intOf]; omega
        · go_simp
          refine hK.out _ _ ?_ (fun hHeld => ?_)
          · exact HSb.out _ (HBl.out.mono zs9)
          clear hK K
          try simp only [kP, kA, kZ, kS]
          refine wpAnyH_ready (rs := [0]) (by kernel_rfl) (by simp) ?_
          refine AllReadyH.cons (o := { dst := some 32, op := Op.load 22 (Operand.tmp 6), type := 22, pos := "rup.go:89", after := #[], guard := none }) rfl (fun K hK => ?_) AllReadyH.nil
          go_simp
          refine hK.out _ _ ?_ (fun hHeld => ?_)
          · exact HSb.out _ (HBl.out.mono zs9)
          clear hK K
          try simp only [kP, kA, kZ, kS]
          refine wpAnyH_ready (rs := [7]) (by kernel_rfl) (by simp) ?_
          refine AllReadyH.cons (o := { dst := some 39, op := Op.call { callee := Callee.builtin Builtin.append, args := #[Operand.tmp 32, Operand.tmp 38], argTypes := #[22, 22] }, type := 22, pos := "rup.go:89", after := #[{ on := 0, ground := Ground.data }, { on := 6, ground := Ground.data }], guard := none }) rfl (fun K hK => ?_) AllReadyH.nil
          refine step_appR rfl _ _ rfl rfl w5.heap.size _ ks [y] (some ⟨w9.heap.size, 0, none⟩) 1 (by rfl) (by rfl) HKd.out HYr.out (Nat.le_trans zs9 HBl.out.size) (by simp; omega) ?_
          intro v8 u8 hr8 hg8
          obtain ⟨ml, hml⟩ : ∃ ml, (ks ++ [y]).length = ml := ⟨_, rfl⟩
          obtain ⟨a8, c8, e8, _⟩ := own_at hr8
          rw [hml] at e8
          subst e8
          have HMl := Lib.hid hml
          have HU8 : Hid (Below w5.heap.size w9 u8) := (HBl.out.mono zs9).trans ((Below.refl _ _).grown hg8 (Nat.le_trans zs9 HBl.out.size) (fun k e => (own_lt HKd.out e).1))
          have HC8 : Hid (CoS w5 w2.heap.size Q' (ks ++ [y]) a8 c8 (.slice (some ⟨g9, 0, none⟩) (Q.length + 1) c9) (u8.setCell ⟨w2.heap.size, 0, none⟩ (.slice a8 ml c8))) := HS9.out.keep z6 HBl.out hg8 hr8 hml
          have hb6 := (HU8.out.block _ z6).trans HS9.out.b6
          have c6u : u8.cell? ⟨w2.heap.size, 0, none⟩ = some (.slice ka ks.length kc) := (cell_of_row _ _ 0 _ _ _ hb6).trans rfl
          have f6u : u8.frozen? ⟨w2.heap.size, 0, none⟩ = false := by simp [World.frozen?, hb6]
          have z6u : w2.heap.size < u8.heap.size := (Array.getElem?_eq_some_iff.1 hb6).1
          clear hr8 hg8 hml hb6
          refine hK.out _ _ ?_ (fun hHeld => ?_)
          · exact HSb.out _ HU8.out
          clear hK K
          try simp only [kP, kA, kZ, kS]
          refine wpAnyH_ready (rs := [8]) (by kernel_rfl) (by simp) ?_
          refine AllReadyH.cons (o := { dst := none, op := Op.store 22 (Operand.tmp 6) (Operand.tmp 39), type := 0, pos := "rup.go:89", after := #[{ on := 7, ground := Ground.data }, { on := 7, ground := Ground.chain }, { on := 0, ground := Ground.phase }, { on := 1, ground := Ground.phase }, { on := 2, ground := Ground.phase }, { on := 3, ground := Ground.phase }, { on := 4, ground := Ground.phase }, { on := 5, ground := Ground.phase }, { on := 6, ground := Ground.phase }, { on := 7, ground := Ground.phase }], guard := none }) rfl (fun K hK => ?_) AllReadyH.nil
          go_simp
          refine hK.out _ _ ?_ (fun hHeld => ?_)
          · exact HSx.out _ (by have := HU8.out.size; simpa [World.setCell] using this) (fun k h1 h2 => (Below.heap_setCell _ _ _ _ h2).trans (HU8.out.block k h1))
          clear hK K
          try simp only [kP, kA, kZ, kS]
          refine wpAnyH_done (by kernel_rfl) ?_ _
          clear hHeld
          have HLr := Lib.hid (HLs.out _ Q' (ks ++ [y]) a8 c8 _ n1 HKs.out HC8.out (by have := HQl.out; omega) (by omega) (by have h := HP1.out.turn; rw [HQe.out] at h; exact h))
          go_wp2_with fail
          with_reducible refine HLr.out.mono ?_
          rintro e w10 ⟨m, rfl, HM, HB10⟩
          have hmn : m < n := by have := HM.out.1; omega
          have HPn : Hid (CoP cls xs m Q') := by have h := HM.out; rw [← HQe.out] at h ⊢; exact HP1.out.next h.1 h.2.1 h.2.2
          have HSn : Hid (CoS w5 w2.heap.size Q' (Q'.filterMap (fun i => rs[i]?)) a8 c8 (.slice (some ⟨g9, 0, none⟩) Q'.length c9) w10) := by rw [← HKs.out, HQl.out]; exact HC8.out.below HB10.out
          clear HM HLr HC8 HU8 c6u f6u z6u
          go_wp2_with fail
          go_roundw
          case rel => exact ⟨m, Q', some ⟨g9, 0, none⟩, c9, a8, c8, by rw [HQl.out], rfl, HPn, HSn⟩
          case measure => simp [intOf]; omega
      · obtain rfl : n = 0 := by omega
        have HRv := Lib.hid (reverse_any (Q.map (fun i : Nat => (i : Int))) (.slice pa Q.length pc) w5.heap.size wr HS.out.pl HS.out.size)
        have HDd := Lib.hid (HD.out _ _ _ _ _ _ rfl HS.out)
        go_wp2_with fail
        with_reducible refine HRv.out.mono ?_
        rintro e w9 ⟨rfl, hr9, hb9⟩
        have HR9 : Hid (CoreP cls xs Q.reverse ∧ IntsR w9 (Q.reverse.map (fun i : Nat => (i : Int))) pa pc ∧ Below w.heap.size w w9) := by
          refine ⟨.inr ⟨HF.out, HP.out.done.symm⟩, ?_, HDd.out.1.trans (hb9.mono H5.out.1.size)⟩
          rw [List.map_reverse]
          refine RowO.at hr9 (by simp) (fun x hx => ?_)
          rw [List.mem_reverse] at hx
          obtain ⟨i, hi, rfl⟩ := List.mem_map.1 hx
          have := HP.out.mem i hi
          have := HLt.out
          exact ⟨by omega, by omega⟩
        clear hr9 hb9 HRv HDd
        go_wp2_with fail
        go_ret
        exact ⟨Q.reverse, pa, pc, by rw [List.length_reverse]; rfl, HR9⟩
end Go.Proofs.YtggighikemhnfaaDoor.Tm
