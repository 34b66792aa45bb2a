/- What an expression is written as, where its rows may lie in marked blocks. -/
import Derived.Test.YtbddghcdibdloaaGreatDoorSexWith
import Derived.BigRegion
import Derived.Test.YtbddghcdibdloaaGreatDoorSexMay
namespace Go.Proofs.YtbddghcdibdloaaGreatDoor
open Go.RowKit
section
variable {P : Program} (w : World)
theorem run_stringish {a : Addr} {ca : Array Value} {ta : TypeId} {fa : Nat × Nat} (ha : w.heap[a.block]? = some (.cells ca ta fa)) : ∃ m, (stringish a).run P w = .ok m w := by
  by_cases hf : w.frozen? a = true
  · exact ⟨true, by simp [stringish, hf]⟩
  · have hf' : w.frozen? a = false := by simpa using hf
    exact ⟨_, by simp [stringish, hf', World.shape?, ha]; rfl⟩
theorem run_mayBeOne {a b : Addr} {ca cb : Array Value} {ta tb : TypeId} {fa fb : Nat × Nat} (ha : w.heap[a.block]? = some (.cells ca ta fa)) (hb : w.heap[b.block]? = some (.cells cb tb fb)) : ∃ m, (mayBeOne a b).run P w = .ok m w := by
  obtain ⟨m1, h1⟩ := run_stringish (P := P) w ha
  obtain ⟨m2, h2⟩ := run_stringish (P := P) w hb
  unfold mayBeOne
  cases m1 <;> cases m2 <;> simp [h1, h2, World.shape?, ha, hb]
theorem run_sameAddr_marked {a b : Addr} {ca cb : Array Value} {ta tb : TypeId} {fa fb : Nat × Nat} (hne : a ≠ b) (ha : w.heap[a.block]? = some (.cells ca ta fa)) (hb : w.heap[b.block]? = some (.cells cb tb fb)) (hf : w.frozen? a = false) :
    ∃ r W', (sameAddr a b).run P w = .ok r W' ∧ (W' = w ∨ W' = w.drew) := by
  by_cases hbl : a.block = b.block
  · exact ⟨false, w, by simp [sameAddr, hbl, hne], .inl rfl⟩
  · obtain ⟨m, hm⟩ := run_mayBeOne (P := P) w ha hb
    cases m with
    | false => exact ⟨false, w, by simp [sameAddr, hbl, hf, ha, hb, noView, viewAt, World.shape?, hm], .inl rfl⟩
    | true =>
      have : ∃ r, (sameAddr a b).run P w = .ok r w.drew := ⟨_, by simp [sameAddr, hbl, hf, ha, hb, noView, viewAt, World.shape?, hm, Question.forced]; rfl⟩
      obtain ⟨r, hr⟩ := this
      exact ⟨r, _, hr, .inr rfl⟩
theorem run_eql_marked {tp te : TypeId} {j : TypeInfo} {a b : Addr} {ca cb : Array Value} {ta tb : TypeId} {fa fb : Nat × Nat} (hp : P.underlying tp = some (.pointer te)) (hte : P.info? te = some j) (hsz : j.size ≠ 0)
    (hne : a ≠ b) (ha : w.heap[a.block]? = some (.cells ca ta fa)) (hb : w.heap[b.block]? = some (.cells cb tb fb)) (hf : w.frozen? a = false) :
    ∃ r W', (Go.binOp .eql tp (.pointer (some a)) (.pointer (some b))).run P w = .ok (.bool r) W' ∧ (W' = w ∨ W' = w.drew) := by
  obtain ⟨r, W', h1, h2⟩ := run_sameAddr_marked (P := P) w hne ha hb hf
  have h : ∀ d : Nat, (Op.equalIn (d + 1) tp (.pointer (some a)) (.pointer (some b))).run P w = .ok r W' := fun d => by
    simp [Op.equalIn, run_underlying hp, sizeOf, typeInfo, hte, hsz, h1]
  refine ⟨r, W', ?_, h2⟩
  simp only [Go.binOp]
  simp [Op.equal, Op.maxDepth, h 9999]
end
theorem holds_mark (g m cap : Nat) (a : Option Addr) (n c : Nat) (w : World) (h1 : 1 ≤ m) (h2 : m < 256)
    (hc : ∀ k, k < m → ∃ qa qn qc, w.cell? ⟨g, k * 2, none⟩ = some (.slice qa qn qc) ∧ NotRow a n qa qn ∧ ∀ b o, qa = some ⟨b, o, none⟩ → (∃ cs ty fr, w.heap[b]? = some (.cells cs ty fr)) ∧ w.frozen? ⟨b, o, none⟩ = false)
    (hf : 0 < n → ∀ b o, a = some ⟨b, o, none⟩ → ∃ cs ty fr, w.heap[b]? = some (.cells cs ty fr)) :
    Calls Tryz.prog 91 #[.slice (some ⟨g, 0, none⟩) m cap, .slice a n c] w fun e w' => (∃ r, e = .returned (.bool r) ∧ (r = true → 0 < n)) ∧ Below w.heap.size w w' := by
  have HC := Lib.hid hc
  have HF2 := Lib.hid hf
  clear hc hf
  go_enter Tryz.func91, Tryz.ntmps91
  go_wp2_with fail
  refine (Len_any m h1 h2 _).mono ?_
  rintro e w1 ⟨⟨L, rfl, h3, h4, h5⟩, rfl⟩
  have hp : 0 < 2 ^ (L - 1) := Nat.pow_pos (by omega)
  obtain ⟨k, hk⟩ : ∃ k : Nat, k = 2 ^ (L - 1) - 1 := ⟨_, rfl⟩
  have hkm : k < m := by omega
  have hw : wrap64 (wrap64 (2 ^ (L - 1)) - 1) = (k : Int) := by
    have e1 : (2 : Int) ^ (L - 1) = ((2 ^ (L - 1) : Nat) : Int) := by norm_cast
    rw [e1]
    unfold wrap64
    omega
  obtain ⟨qa, qn, qc, hcell, hnot, hfq⟩ := HC.out _ hkm
  have HF := Lib.hid hfq
  clear hfq
  clear hk hp h5
  rcases hnot with hne | ⟨b, o, b', o', rfl, rfl, hne, hpos⟩
  · have e2 := eq_false (x := (qn : Int)) (y := (n : Int)) (by omega)
    clear hne
    go_wp2
    go_quiet (fail)
    go_wp2
    go_ret
    exact ⟨⟨false, rfl, fun h => by cases h⟩, below_drewN (Below.refl _ _) _⟩
  · by_cases hqn : qn = n
    · have e2 := eq_true_ (x := (qn : Int)) (y := (n : Int)) (by omega)
      subst hqn
      obtain ⟨j, hj, hjs⟩ := Option.map_eq_some_iff.1 sexSize
      have hn : (⟨b, o, none⟩ : Addr) ≠ ⟨b', o', none⟩ := fun e => hne (by cases e; exact ⟨rfl, rfl⟩)
      obtain ⟨r, W', hq, hW'⟩ : ∃ r W', (Go.binOp .eql 166 (.pointer (some ⟨b, o, none⟩)) (.pointer (some ⟨b', o', none⟩))).run Tryz.prog w.drew = .ok (.bool r) W' ∧ (W' = w.drew ∨ W' = w.drew.drew) := by
        obtain ⟨⟨ca, ta, fa, ha⟩, hfz⟩ := HF.out b o rfl
        obtain ⟨cb, tb, fb, hb⟩ := HF2.out hpos b' o' rfl
        exact run_eql_marked w.drew Tryz.underlying166 hj (by rw [hjs]; decide) hn (fa := fa) (fb := fb) ha hb hfz
      have HB : Hid (Below w.heap.size w W') := by
        show Below _ _ _
        rcases hW' with rfl | rfl
        · exact (Below.refl _ _).drew
        · exact (Below.refl _ _).drew.drew
      have HP := Lib.hid hpos
      clear hW' hj hjs hn hne
      go_wp2
      go_region
      all_goals go_wp2
      all_goals go_ret
      all_goals exact ⟨⟨r, rfl, fun _ => HP.out⟩, HB.out⟩
    · have e2 := eq_false (x := (qn : Int)) (y := (n : Int)) (by omega)
      clear hqn
      go_wp2
      go_quiet (fail)
      go_wp2
      go_ret
      exact ⟨⟨false, rfl, fun h => by cases h⟩, below_drewN (Below.refl _ _) _⟩
end Go.Proofs.YtbddghcdibdloaaGreatDoor
namespace Go.Proofs.YtbddghcdibdloaaGreatDoor
open Go.RowKit Go.Shelf
attribute [local go_sem] Oper.semAt_some
def endN : Nat := 9223372036854775806
def SpM (own : Int → Bool) (t0 : Tree) (ys : List Itm) : Prop := SpY own t0 ys ∨ ∃ pre y v, ys = pre ++ [(endN, y, v)] ∧ SpY own t0 pre ∧ ownL own y ≠ [] ∧ VF y v
theorem cells_of {w : World} {b o : Nat} {u : Value} (h : w.cell? ⟨b, o, none⟩ = some u) : ∃ cs ty fr, w.heap[b]? = some (.cells cs ty fr) := by
  unfold World.cell? at h
  split at h
  · rename_i c ty fr hc
    exact ⟨c, ty, fr, hc⟩
  · cases h
set_option maxRecDepth 100000 in
set_option maxHeartbeats 4000000 in
theorem within1_mk (own : Int → Bool) (fo : FuncId) (hent : ∀ args w, (callFunc fo args).run Tryz.prog w = .ok (.enter fo args) w) (hown : ∀ k s a n c W, Calls Tryz.prog fo #[.agg #[.int .i8 k, .string s, .slice a n c]] W fun e w' => e = .returned (if own k = true then .slice a n c else .slice none 0 0) ∧ Below W.heap.size W w')
    (n : Nat) (hn : 1 ≤ n) (Bx Bo : Nat) (k0 : Int) (s0 : List UInt8) (l0 : List Tree) (a0 : Option Addr) (c0 : Nat) (bad : Nat → Prop) (go : Itm → Prop) (W : World)
    (hcap : l0.length ≤ c0 ∧ c0 ≤ maxLen ∧ s0.length ≤ maxLen)
    (hx : W.heap[Bx]? = some (.cells #[.int .i8 k0, .string (bytesL s0), .slice a0 l0.length c0] 125 (0, 0))) (ho : W.heap[Bo]? = some (.cells #[.func (.func fo) #[] #[]] 151 (0, 0)))
    (hr : RdL W bad l0 a0) (hbad : ∀ b, ¬ bad b → b < W.heap.size)
    (hgo : ∀ x : Itm, dt x ∈ preT own 0 (.node k0 s0 l0) → go x → ownL own x.2.1 ≠ [] → x.1 < 239) (hgo2 : ∀ (y : Tree) (v : Value), ownL own y ≠ [] → go (endN, y, v) → False) :
    SeqR Fence.wide n Tryz.prog 90 #[.pointer (some ⟨Bx, 0, none⟩), .pointer (some ⟨Bo, 0, none⟩)] encY (SY own (.node k0 s0 l0)) (SpM own (.node k0 s0 l0)) (fun b => ¬ bad b ∨ b = Bx ∨ b = Bo) go W := fun l J Jx hJ hJx hY h0 => by
  have cx0 := cell_of_row _ _ 0 _ _ _ hx
  have cx1 := cell_of_row _ _ 1 _ _ _ hx
  have cx2 := cell_of_row _ _ 2 _ _ _ hx
  have co := cell_of_row _ _ 0 _ _ _ ho
  simp only [List.getElem?_toArray, List.getElem?_cons_zero, List.getElem?_cons_succ] at cx0 cx1 cx2 co
  have HX := Lib.hid hx
  have HO := Lib.hid ho
  have HJ := Lib.hid hJ
  have HJx := Lib.hid hJx
  have HY := Lib.hid hY
  have H0 := Lib.hid h0
  have HR := Lib.hid hr
  have HB := Lib.hid hbad
  have HGo2 := Lib.hid hgo2
  have HGo := Lib.hid hgo
  have HW := Lib.hid hown
  clear hx ho hJ hJx hY h0 hr hbad hgo hgo2 hown
  refine callsIn_of_wp Tryz.func90 rfl trivial ?_ rfl
  simp only [Tryz.ntmps90, List.size_toArray, List.length_cons, List.length_nil, Nat.reduceAdd, Nat.reduceSub, Array.replicate_succ, Array.replicate_zero, List.push_toArray, List.append_toArray, List.nil_append, List.cons_append]
  gi_wp2
  gi_loopw [4] (fun u wr => ∃ N, WInv own W (fun b => bad b ∧ b ≠ W.heap.size) (fun b => ¬ bad b ∨ b = Bx ∨ b = Bo) (.node k0 s0 l0) J N u wr) (fun u wr => leastOf (fun N => WInv own W (fun b => bad b ∧ b ≠ W.heap.size) (fun b => ¬ bad b ∨ b = Bx ∨ b = Bo) (.node k0 s0 l0) J N u wr))
  case atStart =>
    have hb : Below W.heap.size W ((W.alloc (.cells #[.int .i8 k0, .string (bytesL s0), .slice a0 l0.length c0] 125)).alloc (.cells #[.slice (some ⟨W.heap.size, 0, none⟩) 1 1, .int .i64 0] 159)) :=
      ((Below.refl _ _).alloc (Nat.le_refl _) _).alloc (by simp) _
    have hB0 : ((W.alloc (.cells #[.int .i8 k0, .string (bytesL s0), .slice a0 l0.length c0] 125)).alloc (.cells #[.slice (some ⟨W.heap.size, 0, none⟩) 1 1, .int .i64 0] 159)).heap[W.heap.size]? = some (.cells #[.int .i8 k0, .string (bytesL s0), .slice a0 l0.length c0] 125 (0, 0)) :=
      (Below.heap_alloc _ _ _ (by simp)).trans (World.alloc_heap_new W _)
    have hown1 := World.ownsRow_lit (base := W.heap.size) (e := 159) (size := 2) (W.alloc (.cells #[.int .i8 k0, .string (bytesL s0), .slice a0 l0.length c0] 125)) #[.slice (some ⟨W.heap.size, 0, none⟩) 1 1, .int .i64 0] 1 (by simp) (by simp [maxLen]) rfl
    rw [World.size_alloc] at hown1
    obtain ⟨w1, hw1⟩ : ∃ w1, w1 = ((W.alloc (.cells #[.int .i8 k0, .string (bytesL s0), .slice a0 l0.length c0] 125)).alloc (.cells #[.slice (some ⟨W.heap.size, 0, none⟩) 1 1, .int .i64 0] 159)) := ⟨_, rfl⟩
    have hs1 : w1.heap.size = W.heap.size + 1 + 1 := by rw [hw1]; simp
    rw [← hw1] at hb hB0 hown1 ⊢
    have g0 := cell_of_row _ _ 0 _ _ _ hB0
    have g1 := cell_of_row _ _ 1 _ _ _ hB0
    have g2 := cell_of_row _ _ 2 _ _ _ hB0
    simp only [List.getElem?_toArray, List.getElem?_cons_zero, List.getElem?_cons_succ] at g0 g1 g2
    have hlow : ∀ b, ¬ (bad b ∧ b ≠ W.heap.size) → b < W.heap.size ∨ b = W.heap.size := fun b hb => by
      by_cases hbb : bad b
      · exact .inr (Classical.byContradiction fun hn => hb ⟨hbb, hn⟩)
      · exact .inl (HB.out b hbb)
    have hrow : RowOk w1 (fun b => bad b ∧ b ≠ W.heap.size) ⟨[.node k0 s0 l0], 0, some ⟨W.heap.size, 0, none⟩, 1⟩ := by
      refine ⟨by simp, by simp, by simp [maxLen], ?_⟩
      refine ⟨W.heap.size, 0, _, _, _, rfl, fun h => h.2 rfl, frozen_of_row _ _ 0 _ _ hB0, g0, g1, g2, ⟨a0, c0, rfl, hcap.1, hcap.2.1, hcap.2.2, ?_⟩, trivial⟩
      exact RdL.mono (fun b _ h => h.1) _ _ (RdL.keep (fun b hn hlt => hb.block b hlt) _ _ HR.out)
    refine ⟨2 * (remR own 0 [⟨[.node k0 s0 l0], 0, some ⟨W.heap.size, 0, none⟩, 1⟩]).length + 1, [], [⟨[.node k0 s0 l0], 0, some ⟨W.heap.size, 0, none⟩, 1⟩], W.heap.size + 1, 1, fun b => W.heap.size ≤ b ∧ b < w1.heap.size, rfl, ?_, ?_, ?_, by simp [remR, preL], by simp, rfl⟩
    · refine ⟨fun b hb => hb, ⟨Nat.le_refl _, by omega⟩, ⟨by omega, by omega⟩, by omega, hlow, ⟨_, _, hB0⟩, hown1, fun r hr => ?_, by simp, by simp, fun _ _ _ _ => by simp⟩
      simp at hr
      subst hr
      exact hrow
    · exact HJ.out _ _ [] W w1 (fun _ h => h.elim) H0.out ⟨hb.os, hb.tape, hb.output, hb.size, fun b hlt _ => hb.block b hlt, fun _ h => h.elim, fun b h => .inr h⟩
    · intro b hb'
      refine hb.block b ?_
      rcases hb' with h | rfl | rfl
      · exact HB.out b h
      · exact (Array.getElem?_eq_some_iff.1 HX.out).1
      · exact (Array.getElem?_eq_some_iff.1 HO.out).1
  case round =>
    have hl := (leastOf_spec hrel).1
    obtain ⟨N, hN⟩ : ∃ N, N = leastOf (fun N => WInv own W (fun b => bad b ∧ b ≠ W.heap.size) (fun b => ¬ bad b ∨ b = Bx ∨ b = Bo) (.node k0 s0 l0) J N u4 wr) := ⟨_, rfl⟩
    rw [← hN] at hl
    obtain ⟨ys, rows, g, cap, R, hu, hst, hJr, hkp, hrem, hvf, hNN⟩ := hl
    subst hu
    have HN := Lib.hid hN
    have HNN := Lib.hid hNN
    have HS := Lib.hid hst
    have HJr := Lib.hid hJr
    have HK := Lib.hid hkp
    have HRem := Lib.hid hrem
    have HV := Lib.hid hvf
    clear hrel hN hNN hst hJr hkp hrem hvf
    rcases List.eq_nil_or_concat rows with hnil | ⟨rs, r, hcat⟩
    · subst hnil
      gi_wp2
      go_end0
      have hrem := HRem.out
      simp only [remR, List.append_nil] at hrem
      exact ⟨⟨_, rfl⟩, R, fun b hb => (HS.out.R0 b hb).1, .inl ⟨ys, ⟨hrem.symm, HV.out⟩, HJr.out⟩⟩
    · rw [List.concat_eq_append] at hcat
      subst hcat
      have hlen : (rs ++ [r]).length = rs.length + 1 := by simp
      have hrow := HS.out.row
      rw [hlen] at hrow ⊢
      have hc0 := hrow.cellAt (rs.length * 2) (by omega)
      have hc1 := hrow.cellAt (rs.length * 2 + 1) (by omega)
      rw [(rowsC_top rs r).1] at hc0
      rw [(rowsC_top rs r).2] at hc1
      have hf0 := hrow.frozenAt (rs.length * 2)
      have hf1 := hrow.frozenAt (rs.length * 2 + 1)
      have hok := HS.out.ok r (by simp)
      have hcp := (own_take hrow).2
      have HRow := Lib.hid hrow
      have hfew := HS.out.few
      rw [hlen] at hfew
      obtain ⟨k, hk⟩ : ∃ k, k = rs.length := ⟨_, rfl⟩
      rw [← hk] at hc0 hc1 hf0 hf1 hcp hfew ⊢
      have Hk := Lib.hid hk
      clear hrow hk hlen
      by_cases hfull : r.pos = r.full.length
      · have he := eq_true_ (x := (r.pos : Int)) (y := (r.full.length : Int)) (by omega)
        gi_wp2
        gi_quiet (fail)
        gi_wp2
        have hpop := remR_pop (own := own) (rs := rs) (r := r) (by omega)
        have hst := HS.out.pop.keep (w' := wr.drewN nq) (Nat.le_refl _) (fun _ _ => rfl)
        have hJn := HJ.out _ _ _ _ (wr.drewN nq) HS.out.R0 HJr.out ⟨rfl, rfl, rfl, Nat.le_refl _, fun _ _ _ => rfl, fun _ h => h, fun _ h => .inl h⟩
        have hinv : WInv own W (fun b => bad b ∧ b ≠ W.heap.size) (fun b => ¬ bad b ∨ b = Bx ∨ b = Bo) (.node k0 s0 l0) J (2 * (remR own 0 rs).length + k) (.slice (some ⟨g, 0, none⟩) k cap) (wr.drewN nq) :=
          ⟨_, _, g, cap, _, by rw [Hk.out], hst, hJn, HK.out, by rw [HRem.out, hpop], HV.out, by rw [Hk.out]⟩
        refine ⟨⟨_, hinv⟩, Nat.lt_of_le_of_lt (leastOf_le hinv) ?_⟩
        have hlen1 : (rs ++ [r]).length = k + 1 := by rw [Hk.out]; simp
        have hN := HN.out
        have hNN := HNN.out
        rw [hlen1] at hN hNN
        rw [← hN, hNN, hpop]
        omega
      · have he := eq_false (x := (r.pos : Int)) (y := (r.full.length : Int)) (by omega)
        have hpos : r.pos < r.full.length := by have := hok.pos; omega
        obtain ⟨y, hy⟩ : ∃ y, r.full[r.pos]? = some y := ⟨_, List.getElem?_eq_getElem hpos⟩
        obtain ⟨gr, or, hra, hbr, hgr, _⟩ := hok.rd.addr (by omega)
        have hrd := hok.rd
        rw [hra] at hrd
        obtain ⟨_, v0, v1, v2, hy0, hy1, hy2, hyr⟩ := RdL.get _ _ _ r.pos y hrd hy
        obtain ⟨ya, yc, hv, hyl, hyc, hyt, hyk⟩ := hyr.parts
        simp only [Value.agg.injEq, Array.mk.injEq, List.cons.injEq, and_true] at hv
        obtain ⟨rfl, rfl, rfl⟩ := hv
        have Hy := Lib.hid hy
        have Hyr := Lib.hid hyr
        have Hyk := Lib.hid hyk
        have Hpos := Lib.hid hpos
        have hgw : g < wr.heap.size := (HS.out.R0 g HS.out.Rg).2
        have n0 : ∀ m, ((wr.drewN m).alloc (.cells #[.int .i8 0, .string ⟨#[]⟩, .slice none 0 0] 125)).cell? ⟨wr.heap.size, 0, none⟩ = _ := fun m => cell_of_row _ _ 0 _ _ _ (World.alloc_heap_new (wr.drewN m) _)
        have n1 : ∀ m, ((wr.drewN m).alloc (.cells #[.int .i8 0, .string ⟨#[]⟩, .slice none 0 0] 125)).cell? ⟨wr.heap.size, 1, none⟩ = _ := fun m => cell_of_row _ _ 1 _ _ _ (World.alloc_heap_new (wr.drewN m) _)
        have n2 : ∀ m, ((wr.drewN m).alloc (.cells #[.int .i8 0, .string ⟨#[]⟩, .slice none 0 0] 125)).cell? ⟨wr.heap.size, 2, none⟩ = _ := fun m => cell_of_row _ _ 2 _ _ _ (World.alloc_heap_new (wr.drewN m) _)
        have n3 : ∀ m i, ((wr.drewN m).alloc (.cells #[.int .i8 0, .string ⟨#[]⟩, .slice none 0 0] 125)).frozen? ⟨wr.heap.size, i, none⟩ = false := fun m i => frozen_of_row _ _ i _ _ (World.alloc_heap_new (wr.drewN m) _)
        simp only [List.getElem?_toArray, List.getElem?_cons_zero, List.getElem?_cons_succ] at n0 n1 n2
        have b0 : ∀ o m, ((wr.drewN m).alloc o).cell? ⟨g, k * 2, none⟩ = _ := fun o m => (World.cell?_alloc_lt (wr.drewN m) o _ hgw).trans hc0
        have b1 : ∀ o m, ((wr.drewN m).alloc o).cell? ⟨g, k * 2 + 1, none⟩ = _ := fun o m => (World.cell?_alloc_lt (wr.drewN m) o _ hgw).trans hc1
        have b2 : ∀ o m, ((wr.drewN m).alloc o).cell? ⟨gr, or + r.pos * 3, none⟩ = _ := fun o m => (World.cell?_alloc_lt (wr.drewN m) o _ hgr).trans hy0
        have b3 : ∀ o m, ((wr.drewN m).alloc o).cell? ⟨gr, or + r.pos * 3 + 1, none⟩ = _ := fun o m => (World.cell?_alloc_lt (wr.drewN m) o _ hgr).trans hy1
        have b4 : ∀ o m, ((wr.drewN m).alloc o).cell? ⟨gr, or + r.pos * 3 + 1 + 1, none⟩ = _ := fun o m => (World.cell?_alloc_lt (wr.drewN m) o _ hgr).trans hy2
        have hi1 : (0 : Int) ≤ (r.pos : Int) := by omega
        have hi2 : (r.pos : Int) < (r.full.length : Int) := by omega
        have hmx : Tryz.prog.follows .mixedOrders = true := by kernel_rfl
        clear hy hyr hyk hrd hfull hpos
        gi_wp2
        gi_quiet (fail)
        gi_wp2
        gi_region
        obtain ⟨w5, hw5⟩ : ∃ w5, w5 = ((((wr.drewN (nq + 1)).alloc (.cells #[.int .i8 0, .string ⟨#[]⟩, .slice none 0 0] 125)).setCell ⟨wr.heap.size, 0, none⟩ (.int .i8 y.kind)).setCell ⟨wr.heap.size, 1, none⟩ (.string (bytesL y.text))).setCell ⟨wr.heap.size, 2, none⟩ (.slice ya y.kids.length yc) := ⟨_, rfl⟩
        rw [← hw5]
        have hb5 : Below wr.heap.size wr w5 := by
          rw [hw5]
          refine Below.trans (b := wr.drewN (nq + 1)) ⟨rfl, rfl, rfl, Nat.le_refl _, fun _ _ => rfl⟩ ?_
          exact ((((Below.refl _ (wr.drewN (nq + 1))).alloc (Nat.le_refl _) _).setCell (p := ⟨wr.heap.size, 0, none⟩) (Nat.le_refl _) _).setCell (p := ⟨wr.heap.size, 1, none⟩) (Nat.le_refl _) _).setCell (p := ⟨wr.heap.size, 2, none⟩) (Nat.le_refl _) _
        have hy5 : w5.heap[wr.heap.size]? = some (.cells #[.int .i8 y.kind, .string (bytesL y.text), .slice ya y.kids.length yc] 125 (0, 0)) := by
          rw [hw5]
          exact set3 (World.alloc_heap_new (wr.drewN (nq + 1)) _)
        have hs5 : w5.heap.size = wr.heap.size + 1 := by rw [hw5]; simp [World.setCell]
        obtain ⟨hc5, hf5⟩ := bcell hb5
        have d0 := (hc5 g (k * 2) hgw).trans hc0
        have d1 := (hc5 g (k * 2 + 1) hgw).trans hc1
        have d2 := (hf5 g (k * 2 + 1) hgw).trans hf1
        have e0 := cell_of_row _ _ 0 _ _ _ hy5
        have e1 := cell_of_row _ _ 1 _ _ _ hy5
        have e2 := cell_of_row _ _ 2 _ _ _ hy5
        simp only [List.getElem?_toArray, List.getElem?_cons_zero, List.getElem?_cons_succ] at e0 e1 e2
        have Hb5 := Lib.hid hb5
        have Hy5 := Lib.hid hy5
        have hwp : wrap64 ((r.pos : Int) + 1) = (r.pos : Int) + 1 := by unfold wrap64; simp only [maxLen] at hyc; have := hok.len; have := hok.cap; simp only [maxLen] at this; omega
        have hlow : ∀ b, ¬ (bad b ∧ b ≠ W.heap.size) → ¬ bad b ∨ b = W.heap.size := fun b hb => by
          by_cases hbb : bad b
          · exact .inr (Classical.byContradiction fun hn => hb ⟨hbb, hn⟩)
          · exact .inl hbb
        have hlt5 : ∀ b, R b ∨ ¬ (bad b ∧ b ≠ W.heap.size) → b < wr.heap.size := fun b hb => by
          rcases hb with hb | hb
          · exact (HS.out.R0 b hb).2
          · have h0 := (HS.out.R0 _ HS.out.RB)
            rcases hlow b hb with h' | rfl
            · have := HB.out b h'; omega
            · exact h0.2
        have st5 := (HS.out.keep hb5.size (fun b hb => hb5.block b (hlt5 b hb))).more (R' := fun b => R b ∨ (wr.heap.size ≤ b ∧ b < w5.heap.size)) (fun b hb => .inl hb) (fun b hb => by
          rcases hb with hb | hb
          · have := HS.out.R0 b hb; omega
          · have := HS.out.R0 _ HS.out.Rg; omega)
        have st6 := st5.bump Hpos.out
        have hnc : ((r.pos + 1 : Nat) : Int) = (r.pos : Int) + 1 := by omega
        rw [hnc, ← Hk.out] at st6
        have hJ6 := HJ.out _ _ ys wr _ HS.out.R0 HJr.out ((Turn.news hb5).trans (Turn.of (.inl HS.out.Rg) (grown_set w5 g (k * 2 + 1) (.int .i64 ((r.pos : Int) + 1)))))
        have hvy : VF y (.agg #[.int .i8 y.kind, .string (bytesL y.text), .slice ya y.kids.length yc]) := ⟨ya, yc, rfl, hyl, hyc, hyt⟩
        have hstep := remR_step (own := own) (rs := rs) (r := r) (y := y) none 0 Hy.out
        have hsp : SpY own (.node k0 s0 l0) (ys ++ [(k, y, .agg #[.int .i8 y.kind, .string (bytesL y.text), .slice ya y.kids.length yc])]) := by
          refine ⟨?_, fun x hx => ?_⟩
          · rw [HRem.out, hstep, Hk.out]
            exact ⟨_, by simp [dt]; rfl⟩
          · rcases List.mem_append.1 hx with hx | hx
            · exact HV.out x hx
            · simp at hx; subst hx; exact hvy
        obtain ⟨w6, hw6⟩ : ∃ w6, w6 = w5.setCell ⟨g, k * 2 + 1, none⟩ (.int .i64 ((r.pos : Int) + 1)) := ⟨_, rfl⟩
        rw [← hw6] at st6 hJ6
        have hs6 : w6.heap.size = wr.heap.size + 1 := by rw [hw6]; simp [World.setCell, hs5]
        obtain ⟨R1, hR1⟩ : ∃ R1, R1 = fun b => R b ∨ (wr.heap.size ≤ b ∧ b < w5.heap.size) := ⟨_, rfl⟩
        rw [← hR1] at st6 hJ6
        obtain ⟨fn, tmps, assign, body, hyd, hR⟩ := HY.out R1 ys _ w6 st6.R0 (by have := (HS.out.R0 _ HS.out.Rg); omega) (.inl hsp) hJ6
        simp only [encY] at hyd
        rw [hw6] at hyd
        have HYR := Lib.hid hR
        have St6 := Lib.hid st6
        have Hsp := Lib.hid hsp
        have HR1 := Lib.hid hR1
        have Hw6 := Lib.hid hw6
        have Hlow := Lib.hid hlow
        clear hb5 hy5 hc5 hf5 hw5 n0 n1 n2 n3 b0 b1 b2 b3 b4 st5 st6 hJ6 hsp hR hR1 hw6 hlt5 hlow hstep hnc
        gi_wp2
        rw [← Hw6.out]
        refine HYR.out.mono ?_
        rintro e W3 (⟨rfl, hgx, hJ3, hk3⟩ | ⟨rfl, hJx3⟩)
        · have hk3' : ∀ b, R1 b ∨ ¬ (bad b ∧ b ≠ W.heap.size) → W3.heap[b]? = w6.heap[b]? := fun b hb => by
            rcases hb with hb | hb
            · exact hk3.2 b (.inl hb)
            · rcases Hlow.out b hb with h' | rfl
              · exact hk3.2 b (.inr (.inl h'))
              · exact hk3.2 _ (.inl St6.out.RB)
          have st7 := St6.out.keep hk3.1 hk3'
          have hyR : R1 wr.heap.size := by rw [HR1.out]; exact .inr ⟨Nat.le_refl _, Hb5.out.size |> fun _ => by rw [hs5]; omega⟩
          have hy3 : W3.heap[wr.heap.size]? = some (.cells #[.int .i8 y.kind, .string (bytesL y.text), .slice ya y.kids.length yc] 125 (0, 0)) := by
            rw [hk3' _ (.inl hyR), Hw6.out]
            exact (Below.heap_setCell _ _ _ _ (by show wr.heap.size ≠ g; omega)).trans Hy5.out
          have hkp3 : ∀ b, (¬ bad b ∨ b = Bx ∨ b = Bo) → b ≠ g → b < wr.heap.size → W3.heap[b]? = W.heap[b]? := fun b hb hne hlt => by
            rw [hk3.2 b (.inr hb), Hw6.out]
            exact ((Below.heap_setCell _ _ _ _ hne).trans (Hb5.out.block b hlt)).trans (HK.out b hb)
          have hg0 := (HS.out.R0 _ HS.out.Rg).1
          have hoW : Bo < W.heap.size := (Array.getElem?_eq_some_iff.1 HO.out).1
          have hxW : Bx < W.heap.size := (Array.getElem?_eq_some_iff.1 HX.out).1
          have ho3 : W3.heap[Bo]? = _ := (hkp3 Bo (.inr (.inr rfl)) (by omega) (by omega)).trans HO.out
          have f0 := cell_of_row _ _ 0 _ _ _ hy3
          have f1 := cell_of_row _ _ 1 _ _ _ hy3
          have f2 := cell_of_row _ _ 2 _ _ _ hy3
          have f3 := cell_of_row _ _ 0 _ _ _ ho3
          simp only [List.getElem?_toArray, List.getElem?_cons_zero, List.getElem?_cons_succ] at f0 f1 f2 f3
          obtain ⟨a', c', hif, hlc, hcm, hrl⟩ : ∃ a' c', (if own y.kind = true then Value.slice ya y.kids.length yc else .slice none 0 0) = .slice a' (ownL own y).length c' ∧ (ownL own y).length ≤ c' ∧ c' ≤ maxLen ∧ RdL wr (fun b => bad b ∧ b ≠ W.heap.size) (ownL own y) a' := by
            cases y with
            | node ky sy ly =>
              by_cases hoy : own ky = true
              · have e : ownL own (.node ky sy ly) = ly := if_pos hoy
                rw [e]
                exact ⟨ya, yc, if_pos hoy, hyl, hyc, Hyk.out⟩
              · have e : ownL own (.node ky sy ly) = [] := if_neg hoy
                rw [e]
                exact ⟨none, 0, if_neg hoy, by simp, by simp, by simp [RdL]⟩
          have hWw := fun w => HW.out y.kind (bytesL y.text) ya y.kids.length yc w
          rw [hif] at hWw
          have HWw := Lib.hid hWw
          have HJ3 := Lib.hid hJ3
          have Hk3 := Lib.hid hk3
          have Hk3' := Lib.hid hk3'
          have St7 := Lib.hid st7
          have Hkp3 := Lib.hid hkp3
          have Hrl := Lib.hid hrl
          have Hgx := Lib.hid hgx
          have HyR := Lib.hid hyR
          have Hy3 := Lib.hid hy3
          clear hWw hJ3 hk3 hk3' st7 hkp3 hrl hif hgx hyR hy3 ho3 hyd e0 e1 e2 d0 d1 d2 hc0 hc1 hf0 hf1 hy0 hy1 hy2
          gi_wp2_with (refine ⟨trivial, ?_⟩; gi_at_fn fo; refine (callsIn_wide.2 (HWw.out _)).mono ?_; rintro e w8 ⟨rfl, hb8⟩)
          have hlt1 : ∀ b, R1 b ∨ ¬ (bad b ∧ b ≠ W.heap.size) → b < W3.heap.size := fun b hb => by
            rcases hb with hb | hb
            · exact (St7.out.R0 b hb).2
            · rcases Hlow.out b hb with h' | rfl
              · have h1 := HB.out b h'
                have h2 := (HS.out.R0 _ HS.out.Rg)
                have h3 := Hk3.out.1
                omega
              · exact (St7.out.R0 _ St7.out.RB).2
          have st8 := St7.out.keep hb8.size (fun b hb => hb8.block b (hlt1 b hb))
          have hJ8 := HJ.out _ _ _ _ _ St7.out.R0 HJ3.out (Turn.below hb8)
          have hyin : y ∈ ({ r with pos := r.pos + 1 } : Row).full := List.mem_of_getElem? Hy.out
          have hrl8 : RdL w8 (fun b => bad b ∧ b ≠ W.heap.size) (ownL own y) a' := by
            refine RdL.keep (w := wr) (fun b hb hlt => ?_) _ _ Hrl.out
            rw [hb8.block b (hlt1 b (.inr hb)), Hk3'.out b (.inr hb), Hw6.out]
            refine (Below.heap_setCell _ _ _ _ (fun e => ?_)).trans (Hb5.out.block b hlt)
            have e' : b = g := e
            subst e'
            rcases Hlow.out b hb with h' | h'
            · have := HB.out b h'; omega
            · exact HS.out.gB h'
          have hnot := st8.notRow hyin (l := ownL own y) (szL_own own y) hrl8
          have hcells : ∀ j, j < k + 1 → ∃ qa qn qc, w8.cell? ⟨g, j * 2, none⟩ = some (.slice qa qn qc) ∧ NotRow a' (ownL own y).length qa qn ∧ ∀ b o, qa = some ⟨b, o, none⟩ → (∃ cs ty fr, w8.heap[b]? = some (.cells cs ty fr)) ∧ w8.frozen? ⟨b, o, none⟩ = false := fun j hj => by
            have hl2 : (rs ++ [({ r with pos := r.pos + 1 } : Row)]).length = k + 1 := by rw [Hk.out]; simp
            have hj2 : j < (rs ++ [({ r with pos := r.pos + 1 } : Row)]).length := by omega
            have hcell := st8.row.cellAt (j * 2) (by omega)
            rw [rowsC_at _ j hj2] at hcell
            refine ⟨_, _, _, hcell, hnot j hj2, fun b o hqa => ?_⟩
            have hmem := List.getElem_mem hj2
            obtain ⟨q, hq⟩ : ∃ q, q = (rs ++ [({ r with pos := r.pos + 1 } : Row)])[j] := ⟨_, rfl⟩
            rw [← hq] at hmem hqa
            have hp : 0 < q.full.length := by
              have hsz : 0 < szL q.full := by
                have h1 := szL_mem hyin
                have h2 := szL_own own y
                rcases List.mem_append.1 hmem with hq' | hq'
                · have := (List.pairwise_append.1 st8.inner).2.2 q hq' _ (List.mem_singleton.2 rfl); omega
                · simp at hq'; subst hq'; omega
              cases hf : q.full with
              | nil => rw [hf] at hsz; simp [szL] at hsz
              | cons _ _ => simp
            obtain ⟨b', o', e1, hb', _, hfz, u, hu⟩ := (st8.ok q hmem).rd.addr hp
            rw [hqa] at e1
            simp only [Option.some.injEq, Addr.mk.injEq, and_true] at e1
            obtain ⟨rfl, rfl⟩ := e1
            exact ⟨cells_of hu, hfz⟩
          have hfa : 0 < (ownL own y).length → ∀ b o, a' = some ⟨b, o, none⟩ → ∃ cs ty fr, w8.heap[b]? = some (.cells cs ty fr) := fun hp b o ha => by
            obtain ⟨b', o', e1, hb', _, hfz, u, hu⟩ := hrl8.addr hp
            rw [ha] at e1
            simp only [Option.some.injEq, Addr.mk.injEq, and_true] at e1
            obtain ⟨rfl, rfl⟩ := e1
            exact cells_of hu
          have hh := holds_mark g (k + 1) cap a' (ownL own y).length c' w8 (by omega) (by omega) hcells hfa
          have Hh := Lib.hid hh
          have St8 := Lib.hid st8
          have HJ8 := Lib.hid hJ8
          have Hrl8 := Lib.hid hrl8
          have Hyin := Lib.hid hyin
          have Hhlt := Lib.hid hlt1
          clear hh st8 hJ8 hrl8 hyin hnot hcells hfa hlt1
          refine ⟨trivial, (callsIn_wide.2 Hh.out).mono ?_⟩
          rintro e w9 ⟨⟨rb, rfl, hrb⟩, hb9⟩
          obtain rfl | rfl : rb = true ∨ rb = false := by cases rb <;> simp
          · have hne : ownL own y ≠ [] := fun h => by have := hrb rfl; rw [h] at this; simp at this
            have hJ9 := HJ.out _ _ _ _ _ (fun b hb => ⟨(St8.out.R0 b hb).1, (St8.out.R0 b hb).2⟩) HJ8.out (Turn.below hb9)
            have hvy : VF y (.agg #[.int .i8 y.kind, .string (bytesL y.text), .slice ya y.kids.length yc]) := ⟨ya, yc, rfl, hyl, hyc, hyt⟩
            have hsp2 : SpM own (.node k0 s0 l0) ((ys ++ [(k, y, .agg #[.int .i8 y.kind, .string (bytesL y.text), .slice ya y.kids.length yc])]) ++ [(endN, y, .agg #[.int .i8 y.kind, .string (bytesL y.text), .slice ya y.kids.length yc])]) := .inr ⟨_, _, _, rfl, Hsp.out, hne, hvy⟩
            obtain ⟨fn2, tmps2, assign2, body2, hyd2, hR2⟩ := HY.out R1 _ _ w9 (fun b hb => ⟨(St8.out.R0 b hb).1, Nat.lt_of_lt_of_le (St8.out.R0 b hb).2 hb9.size⟩) (by have := (HS.out.R0 _ HS.out.Rg); have := Hk3.out.1; have := hb8.size; have := hb9.size; omega) hsp2 hJ9
            simp only [encY] at hyd2
            have hlt9 : wr.heap.size < W3.heap.size := (St7.out.R0 _ HyR.out).2
            have hy9 : w9.heap[wr.heap.size]? = some (.cells #[.int .i8 y.kind, .string (bytesL y.text), .slice ya y.kids.length yc] 125 (0, 0)) := (hb9.block _ (Nat.lt_of_lt_of_le hlt9 hb8.size)).trans ((hb8.block _ hlt9).trans Hy3.out)
            have f4 := cell_of_row _ _ 0 _ _ _ hy9
            have f5 := cell_of_row _ _ 1 _ _ _ hy9
            have f6 := cell_of_row _ _ 2 _ _ _ hy9
            simp only [List.getElem?_toArray, List.getElem?_cons_zero, List.getElem?_cons_succ] at f4 f5 f6
            have HYR2 := Lib.hid hR2
            have Hne := Lib.hid hne
            have Hsp2 := Lib.hid hsp2
            clear hR2 hne hsp2 hJ9 hy9 hvy hrb
            have hend : ((endN : Nat) : Int) = 9223372036854775806 := rfl
            rw [hend] at hyd2
            clear hend
            gi_wp2
            refine HYR2.out.mono ?_
            rintro e W4 (⟨rfl, hgx2, _, _⟩ | ⟨rfl, hJx4⟩)
            · exact (HGo2.out _ _ Hne.out hgx2).elim
            · have HJx4 := Lib.hid hJx4
              clear hJx4 hyd2
              gi_wp2
              refine bodyPost_ret (results_none rfl _ _ _) rfl ?_
              exact ⟨⟨_, rfl⟩, R1, fun b hb => (St6.out.R0 b hb).1, Or.inr ⟨_, _, Hsp2.out, HJx4.out⟩⟩
          obtain ⟨i0, hi, hz0, hz1, hz2⟩ := info_parts infoRow
          have st9 := St8.out.keep hb9.size (fun b hb => hb9.block b (Nat.lt_of_lt_of_le (Hhlt.out b hb) hb8.size))
          have hrow9 := st9.row
          have hl2 : (rs ++ [({ r with pos := r.pos + 1 } : Row)]).length = k + 1 := by rw [Hk.out]; simp
          rw [hl2] at hrow9
          have Hrow9 := Lib.hid hrow9
          have St9 := Lib.hid st9
          clear hrow9 st9 hl2
          gi_wp2_with (gi_at_builtin; refine wpListIn_append_own_at _ rfl _ _ 161 rfl W.heap.size 159 i0 _ 2 32 Tryz.underlying161 hi hz0 hz1 hz2 rfl (by decide) _ (k + 1) _ rfl (Hrow9.out.alloc _) ⟨w9.heap.size, 0, none⟩ 1 1 (rowC ⟨ownL own y, 0, a', c'⟩) rfl rfl ?_ ?_ ?_ ?_ ?_ ?_)
          · exact World.news_of_block (cs := (rowC ⟨ownL own y, 0, a', c'⟩).toArray) (t := 159) (fr := (0, 0)) (heap_alloc_new w9 _)
          · simp [rowC, Value.oneCell']
          · unfold maxLen; omega
          · omega
          · have := (HS.out.R0 _ HS.out.Rg); have := Hk3.out.1; have := hb8.size; have := hb9.size; simp; omega
          · intro v' w10 hown' hgrow _ hsame
            have hrr : ({ full := r.full, pos := r.pos + 1, a := some ⟨gr, or, none⟩, cap := r.cap } : Row) = { r with pos := r.pos + 1 } := by rw [← hra]
            rw [hrr] at hown'
            rw [← rowsC_snoc] at hown'
            obtain ⟨g', cap', rfl⟩ := ownsRow_succ hown'
            have hg' : g' < w10.heap.size := (hown'.lt g' rfl).2
            have hsz9 : w9.heap.size ≤ w10.heap.size := by have := hgrow.size; simp at this; omega
            have hold : ∀ b, b < w9.heap.size → b ≠ g → w10.heap[b]? = w9.heap[b]? := fun b hb hne =>
              (hgrow.block b (by simp; omega) (fun e => hne (by simpa [Value.ownBlock] using e))).trans (Below.heap_alloc _ _ _ hb)
            have hsame' : g' = g ∨ (w9.heap.size ≤ g' ∧ g' < w10.heap.size) := by
              rcases hsame with h | h
              · exact .inl (by simpa [Value.ownBlock] using h)
              · have : g' = w9.heap.size + 1 := by simpa [Value.ownBlock] using h
                exact .inr ⟨by omega, hg'⟩
            have hst10 := St9.out.push (w' := w10) (R' := fun b => R1 b ∨ (w9.heap.size ≤ b ∧ b < w10.heap.size)) Hyin.out (q := ⟨ownL own y, 0, a', c'⟩) (szL_own own y)
              ⟨Nat.zero_le _, hlc, hcm, RdL.keep (fun b hb _ => hb9.block b (Nat.lt_of_lt_of_le (Hhlt.out b (.inr hb)) hb8.size)) _ _ Hrl8.out⟩
              (fun hne => by
                have h1 := HGo.out _ (Hsp.out.1.subset (List.mem_map.2 ⟨_, List.mem_append_right _ (List.mem_singleton.2 rfl), rfl⟩)) Hgx.out hne
                rw [← Hk.out]; exact h1)
              hold (g' := g') (cap' := cap') hsame' (fun b hb => .inl hb) (fun b hb => by
                rcases hb with hb | hb
                · have := St9.out.R0 b hb; omega
                · have := St9.out.R0 _ St9.out.Rg; omega)
              (by
                rcases hsame' with rfl | h
                · exact .inl St9.out.Rg
                · exact .inr h)
              (by rw [← Hk.out]; exact hown')
            have hJ9 := HJ.out _ _ _ _ _ (fun b hb => ⟨(St8.out.R0 b hb).1, (St8.out.R0 b hb).2⟩) HJ8.out (Turn.below hb9)
            have hJ10 := HJ.out _ (fun b => R1 b ∨ (w9.heap.size ≤ b ∧ b < w10.heap.size)) _ _ w10 St9.out.R0 hJ9 ⟨hgrow.os, hgrow.tape, hgrow.output, hsz9, fun b hb hn => hold b hb (fun e => hn (e ▸ St9.out.Rg)), fun _ h => .inl h, fun _ h => h⟩
            have hkp10 : ∀ b, (¬ bad b ∨ b = Bx ∨ b = Bo) → w10.heap[b]? = W.heap[b]? := fun b hb => by
              have hbW : b < W.heap.size := by
                rcases hb with hb | rfl | rfl
                · exact HB.out b hb
                · exact hxW
                · exact hoW
              have h1 := Hk3.out.1
              have h2 := hb8.size
              have h3 := hb9.size
              rw [hold b (by omega) (by omega), hb9.block b (by omega), hb8.block b (by omega)]
              exact Hkp3.out b hb (by omega) (by omega)
            have hlr : (rs ++ [({ r with pos := r.pos + 1 } : Row)] ++ [(⟨ownL own y, 0, a', c'⟩ : Row)]).length = k + 1 + 1 := by rw [Hk.out]; simp
            have hstep := remR_step (own := own) (rs := rs) (r := r) (y := y) a' c' Hy.out
            have hinv : WInv own W (fun b => bad b ∧ b ≠ W.heap.size) (fun b => ¬ bad b ∨ b = Bx ∨ b = Bo) (.node k0 s0 l0) J (2 * (remR own 0 (rs ++ [({ r with pos := r.pos + 1 } : Row)] ++ [⟨ownL own y, 0, a', c'⟩])).length + (k + 1 + 1)) (.slice (some ⟨g', 0, none⟩) (k + 1 + 1) cap') w10 := by
              refine ⟨_, _, g', cap', _, by rw [hlr], hst10, hJ10, hkp10, ?_, Hsp.out.2, by rw [hlr]⟩
              rw [HRem.out, hstep, List.map_append, ← Hk.out]
              simp [dt]
            have Hinv := Lib.hid hinv
            have Hstep := Lib.hid hstep
            clear hinv hstep hlr hkp10 hJ10 hJ9 hst10 hsame' hold hsz9 hg' hrr hown' hgrow hsame
            gi_wp2
            go_roundw
            case rel => exact ⟨_, Hinv.out⟩
            case measure =>
              refine Nat.lt_of_le_of_lt (leastOf_le Hinv.out) ?_
              have hlen1 : (rs ++ [r]).length = k + 1 := by rw [Hk.out]; simp
              have hN := HN.out
              have hNN := HNN.out
              rw [hlen1] at hN hNN
              rw [← hN, hNN, Hstep.out, List.length_cons]
              omega
        · have HJx3 := Lib.hid hJx3
          clear hJx3 hyd
          gi_wp2
          refine bodyPost_ret (results_none rfl _ _ _) rfl ?_
          exact ⟨⟨_, rfl⟩, R1, fun b hb => (St6.out.R0 b hb).1, Or.inr ⟨ys, (k, y, .agg #[.int .i8 y.kind, .string (bytesL y.text), .slice ya y.kids.length yc]), .inl Hsp.out, HJx3.out⟩⟩
end Go.Proofs.YtbddghcdibdloaaGreatDoor
namespace Go.Proofs.YtbddghcdibdloaaGreatDoor
open Go.RowKit Go.Shelf
attribute [local go_sem] Oper.semAt_some
theorem SpM.vf {own : Int → Bool} {t0 : Tree} {ys : List Itm} (h : SpM own t0 ys) : ∀ x ∈ ys, VF x.2.1 x.2.2 := by
  rcases h with h | ⟨pre, y, v, rfl, h, _, hv⟩
  · exact h.2
  · intro x hx
    rcases List.mem_append.1 hx with hx | hx
    · exact h.2 x hx
    · simp at hx; subst hx; exact hv
set_option maxRecDepth 100000 in
set_option maxHeartbeats 4000000 in
theorem May_mk_in (t : Tree) (v : Value) (w : World) (hG : Globs w) (bad : Nat → Prop) (hbd : ∀ b, ¬ bad b → b < w.heap.size) (hr : Rd w bad t v) :
    CallsIn Fence.wide 8 Tryz.prog 78 #[v] w fun e w' => (∃ r, e = .returned (.bool r) ∧ (r = true → mayT t = true)) ∧ Below w.heap.size w w' := by
  have HG := Lib.hid hG
  obtain ⟨a, cap, rfl, hl, hc, hs, hk⟩ := hr.parts
  have HK := Lib.hid hk
  have HBD := Lib.hid hbd
  clear hG hr hk hbd
  refine callsIn_of_wp_marks Tryz.func78 rfl trivial ?_ rfl
  simp only [Tryz.ntmps78, List.size_toArray, List.length_cons, List.length_nil, Nat.reduceAdd, Nat.reduceSub, Array.replicate_succ, Array.replicate_zero, List.push_toArray, List.append_toArray, List.nil_append, List.cons_append]
  have hd : 1 ≤ 8 := by omega
  gi_wp2_with (refine ⟨trivial, ?_⟩; gi_at_call 84; refine (callsIn_wide.2 (within_any _ 85 _ _ _ _ _ _ rfl)).mono ?_; rintro e w' ⟨rfl, rfl⟩)
  obtain ⟨w4, hw4⟩ : ∃ w4, ((((w.alloc (.cells #[.int .i8 t.kind, .string (bytesL t.text), .slice a t.kids.length cap] 125)).alloc (.cells #[.bool false] 4)).alloc (.cells #[.int .i8 t.kind, .string (bytesL t.text), .slice a t.kids.length cap] 125)).alloc (.cells #[.func (.func 85) #[] #[]] 151)) = w4 := ⟨_, rfl⟩
  have hb4 : Below w.heap.size w w4 := by
    rw [← hw4]; exact ((((Below.refl _ w).alloc (Nat.le_refl _) _).alloc (by simp) _).alloc (by simp; omega) _).alloc (by simp; omega) _
  have b1 : Boxed w4 (w.heap.size + 1) 4 (.bool false) := by
    have := (((Boxed.new (w.alloc (.cells #[.int .i8 t.kind, .string (bytesL t.text), .slice a t.kids.length cap] 125)) 4 (.bool false)).alloc (.cells #[.int .i8 t.kind, .string (bytesL t.text), .slice a t.kids.length cap] 125)).alloc (.cells #[.func (.func 85) #[] #[]] 151))
    simp only [World.size_alloc] at this
    rw [← hw4]; exact this
  have b2 : w4.heap[w.heap.size + 1 + 1]? = some (.cells #[.int .i8 t.kind, .string (bytesL t.text), .slice a t.kids.length cap] 125 (0, 0)) := by
    rw [← hw4]
    refine (Below.heap_alloc _ _ _ (by simp)).trans ?_
    have := World.alloc_heap_new ((w.alloc (.cells #[.int .i8 t.kind, .string (bytesL t.text), .slice a t.kids.length cap] 125)).alloc (.cells #[.bool false] 4)) (.cells #[.int .i8 t.kind, .string (bytesL t.text), .slice a t.kids.length cap] 125)
    simp only [World.size_alloc] at this
    exact this
  have b3 : w4.heap[w.heap.size + 1 + 1 + 1]? = some (.cells #[.func (.func 85) #[] #[]] 151 (0, 0)) := by
    rw [← hw4]
    have := World.alloc_heap_new (((w.alloc (.cells #[.int .i8 t.kind, .string (bytesL t.text), .slice a t.kids.length cap] 125)).alloc (.cells #[.bool false] 4)).alloc (.cells #[.int .i8 t.kind, .string (bytesL t.text), .slice a t.kids.length cap] 125)) (.cells #[.func (.func 85) #[] #[]] 151)
    simp only [World.size_alloc] at this
    exact this
  have hsz : w4.heap.size = w.heap.size + 1 + 1 + 1 + 1 := by rw [← hw4]; simp
  rw [hw4]
  clear hw4
  have HG4 := Lib.hid (HG.out.below hb4)
  have hnode : Tree.node t.kind t.text t.kids = t := by cases t; rfl
  refine wpIn_rangeFunc_R rfl hd (gf := 90) (lb := #[.pointer (some ⟨w.heap.size + 1 + 1, 0, none⟩), .pointer (some ⟨w.heap.size + 1 + 1 + 1, 0, none⟩)]) rfl trivial (enters_of Tryz.func90 (by kernel_rfl) rfl)
    (encs := encY) (S := SY lis t) (Sp := SpM lis t) (keep := fun b => ¬ bad b ∨ b = w.heap.size + 1 + 1 ∨ b = w.heap.size + 1 + 1 + 1) (go := fun x => okP (dt x) = true)
    (fun W hW => by
      have h1 := within1_mk lis 85 (enters_of Tryz.func85 (by kernel_rfl) rfl) listed_any (8 - 1) (by omega) (w.heap.size + 1 + 1) (w.heap.size + 1 + 1 + 1) t.kind t.text t.kids a cap bad (fun x => okP (dt x) = true) W
        ⟨hl, hc, hs⟩ ((hW.block _ (by omega)).trans b2) ((hW.block _ (by omega)).trans b3)
        (RdL.keep (fun b hn hlt => (hW.block b (by have := HBD.out b hn; omega)).trans (hb4.block b (by have := HBD.out b hn; omega))) _ _ HK.out)
        (fun b hb => by have := hW.size; have := HBD.out b hb; omega)
        (fun x hx hgo hne => by
          have h3 : (dt x).2.kind = 3 := ownL_lis hne
          have h5 : okP (dt x) = true := hgo
          unfold okP at h5
          rw [h3] at h5
          simp at h5
          have := h5.2
          show (dt x).1 < 239
          omega)
        (fun y v hne hgo => by
          have h3 : y.kind = 3 := ownL_lis hne
          have h5 : okP (endN, y) = true := hgo
          unfold okP at h5
          simp only [h3] at h5
          simp [endN] at h5)
      rw [hnode] at h1
      exact h1)
    (fun b hb => by
      rcases hb with hb | hb
      · have := HBD.out b hb; omega
      · omega) (fun _ => rfl)
    (MayI w) (MayX w)
    (fun R R' pre A B hR hI hT => ⟨hI.1, boxed_turn hI.2.1 (fun b hb => (hR b hb).1) (by omega) hT, below_turn hI.2.2 (fun b hb => (hR b hb).1) (by omega) hI.2.2.size hT⟩)
    (fun R pre A l o o' hI hD hl' ho => ⟨hI.1, boxed_put hI.2.1 hD hl' ho, below_put hI.2.2 hD (by omega) hl'⟩)
    (fun R R' c pre A B hR hI hT => ⟨hI.1, hI.2.1, boxed_turn hI.2.2.1 hR (by omega) hT, below_turn hI.2.2.2 hR (by omega) hI.2.2.2.size hT⟩)
    (fun R c pre A l o o' hI hD hl' ho => ⟨hI.1, hI.2.1, boxed_put hI.2.2.1 hD hl' ho, below_put hI.2.2.2 hD (by omega) hl'⟩)
    ?_ (fun _ x q W => MayA w (.func (.func 90) #[] #[.pointer (some ⟨w.heap.size + 1 + 1, 0, none⟩), .pointer (some ⟨w.heap.size + 1 + 1 + 1, 0, none⟩)]) (.agg #[.int .i8 t.kind, .string (bytesL t.text), .slice a t.kids.length cap]) x q W) ?_ ?assign ?body ?done ?stop
  · intro B hB
    exact ⟨by simp, (hB.block _ b1.lt).trans b1, hb4.trans (hB.mono hb4.size)⟩
  · rintro R x a' A l o o' ⟨Bx, ya, yc, hBx, hv, ha⟩ hD hl' ho
    exact ⟨Bx, ya, yc, (World.putObj_heap_other (fun e => by subst e; rw [hBx] at hl'; cases hl'; cases ho)).trans hBx, hv, ha⟩
  case assign =>
    rintro l R pre ⟨d, y, vy⟩ W K hR hWs hSp hI hK
    obtain ⟨ya, yc, hv, _⟩ := hSp.vf _ (List.mem_append_right _ (List.mem_singleton.2 rfl))
    simp only at hv
    subst hv
    simp only [encY]
    have HI := Lib.hid hI
    have HSp := Lib.hid hSp
    clear hI hSp
    gi_wp2
    have hgr : W.grownBy (W.alloc (.cells #[.int .i8 y.kind, .string (bytesL y.text), .slice ya y.kids.length yc] 125)) (some W.heap.size) := World.grownBy_alloc W _ _
    refine hK _ _ ((KeepsOthers.alloc _ _).from _) ⟨by simp, fun b hb => Below.heap_alloc _ _ _ ?_⟩ ?_ ⟨W.heap.size, ya, yc, heap_alloc_new W _, rfl, rfl⟩
    · rcases hb with hb | hb
      · exact (hR b hb).2
      · rcases hb with hb | hb <;> first | omega | (have := HBD.out b hb; omega)
    · obtain ⟨hz, h1, h2⟩ := HI.out
      exact ⟨hz, h1.alloc _, h2.alloc h2.size _⟩
  case body =>
    rintro l R pre ⟨d, y, vy⟩ a' W hR hWs hSp ⟨hz, h1, h2⟩ ⟨Bx, ya, yc, hBx, hv, rfl⟩
    simp only at hv hBx
    subst hv
    have c0 := cell_of_row _ _ 0 _ _ _ hBx
    have c1 := cell_of_row _ _ 1 _ _ _ hBx
    have c2 := cell_of_row _ _ 2 _ _ _ hBx
    simp only [List.getElem?_toArray, List.getElem?_cons_zero, List.getElem?_cons_succ] at c0 c1 c2
    have hyt : y.text.length ≤ maxLen := by
      obtain ⟨_, _, _, _, _, h⟩ := hSp.vf _ (List.mem_append_right _ (List.mem_singleton.2 rfl))
      exact h
    have hBl := (Array.getElem?_eq_some_iff.1 hBx).1
    have HSp := Lib.hid hSp
    have HZ := Lib.hid hz
    have H1 := Lib.hid h1
    have H2 := Lib.hid h2
    have HBx := Lib.hid hBx
    have HGW := Lib.hid (HG.out.below h2)
    have hsT : (bytesL y.text).size ≤ 9223372036854775807 := by rw [bytesL_size]; simp only [maxLen] at hyt; omega
    clear hSp hz h1 h2 hBx
    obtain ⟨b, hb⟩ : ∃ b, fitsF y.kind (bytesL y.text).data.toList y.kids.length = b := ⟨_, rfl⟩
    have HF := Lib.hid hb
    have HFt : Hid (fitsF y.kind y.text y.kids.length = b) := by show _ = _; have := HF.out; rwa [bytesL_list] at this
    clear hb
    cases b with
    | false =>
      gi_wp2_with fail
      refine ⟨trivial, (callsIn_wide.2 (fits_is y.kind (bytesL y.text) ya y.kids.length yc false _ HGW.out hsT HF.out)).mono ?_⟩
      rintro e W1 ⟨rfl, hb1⟩
      obtain ⟨hr0, hkp, hbw⟩ := may_step H1.out H2.out hb1 (by omega)
      have hr1 := hr0.cell
      have hr2 := hr0.frozen
      gi_wp2
      exact ⟨(hkp.trans (KeepsOthers.setCell _ _ _)).from _, rfl, ⟨_, List.mem_append_right _ (List.mem_singleton.2 rfl), by show okP (d, y) = false; unfold okP; rw [HFt.out]; rfl⟩, hr0.set _, hbw.setCell (p := ⟨w.heap.size + 1, 0, none⟩) (by simp) _⟩
    | true =>
      by_cases h3 : y.kind = 3
      · have e3 := eq_true_ (x := y.kind) (y := 3) h3
        by_cases h60 : 60 ≤ d
        · have HO : Hid (okP (d, y) = false) := by show _ = _; unfold okP; rw [HFt.out]; simp [h3, h60]
          have hd60 : decide ((d : Int) ≥ 60) = true := by simp; omega
          clear h3
          gi_wp2_with fail
          refine ⟨trivial, (callsIn_wide.2 (fits_is y.kind (bytesL y.text) ya y.kids.length yc true _ HGW.out hsT HF.out)).mono ?_⟩
          rintro e W1 ⟨rfl, hb1⟩
          obtain ⟨hr0, hkp, hbw⟩ := may_step H1.out H2.out hb1 (by omega)
          have hr1 := hr0.cell
          have hr2 := hr0.frozen
          have k0 := (hb1.cell (p := ⟨Bx, 0, none⟩) hBl).trans c0
          gi_wp2
          exact ⟨(hkp.trans (KeepsOthers.setCell _ _ _)).from _, rfl, ⟨_, List.mem_append_right _ (List.mem_singleton.2 rfl), HO.out⟩, hr0.set _, hbw.setCell (p := ⟨w.heap.size + 1, 0, none⟩) (by simp) _⟩
        · have HO : Hid (okP (d, y) = true) := by show _ = _; unfold okP; rw [HFt.out]; simp [h3]; omega
          have hd60 : decide ((d : Int) ≥ 60) = false := by simp; omega
          clear h3
          gi_wp2_with fail
          refine ⟨trivial, (callsIn_wide.2 (fits_is y.kind (bytesL y.text) ya y.kids.length yc true _ HGW.out hsT HF.out)).mono ?_⟩
          rintro e W1 ⟨rfl, hb1⟩
          obtain ⟨hr0, hkp, hbw⟩ := may_step H1.out H2.out hb1 (by omega)
          have k0 := (hb1.cell (p := ⟨Bx, 0, none⟩) hBl).trans c0
          gi_wp2
          refine ⟨hkp.from _, KeepsR.below hb1 (fun b hb => ?_), HO.out, fun x hx => ?_, hr0, hbw⟩
          · rcases hb with hb | hb
            · exact (hR b hb).2
            · rcases hb with hb | hb <;> first | omega | (have := HBD.out b hb; omega)
          · rcases List.mem_append.1 hx with hx | hx
            · exact HZ.out x hx
            · simp at hx; subst hx; exact HO.out
      · have e3 := eq_false (x := y.kind) (y := 3) h3
        have HO : Hid (okP (d, y) = true) := by show _ = _; unfold okP; rw [HFt.out]; simp [h3]
        clear h3
        gi_wp2_with fail
        refine ⟨trivial, (callsIn_wide.2 (fits_is y.kind (bytesL y.text) ya y.kids.length yc true _ HGW.out hsT HF.out)).mono ?_⟩
        rintro e W1 ⟨rfl, hb1⟩
        obtain ⟨hr0, hkp, hbw⟩ := may_step H1.out H2.out hb1 (by omega)
        have k0 := (hb1.cell (p := ⟨Bx, 0, none⟩) hBl).trans c0
        gi_wp2
        refine ⟨hkp.from _, KeepsR.below hb1 (fun b hb => ?_), HO.out, fun x hx => ?_, hr0, hbw⟩
        · rcases hb with hb | hb
          · exact (hR b hb).2
          · rcases hb with hb | hb <;> first | omega | (have := HBD.out b hb; omega)
        · rcases List.mem_append.1 hx with hx | hx
          · exact HZ.out x hx
          · simp at hx; subst hx; exact HO.out
  case done =>
    rintro D R ys W hD hR hS ⟨hz, h1, h2⟩ hKD
    have hall : mayT t = true := by
      unfold mayT
      rw [← hS.1, List.all_eq_true]
      intro x hx
      obtain ⟨x', hx', rfl⟩ := List.mem_map.1 hx
      exact hz x' hx'
    have HA := Lib.hid hall
    have k0 := h1.cell
    have f0 := h1.frozen
    have HKD := Lib.hid hKD
    have H1 := Lib.hid h1
    have H2 := Lib.hid h2
    clear hS hz hall h1 h2 hKD
    gi_wp2
    have hK2 : (W.setCell ⟨w.heap.size + 1, 0, none⟩ (.bool true)).heap[D]? = some (.deferred (some [])) := (Below.heap_setCell _ _ _ _ (by show D ≠ w.heap.size + 1; omega)).trans HKD.out
    have hcell : ((W.setCell ⟨w.heap.size + 1, 0, none⟩ (.bool true)).putObj D (.deferred none)).cell? ⟨w.heap.size + 1, 0, none⟩ = some (.bool true) := (boxed_put (H1.out.set _) (Nat.le_refl D) hK2 rfl).cell
    refine ⟨by simp, .inl ⟨_, _, rfl, run_takeDeferred hK2, ?_⟩⟩
    refine ⟨.bool true, ?_, ⟨true, rfl, fun _ => HA.out⟩, below_put (H2.out.setCell (p := ⟨w.heap.size + 1, 0, none⟩) (by simp) _) hD (by omega) hK2⟩
    simp [results, Tryz.results78, go_sem, hcell]
  case stop =>
    rintro D R c pre x W hD hR hSp ⟨rfl, hz, h1, h2⟩ hKD
    have HKD := Lib.hid hKD
    have H1 := Lib.hid h1
    have H2 := Lib.hid h2
    clear hSp hz h1 h2 hKD
    gi_wp2
    have hcell : (W.putObj D (.deferred none)).cell? ⟨w.heap.size + 1, 0, none⟩ = some (.bool false) := (boxed_put H1.out (Nat.le_refl D) HKD.out rfl).cell
    refine ⟨by simp, .inl ⟨_, _, rfl, run_takeDeferred HKD.out, ?_⟩⟩
    refine ⟨.bool false, ?_, ⟨false, rfl, fun h => by cases h⟩, below_put H2.out hD (by omega) HKD.out⟩
    simp [results, Tryz.results78, go_sem, hcell]
theorem May_mk (t : Tree) (v : Value) (w : World) (hG : Globs w) (bad : Nat → Prop) (hbd : ∀ b, ¬ bad b → b < w.heap.size) (hr : Rd w bad t v) :
    Calls Tryz.prog 78 #[v] w fun e w' => (∃ r, e = .returned (.bool r) ∧ (r = true → mayT t = true)) ∧ Below w.heap.size w w' := callsIn_wide.1 (May_mk_in t v w hG bad hbd hr)
end Go.Proofs.YtbddghcdibdloaaGreatDoor
namespace Go.Proofs.YtbddghcdibdloaaGreatDoor
open Go.RowKit
set_option linter.unusedVariables false
end Go.Proofs.YtbddghcdibdloaaGreatDoor
