/- Plain facts: a value is of its node's sort; a base and a number. -/
import Derived.Test.YtfbjgadgfjnamaaGreatDoorZHdU
import Derived.Deep.AppendLies
namespace Go.Proofs.YtfbjgadgfjnamaaGreatDoor
open Go.RowKit
open Tm (NodeA NodeOk TabR mayT)
set_option linter.unusedVariables false
/-- The value at a place, and whether it overflows. -/
def atV (L : List (Int × Bool)) (i : Int) : Int × Bool := (L[i.toNat]?).getD (0, false)
def argsV (L : List (Int × Bool)) (n : NodeA) (k : Nat) : List Int := (List.range k).map (fun j => (atV L (argN n j)).1)
def badV (L : List (Int × Bool)) (n : NodeA) : Nat → Bool
  | 0 => false
  | k + 1 => badV L n k || (atV L (argN n k)).2
/-- A node's value of those ahead. -/
def stepV (x : SigV) (y : WorV) (L : List (Int × Bool)) (n : NodeA) : Int × Bool :=
  if badV L n n.len.toNat = true then (0, true) else if (ndV x y n (argsV L n n.len.toNat)).2 = true then ((ndV x y n (argsV L n n.len.toNat)).1, false) else (0, true)
/-- The values of the first k nodes. -/
def evK (x : SigV) (y : WorV) (t : List NodeA) : Nat → List (Int × Bool)
  | 0 => []
  | k + 1 => evK x y t k ++ [stepV x y (evK x y t k) (t.getD k Tm.trueN)]
theorem evK_len (x : SigV) (y : WorV) (t : List NodeA) : ∀ k, (evK x y t k).length = k
  | 0 => rfl
  | k + 1 => by unfold evK; rw [List.length_append, evK_len x y t k]; rfl
theorem evK_get (x : SigV) (y : WorV) (t : List NodeA) : ∀ {k j : Nat}, j < k → (evK x y t k)[j]? = some (stepV x y (evK x y t j) (t.getD j Tm.trueN))
  | 0, j, h => absurd h (Nat.not_lt_zero _)
  | k + 1, j, h => by
    show (evK x y t k ++ [stepV x y (evK x y t k) (t.getD k Tm.trueN)])[j]? = _
    by_cases hj : j < k
    · rw [List.getElem?_append_left (by rw [evK_len]; exact hj)]; exact evK_get x y t hj
    · obtain rfl : j = k := by omega
      rw [List.getElem?_append_right (by rw [evK_len]; exact Nat.le_refl _), evK_len, Nat.sub_self]; rfl
theorem stands_form {n : NodeA} {k : Nat} (h : Tm.standsB n k = true) : 0 ≤ n.len ∧ n.len ≤ 3 ∧ 0 ≤ n.op ∧ n.op < 14 ∧ (n.op = 13 ∨ n.len = Tm.arityA n.op) := by
  have hi := stands_in (t := List.replicate k n) h (by rw [List.length_replicate]; exact Nat.le_refl _)
  unfold Tm.standsB at h
  rw [decide_eq_true_eq] at h
  obtain ⟨⟨h0, h1, h2⟩, _⟩ := h
  refine ⟨hi.lo, hi.hi, h0, h1, ?_⟩
  split at h2
  · exact .inl ‹_›
  · split at h2
    · exact .inr h2.1
    · exact .inr h2.1
theorem stands_arg {n : NodeA} {k : Nat} (h : Tm.standsB n k = true) (j : Nat) (hj : (j : Int) < n.len) : 0 ≤ argN n j ∧ argN n j < (k : Int) := by
  have hi := (stands_in (t := List.replicate k n) h (by rw [List.length_replicate]; exact Nat.le_refl _)).arg j hj
  rw [List.length_replicate] at hi
  exact hi
theorem atV_get {L : List (Int × Bool)} {i : Nat} (h : i < L.length) : L[i]? = some (atV L i) := by
  unfold atV
  rw [Int.toNat_natCast, List.getElem?_eq_getElem h]; rfl
theorem own_elem {w : World} {B n : Nat} {E : TypeId} {a : Option Addr} {c : Nat} {f : (Int × Bool) → List Value} {L : List (Int × Bool)} (h : w.ownsRow B E 1 (.slice a n c) n (L.flatMap f)) (hf : ∀ p, (f p).length = 1) {i : Nat} {p : Int × Bool} (hp : L[i]? = some p) {u : Value} (hu : f p = [u]) :
    ∃ g o : Nat, a = some ⟨g, o, none⟩ ∧ ∀ V, Below w.heap.size w V → g < V.heap.size ∧ V.cell? ⟨g, o + i, none⟩ = some u := by
  obtain ⟨_, _, hat⟩ := own_to h
  obtain ⟨g, o, e, hg, hc⟩ := hat (by rw [len_flat hf]; have := (List.getElem?_eq_some_iff.1 hp).1; omega)
  refine ⟨g, o, e, fun V hV => ⟨Nat.lt_of_lt_of_le hg hV.size, (hV.cell (p := ⟨g, o + i, none⟩) hg).trans ?_⟩⟩
  have h1 := get_flat hf L i 0 p hp (by omega)
  rw [hu, Nat.mul_one, Nat.add_zero] at h1
  exact hc i u (h1.trans rfl)
def valL (p : Int × Bool) : List Value := [.int .i64 p.1]
def bitL (p : Int × Bool) : List Value := [.bool p.2]
theorem valL_len (p : Int × Bool) : (valL p).length = 1 := rfl
theorem bitL_len (p : Int × Bool) : (bitL p).length = 1 := rfl
theorem evK_row {x : SigV} {y : WorV} {t : List NodeA} {k : Nat} {n : NodeA} {X : Int} {b : Bool} (hn : stepV x y (evK x y t k) n = stepV x y (evK x y t k) (t.getD k Tm.trueN)) (h : stepV x y (evK x y t k) n = (X, b)) : (evK x y t (k + 1)).flatMap valL = (evK x y t k).flatMap valL ++ [.int .i64 X] ∧ (evK x y t (k + 1)).flatMap bitL = (evK x y t k).flatMap bitL ++ [.bool b] ∧ ∀ q, (q ∈ evK x y t k → I64 q.1) → I64 X → q ∈ evK x y t (k + 1) → I64 q.1 := by
  have e : evK x y t (k + 1) = evK x y t k ++ [(X, b)] := by show _ ++ [_] = _; rw [← hn, h]
  rw [e, List.flatMap_append, List.flatMap_append]
  refine ⟨rfl, rfl, fun q h1 h2 hq => ?_⟩
  rcases List.mem_append.1 hq with h3 | h3
  · exact h1 h3
  · rw [List.mem_singleton.1 h3]; exact h2
/-- OK, or why there are none. -/
def valE (x : SigV) (y : WorV) (t : List NodeA) : Int := if mayT t = true ∧ worQ x y = true then (if tabE x t = 0 then 0 else 33) else 2
theorem max_i64 {a b : Int} (ha : I64 a) (hb : I64 b) : I64 (max a b) := by rcases Int.le_total a b with h | h <;> simp [Int.max_eq_right, Int.max_eq_left, h, ha, hb]
theorem bitN_i64 (q : Bool) : I64 (bitN q) := by cases q <;> exact ⟨by decide, by decide⟩
theorem getD_i64 {l : List Int} (h : ∀ a ∈ l, I64 a) (j : Nat) : I64 (l.getD j 0) := by
  rw [List.getD_eq_getElem?_getD]
  cases e : l[j]? with
  | none => exact ⟨by decide, by decide⟩
  | some a => exact h a (List.mem_of_getElem? e)
theorem applyV_i64 {w : World} {x : SigV} {y : WorV} (hY : WorR w y) (f : Int) (l : List Int) : I64 (applyV x y f l) := by
  unfold applyV
  split
  · have hf : (∀ r ∈ (fvA y f).rows, RowOk r) ∧ I64 (fvA y f).els := by
      unfold fvA
      cases e : y.funs[f.toNat]? with
      | none => exact ⟨fun r hr => by simp [noFv] at hr, ⟨by decide, by decide⟩⟩
      | some u => exact ⟨(hY.fok u (List.mem_of_getElem? e)).rok, (hY.fok u (List.mem_of_getElem? e)).els⟩
    unfold rowV
    cases e : (fvA y f).rows.find? (fun s => sameA s ⟨l.getD 0 0, l.getD 1 0, l.getD 2 0, 0⟩) with
    | none => exact hf.2
    | some r => exact (hf.1 r (List.mem_of_find?_eq_some e)).v
  · exact ⟨by decide, by decide⟩
theorem ite_fst {c : Prop} [Decidable c] {a b : Int × Bool} (h1 : I64 a.1) (h2 : I64 b.1) : I64 (if c then a else b).1 := by
  by_cases h : c
  · rw [if_pos h]; exact h1
  · rw [if_neg h]; exact h2
theorem ite_i64 {c : Prop} [Decidable c] {a b : Int} (h1 : I64 a) (h2 : I64 b) : I64 (if c then a else b) := by
  by_cases h : c
  · rw [if_pos h]; exact h1
  · rw [if_neg h]; exact h2
theorem ndV_i64 {w : World} {x : SigV} {y : WorV} (hY : WorR w y) {n : NodeA} (hn : NodeOk n) {v : List Int} (hv : ∀ a ∈ v, I64 a) : I64 (ndV x y n v).1 :=
  ite_fst ⟨by decide, by decide⟩ (ite_fst (i64_wrap _) (ite_fst (i64_wrap _) (ite_fst (max_i64 (getD_i64 hv 0) (getD_i64 hv 1)) (ite_fst (bitN_i64 _) (ite_fst (bitN_i64 _) (ite_fst (bitN_i64 _) (ite_fst (ite_i64 (getD_i64 hv 1) (getD_i64 hv 2)) (ite_fst (bitN_i64 _) (ite_fst (bitN_i64 _) (ite_fst hn.num (ite_fst (ite_fst ⟨by decide, by decide⟩ (i64_wrap _)) (ite_fst (bitN_i64 _) (applyV_i64 hY _ _)))))))))))))
theorem stepV_i64 {w : World} {x : SigV} {y : WorV} (hY : WorR w y) {L : List (Int × Bool)} (hL : ∀ p ∈ L, I64 p.1) {n : NodeA} (hn : NodeOk n) : I64 (stepV x y L n).1 := by
  have hz : I64 0 := ⟨by decide, by decide⟩
  have ha : ∀ a ∈ argsV L n n.len.toNat, I64 a := fun a h => by
    unfold argsV at h
    obtain ⟨j, _, rfl⟩ := List.mem_map.1 h
    unfold atV
    cases e : L[(argN n j).toNat]? with
    | none => exact hz
    | some p => exact hL p (List.mem_of_getElem? e)
  unfold stepV
  repeat' split
  all_goals first | exact hz | exact ndV_i64 hY hn ha
/-- What Values answers. -/
def ValsPost (w : World) (x : SigV) (y : WorV) (t : List NodeA) (e : Ending) (w' : World) : Prop :=
  Below w.heap.size w w' ∧ ((¬ valE x y t = 0 ∧ e = .returned (.tuple #[.slice none 0 0, .slice none 0 0, .int .i64 (valE x y t)])) ∨
    (valE x y t = 0 ∧ ∃ la lc oa oc, e = .returned (.tuple #[.slice la t.length lc, .slice oa t.length oc, .int .i64 0]) ∧ At w' w'.heap.size ((evK x y t t.length).flatMap valL) la ∧ At w' w'.heap.size ((evK x y t t.length).flatMap bitL) oa))
theorem own_by {V V2 : World} {o : Obj} {B B' : Nat} {E E' : TypeId} {s s' n n' : Nat} {v v' : Value} {L L' : List Value} (h : V.ownsRow B E s v n L) (h' : V.ownsRow B' E' s' v' n' L') (hne : E ≠ E') (hg : (V.alloc o).grownBy V2 v'.ownBlock) : V2.ownsRow B E s v n L :=
  own_far h (fun k hk => (hg.block k (by have := (own_ne h hk).2; simp; omega) (fun e => own_apart h h' hne hk e.symm)).trans (Below.heap_alloc V o k (own_ne h hk).2))
theorem below_push' {W V V2 : World} {o : Obj} {B : Nat} {e : TypeId} {size n : Nat} {v : Value} {xs : List Value} (hB : W.heap.size ≤ B) (h : Below W.heap.size W V) (hown : V.ownsRow B e size v n xs) (hg : (V.alloc o).grownBy V2 v.ownBlock) : Below W.heap.size W V2 := by
  have h3 := hg.size
  have h4 := h.size
  have h2 : (V.alloc o).heap.size = V.heap.size + 1 := by simp
  exact ⟨hg.os.trans h.os, hg.tape.trans h.tape, hg.output.trans h.output, by omega, fun k hk => (hg.block k (by omega) (fun e' => by have := (own_ne hown e'.symm).1; omega)).trans ((Below.heap_alloc V o k (by omega)).trans (h.block k hk))⟩
theorem info_bool : (Tryz.prog.info? 4).map (fun i => (i.zero, i.size, i.bytes)) = some (some (.bool false), 1, 1) := by kernel_rfl
theorem ty_ib : (3 : TypeId) ≠ 4 := by decide
theorem badV_args {L : List (Int × Bool)} {n : NodeA} (k : Nat) : (argsV L n (k + 1)).flatMap numL = (argsV L n k).flatMap numL ++ [.int .i64 (atV L (argN n k)).1] := by
  unfold argsV
  rw [List.range_succ, List.map_append, List.flatMap_append]; rfl
set_option maxRecDepth 300000 in
set_option maxHeartbeats 4000000 in
theorem RValues_any (x : SigV) (y : WorV) (t : List NodeA) (ta : Option Addr) (tc : Nat) (w : World) (hX : SigR w x) (hY : WorR w y) (hT : TabR w t ta tc) (htl : t.length ≤ 3000) :
    Calls Tryz.prog 11 #[.agg #[.slice x.sa x.sorts.length x.sc, .slice x.fa x.funs.length x.fc, .slice x.ma x.macs.length x.mc], .agg #[.slice y.sa y.sizes.length y.sc, .slice y.fa y.funs.length y.fc], .agg #[.slice ta t.length tc]] w fun e w' => ValsPost w x y t e w' := by
  obtain ⟨W0, hW0⟩ : ∃ W0, W0 = ((w.alloc (.cells #[.slice x.sa x.sorts.length x.sc, .slice x.fa x.funs.length x.fc, .slice x.ma x.macs.length x.mc] 26)).alloc (.cells #[.slice y.sa y.sizes.length y.sc, .slice y.fa y.funs.length y.fc] 30)).alloc (.cells #[.slice ta t.length tc] 33) := ⟨_, rfl⟩
  have hB0 : Below w.heap.size w W0 := by rw [hW0]; exact (((Below.refl _ w).alloc (Nat.le_refl _) _).alloc (by simp) _).alloc (by simp; omega) _
  have HB0 := Lib.hid hB0
  have hX0 : W0.heap[w.heap.size]? = some (.cells #[.slice x.sa x.sorts.length x.sc, .slice x.fa x.funs.length x.fc, .slice x.ma x.macs.length x.mc] 26 (0, 0)) := by
    rw [hW0]
    exact ((Below.heap_alloc _ _ _ (by simp; omega)).trans (Below.heap_alloc _ _ _ (by simp))).trans (heap_alloc_new w _)
  have hY0 : W0.heap[w.heap.size + 1]? = some (.cells #[.slice y.sa y.sizes.length y.sc, .slice y.fa y.funs.length y.fc] 30 (0, 0)) := by
    have := heap_alloc_new (w.alloc (.cells #[.slice x.sa x.sorts.length x.sc, .slice x.fa x.funs.length x.fc, .slice x.ma x.macs.length x.mc] 26)) (.cells #[.slice y.sa y.sizes.length y.sc, .slice y.fa y.funs.length y.fc] 30)
    rw [World.size_alloc] at this
    rw [hW0]
    exact (Below.heap_alloc _ _ _ (by simp)).trans this
  have hT0 : W0.heap[w.heap.size + 1 + 1]? = some (.cells #[.slice ta t.length tc] 33 (0, 0)) := by
    have := heap_alloc_new ((w.alloc (.cells #[.slice x.sa x.sorts.length x.sc, .slice x.fa x.funs.length x.fc, .slice x.ma x.macs.length x.mc] 26)).alloc (.cells #[.slice y.sa y.sizes.length y.sc, .slice y.fa y.funs.length y.fc] 30)) (.cells #[.slice ta t.length tc] 33)
    rw [World.size_alloc, World.size_alloc] at this
    rw [hW0]
    exact this
  have HK : Hid (∀ V, Below W0.heap.size W0 V → V.cell? ⟨w.heap.size, 0, none⟩ = some (.slice x.sa x.sorts.length x.sc) ∧ V.cell? ⟨w.heap.size, 1, none⟩ = some (.slice x.fa x.funs.length x.fc) ∧ V.cell? ⟨w.heap.size, 2, none⟩ = some (.slice x.ma x.macs.length x.mc) ∧ V.cell? ⟨w.heap.size + 1, 0, none⟩ = some (.slice y.sa y.sizes.length y.sc) ∧ V.cell? ⟨w.heap.size + 1, 1, none⟩ = some (.slice y.fa y.funs.length y.fc) ∧ V.cell? ⟨w.heap.size + 1 + 1, 0, none⟩ = some (.slice ta t.length tc) ∧ w.heap.size + 1 + 1 < V.heap.size) := fun V hV => by
    obtain ⟨c0, c1, c2, _⟩ := sig_cells ((hV.block _ (Array.getElem?_eq_some_iff.1 hX0).1).trans hX0)
    obtain ⟨y0, y1, _⟩ := wor_cells ((hV.block _ (Array.getElem?_eq_some_iff.1 hY0).1).trans hY0)
    have h := (hV.block _ (Array.getElem?_eq_some_iff.1 hT0).1).trans hT0
    exact ⟨c0, c1, c2, y0, y1, (cell_of_row _ _ 0 _ _ _ h).trans rfl, (Array.getElem?_eq_some_iff.1 h).1⟩
  have HX := Lib.hid hX
  have HY := Lib.hid hY
  have HT := Lib.hid hT
  have HCt : Hid (∀ q, mayT t = q → ∀ V, Below W0.heap.size W0 V → Calls Tryz.prog 29 #[.agg #[.slice ta t.length tc]] V fun e w' => e = .returned (.int .i64 (if q = true then 0 else 2)) ∧ Below W0.heap.size W0 w') := fun q hq V hV => by
    subst hq
    exact (Tm.RCheck_any t ta tc _ V (hT.below (hB0.trans (hV.mono hB0.size))) htl rfl).mono fun e w' ⟨h1, h2⟩ => ⟨h1, hV.trans (h2.mono hV.size)⟩
  have HCm : Hid (∀ q, worQ x y = q → ∀ V, Below W0.heap.size W0 V → Calls Tryz.prog 30 #[.agg #[.slice x.sa x.sorts.length x.sc, .slice x.fa x.funs.length x.fc, .slice x.ma x.macs.length x.mc], .agg #[.slice y.sa y.sizes.length y.sc, .slice y.fa y.funs.length y.fc]] V fun e w' => e = .returned (.bool q) ∧ Below W0.heap.size W0 w') := fun q hq V hV =>
    (WMay_any x y q V (hX.below (hB0.trans (hV.mono hB0.size))) (hY.below (hB0.trans (hV.mono hB0.size))) hq).mono fun e w' ⟨h1, h2⟩ => ⟨h1, hV.trans (h2.mono hV.size)⟩
  have HCb : Hid (∀ q, tabE x t = q → ∀ V, Below W0.heap.size W0 V → Calls Tryz.prog 31 #[.agg #[.slice x.sa x.sorts.length x.sc, .slice x.fa x.funs.length x.fc, .slice x.ma x.macs.length x.mc], .agg #[.slice ta t.length tc]] V fun e w' => e = .returned (.int .i64 q) ∧ Below W0.heap.size W0 w') := fun q hq V hV =>
    (RTable_any x t ta tc q V (hX.below (hB0.trans (hV.mono hB0.size))) (hT.below (hB0.trans (hV.mono hB0.size))) htl hq).mono fun e w' ⟨h1, h2⟩ => ⟨h1, hV.trans (h2.mono hV.size)⟩
  clear hX0 hY0 hT0 hX hY hT hB0
  obtain ⟨c0, c1, c2, y0, y1, t0, z0⟩ := HK.out _ (Below.refl _ W0)
  have HE2 : Hid (¬ (mayT t = true ∧ worQ x y = true) → ∀ w', Below w.heap.size w w' → ValsPost w x y t (.returned (.tuple #[.slice none 0 0, .slice none 0 0, .int .i64 2])) w') := fun h w' hb => by
    have e : valE x y t = 2 := if_neg h
    exact ⟨hb, .inl ⟨by rw [e]; decide, by rw [e]⟩⟩
  cases hm : mayT t with
  | false =>
    have HCq := Lib.hid (HCt.out _ hm)
    have HF := Lib.hid (HE2.out (by rw [hm]; simp))
    clear hm
    go_enter Tryz.func11, Tryz.ntmps11
    go_wp2_with (go_at_call 29; rw [← hW0]; clear hW0; refine (HCq.out _ (Below.refl _ _)).mono ?_; rintro e w3 ⟨rfl, hb1⟩; have HB1 := Lib.hid hb1; clear hb1 c0 c1 c2 y0 y1 t0 z0; obtain ⟨c0, c1, c2, y0, y1, t0, z0⟩ := HK.out _ HB1.out; simp only [Bool.false_eq_true, reduceIte])
    refine bodyPost_ret (v := .tuple #[.slice none 0 0, .slice none 0 0, .int .i64 2]) (by simp [results, Tryz.results11, go_sem]) rfl (HF.out _ (HB0.out.trans (HB1.out.mono HB0.out.size)))
  | true =>
  have HCq := Lib.hid (HCt.out _ hm)
  cases hq : worQ x y with
  | false =>
    have HCr := Lib.hid (HCm.out _ hq)
    have HF := Lib.hid (HE2.out (by rw [hq]; simp))
    clear hm hq
    go_enter Tryz.func11, Tryz.ntmps11
    go_wp2_with (first | (go_at_call 29; rw [← hW0]; clear hW0; refine (HCq.out _ (Below.refl _ _)).mono ?_; rintro e w3 ⟨rfl, hb1⟩; have HB1 := Lib.hid hb1; clear hb1 c0 c1 c2 y0 y1 t0 z0; obtain ⟨c0, c1, c2, y0, y1, t0, z0⟩ := HK.out _ HB1.out; simp only [reduceIte]) | (go_at_call 30; refine (HCr.out _ HB1.out).mono ?_; rintro e w4 ⟨rfl, hb2⟩; have HB2 := Lib.hid hb2; clear hb2 c0 c1 c2 y0 y1 t0 z0; obtain ⟨c0, c1, c2, y0, y1, t0, z0⟩ := HK.out _ HB2.out))
    refine bodyPost_ret (v := .tuple #[.slice none 0 0, .slice none 0 0, .int .i64 2]) (by simp [results, Tryz.results11, go_sem]) rfl (HF.out _ (HB0.out.trans (HB2.out.mono HB0.out.size)))
  | true =>
  have HCr := Lib.hid (HCm.out _ hq)
  have hE : valE x y t = (if tabE x t = 0 then 0 else 33) := if_pos ⟨hm, hq⟩
  by_cases hz : tabE x t = 0
  rotate_left
  · have HF : Hid (∀ w', Below w.heap.size w w' → ValsPost w x y t (.returned (.tuple #[.slice none 0 0, .slice none 0 0, .int .i64 33])) w') := fun w' hb => by
      have e : valE x y t = 33 := hE.trans (if_neg hz)
      exact ⟨hb, .inl ⟨by rw [e]; decide, by rw [e]⟩⟩
    have HCs := Lib.hid (HCb.out _ rfl)
    have ez := ne_true hz
    generalize tabE x t = E at *
    clear hm hq hE hz
    go_enter Tryz.func11, Tryz.ntmps11
    go_wp2_with (first | (go_at_call 29; rw [← hW0]; clear hW0; refine (HCq.out _ (Below.refl _ _)).mono ?_; rintro e w3 ⟨rfl, hb1⟩; have HB1 := Lib.hid hb1; clear hb1 c0 c1 c2 y0 y1 t0 z0; obtain ⟨c0, c1, c2, y0, y1, t0, z0⟩ := HK.out _ HB1.out; simp only [reduceIte]) | (go_at_call 30; refine (HCr.out _ HB1.out).mono ?_; rintro e w4 ⟨rfl, hb2⟩; have HB2 := Lib.hid hb2; clear hb2 c0 c1 c2 y0 y1 t0 z0; obtain ⟨c0, c1, c2, y0, y1, t0, z0⟩ := HK.out _ HB2.out) | (go_at_call 31; refine (HCs.out _ HB2.out).mono ?_; rintro e w5 ⟨rfl, hb3⟩; have HB3 := Lib.hid hb3; clear hb3 c0 c1 c2 y0 y1 t0 z0; obtain ⟨c0, c1, c2, y0, y1, t0, z0⟩ := HK.out _ HB3.out))
    refine bodyPost_ret (v := .tuple #[.slice none 0 0, .slice none 0 0, .int .i64 33]) (by simp [results, Tryz.results11, go_sem]) rfl (HF.out _ (HB0.out.trans (HB3.out.mono HB0.out.size)))
  have HF : Hid (∀ w' la lc oa oc, Below w.heap.size w w' → At w' w'.heap.size ((evK x y t t.length).flatMap valL) la → At w' w'.heap.size ((evK x y t t.length).flatMap bitL) oa → ValsPost w x y t (.returned (.tuple #[.slice la t.length lc, .slice oa t.length oc, .int .i64 0])) w') := fun w' la lc oa oc hb h1 h2 =>
    ⟨hb, .inr ⟨hE.trans (if_pos hz), la, lc, oa, oc, rfl, h1, h2⟩⟩
  have HCs := Lib.hid (HCb.out _ hz)
  have HOk := Lib.hid (Tm.mayT_ok hm).2
  obtain ⟨i0, hi_, hz0, hz1, hz2⟩ := info_parts info_int
  obtain ⟨b0, hbi_, hbz0, hbz1, hbz2⟩ := info_parts info_bool
  clear hm hq hE hz
  go_enter Tryz.func11, Tryz.ntmps11
  go_wp2_with (first | (go_at_call 29; rw [← hW0]; clear hW0; refine (HCq.out _ (Below.refl _ _)).mono ?_; rintro e w3 ⟨rfl, hb1⟩; have HB1 := Lib.hid hb1; clear hb1 c0 c1 c2 y0 y1 t0 z0; obtain ⟨c0, c1, c2, y0, y1, t0, z0⟩ := HK.out _ HB1.out; simp only [reduceIte]) | (go_at_call 30; refine (HCr.out _ HB1.out).mono ?_; rintro e w4 ⟨rfl, hb2⟩; have HB2 := Lib.hid hb2; clear hb2 c0 c1 c2 y0 y1 t0 z0; obtain ⟨c0, c1, c2, y0, y1, t0, z0⟩ := HK.out _ HB2.out) | (go_at_call 31; refine (HCs.out _ HB2.out).mono ?_; rintro e w5 ⟨rfl, hb3⟩; have HB3 := Lib.hid hb3; clear hb3 c0 c1 c2 y0 y1 t0 z0))
  clear HCq HCr HCs HCt HCm HCb HE2
  go_loopw [9, 10, 11] (fun l o i wr => ∃ (k : Nat) (la : Option Addr) (lc : Nat) (oa : Option Addr) (oc : Nat), k ≤ t.length ∧ i = .int .i64 k ∧ l = .slice la k lc ∧ o = .slice oa k oc ∧ Hid (Below W0.heap.size W0 wr) ∧ Hid (∀ p ∈ evK x y t k, I64 p.1) ∧ Hid (wr.ownsRow W0.heap.size 3 1 (.slice la k lc) k ((evK x y t k).flatMap valL)) ∧ Hid (wr.ownsRow W0.heap.size 4 1 (.slice oa k oc) k ((evK x y t k).flatMap bitL))) (fun _ _ i _ => t.length - (intOf i).toNat)
  case atStart => exact ⟨0, none, 0, none, 0, Nat.zero_le _, rfl, rfl, rfl, HB3, fun p hp => by simp [evK] at hp, World.ownsRow_nil _ _ _ _, World.ownsRow_nil _ _ _ _⟩
  case round =>
    obtain ⟨wo, hwo⟩ : ∃ wo, wo = wr := ⟨_, rfl⟩
    subst hwo
    obtain ⟨k, la, lc, oa, oc, hk, rfl, rfl, rfl, HB, HI, HL, HO⟩ := hrel
    obtain ⟨c0, c1, c2, y0, y1, t0, z0⟩ := HK.out _ HB.out
    have HBw : Hid (Below w.heap.size w wo) := HB0.out.trans (HB.out.mono HB0.out.size)
    by_cases hlt : k < t.length
    rotate_left
    · obtain rfl : k = t.length := by omega
      obtain ⟨_, _, hla⟩ := own_to HL.out
      obtain ⟨_, _, hoa⟩ := own_to HO.out
      have HFx := Lib.hid (HF.out wo la lc oa oc HBw.out hla hoa)
      clear hla hoa
      go_wp2
      refine bodyPost_ret (v := .tuple #[.slice la t.length lc, .slice oa t.length oc, .int .i64 0]) (by simp [results, Tryz.results11, go_sem]) rfl HFx.out
    obtain ⟨n, hn⟩ : ∃ n, t[k]? = some n := ⟨_, List.getElem?_eq_getElem hlt⟩
    obtain ⟨g, o, rfl, hg, m0, m1, m2, m3, m4, m5, m6, m7⟩ := (HT.out.below HBw.out).node hn
    have hki : (k : Int) < (t.length : Int) := by omega
    have hk0 : (0 : Int) ≤ (k : Int) := by omega
    have hno := HT.out.ok n (List.mem_of_getElem? hn)
    have hst := (Tm.ok_at HOk.out hn).1
    have HIn : Hid (∀ j : Nat, (j : Int) < n.len → 0 ≤ argN n j ∧ argN n j < (k : Int)) := fun j hj => stands_arg hst j hj
    obtain ⟨nl, nh, no1, no2, nar⟩ := stands_form hst
    have HNx := Lib.hid (And.intro no1 (And.intro no2 nar))
    have HSt : Hid (stepV x y (evK x y t k) n = stepV x y (evK x y t k) (t.getD k Tm.trueN)) := by rw [List.getD_eq_getElem?_getD, hn]; rfl
    have HSo := Lib.hid (stepV_i64 (x := x) HY.out HI.out hno)
    have HNo := Lib.hid hno
    clear hn hst hno no1 no2 nar
    obtain ⟨W1, hW1⟩ : ∃ W1, W1 = wo.alloc (.cells #[.int .i8 n.op, .int .i8 n.len, .int .i64 n.a0, .int .i64 n.a1, .int .i64 n.a2, .int .i64 n.sort, .int .i64 n.fn, .int .i64 n.num] 47) := ⟨_, rfl⟩
    have hb1 : Below wo.heap.size wo W1 := by rw [hW1]; exact (Below.refl _ wo).alloc (Nat.le_refl _) _
    have hn1 : W1.heap[wo.heap.size]? = some (.cells #[.int .i8 n.op, .int .i8 n.len, .int .i64 n.a0, .int .i64 n.a1, .int .i64 n.a2, .int .i64 n.sort, .int .i64 n.fn, .int .i64 n.num] 47 (0, 0)) := by rw [hW1]; exact heap_alloc_new wo _
    have HK1 : Hid (∀ V, Below W1.heap.size W1 V → V.cell? ⟨wo.heap.size, 0, none⟩ = some (.int .i8 n.op) ∧ V.cell? ⟨wo.heap.size, 1, none⟩ = some (.int .i8 n.len) ∧ V.cell? ⟨wo.heap.size, 2, none⟩ = some (.int .i64 n.a0) ∧ V.cell? ⟨wo.heap.size, 3, none⟩ = some (.int .i64 n.a1) ∧ V.cell? ⟨wo.heap.size, 4, none⟩ = some (.int .i64 n.a2) ∧ V.cell? ⟨wo.heap.size, 5, none⟩ = some (.int .i64 n.sort) ∧ V.cell? ⟨wo.heap.size, 6, none⟩ = some (.int .i64 n.fn) ∧ V.cell? ⟨wo.heap.size, 7, none⟩ = some (.int .i64 n.num) ∧ wo.heap.size < V.heap.size) := fun V hV => by
      have h := (hV.block _ (Array.getElem?_eq_some_iff.1 hn1).1).trans hn1
      exact ⟨(cell_of_row _ _ 0 _ _ _ h).trans rfl, (cell_of_row _ _ 1 _ _ _ h).trans rfl, (cell_of_row _ _ 2 _ _ _ h).trans rfl, (cell_of_row _ _ 3 _ _ _ h).trans rfl, (cell_of_row _ _ 4 _ _ _ h).trans rfl, (cell_of_row _ _ 5 _ _ _ h).trans rfl, (cell_of_row _ _ 6 _ _ _ h).trans rfl, (cell_of_row _ _ 7 _ _ _ h).trans rfl, (Array.getElem?_eq_some_iff.1 h).1⟩
    have HB1' := Lib.hid hb1
    have HBr : Hid (∀ V, Below W1.heap.size W1 V → Below wo.heap.size wo V) := fun V hV => hb1.trans (hV.mono hb1.size)
    have HLa : Hid (∀ i : Nat, i < k → ∃ gl ol : Nat, la = some ⟨gl, ol, none⟩ ∧ Hid (∀ V, Below W1.heap.size W1 V → gl < V.heap.size ∧ V.cell? ⟨gl, ol + i, none⟩ = some (.int .i64 (atV (evK x y t k) i).1))) := fun i hi => by
      obtain ⟨gl, ol, e, h⟩ := own_elem (f := valL) HL.out valL_len (i := i) (p := atV (evK x y t k) i) (atV_get (by rw [evK_len]; exact hi)) rfl
      exact ⟨gl, ol, e, fun V hV => h V (HBr.out V hV)⟩
    have HOa : Hid (∀ i : Nat, i < k → ∃ gl ol : Nat, oa = some ⟨gl, ol, none⟩ ∧ Hid (∀ V, Below W1.heap.size W1 V → gl < V.heap.size ∧ V.cell? ⟨gl, ol + i, none⟩ = some (.bool (atV (evK x y t k) i).2))) := fun i hi => by
      obtain ⟨gl, ol, e, h⟩ := own_elem (f := bitL) HO.out bitL_len (i := i) (p := atV (evK x y t k) i) (atV_get (by rw [evK_len]; exact hi)) rfl
      exact ⟨gl, ol, e, fun V hV => h V (HBr.out V hV)⟩
    clear hn1 hb1
    go_wp2_with fail
    rw [← hW1]
    clear hW1 c0 c1 c2 y0 y1 t0 m0 m1 m2 m3 m4 m5 m6 m7
    go_loopw [13, 14, 15] (fun v bd i V => ∃ (j : Nat) (va : Option Addr) (vc : Nat), (j : Int) ≤ n.len ∧ i = .int .i64 j ∧ bd = .bool (badV (evK x y t k) n j) ∧ v = .slice va j vc ∧ Hid (Below W1.heap.size W1 V) ∧ Hid (V.ownsRow W1.heap.size 3 1 (.slice va j vc) j ((argsV (evK x y t k) n j).flatMap numL))) (fun _ _ i _ => n.len.toNat - (intOf i).toNat)
    case atStart => exact ⟨0, none, 0, nl, rfl, rfl, rfl, Below.refl _ _, World.ownsRow_nil _ _ _ _⟩
    case round =>
      obtain ⟨j, va, vc, hj, rfl, rfl, rfl, HV, HR⟩ := hrel
      obtain ⟨n0, n1, n2, n3, n4, n5, n6, n7, zn⟩ := HK1.out _ HV.out
      by_cases hjl : (j : Int) < n.len
      · obtain ⟨al, ah⟩ := HIn.out j hjl
        obtain ⟨i, hi⟩ : ∃ i : Nat, argN n j = (i : Int) := ⟨(argN n j).toNat, by omega⟩
        have hik : i < k := by omega
        obtain ⟨gl, ol, rfl, HGl⟩ := HLa.out i hik
        obtain ⟨go, oo, rfl, HGo⟩ := HOa.out i hik
        obtain ⟨hgl, hvl⟩ := HGl.out _ HV.out
        obtain ⟨hgo, hvo⟩ := HGo.out _ HV.out
        have hii : (i : Int) < (k : Int) := by omega
        have hi0 : (0 : Int) ≤ (i : Int) := by omega
        have HAi : Hid (argN n j = (i : Int)) := hi
        have hrow : wr.ownsRow W1.heap.size 3 1 (.slice va j vc) j ((argsV (evK x y t k) n j).flatMap numL) := HR.out
        have hc : j = 0 ∨ j = 1 ∨ j = 2 := by omega
        rcases hc with rfl | rfl | rfl
        · have ha0 : n.a0 = (i : Int) := hi
          have HA0 := Lib.hid ha0
          rw [ha0] at n2
          clear ha0 hi
          try simp only [Nat.cast_ofNat_Int] at hjl
          cases hbad : badV (evK x y t k) n 0 with
          | true =>
            have HBn : Hid (true = badV (evK x y t k) n (0 + 1)) := by show _ = (badV _ _ _ || _); rw [hbad]; rfl
            clear hbad
            go_wp2_with (at_builtin; refine wpList_append_lies _ rfl _ _ 27 rfl W1.heap.size 3 i0 _ 1 8 Tryz.underlying27 hi_ hz0 hz1 hz2 rfl (by decide) (Value.slice va 0 vc) 0 ((argsV (evK x y t k) n 0).flatMap numL) (by rfl) (hrow.alloc _) ⟨wr.heap.size, 0, none⟩ 1 1 [.int .i64 (atV (evK x y t k) i).1] (by rfl) rfl (World.news_of_block (B := wr.heap.size) (cs := #[.int .i64 (atV (evK x y t k) i).1]) (t := 3) (fr := (0, 0)) (heap_alloc_new wr _)) (by simp [Value.oneCell']) (by omega) (by simp only [maxLen]; omega) (by omega) (by have := HV.out.size; simp; omega) _ rfl ?_; intro g9 c9 w9 hown9 hgrow9 hat9 hlt9; have HB9 := Lib.hid (below_push' (Nat.le_refl _) HV.out hrow hgrow9); have HO9 := Lib.hid hown9; clear hown9 hgrow9 hat9 n0 n1 n2 n3 n4 n5 n6 n7 zn hvl hgl hvo hgo; obtain ⟨n0, n1, n2, n3, n4, n5, n6, n7, zn⟩ := HK1.out _ HB9.out; obtain ⟨hgo, hvo⟩ := HGo.out _ HB9.out; rw [HA0.out] at n2)
            go_roundw
            case rel => exact ⟨0 + 1, some ⟨g9, 0, none⟩, c9, by omega, by go_num, by rw [← HBn.out], rfl, HB9, by rw [badV_args, HAi.out]; exact HO9.out⟩
            case measure => first | (simp [intOf]; done) | (simp [intOf]; omega)
          | false =>
            have HBn : Hid ((atV (evK x y t k) i).2 = badV (evK x y t k) n (0 + 1)) := by show _ = (badV _ _ _ || (atV _ (argN n 0)).2); rw [hbad, HAi.out]; rfl
            clear hbad
            go_wp2_with (at_builtin; refine wpList_append_lies _ rfl _ _ 27 rfl W1.heap.size 3 i0 _ 1 8 Tryz.underlying27 hi_ hz0 hz1 hz2 rfl (by decide) (Value.slice va 0 vc) 0 ((argsV (evK x y t k) n 0).flatMap numL) (by rfl) (hrow.alloc _) ⟨wr.heap.size, 0, none⟩ 1 1 [.int .i64 (atV (evK x y t k) i).1] (by rfl) rfl (World.news_of_block (B := wr.heap.size) (cs := #[.int .i64 (atV (evK x y t k) i).1]) (t := 3) (fr := (0, 0)) (heap_alloc_new wr _)) (by simp [Value.oneCell']) (by omega) (by simp only [maxLen]; omega) (by omega) (by have := HV.out.size; simp; omega) _ rfl ?_; intro g9 c9 w9 hown9 hgrow9 hat9 hlt9; have HB9 := Lib.hid (below_push' (Nat.le_refl _) HV.out hrow hgrow9); have HO9 := Lib.hid hown9; clear hown9 hgrow9 hat9 n0 n1 n2 n3 n4 n5 n6 n7 zn hvl hgl hvo hgo; obtain ⟨n0, n1, n2, n3, n4, n5, n6, n7, zn⟩ := HK1.out _ HB9.out; obtain ⟨hgo, hvo⟩ := HGo.out _ HB9.out; rw [HA0.out] at n2)
            go_roundw
            case rel => exact ⟨0 + 1, some ⟨g9, 0, none⟩, c9, by omega, by go_num, by rw [← HBn.out], rfl, HB9, by rw [badV_args, HAi.out]; exact HO9.out⟩
            case measure => first | (simp [intOf]; done) | (simp [intOf]; omega)
        · have ha0 : n.a1 = (i : Int) := hi
          have HA0 := Lib.hid ha0
          rw [ha0] at n3
          clear ha0 hi
          try simp only [Nat.cast_ofNat_Int] at hjl
          cases hbad : badV (evK x y t k) n 1 with
          | true =>
            have HBn : Hid (true = badV (evK x y t k) n (1 + 1)) := by show _ = (badV _ _ _ || _); rw [hbad]; rfl
            clear hbad
            go_wp2_with (at_builtin; refine wpList_append_lies _ rfl _ _ 27 rfl W1.heap.size 3 i0 _ 1 8 Tryz.underlying27 hi_ hz0 hz1 hz2 rfl (by decide) (Value.slice va 1 vc) 1 ((argsV (evK x y t k) n 1).flatMap numL) (by rfl) (hrow.alloc _) ⟨wr.heap.size, 0, none⟩ 1 1 [.int .i64 (atV (evK x y t k) i).1] (by rfl) rfl (World.news_of_block (B := wr.heap.size) (cs := #[.int .i64 (atV (evK x y t k) i).1]) (t := 3) (fr := (0, 0)) (heap_alloc_new wr _)) (by simp [Value.oneCell']) (by omega) (by simp only [maxLen]; omega) (by omega) (by have := HV.out.size; simp; omega) _ rfl ?_; intro g9 c9 w9 hown9 hgrow9 hat9 hlt9; have HB9 := Lib.hid (below_push' (Nat.le_refl _) HV.out hrow hgrow9); have HO9 := Lib.hid hown9; clear hown9 hgrow9 hat9 n0 n1 n2 n3 n4 n5 n6 n7 zn hvl hgl hvo hgo; obtain ⟨n0, n1, n2, n3, n4, n5, n6, n7, zn⟩ := HK1.out _ HB9.out; obtain ⟨hgo, hvo⟩ := HGo.out _ HB9.out; rw [HA0.out] at n3)
            go_roundw
            case rel => exact ⟨1 + 1, some ⟨g9, 0, none⟩, c9, by omega, by go_num, by rw [← HBn.out], rfl, HB9, by rw [badV_args, HAi.out]; exact HO9.out⟩
            case measure => first | (simp [intOf]; done) | (simp [intOf]; omega)
          | false =>
            have HBn : Hid ((atV (evK x y t k) i).2 = badV (evK x y t k) n (1 + 1)) := by show _ = (badV _ _ _ || (atV _ (argN n 1)).2); rw [hbad, HAi.out]; rfl
            clear hbad
            go_wp2_with (at_builtin; refine wpList_append_lies _ rfl _ _ 27 rfl W1.heap.size 3 i0 _ 1 8 Tryz.underlying27 hi_ hz0 hz1 hz2 rfl (by decide) (Value.slice va 1 vc) 1 ((argsV (evK x y t k) n 1).flatMap numL) (by rfl) (hrow.alloc _) ⟨wr.heap.size, 0, none⟩ 1 1 [.int .i64 (atV (evK x y t k) i).1] (by rfl) rfl (World.news_of_block (B := wr.heap.size) (cs := #[.int .i64 (atV (evK x y t k) i).1]) (t := 3) (fr := (0, 0)) (heap_alloc_new wr _)) (by simp [Value.oneCell']) (by omega) (by simp only [maxLen]; omega) (by omega) (by have := HV.out.size; simp; omega) _ rfl ?_; intro g9 c9 w9 hown9 hgrow9 hat9 hlt9; have HB9 := Lib.hid (below_push' (Nat.le_refl _) HV.out hrow hgrow9); have HO9 := Lib.hid hown9; clear hown9 hgrow9 hat9 n0 n1 n2 n3 n4 n5 n6 n7 zn hvl hgl hvo hgo; obtain ⟨n0, n1, n2, n3, n4, n5, n6, n7, zn⟩ := HK1.out _ HB9.out; obtain ⟨hgo, hvo⟩ := HGo.out _ HB9.out; rw [HA0.out] at n3)
            go_roundw
            case rel => exact ⟨1 + 1, some ⟨g9, 0, none⟩, c9, by omega, by go_num, by rw [← HBn.out], rfl, HB9, by rw [badV_args, HAi.out]; exact HO9.out⟩
            case measure => first | (simp [intOf]; done) | (simp [intOf]; omega)
        · have ha0 : n.a2 = (i : Int) := hi
          have HA0 := Lib.hid ha0
          rw [ha0] at n4
          clear ha0 hi
          try simp only [Nat.cast_ofNat_Int] at hjl
          cases hbad : badV (evK x y t k) n 2 with
          | true =>
            have HBn : Hid (true = badV (evK x y t k) n (2 + 1)) := by show _ = (badV _ _ _ || _); rw [hbad]; rfl
            clear hbad
            go_wp2_with (at_builtin; refine wpList_append_lies _ rfl _ _ 27 rfl W1.heap.size 3 i0 _ 1 8 Tryz.underlying27 hi_ hz0 hz1 hz2 rfl (by decide) (Value.slice va 2 vc) 2 ((argsV (evK x y t k) n 2).flatMap numL) (by rfl) (hrow.alloc _) ⟨wr.heap.size, 0, none⟩ 1 1 [.int .i64 (atV (evK x y t k) i).1] (by rfl) rfl (World.news_of_block (B := wr.heap.size) (cs := #[.int .i64 (atV (evK x y t k) i).1]) (t := 3) (fr := (0, 0)) (heap_alloc_new wr _)) (by simp [Value.oneCell']) (by omega) (by simp only [maxLen]; omega) (by omega) (by have := HV.out.size; simp; omega) _ rfl ?_; intro g9 c9 w9 hown9 hgrow9 hat9 hlt9; have HB9 := Lib.hid (below_push' (Nat.le_refl _) HV.out hrow hgrow9); have HO9 := Lib.hid hown9; clear hown9 hgrow9 hat9 n0 n1 n2 n3 n4 n5 n6 n7 zn hvl hgl hvo hgo; obtain ⟨n0, n1, n2, n3, n4, n5, n6, n7, zn⟩ := HK1.out _ HB9.out; obtain ⟨hgo, hvo⟩ := HGo.out _ HB9.out; rw [HA0.out] at n4)
            go_roundw
            case rel => exact ⟨2 + 1, some ⟨g9, 0, none⟩, c9, by omega, by go_num, by rw [← HBn.out], rfl, HB9, by rw [badV_args, HAi.out]; exact HO9.out⟩
            case measure => first | (simp [intOf]; done) | (simp [intOf]; omega)
          | false =>
            have HBn : Hid ((atV (evK x y t k) i).2 = badV (evK x y t k) n (2 + 1)) := by show _ = (badV _ _ _ || (atV _ (argN n 2)).2); rw [hbad, HAi.out]; rfl
            clear hbad
            go_wp2_with (at_builtin; refine wpList_append_lies _ rfl _ _ 27 rfl W1.heap.size 3 i0 _ 1 8 Tryz.underlying27 hi_ hz0 hz1 hz2 rfl (by decide) (Value.slice va 2 vc) 2 ((argsV (evK x y t k) n 2).flatMap numL) (by rfl) (hrow.alloc _) ⟨wr.heap.size, 0, none⟩ 1 1 [.int .i64 (atV (evK x y t k) i).1] (by rfl) rfl (World.news_of_block (B := wr.heap.size) (cs := #[.int .i64 (atV (evK x y t k) i).1]) (t := 3) (fr := (0, 0)) (heap_alloc_new wr _)) (by simp [Value.oneCell']) (by omega) (by simp only [maxLen]; omega) (by omega) (by have := HV.out.size; simp; omega) _ rfl ?_; intro g9 c9 w9 hown9 hgrow9 hat9 hlt9; have HB9 := Lib.hid (below_push' (Nat.le_refl _) HV.out hrow hgrow9); have HO9 := Lib.hid hown9; clear hown9 hgrow9 hat9 n0 n1 n2 n3 n4 n5 n6 n7 zn hvl hgl hvo hgo; obtain ⟨n0, n1, n2, n3, n4, n5, n6, n7, zn⟩ := HK1.out _ HB9.out; obtain ⟨hgo, hvo⟩ := HGo.out _ HB9.out; rw [HA0.out] at n4)
            go_roundw
            case rel => exact ⟨2 + 1, some ⟨g9, 0, none⟩, c9, by omega, by go_num, by rw [← HBn.out], rfl, HB9, by rw [badV_args, HAi.out]; exact HO9.out⟩
            case measure => first | (simp [intOf]; done) | (simp [intOf]; omega)
      · have hnj : n.len = (j : Int) := by omega
        have hnk : n.len.toNat = j := by omega
        have hSl : (argsV (evK x y t k) n j).length = j := by unfold argsV; rw [List.length_map, List.length_range]
        have HBv := Lib.hid (HBr.out _ HV.out)
        have HBt : Hid (∀ U, Below wr.heap.size wr U → Below wo.heap.size wo U) := fun U hU => HBv.out.trans (hU.mono HBv.out.size)
        obtain ⟨c0, c1, c2, y0, y1, t0, z0⟩ := HK.out _ (HB.out.trans (HBv.out.mono HB.out.size))
        cases hbad : badV (evK x y t k) n j with
        | true =>
          have HS9 : Hid (stepV x y (evK x y t k) n = (0, true)) := by show stepV _ _ _ _ = _; unfold stepV; rw [hnk, hbad]; rfl
          clear hbad hnk hnj hSl
          have hl9 := Tm.own_heap HL.out (fun k _ hk => (HBv.out).block k hk)
          have ho9 := Tm.own_heap HO.out (fun k _ hk => (HBv.out).block k hk)
          have HBV : Hid (Below W0.heap.size W0 wr) := HB.out.trans ((HBv.out).mono HB.out.size)
          have hzV : W0.heap.size ≤ wr.heap.size := HBV.out.size
          go_wp2_with (first | (at_builtin; refine wpList_append_lies _ rfl _ _ 27 rfl W0.heap.size 3 i0 _ 1 8 Tryz.underlying27 hi_ hz0 hz1 hz2 rfl (by decide) (Value.slice la k lc) k ((evK x y t k).flatMap valL) (by rfl) (hl9.alloc _) ⟨wr.heap.size, 0, none⟩ 1 1 [.int .i64 0] (by rfl) rfl (World.news_of_block (B := wr.heap.size) (cs := #[.int .i64 0]) (t := 3) (fr := (0, 0)) (heap_alloc_new wr _)) (by simp [Value.oneCell']) (by omega) (by simp only [maxLen]; omega) (by omega) (by simp; omega) _ rfl ?_; intro g8 c8 w8 hown8 hgrow8 hat8 hlt8; have HB8 := Lib.hid (below_push' (Nat.le_refl _) HBV.out hl9 hgrow8); have ho8 := own_by ho9 hl9 ty_ib.symm hgrow8; clear hgrow8 hat8 hl9 ho9) | (at_builtin; refine wpList_append_lies _ rfl _ _ 38 rfl W0.heap.size 4 b0 _ 1 1 Tryz.underlying38 hbi_ hbz0 hbz1 hbz2 rfl (by decide) (Value.slice oa k oc) k ((evK x y t k).flatMap bitL) (by rfl) (ho8.alloc _) ⟨w8.heap.size, 0, none⟩ 1 1 [.bool true] (by rfl) rfl (World.news_of_block (B := w8.heap.size) (cs := #[.bool true]) (t := 4) (fr := (0, 0)) (heap_alloc_new w8 _)) (by simp [Value.oneCell']) (by omega) (by simp only [maxLen]; omega) (by omega) (by have := HB8.out.size; simp; omega) _ rfl ?_; intro g9 c9 w9 hown9 hgrow9 hat9 hlt9; have HB9 := Lib.hid (below_push' (Nat.le_refl _) HB8.out ho8 hgrow9); have HL9 := Lib.hid (own_by hown8 ho8 ty_ib hgrow9); have HO9 := Lib.hid hown9; clear hgrow9 hat9 hown8 hown9 ho8))
          go_roundw
          case rel =>
            obtain ⟨e1, e2, e3⟩ := evK_row HSt.out HS9.out
            exact ⟨k + 1, some ⟨g8, 0, none⟩, c8, some ⟨g9, 0, none⟩, c9, by omega, by go_num, rfl, rfl, HB9, fun q hq => e3 q (HI.out q) (by have h := HSo.out; rw [HS9.out] at h; exact h) hq, by rw [e1]; exact HL9.out, by rw [e2]; exact HO9.out⟩
          case measure => simp [intOf]; omega
        | false =>
          obtain ⟨X, q, hr⟩ : ∃ X q, ndV x y n (argsV (evK x y t k) n j) = (X, q) := ⟨_, _, rfl⟩
          obtain ⟨_, _, hat⟩ := own_to HR.out
          have hvo : ∀ a ∈ argsV (evK x y t k) n j, I64 a := fun a ha => by
            unfold argsV at ha
            obtain ⟨b, _, rfl⟩ := List.mem_map.1 ha
            unfold atV
            cases e : (evK x y t k)[(argN n b).toNat]? with
            | none => exact ⟨by decide, by decide⟩
            | some p => exact HI.out p (List.mem_of_getElem? e)
          have h := value_any x y n (argsV (evK x y t k) n j) va vc X q wr (HX.out.below (HBw.out.trans (HBv.out.mono HBw.out.size))) (HY.out.below (HBw.out.trans (HBv.out.mono HBw.out.size))) HNo.out hat hvo (by omega) ⟨HNx.out.1, HNx.out.2.1⟩ (by rw [hSl]; have := HNx.out.2.2; omega) hr
          rw [hSl] at h
          have HC := Lib.hid h
          clear h hat hvo
          cases q with
          | true =>
            have HS9 : Hid (stepV x y (evK x y t k) n = (X, false)) := by show stepV _ _ _ _ = _; unfold stepV; rw [hnk, hbad, hr]; rfl
            clear hbad hnk hnj hSl hr
            go_wp2_with (first | (go_at_call 32; refine HC.out.mono ?_; rintro e w7 ⟨rfl, hb7⟩; have HB7 := Lib.hid (HBt.out _ hb7); clear hb7 c0 c1 c2 y0 y1 t0 z0 n0 n1 n2 n3 n4 n5 n6 n7 zn; have hl9 := Tm.own_heap HL.out (fun k _ hk => (HB7.out).block k hk); have ho9 := Tm.own_heap HO.out (fun k _ hk => (HB7.out).block k hk); have HBV : Hid (Below W0.heap.size W0 w7) := HB.out.trans ((HB7.out).mono HB.out.size); have hzV : W0.heap.size ≤ w7.heap.size := HBV.out.size) | (at_builtin; refine wpList_append_lies _ rfl _ _ 27 rfl W0.heap.size 3 i0 _ 1 8 Tryz.underlying27 hi_ hz0 hz1 hz2 rfl (by decide) (Value.slice la k lc) k ((evK x y t k).flatMap valL) (by rfl) (hl9.alloc _) ⟨w7.heap.size, 0, none⟩ 1 1 [.int .i64 X] (by rfl) rfl (World.news_of_block (B := w7.heap.size) (cs := #[.int .i64 X]) (t := 3) (fr := (0, 0)) (heap_alloc_new w7 _)) (by simp [Value.oneCell']) (by omega) (by simp only [maxLen]; omega) (by omega) (by simp; omega) _ rfl ?_; intro g8 c8 w8 hown8 hgrow8 hat8 hlt8; have HB8 := Lib.hid (below_push' (Nat.le_refl _) HBV.out hl9 hgrow8); have ho8 := own_by ho9 hl9 ty_ib.symm hgrow8; clear hgrow8 hat8 hl9 ho9) | (at_builtin; refine wpList_append_lies _ rfl _ _ 38 rfl W0.heap.size 4 b0 _ 1 1 Tryz.underlying38 hbi_ hbz0 hbz1 hbz2 rfl (by decide) (Value.slice oa k oc) k ((evK x y t k).flatMap bitL) (by rfl) (ho8.alloc _) ⟨w8.heap.size, 0, none⟩ 1 1 [.bool false] (by rfl) rfl (World.news_of_block (B := w8.heap.size) (cs := #[.bool false]) (t := 4) (fr := (0, 0)) (heap_alloc_new w8 _)) (by simp [Value.oneCell']) (by omega) (by simp only [maxLen]; omega) (by omega) (by have := HB8.out.size; simp; omega) _ rfl ?_; intro g9 c9 w9 hown9 hgrow9 hat9 hlt9; have HB9 := Lib.hid (below_push' (Nat.le_refl _) HB8.out ho8 hgrow9); have HL9 := Lib.hid (own_by hown8 ho8 ty_ib hgrow9); have HO9 := Lib.hid hown9; clear hgrow9 hat9 hown8 hown9 ho8))
            go_roundw
            case rel =>
              obtain ⟨e1, e2, e3⟩ := evK_row HSt.out HS9.out
              exact ⟨k + 1, some ⟨g8, 0, none⟩, c8, some ⟨g9, 0, none⟩, c9, by omega, by go_num, rfl, rfl, HB9, fun q hq => e3 q (HI.out q) (by have h := HSo.out; rw [HS9.out] at h; exact h) hq, by rw [e1]; exact HL9.out, by rw [e2]; exact HO9.out⟩
            case measure => simp [intOf]; omega
          | false =>
            have HS9 : Hid (stepV x y (evK x y t k) n = (0, true)) := by show stepV _ _ _ _ = _; unfold stepV; rw [hnk, hbad, hr]; rfl
            clear hbad hnk hnj hSl hr
            go_wp2_with (first | (go_at_call 32; refine HC.out.mono ?_; rintro e w7 ⟨rfl, hb7⟩; have HB7 := Lib.hid (HBt.out _ hb7); clear hb7 c0 c1 c2 y0 y1 t0 z0 n0 n1 n2 n3 n4 n5 n6 n7 zn; have hl9 := Tm.own_heap HL.out (fun k _ hk => (HB7.out).block k hk); have ho9 := Tm.own_heap HO.out (fun k _ hk => (HB7.out).block k hk); have HBV : Hid (Below W0.heap.size W0 w7) := HB.out.trans ((HB7.out).mono HB.out.size); have hzV : W0.heap.size ≤ w7.heap.size := HBV.out.size) | (at_builtin; refine wpList_append_lies _ rfl _ _ 27 rfl W0.heap.size 3 i0 _ 1 8 Tryz.underlying27 hi_ hz0 hz1 hz2 rfl (by decide) (Value.slice la k lc) k ((evK x y t k).flatMap valL) (by rfl) (hl9.alloc _) ⟨w7.heap.size, 0, none⟩ 1 1 [.int .i64 0] (by rfl) rfl (World.news_of_block (B := w7.heap.size) (cs := #[.int .i64 0]) (t := 3) (fr := (0, 0)) (heap_alloc_new w7 _)) (by simp [Value.oneCell']) (by omega) (by simp only [maxLen]; omega) (by omega) (by simp; omega) _ rfl ?_; intro g8 c8 w8 hown8 hgrow8 hat8 hlt8; have HB8 := Lib.hid (below_push' (Nat.le_refl _) HBV.out hl9 hgrow8); have ho8 := own_by ho9 hl9 ty_ib.symm hgrow8; clear hgrow8 hat8 hl9 ho9) | (at_builtin; refine wpList_append_lies _ rfl _ _ 38 rfl W0.heap.size 4 b0 _ 1 1 Tryz.underlying38 hbi_ hbz0 hbz1 hbz2 rfl (by decide) (Value.slice oa k oc) k ((evK x y t k).flatMap bitL) (by rfl) (ho8.alloc _) ⟨w8.heap.size, 0, none⟩ 1 1 [.bool true] (by rfl) rfl (World.news_of_block (B := w8.heap.size) (cs := #[.bool true]) (t := 4) (fr := (0, 0)) (heap_alloc_new w8 _)) (by simp [Value.oneCell']) (by omega) (by simp only [maxLen]; omega) (by omega) (by have := HB8.out.size; simp; omega) _ rfl ?_; intro g9 c9 w9 hown9 hgrow9 hat9 hlt9; have HB9 := Lib.hid (below_push' (Nat.le_refl _) HB8.out ho8 hgrow9); have HL9 := Lib.hid (own_by hown8 ho8 ty_ib hgrow9); have HO9 := Lib.hid hown9; clear hgrow9 hat9 hown8 hown9 ho8))
            go_roundw
            case rel =>
              obtain ⟨e1, e2, e3⟩ := evK_row HSt.out HS9.out
              exact ⟨k + 1, some ⟨g8, 0, none⟩, c8, some ⟨g9, 0, none⟩, c9, by omega, by go_num, rfl, rfl, HB9, fun q hq => e3 q (HI.out q) (by have h := HSo.out; rw [HS9.out] at h; exact h) hq, by rw [e1]; exact HL9.out, by rw [e2]; exact HO9.out⟩
            case measure => simp [intOf]; omega
end Go.Proofs.YtfbjgadgfjnamaaGreatDoor
namespace Go.Proofs.YtfbjgadgfjnamaaGreatDoor
open Go.RowKit
open Tm (NodeA NodeOk TabR mayT okFrom standsB)
set_option linter.unusedVariables false
theorem Tm.may_in {n : Int} (h : mayB n = true) : -4611686018427387904 ≤ n ∧ n ≤ 4611686018427387904 := mayB_true.1 h
theorem stepV_ext {x : SigV} {y : WorV} {L M : List (Int × Bool)} {n : NodeA} (hl : 0 ≤ n.len) (h : ∀ j : Nat, (j : Int) < n.len → atV L (argN n j) = atV M (argN n j)) : stepV x y L n = stepV x y M n := by
  have hb : ∀ k : Nat, (k : Int) ≤ n.len → badV L n k = badV M n k := by
    intro k
    induction k with
    | zero => intro _; rfl
    | succ k ih =>
      intro hk
      show (badV L n k || _) = (badV M n k || _)
      rw [ih (by omega), h k (by omega)]
  have ha : argsV L n n.len.toNat = argsV M n n.len.toNat := by
    unfold argsV
    apply List.map_congr_left
    intro j hj
    rw [h j (by have := List.mem_range.1 hj; omega)]
  unfold stepV
  rw [hb _ (by omega), ha]
/-- Values, in a table and an interpretation that may be. -/
structure Vals (x : SigV) (y : WorV) (t : List NodeA) (E : List (Int × Bool)) : Prop where
  may : mayT t = true
  wor : worQ x y = true
  row : ∀ (k : Nat) (n : NodeA), t[k]? = some n → rowT x t n = true
  len : E.length = t.length
  at_ : ∀ (k : Nat) (n : NodeA), t[k]? = some n → atV E (k : Int) = stepV x y E n
theorem vals_of {x : SigV} {y : WorV} {t : List NodeA} (h : valE x y t = 0) : Vals x y t (evK x y t t.length) := by
  unfold valE at h
  by_cases hc : mayT t = true ∧ worQ x y = true
  · rw [if_pos hc] at h
    have ht : tabE x t = 0 := by
      by_cases h0 : tabE x t = 0
      · exact h0
      · rw [if_neg h0] at h; cases h
    have hrow : t.all (rowT x t) = true := by
      unfold tabE at ht
      by_cases h1 : checkQ x.a = true ∧ mayT t = true
      · rw [if_pos h1] at ht
        by_cases h2 : t.all (rowT x t) = true
        · exact h2
        · rw [if_neg h2] at ht; cases ht
      · rw [if_neg h1] at ht; cases ht
    refine ⟨hc.1, hc.2, fun k n hk => List.all_eq_true.1 hrow n (List.mem_of_getElem? hk), evK_len _ _ _ _, fun k n hk => ?_⟩
    have hlt := (List.getElem?_eq_some_iff.1 hk).1
    have hst := (Tm.ok_at (Tm.mayT_ok hc.1).2 hk).1
    have hf := stands_form hst
    have e : atV (evK x y t t.length) (k : Int) = stepV x y (evK x y t k) n := by
      unfold atV
      rw [Int.toNat_natCast, evK_get x y t hlt, List.getD_eq_getElem?_getD, hk]; rfl
    rw [e]
    refine stepV_ext hf.1 (fun j hj => ?_)
    obtain ⟨a0, a1⟩ := stands_arg hst j hj
    obtain ⟨i, hi⟩ : ∃ i : Nat, argN n j = (i : Int) := ⟨(argN n j).toNat, by omega⟩
    rw [hi]
    unfold atV
    rw [Int.toNat_natCast, evK_get x y t (by omega : i < k), evK_get x y t (by omega : i < t.length)]
  · rw [if_neg hc] at h; cases h
theorem badV_no {L : List (Int × Bool)} {n : NodeA} : ∀ {k : Nat}, badV L n k = false → ∀ j : Nat, j < k → (atV L (argN n j)).2 = false
  | 0, _, j, hj => absurd hj (Nat.not_lt_zero _)
  | k + 1, h, j, hj => by
    have h' : (badV L n k || (atV L (argN n k)).2) = false := h
    rw [Bool.or_eq_false_iff] at h'
    by_cases e : j = k
    · subst e; exact h'.2
    · exact badV_no h'.1 j (by omega)
/-- What a node that does not overflow has as its value. -/
structure Fine1 (x : SigV) (y : WorV) (E : List (Int × Bool)) (n : NodeA) (v : Int) : Prop where
  args : ∀ j : Nat, (j : Int) < n.len → (atV E (argN n j)).2 = false
  ok : (ndV x y n (argsV E n n.len.toNat)).2 = true
  val : v = (ndV x y n (argsV E n n.len.toNat)).1
theorem Vals.fine {x : SigV} {y : WorV} {t : List NodeA} {E : List (Int × Bool)} (h : Vals x y t E) {k : Nat} {n : NodeA} (hk : t[k]? = some n) (ho : (atV E (k : Int)).2 = false) : Fine1 x y E n (atV E (k : Int)).1 := by
  rw [h.at_ k n hk] at ho ⊢
  unfold stepV at ho ⊢
  by_cases hb : badV E n n.len.toNat = true
  · rw [if_pos hb] at ho; cases ho
  · rw [if_neg hb] at ho ⊢
    by_cases h2 : (ndV x y n (argsV E n n.len.toNat)).2 = true
    · rw [if_pos h2]
      exact ⟨fun j hj => badV_no (Bool.eq_false_iff.2 hb) j (by omega), h2, rfl⟩
    · rw [if_neg h2] at ho; cases ho
theorem argsV_get {E : List (Int × Bool)} {n : NodeA} {m j : Nat} (h : j < m) : (argsV E n m).getD j 0 = (atV E (argN n j)).1 := by
  unfold argsV
  rw [List.getD_eq_getElem?_getD, List.getElem?_map, List.getElem?_range h]; rfl
theorem sortsN_get {t : List NodeA} {n : NodeA} {j : Nat} (h : (j : Int) < n.len) : (sortsN t n).getD j 0 = srtN t (argN n j) := by
  unfold sortsN
  rw [List.getD_eq_getElem?_getD, List.getElem?_map, List.getElem?_range (by omega)]; rfl
theorem srtN_at {t : List NodeA} {k : Nat} {n : NodeA} (h : t[k]? = some n) : srtN t (k : Int) = n.sort := by
  unfold srtN
  rw [Int.toNat_natCast, h]; rfl
theorem worQ_sizes {x : SigV} {y : WorV} (h : worQ x y = true) : y.sizes.length = x.sorts.length := by
  unfold worQ at h
  simp only [Bool.and_eq_true, decide_eq_true_eq] at h
  exact h.2.1
theorem isB_bool {n : Nat} {z : List Int} (hz : z.length = n) (v : Int) : isB n z 0 v = decide (v = 0 ∨ v = 1) := by
  rw [isB_there hz (by decide) (by omega)]; rfl
theorem isB_int {n : Nat} {z : List Int} (hz : z.length = n) (v : Int) : isB n z 1 v = mayB v := by
  rw [isB_there hz (by decide) (by omega)]; rfl
theorem wrap_same {n : Int} (h : -9223372036854775808 ≤ n ∧ n ≤ 9223372036854775807) : wrap64 n = n := by unfold wrap64; omega
theorem bitN_is (q : Bool) : bitN q = 0 ∨ bitN q = 1 := by cases q <;> simp [bitN]
/-- The sort that the kind gives, and its arguments' sorts. -/
theorem op_sorts {op : Int} {l : List Int} (h : opE op l = 0) : (l.length : Int) = manyN op ∧ ∃ s, opO op l = some s ∧ opV op l = s := by
  have hh := h
  unfold opE at h
  by_cases h1 : manyN op < 0 ∨ ¬ (l.length : Int) = manyN op
  · rw [if_pos h1] at h; cases h
  rw [if_neg h1] at h
  by_cases h2 : l.any (fun s => decide (s < 0)) = true
  · rw [if_pos h2] at h; cases h
  rw [if_neg h2] at h
  by_cases h3 : (opO op l).isSome = true
  · obtain ⟨s, hs⟩ := Option.isSome_iff_exists.1 h3
    refine ⟨by omega, s, hs, ?_⟩
    unfold opV
    rw [if_pos hh, hs]; rfl
  · rw [if_neg h3] at h; cases h
theorem alike_at {l : List Int} {n s : Int} (h : alikeB l n s = true) {j : Nat} (hj : (j : Int) < n) : l.getD j 0 = s := by
  unfold alikeB at h
  simp only [Bool.and_eq_true, decide_eq_true_eq] at h
  have hlt : j < l.length := by omega
  rw [List.getD_eq_getElem?_getD, List.getElem?_eq_getElem hlt]
  have := List.all_eq_true.1 h.1 l[j] (List.getElem_mem hlt)
  simpa using this
theorem row_facts {x : SigV} {t : List NodeA} {n : NodeA} (h : rowT x t n = true) : rulE x t n = 0 ∧ rulV x t n = n.sort := by
  unfold rowT at h
  simp only [Bool.and_eq_true, decide_eq_true_eq] at h
  exact h
theorem seqQ_all {α : Type} {one : List α → α → Bool} {l : List α} (h : seqQ one [] l = true) {p : α} (hp : p ∈ l) : ∃ k, one (l.take k) p = true := by
  obtain ⟨k, hk⟩ := List.getElem?_of_mem hp
  exact ⟨k, seqQ_at h hk⟩
theorem zip_at {α β : Type} {l : List α} {m : List β} {k : Nat} {a : α} {b : β} (ha : l[k]? = some a) (hb : m[k]? = some b) : (a, b) ∈ l.zip m := by
  apply List.mem_of_getElem? (i := k)
  rw [List.getElem?_zip_eq_some]
  exact ⟨ha, hb⟩
theorem apply_is {x : SigV} {y : WorV} {f : Int} {l : List Int} (hw : worQ x y = true) (h : askE x y f l = 0) : isB x.sorts.length y.sizes (fnA x f).res (applyV x y f l) = true := by
  obtain ⟨_, f0, f1, _⟩ := askE_zero h
  have hl := worQ_len hw
  obtain ⟨k, rfl⟩ : ∃ k : Nat, f = k := ⟨f.toNat, by omega⟩
  have hk : k < x.funs.length := by omega
  have e1 : x.funs[k]? = some (fnA x k) := by unfold fnA; rw [Int.toNat_natCast, List.getElem?_eq_getElem hk]; rfl
  have e2 : y.funs[k]? = some (fvA y k) := by unfold fvA; rw [Int.toNat_natCast, List.getElem?_eq_getElem (by omega)]; rfl
  have hz : fvQ x.sorts.length y.sizes (fnA x k) (fvA y k) = true := by
    unfold worQ at hw
    simp only [Bool.and_eq_true] at hw
    exact List.all_eq_true.1 hw.2.2.2.2 _ (zip_at e1 e2)
  unfold fvQ at hz
  simp only [Bool.and_eq_true] at hz
  unfold applyV
  rw [if_pos h]
  unfold rowV
  cases hf : (fvA y k).rows.find? (fun s => sameA s ⟨l.getD 0 0, l.getD 1 0, l.getD 2 0, 0⟩) with
  | none => exact hz.2.1
  | some r =>
    obtain ⟨j, hj⟩ := seqQ_all hz.2.2 (List.mem_of_find?_eq_some hf)
    unfold oneR at hj
    simp only [Bool.and_eq_true] at hj
    exact hj.2.1
theorem max_bit {a b : Int} (ha : a = 0 ∨ a = 1) (hb : b = 0 ∨ b = 1) : max a b = 0 ∨ max a b = 1 := by
  rcases ha with rfl | rfl <;> rcases hb with rfl | rfl <;> decide
theorem mul_bit {a b : Int} (ha : a = 0 ∨ a = 1) (hb : b = 0 ∨ b = 1) : wrap64 (a * b) = 0 ∨ wrap64 (a * b) = 1 := by
  rcases ha with rfl | rfl <;> rcases hb with rfl | rfl <;> (unfold wrap64; omega)
theorem not_bit {a : Int} (ha : a = 0 ∨ a = 1) : wrap64 (1 - a) = 0 ∨ wrap64 (1 - a) = 1 := by
  rcases ha with rfl | rfl <;> (unfold wrap64; omega)
/-- The arguments of a node of those kinds are Bools. -/
theorem Vals.arg {x : SigV} {y : WorV} {t : List NodeA} {E : List (Int × Bool)} (h : Vals x y t E) {k : Nat} {n : NodeA} (hk : t[k]? = some n) {j : Nat} (hj : (j : Int) < n.len) : ∃ (i : Nat) (m : NodeA), argN n j = (i : Int) ∧ i < k ∧ t[i]? = some m ∧ srtN t (argN n j) = m.sort := by
  have hlt := (List.getElem?_eq_some_iff.1 hk).1
  have hst := (Tm.ok_at (Tm.mayT_ok h.may).2 hk).1
  obtain ⟨a0, a1⟩ := stands_arg hst j hj
  obtain ⟨i, hi⟩ : ∃ i : Nat, argN n j = (i : Int) := ⟨(argN n j).toNat, by omega⟩
  refine ⟨i, t[i]'(by omega), hi, by omega, List.getElem?_eq_getElem (by omega), ?_⟩
  rw [hi]
  exact srtN_at (List.getElem?_eq_getElem (by omega))
theorem fits_of {n : Nat} {z : List Int} {f : FunA} {b0 b1 b2 : Int} (h0 : (0 : Int) < f.len → isB n z f.a0 b0 = true) (z0 : ¬ (0 : Int) < f.len → b0 = 0) (h1 : (1 : Int) < f.len → isB n z f.a1 b1 = true) (z1 : ¬ (1 : Int) < f.len → b1 = 0) (h2 : (2 : Int) < f.len → isB n z f.a2 b2 = true) (z2 : ¬ (2 : Int) < f.len → b2 = 0) : fitB n z f b0 b1 b2 = true := by
  have one : ∀ (k : Nat) (b : Int), ((k : Int) < f.len → isB n z (argV f k) b = true) → (¬ (k : Int) < f.len → b = 0) → fitAt n z f b k = true := fun k b h z => by
    unfold fitAt
    by_cases hk : (k : Int) < f.len
    · rw [if_pos hk]; exact h hk
    · rw [if_neg hk]; exact decide_eq_true (z hk)
  unfold fitB
  rw [one 0 b0 h0 z0, one 1 b1 h1 z1, one 2 b2 h2 z2]; rfl
theorem num_may {n : NodeA} {k : Nat} (h : standsB n k = true) (ho : n.op = 10 ∨ n.op = 11 ∨ n.op = 12) : mayB n.num = true := by
  unfold Tm.standsB at h
  rw [decide_eq_true_eq] at h
  obtain ⟨⟨h0, h1, h2⟩, _⟩ := h
  rw [if_neg (by omega), if_pos ho] at h2
  exact h2.2.2
theorem argsV_len (E : List (Int × Bool)) (n : NodeA) (k : Nat) : (argsV E n k).length = k := by unfold argsV; rw [List.length_map, List.length_range]
theorem sortsN_len (t : List NodeA) (n : NodeA) : (sortsN t n).length = n.len.toNat := by unfold sortsN; rw [List.length_map, List.length_range]
/-- A node that does not overflow has a value of its sort. -/
theorem Vals.is {x : SigV} {y : WorV} {t : List NodeA} {E : List (Int × Bool)} (h : Vals x y t E) : ∀ (K k : Nat) (n : NodeA), k < K → t[k]? = some n → (atV E (k : Int)).2 = false → isB x.sorts.length y.sizes n.sort (atV E (k : Int)).1 = true
  | 0, k, n, hK, _, _ => absurd hK (Nat.not_lt_zero _)
  | K + 1, k, n, hK, hk, ho => by
    have hst := (Tm.ok_at (Tm.mayT_ok h.may).2 hk).1
    have hf := stands_form hst
    obtain ⟨fa, fo, fv⟩ := h.fine hk ho
    obtain ⟨r0, r1⟩ := row_facts (h.row k n hk)
    have hz := worQ_sizes h.wor
    have IH : ∀ j : Nat, (j : Int) < n.len → isB x.sorts.length y.sizes (srtN t (argN n j)) ((argsV E n n.len.toNat).getD j 0) = true := fun j hj => by
      obtain ⟨i, m, e1, e2, e3, e4⟩ := h.arg hk hj
      rw [argsV_get (by omega), e4, e1]
      exact Vals.is h K i m (by omega) e3 (by have := fa j hj; rw [e1] at this; exact this)
    rw [fv]
    by_cases h13 : n.op = 13
    · have e : ndV x y n (argsV E n n.len.toNat) = (applyV x y n.fn (argsV E n n.len.toNat), true) := by unfold ndV; rw [h13]; rfl
      rw [e]
      unfold rulE at r0
      unfold rulV at r1
      rw [if_pos h13] at r0 r1
      have ha : appE x n.fn (sortsN t n) = 0 := by
        by_cases hh : appE x n.fn (sortsN t n) = 0
        · exact hh
        · rw [if_neg hh] at r0; cases r0
      have hs : (fnA x n.fn).res = n.sort := by
        unfold appV at r1
        rw [if_pos ha] at r1
        exact r1
      rw [← hs]
      refine apply_is h.wor ?_
      unfold appE at ha
      by_cases hc : checkQ x.a = true ∧ 0 ≤ n.fn ∧ n.fn < (x.funs.length : Int) ∧ ((sortsN t n).length : Int) = (fnA x n.fn).len
      · rw [if_pos hc] at ha
        obtain ⟨_, c1, c2, c3⟩ := hc
        rw [sortsN_len] at c3
        have hab : argsB (fnA x n.fn) (sortsN t n) = true := by
          by_cases hh : argsB (fnA x n.fn) (sortsN t n) = true
          · exact hh
          · rw [if_neg hh] at ha; cases ha
        have hsr : ∀ j : Nat, (j : Int) < n.len → srtN t (argN n j) = argV (fnA x n.fn) j := fun j hj => by
          unfold argsB at hab
          have := List.all_eq_true.1 hab j (List.mem_range.2 (by rw [sortsN_len]; omega))
          rw [decide_eq_true_eq, sortsN_get hj] at this
          exact this
        unfold askE
        rw [if_pos ⟨h.wor, c1, c2, by rw [argsV_len]; exact c3⟩, if_pos]
        have one : ∀ j : Nat, (j : Int) < (fnA x n.fn).len → isB x.sorts.length y.sizes (argV (fnA x n.fn) j) ((argsV E n n.len.toNat).getD j 0) = true := fun j hj => by
          rw [← hsr j (by omega)]; exact IH j (by omega)
        have non : ∀ j : Nat, ¬ (j : Int) < (fnA x n.fn).len → (argsV E n n.len.toNat).getD j 0 = 0 := fun j hj => by
          rw [List.getD_eq_getElem?_getD, List.getElem?_eq_none (by rw [argsV_len]; omega)]; rfl
        exact fits_of (fun hj => one 0 hj) (fun hj => non 0 hj) (fun hj => one 1 hj) (fun hj => non 1 hj) (fun hj => one 2 hj) (fun hj => non 2 hj)
      · rw [if_neg hc] at ha; cases ha
    · unfold rulE at r0
      unfold rulV at r1
      rw [if_neg h13] at r0 r1
      obtain ⟨hm, s, hs, hs2⟩ := op_sorts r0
      rw [hs2] at r1
      subst r1
      rw [sortsN_len] at hm
      have g0 : (0 : Int) < n.len → (sortsN t n).getD 0 0 = srtN t (argN n 0) := fun h => sortsN_get h
      have g1 : (1 : Int) < n.len → (sortsN t n).getD 1 0 = srtN t (argN n 1) := fun h => sortsN_get h
      have g2 : (2 : Int) < n.len → (sortsN t n).getD 2 0 = srtN t (argN n 2) := fun h => sortsN_get h
      have hop : n.op = 0 ∨ n.op = 1 ∨ n.op = 2 ∨ n.op = 3 ∨ n.op = 4 ∨ n.op = 5 ∨ n.op = 6 ∨ n.op = 7 ∨ n.op = 8 ∨ n.op = 9 ∨ n.op = 10 ∨ n.op = 11 ∨ n.op = 12 := by omega
      have bool1 : ∀ j : Nat, (j : Int) < n.len → srtN t (argN n j) = 0 → (argsV E n n.len.toNat).getD j 0 = 0 ∨ (argsV E n n.len.toNat).getD j 0 = 1 := fun j hj hs => by
        have := IH j hj
        rw [hs, isB_bool hz, decide_eq_true_eq] at this
        exact this
      have int1 : ∀ j : Nat, (j : Int) < n.len → srtN t (argN n j) = 1 → mayB ((argsV E n n.len.toNat).getD j 0) = true := fun j hj hs => by
        have := IH j hj
        rw [hs, isB_int hz] at this
        exact this
      unfold ndV at fo ⊢
      rcases hop with ho' | ho' | ho' | ho' | ho' | ho' | ho' | ho' | ho' | ho' | ho' | ho' | ho' <;> rw [ho'] at hs fo ⊢ hm <;> simp only [opO, Option.some.injEq, Int.reduceEq, or_self, or_false, or_true, ite_false, ite_true] at hs fo ⊢
      · rw [← hs, isB_bool hz]; decide
      · have hl : n.len = 1 := by have : manyN 1 = 1 := rfl; omega
        split at hs
        · rename_i hal
          have s0 : srtN t (argN n 0) = 0 := by rw [← g0 (by omega)]; exact alike_at hal (j := 0) (by decide)
          rw [← Option.some.inj hs, isB_bool hz, decide_eq_true_eq]
          exact not_bit (bool1 0 (by omega) s0)
        · cases hs
      · have hl : n.len = 2 := by have : manyN 2 = 2 := rfl; omega
        split at hs
        · rename_i hal
          have s0 : srtN t (argN n 0) = 0 := by rw [← g0 (by omega)]; exact alike_at hal (j := 0) (by decide)
          have s1 : srtN t (argN n 1) = 0 := by rw [← g1 (by omega)]; exact alike_at hal (j := 1) (by decide)
          rw [← Option.some.inj hs, isB_bool hz, decide_eq_true_eq]
          exact mul_bit (bool1 0 (by omega) s0) (bool1 1 (by omega) s1)
        · cases hs
      · have hl : n.len = 2 := by have : manyN 3 = 2 := rfl; omega
        split at hs
        · rename_i hal
          have s0 : srtN t (argN n 0) = 0 := by rw [← g0 (by omega)]; exact alike_at hal (j := 0) (by decide)
          have s1 : srtN t (argN n 1) = 0 := by rw [← g1 (by omega)]; exact alike_at hal (j := 1) (by decide)
          rw [← Option.some.inj hs, isB_bool hz, decide_eq_true_eq]
          exact max_bit (bool1 0 (by omega) s0) (bool1 1 (by omega) s1)
        · cases hs
      · have hl : n.len = 2 := by have : manyN 4 = 2 := rfl; omega
        split at hs
        · rename_i hal
          have s0 : srtN t (argN n 0) = 0 := by rw [← g0 (by omega)]; exact alike_at hal (j := 0) (by decide)
          have s1 : srtN t (argN n 1) = 0 := by rw [← g1 (by omega)]; exact alike_at hal (j := 1) (by decide)
          rw [← Option.some.inj hs, isB_bool hz, decide_eq_true_eq]
          exact bitN_is _
        · cases hs
      · have hl : n.len = 2 := by have : manyN 5 = 2 := rfl; omega
        split at hs
        · rename_i hal
          have s0 : srtN t (argN n 0) = 0 := by rw [← g0 (by omega)]; exact alike_at hal (j := 0) (by decide)
          have s1 : srtN t (argN n 1) = 0 := by rw [← g1 (by omega)]; exact alike_at hal (j := 1) (by decide)
          rw [← Option.some.inj hs, isB_bool hz, decide_eq_true_eq]
          exact bitN_is _
        · cases hs
      · split at hs
        · rw [← Option.some.inj hs, isB_bool hz, decide_eq_true_eq]
          exact bitN_is _
        · cases hs
      · have hl : n.len = 3 := by have : manyN 7 = 3 := rfl; omega
        split at hs
        · rename_i hal
          rw [← Option.some.inj hs]
          split
          · rw [g1 (by omega)]; exact IH 1 (by omega)
          · rw [hal.2, g2 (by omega)]; exact IH 2 (by omega)
        · cases hs
      · split at hs
        · rw [← Option.some.inj hs, isB_bool hz, decide_eq_true_eq]
          exact bitN_is _
        · cases hs
      · split at hs
        · rw [← Option.some.inj hs, isB_bool hz, decide_eq_true_eq]
          exact bitN_is _
        · cases hs
      · rw [← hs, isB_int hz]
        exact num_may hst (.inl ho')
      · split at hs
        · rw [← Option.some.inj hs, isB_int hz]
          split at fo
          · cases fo
          · rw [if_neg (by assumption)]; exact fo
        · cases hs
      · split at hs
        · rw [← Option.some.inj hs, isB_bool hz, decide_eq_true_eq]
          exact bitN_is _
        · cases hs
/-- A base and a number: what a node is that does not overflow. -/
theorem Vals.int {x : SigV} {y : WorV} {t : List NodeA} {E : List (Int × Bool)} (h : Vals x y t E) {k : Nat} {n : NodeA} (hk : t[k]? = some n) (hs : n.sort = 1) (ho : (atV E (k : Int)).2 = false) : mayB (atV E (k : Int)).1 = true := by
  have := h.is (k + 1) k n (by omega) hk ho
  rw [hs, isB_int (worQ_sizes h.wor)] at this
  exact this
/-- What an OpAdd is, and its argument. -/
theorem Vals.add {x : SigV} {y : WorV} {t : List NodeA} {E : List (Int × Bool)} (h : Vals x y t E) {k : Nat} {n : NodeA} (hk : t[k]? = some n) (hop : n.op = 11) (ho : (atV E (k : Int)).2 = false) : ∃ (i : Nat) (m : NodeA), n.a0 = (i : Int) ∧ i < k ∧ t[i]? = some m ∧ m.sort = 1 ∧ (atV E (i : Int)).2 = false ∧ (atV E (k : Int)).1 = (atV E (i : Int)).1 + n.num := by
  have hst := (Tm.ok_at (Tm.mayT_ok h.may).2 hk).1
  have hf := stands_form hst
  obtain ⟨fa, fo, fv⟩ := h.fine hk ho
  obtain ⟨r0, r1⟩ := row_facts (h.row k n hk)
  have hl : n.len = 1 := by rcases hf.2.2.2.2 with e | e; · omega
                            · rw [e, hop]; rfl
  obtain ⟨i, m, e1, e2, e3, e4⟩ := h.arg hk (j := 0) (by omega)
  have e1' : n.a0 = (i : Int) := e1
  have hms : m.sort = 1 := by
    unfold rulE at r0
    rw [if_neg (by omega)] at r0
    obtain ⟨hm, s, hs, hs2⟩ := op_sorts r0
    rw [hop] at hs
    simp only [opO, Int.reduceEq, ite_false, ite_true] at hs
    split at hs
    · rename_i hal
      rw [← e4, ← sortsN_get (by omega)]
      exact alike_at hal (j := 0) (by decide)
    · cases hs
  have hio : (atV E (i : Int)).2 = false := by have := fa 0 (by omega); rw [e1] at this; exact this
  refine ⟨i, m, e1', e2, e3, hms, hio, ?_⟩
  have hv : (argsV E n n.len.toNat).getD 0 0 = (atV E (i : Int)).1 := by rw [argsV_get (by omega), e1]
  have b0 := Tm.may_in (h.int e3 hms hio)
  have b1 := Tm.may_in (num_may hst (.inr (.inl hop)))
  rw [fv]
  unfold ndV at fo ⊢
  rw [hop, hv] at fo ⊢
  simp only [Int.reduceEq, ite_false, ite_true] at fo ⊢
  split at fo
  · cases fo
  · rw [if_neg (by assumption)]
    have b2 := Tm.may_in fo
    show wrap64 _ = _
    unfold wrap64 at b2 ⊢
    omega
theorem Vals.num {x : SigV} {y : WorV} {t : List NodeA} {E : List (Int × Bool)} (h : Vals x y t E) {k : Nat} {n : NodeA} (hk : t[k]? = some n) (hop : n.op = 10) : (atV E (k : Int)).2 = false ∧ (atV E (k : Int)).1 = n.num := by
  have hst := (Tm.ok_at (Tm.mayT_ok h.may).2 hk).1
  have hf := stands_form hst
  have hl : n.len = 0 := by rcases hf.2.2.2.2 with e | e; · omega
                            · rw [e, hop]; rfl
  rw [h.at_ k n hk]
  unfold stepV
  have hb : badV E n n.len.toNat = false := by rw [hl]; rfl
  have hn : ndV x y n (argsV E n n.len.toNat) = (n.num, true) := by unfold ndV; rw [hop]; rfl
  rw [hb, hn]
  exact ⟨rfl, rfl⟩
end Go.Proofs.YtfbjgadgfjnamaaGreatDoor
