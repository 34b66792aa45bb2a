/- The document's Values: every node's value, or that it overflows. -/
import Derived.Test.YtinogambkfihpaaDoorHdU
import Derived.Deep.AppendLies
namespace Go.Proofs.YtinogambkfihpaaDoor
open Go.RowKit
open Tm (NodeA NodeOk TabR mayT)
set_option linter.unusedVariables false
/-- The value at a place, and whether it overflows. -/
def atV (L : List (Int × Bool)) (i : Int) : Int × Bool := (L[i.toNat]?).getD (0, false)
def argsV (L : List (Int × Bool)) (n : NodeA) (k : Nat) : List Int := (List.range k).map (fun j => (atV L (argN n j)).1)
def badV (L : List (Int × Bool)) (n : NodeA) : Nat → Bool
  | 0 => false
  | k + 1 => badV L n k || (atV L (argN n k)).2
/-- A node's value of those ahead. -/
def stepV (x : SigV) (y : WorV) (L : List (Int × Bool)) (n : NodeA) : Int × Bool :=
  if badV L n n.len.toNat = true then (0, true) else if (ndV x y n (argsV L n n.len.toNat)).2 = true then ((ndV x y n (argsV L n n.len.toNat)).1, false) else (0, true)
/-- The values of the first k nodes. -/
def evK (x : SigV) (y : WorV) (t : List NodeA) : Nat → List (Int × Bool)
  | 0 => []
  | k + 1 => evK x y t k ++ [stepV x y (evK x y t k) (t.getD k Tm.trueN)]
theorem evK_len (x : SigV) (y : WorV) (t : List NodeA) : ∀ k, (evK x y t k).length = k
  | 0 => rfl
  | k + 1 => by unfold evK; rw [List.length_append, evK_len x y t k]; rfl
theorem evK_get (x : SigV) (y : WorV) (t : List NodeA) : ∀ {k j : Nat}, j < k → (evK x y t k)[j]? = some (stepV x y (evK x y t j) (t.getD j Tm.trueN))
  | 0, j, h => absurd h (Nat.not_lt_zero _)
  | k + 1, j, h => by
    show (evK x y t k ++ [stepV x y (evK x y t k) (t.getD k Tm.trueN)])[j]? = _
    by_cases hj : j < k
    · rw [List.getElem?_append_left (by rw [evK_len]; exact hj)]; exact evK_get x y t hj
    · obtain rfl : j = k := by omega
      rw [List.getElem?_append_right (by rw [evK_len]; exact Nat.le_refl _), evK_len, Nat.sub_self]; rfl
theorem stands_form {n : NodeA} {k : Nat} (h : Tm.standsB n k = true) : 0 ≤ n.len ∧ n.len ≤ 3 ∧ 0 ≤ n.op ∧ n.op < 14 ∧ (n.op = 13 ∨ n.len = Tm.arityA n.op) := by
  have hi := stands_in (t := List.replicate k n) h (by rw [List.length_replicate]; exact Nat.le_refl _)
  unfold Tm.standsB at h
  rw [decide_eq_true_eq] at h
  obtain ⟨⟨h0, h1, h2⟩, _⟩ := h
  refine ⟨hi.lo, hi.hi, h0, h1, ?_⟩
  split at h2
  · exact .inl ‹_›
  · split at h2
    · exact .inr h2.1
    · exact .inr h2.1
theorem stands_arg {n : NodeA} {k : Nat} (h : Tm.standsB n k = true) (j : Nat) (hj : (j : Int) < n.len) : 0 ≤ argN n j ∧ argN n j < (k : Int) := by
  have hi := (stands_in (t := List.replicate k n) h (by rw [List.length_replicate]; exact Nat.le_refl _)).arg j hj
  rw [List.length_replicate] at hi
  exact hi
theorem atV_get {L : List (Int × Bool)} {i : Nat} (h : i < L.length) : L[i]? = some (atV L i) := by
  unfold atV
  rw [Int.toNat_natCast, List.getElem?_eq_getElem h]; rfl
theorem own_elem {w : World} {B n : Nat} {E : TypeId} {a : Option Addr} {c : Nat} {f : (Int × Bool) → List Value} {L : List (Int × Bool)} (h : w.ownsRow B E 1 (.slice a n c) n (L.flatMap f)) (hf : ∀ p, (f p).length = 1) {i : Nat} {p : Int × Bool} (hp : L[i]? = some p) {u : Value} (hu : f p = [u]) :
    ∃ g o : Nat, a = some ⟨g, o, none⟩ ∧ ∀ V, Below w.heap.size w V → g < V.heap.size ∧ V.cell? ⟨g, o + i, none⟩ = some u := by
  obtain ⟨_, _, hat⟩ := own_to h
  obtain ⟨g, o, e, hg, hc⟩ := hat (by rw [len_flat hf]; have := (List.getElem?_eq_some_iff.1 hp).1; omega)
  refine ⟨g, o, e, fun V hV => ⟨Nat.lt_of_lt_of_le hg hV.size, (hV.cell (p := ⟨g, o + i, none⟩) hg).trans ?_⟩⟩
  have h1 := get_flat hf L i 0 p hp (by omega)
  rw [hu, Nat.mul_one, Nat.add_zero] at h1
  exact hc i u (h1.trans rfl)
def valL (p : Int × Bool) : List Value := [.int .i64 p.1]
def bitL (p : Int × Bool) : List Value := [.bool p.2]
theorem valL_len (p : Int × Bool) : (valL p).length = 1 := rfl
theorem bitL_len (p : Int × Bool) : (bitL p).length = 1 := rfl
theorem evK_row {x : SigV} {y : WorV} {t : List NodeA} {k : Nat} {n : NodeA} {X : Int} {b : Bool} (hn : stepV x y (evK x y t k) n = stepV x y (evK x y t k) (t.getD k Tm.trueN)) (h : stepV x y (evK x y t k) n = (X, b)) : (evK x y t (k + 1)).flatMap valL = (evK x y t k).flatMap valL ++ [.int .i64 X] ∧ (evK x y t (k + 1)).flatMap bitL = (evK x y t k).flatMap bitL ++ [.bool b] ∧ ∀ q, (q ∈ evK x y t k → I64 q.1) → I64 X → q ∈ evK x y t (k + 1) → I64 q.1 := by
  have e : evK x y t (k + 1) = evK x y t k ++ [(X, b)] := by show _ ++ [_] = _; rw [← hn, h]
  rw [e, List.flatMap_append, List.flatMap_append]
  refine ⟨rfl, rfl, fun q h1 h2 hq => ?_⟩
  rcases List.mem_append.1 hq with h3 | h3
  · exact h1 h3
  · rw [List.mem_singleton.1 h3]; exact h2
/-- OK, or why there are none. -/
def valE (x : SigV) (y : WorV) (t : List NodeA) : Int := if mayT t = true ∧ worQ x y = true then (if tabE x t = 0 then 0 else 33) else 2
theorem max_i64 {a b : Int} (ha : I64 a) (hb : I64 b) : I64 (max a b) := by rcases Int.le_total a b with h | h <;> simp [Int.max_eq_right, Int.max_eq_left, h, ha, hb]
theorem bitN_i64 (q : Bool) : I64 (bitN q) := by cases q <;> exact ⟨by decide, by decide⟩
theorem getD_i64 {l : List Int} (h : ∀ a ∈ l, I64 a) (j : Nat) : I64 (l.getD j 0) := by
  rw [List.getD_eq_getElem?_getD]
  cases e : l[j]? with
  | none => exact ⟨by decide, by decide⟩
  | some a => exact h a (List.mem_of_getElem? e)
theorem applyV_i64 {w : World} {x : SigV} {y : WorV} (hY : WorR w y) (f : Int) (l : List Int) : I64 (applyV x y f l) := by
  unfold applyV
  split
  · have hf : (∀ r ∈ (fvA y f).rows, RowOk r) ∧ I64 (fvA y f).els := by
      unfold fvA
      cases e : y.funs[f.toNat]? with
      | none => exact ⟨fun r hr => by simp [noFv] at hr, ⟨by decide, by decide⟩⟩
      | some u => exact ⟨(hY.fok u (List.mem_of_getElem? e)).rok, (hY.fok u (List.mem_of_getElem? e)).els⟩
    unfold rowV
    cases e : (fvA y f).rows.find? (fun s => sameA s ⟨l.getD 0 0, l.getD 1 0, l.getD 2 0, 0⟩) with
    | none => exact hf.2
    | some r => exact (hf.1 r (List.mem_of_find?_eq_some e)).v
  · exact ⟨by decide, by decide⟩
theorem ite_fst {c : Prop} [Decidable c] {a b : Int × Bool} (h1 : I64 a.1) (h2 : I64 b.1) : I64 (if c then a else b).1 := by
  by_cases h : c
  · rw [if_pos h]; exact h1
  · rw [if_neg h]; exact h2
theorem ite_i64 {c : Prop} [Decidable c] {a b : Int} (h1 : I64 a) (h2 : I64 b) : I64 (if c then a else b) := by
  by_cases h : c
  · rw [if_pos h]; exact h1
  · rw [if_neg h]; exact h2
theorem ndV_i64 {w : World} {x : SigV} {y : WorV} (hY : WorR w y) {n : NodeA} (hn : NodeOk n) {v : List Int} (hv : ∀ a ∈ v, I64 a) : I64 (ndV x y n v).1 :=
  ite_fst ⟨by decide, by decide⟩ (ite_fst (i64_wrap _) (ite_fst (i64_wrap _) (ite_fst (max_i64 (getD_i64 hv 0) (getD_i64 hv 1)) (ite_fst (bitN_i64 _) (ite_fst (bitN_i64 _) (ite_fst (bitN_i64 _) (ite_fst (ite_i64 (getD_i64 hv 1) (getD_i64 hv 2)) (ite_fst (bitN_i64 _) (ite_fst (bitN_i64 _) (ite_fst hn.num (ite_fst (ite_fst ⟨by decide, by decide⟩ (i64_wrap _)) (ite_fst (bitN_i64 _) (applyV_i64 hY _ _)))))))))))))
theorem stepV_i64 {w : World} {x : SigV} {y : WorV} (hY : WorR w y) {L : List (Int × Bool)} (hL : ∀ p ∈ L, I64 p.1) {n : NodeA} (hn : NodeOk n) : I64 (stepV x y L n).1 := by
  have hz : I64 0 := ⟨by decide, by decide⟩
  have ha : ∀ a ∈ argsV L n n.len.toNat, I64 a := fun a h => by
    unfold argsV at h
    obtain ⟨j, _, rfl⟩ := List.mem_map.1 h
    unfold atV
    cases e : L[(argN n j).toNat]? with
    | none => exact hz
    | some p => exact hL p (List.mem_of_getElem? e)
  unfold stepV
  repeat' split
  all_goals first | exact hz | exact ndV_i64 hY hn ha
/-- What Values answers. -/
def ValsPost (w : World) (x : SigV) (y : WorV) (t : List NodeA) (e : Ending) (w' : World) : Prop :=
  Below w.heap.size w w' ∧ ((¬ valE x y t = 0 ∧ e = .returned (.tuple #[.slice none 0 0, .slice none 0 0, .int .i64 (valE x y t)])) ∨
    (valE x y t = 0 ∧ ∃ la lc oa oc, e = .returned (.tuple #[.slice la t.length lc, .slice oa t.length oc, .int .i64 0]) ∧ At w' w'.heap.size ((evK x y t t.length).flatMap valL) la ∧ At w' w'.heap.size ((evK x y t t.length).flatMap bitL) oa))
theorem own_by {V V2 : World} {o : Obj} {B B' : Nat} {E E' : TypeId} {s s' n n' : Nat} {v v' : Value} {L L' : List Value} (h : V.ownsRow B E s v n L) (h' : V.ownsRow B' E' s' v' n' L') (hne : E ≠ E') (hg : (V.alloc o).grownBy V2 v'.ownBlock) : V2.ownsRow B E s v n L :=
  own_far h (fun k hk => (hg.block k (by have := (own_ne h hk).2; simp; omega) (fun e => own_apart h h' hne hk e.symm)).trans (Below.heap_alloc V o k (own_ne h hk).2))
theorem below_push' {W V V2 : World} {o : Obj} {B : Nat} {e : TypeId} {size n : Nat} {v : Value} {xs : List Value} (hB : W.heap.size ≤ B) (h : Below W.heap.size W V) (hown : V.ownsRow B e size v n xs) (hg : (V.alloc o).grownBy V2 v.ownBlock) : Below W.heap.size W V2 := by
  have h3 := hg.size
  have h4 := h.size
  have h2 : (V.alloc o).heap.size = V.heap.size + 1 := by simp
  exact ⟨hg.os.trans h.os, hg.tape.trans h.tape, hg.output.trans h.output, by omega, fun k hk => (hg.block k (by omega) (fun e' => by have := (own_ne hown e'.symm).1; omega)).trans ((Below.heap_alloc V o k (by omega)).trans (h.block k hk))⟩
theorem info_bool : (Tryd.prog.info? 4).map (fun i => (i.zero, i.size, i.bytes)) = some (some (.bool false), 1, 1) := by kernel_rfl
theorem ty_ib : (3 : TypeId) ≠ 4 := by decide
theorem badV_args {L : List (Int × Bool)} {n : NodeA} (k : Nat) : (argsV L n (k + 1)).flatMap numL = (argsV L n k).flatMap numL ++ [.int .i64 (atV L (argN n k)).1] := by
  unfold argsV
  rw [List.range_succ, List.map_append, List.flatMap_append]; rfl
set_option maxRecDepth 100000 in
set_option maxHeartbeats 4000000 in
theorem RValues_any (x : SigV) (y : WorV) (t : List NodeA) (ta : Option Addr) (tc : Nat) (w : World) (hX : SigR w x) (hY : WorR w y) (hT : TabR w t ta tc) (htl : t.length ≤ 1000) :
    Calls Tryd.prog 9 #[.agg #[.slice x.sa x.sorts.length x.sc, .slice x.fa x.funs.length x.fc, .slice x.ma x.macs.length x.mc], .agg #[.slice y.sa y.sizes.length y.sc, .slice y.fa y.funs.length y.fc], .agg #[.slice ta t.length tc]] w fun e w' => ValsPost w x y t e w' := by
  obtain ⟨W0, hW0⟩ : ∃ W0, W0 = ((w.alloc (.cells #[.slice x.sa x.sorts.length x.sc, .slice x.fa x.funs.length x.fc, .slice x.ma x.macs.length x.mc] 26)).alloc (.cells #[.slice y.sa y.sizes.length y.sc, .slice y.fa y.funs.length y.fc] 30)).alloc (.cells #[.slice ta t.length tc] 33) := ⟨_, rfl⟩
  have hB0 : Below w.heap.size w W0 := by rw [hW0]; exact (((Below.refl _ w).alloc (Nat.le_refl _) _).alloc (by simp) _).alloc (by simp; omega) _
  have HB0 := Lib.hid hB0
  have hX0 : W0.heap[w.heap.size]? = some (.cells #[.slice x.sa x.sorts.length x.sc, .slice x.fa x.funs.length x.fc, .slice x.ma x.macs.length x.mc] 26 (0, 0)) := by
    rw [hW0]
    exact ((Below.heap_alloc _ _ _ (by simp; omega)).trans (Below.heap_alloc _ _ _ (by simp))).trans (heap_alloc_new w _)
  have hY0 : W0.heap[w.heap.size + 1]? = some (.cells #[.slice y.sa y.sizes.length y.sc, .slice y.fa y.funs.length y.fc] 30 (0, 0)) := by
    have := heap_alloc_new (w.alloc (.cells #[.slice x.sa x.sorts.length x.sc, .slice x.fa x.funs.length x.fc, .slice x.ma x.macs.length x.mc] 26)) (.cells #[.slice y.sa y.sizes.length y.sc, .slice y.fa y.funs.length y.fc] 30)
    rw [World.size_alloc] at this
    rw [hW0]
    exact (Below.heap_alloc _ _ _ (by simp)).trans this
  have hT0 : W0.heap[w.heap.size + 1 + 1]? = some (.cells #[.slice ta t.length tc] 33 (0, 0)) := by
    have := heap_alloc_new ((w.alloc (.cells #[.slice x.sa x.sorts.length x.sc, .slice x.fa x.funs.length x.fc, .slice x.ma x.macs.length x.mc] 26)).alloc (.cells #[.slice y.sa y.sizes.length y.sc, .slice y.fa y.funs.length y.fc] 30)) (.cells #[.slice ta t.length tc] 33)
    rw [World.size_alloc, World.size_alloc] at this
    rw [hW0]
    exact this
  have HK : Hid (∀ V, Below W0.heap.size W0 V → V.cell? ⟨w.heap.size, 0, none⟩ = some (.slice x.sa x.sorts.length x.sc) ∧ V.cell? ⟨w.heap.size, 1, none⟩ = some (.slice x.fa x.funs.length x.fc) ∧ V.cell? ⟨w.heap.size, 2, none⟩ = some (.slice x.ma x.macs.length x.mc) ∧ V.cell? ⟨w.heap.size + 1, 0, none⟩ = some (.slice y.sa y.sizes.length y.sc) ∧ V.cell? ⟨w.heap.size + 1, 1, none⟩ = some (.slice y.fa y.funs.length y.fc) ∧ V.cell? ⟨w.heap.size + 1 + 1, 0, none⟩ = some (.slice ta t.length tc) ∧ w.heap.size + 1 + 1 < V.heap.size) := fun V hV => by
    obtain ⟨c0, c1, c2, _⟩ := sig_cells ((hV.block _ (Array.getElem?_eq_some_iff.1 hX0).1).trans hX0)
    obtain ⟨y0, y1, _⟩ := wor_cells ((hV.block _ (Array.getElem?_eq_some_iff.1 hY0).1).trans hY0)
    have h := (hV.block _ (Array.getElem?_eq_some_iff.1 hT0).1).trans hT0
    exact ⟨c0, c1, c2, y0, y1, (cell_of_row _ _ 0 _ _ _ h).trans rfl, (Array.getElem?_eq_some_iff.1 h).1⟩
  have HX := Lib.hid hX
  have HY := Lib.hid hY
  have HT := Lib.hid hT
  have HCt : Hid (∀ q, mayT t = q → ∀ V, Below W0.heap.size W0 V → Calls Tryd.prog 18 #[.agg #[.slice ta t.length tc]] V fun e w' => e = .returned (.int .i64 (if q = true then 0 else 2)) ∧ Below W0.heap.size W0 w') := fun q hq V hV => by
    subst hq
    exact (Tm.RCheck_any t ta tc _ V (hT.below (hB0.trans (hV.mono hB0.size))) htl rfl).mono fun e w' ⟨h1, h2⟩ => ⟨h1, hV.trans (h2.mono hV.size)⟩
  have HCm : Hid (∀ q, worQ x y = q → ∀ V, Below W0.heap.size W0 V → Calls Tryd.prog 19 #[.agg #[.slice x.sa x.sorts.length x.sc, .slice x.fa x.funs.length x.fc, .slice x.ma x.macs.length x.mc], .agg #[.slice y.sa y.sizes.length y.sc, .slice y.fa y.funs.length y.fc]] V fun e w' => e = .returned (.bool q) ∧ Below W0.heap.size W0 w') := fun q hq V hV =>
    (WMay_any x y q V (hX.below (hB0.trans (hV.mono hB0.size))) (hY.below (hB0.trans (hV.mono hB0.size))) hq).mono fun e w' ⟨h1, h2⟩ => ⟨h1, hV.trans (h2.mono hV.size)⟩
  have HCb : Hid (∀ q, tabE x t = q → ∀ V, Below W0.heap.size W0 V → Calls Tryd.prog 20 #[.agg #[.slice x.sa x.sorts.length x.sc, .slice x.fa x.funs.length x.fc, .slice x.ma x.macs.length x.mc], .agg #[.slice ta t.length tc]] V fun e w' => e = .returned (.int .i64 q) ∧ Below W0.heap.size W0 w') := fun q hq V hV =>
    (RTable_any x t ta tc q V (hX.below (hB0.trans (hV.mono hB0.size))) (hT.below (hB0.trans (hV.mono hB0.size))) htl hq).mono fun e w' ⟨h1, h2⟩ => ⟨h1, hV.trans (h2.mono hV.size)⟩
  clear hX0 hY0 hT0 hX hY hT hB0
  obtain ⟨c0, c1, c2, y0, y1, t0, z0⟩ := HK.out _ (Below.refl _ W0)
  have HE2 : Hid (¬ (mayT t = true ∧ worQ x y = true) → ∀ w', Below w.heap.size w w' → ValsPost w x y t (.returned (.tuple #[.slice none 0 0, .slice none 0 0, .int .i64 2])) w') := fun h w' hb => by
    have e : valE x y t = 2 := if_neg h
    exact ⟨hb, .inl ⟨by rw [e]; decide, by rw [e]⟩⟩
  cases hm : mayT t with
  | false =>
    have HCq := Lib.hid (HCt.out _ hm)
    have HF := Lib.hid (HE2.out (by rw [hm]; simp))
    clear hm
    go_enter Tryd.func9, Tryd.ntmps9
    go_wp2_with (go_at_call 18; rw [← hW0]; clear hW0; refine (HCq.out _ (Below.refl _ _)).mono ?_; rintro e w3 ⟨rfl, hb1⟩; have HB1 := Lib.hid hb1; clear hb1 c0 c1 c2 y0 y1 t0 z0; obtain ⟨c0, c1, c2, y0, y1, t0, z0⟩ := HK.out _ HB1.out; simp only [Bool.false_eq_true, reduceIte])
    refine bodyPost_ret (v := .tuple #[.slice none 0 0, .slice none 0 0, .int .i64 2]) (by simp [results, Tryd.results9, go_sem]) rfl (HF.out _ (HB0.out.trans (HB1.out.mono HB0.out.size)))
  | true =>
  have HCq := Lib.hid (HCt.out _ hm)
  cases hq : worQ x y with
  | false =>
    have HCr := Lib.hid (HCm.out _ hq)
    have HF := Lib.hid (HE2.out (by rw [hq]; simp))
    clear hm hq
    go_enter Tryd.func9, Tryd.ntmps9
    go_wp2_with (first | (go_at_call 18; rw [← hW0]; clear hW0; refine (HCq.out _ (Below.refl _ _)).mono ?_; rintro e w3 ⟨rfl, hb1⟩; have HB1 := Lib.hid hb1; clear hb1 c0 c1 c2 y0 y1 t0 z0; obtain ⟨c0, c1, c2, y0, y1, t0, z0⟩ := HK.out _ HB1.out; simp only [reduceIte]) | (go_at_call 19; refine (HCr.out _ HB1.out).mono ?_; rintro e w4 ⟨rfl, hb2⟩; have HB2 := Lib.hid hb2; clear hb2 c0 c1 c2 y0 y1 t0 z0; obtain ⟨c0, c1, c2, y0, y1, t0, z0⟩ := HK.out _ HB2.out))
    refine bodyPost_ret (v := .tuple #[.slice none 0 0, .slice none 0 0, .int .i64 2]) (by simp [results, Tryd.results9, go_sem]) rfl (HF.out _ (HB0.out.trans (HB2.out.mono HB0.out.size)))
  | true =>
  have HCr := Lib.hid (HCm.out _ hq)
  have hE : valE x y t = (if tabE x t = 0 then 0 else 33) := if_pos ⟨hm, hq⟩
  by_cases hz : tabE x t = 0
  rotate_left
  · have HF : Hid (∀ w', Below w.heap.size w w' → ValsPost w x y t (.returned (.tuple #[.slice none 0 0, .slice none 0 0, .int .i64 33])) w') := fun w' hb => by
      have e : valE x y t = 33 := hE.trans (if_neg hz)
      exact ⟨hb, .inl ⟨by rw [e]; decide, by rw [e]⟩⟩
    have HCs := Lib.hid (HCb.out _ rfl)
    have ez := ne_true hz
    generalize tabE x t = E at *
    clear hm hq hE hz
    go_enter Tryd.func9, Tryd.ntmps9
    go_wp2_with (first | (go_at_call 18; rw [← hW0]; clear hW0; refine (HCq.out _ (Below.refl _ _)).mono ?_; rintro e w3 ⟨rfl, hb1⟩; have HB1 := Lib.hid hb1; clear hb1 c0 c1 c2 y0 y1 t0 z0; obtain ⟨c0, c1, c2, y0, y1, t0, z0⟩ := HK.out _ HB1.out; simp only [reduceIte]) | (go_at_call 19; refine (HCr.out _ HB1.out).mono ?_; rintro e w4 ⟨rfl, hb2⟩; have HB2 := Lib.hid hb2; clear hb2 c0 c1 c2 y0 y1 t0 z0; obtain ⟨c0, c1, c2, y0, y1, t0, z0⟩ := HK.out _ HB2.out) | (go_at_call 20; refine (HCs.out _ HB2.out).mono ?_; rintro e w5 ⟨rfl, hb3⟩; have HB3 := Lib.hid hb3; clear hb3 c0 c1 c2 y0 y1 t0 z0; obtain ⟨c0, c1, c2, y0, y1, t0, z0⟩ := HK.out _ HB3.out))
    refine bodyPost_ret (v := .tuple #[.slice none 0 0, .slice none 0 0, .int .i64 33]) (by simp [results, Tryd.results9, go_sem]) rfl (HF.out _ (HB0.out.trans (HB3.out.mono HB0.out.size)))
  have HF : Hid (∀ w' la lc oa oc, Below w.heap.size w w' → At w' w'.heap.size ((evK x y t t.length).flatMap valL) la → At w' w'.heap.size ((evK x y t t.length).flatMap bitL) oa → ValsPost w x y t (.returned (.tuple #[.slice la t.length lc, .slice oa t.length oc, .int .i64 0])) w') := fun w' la lc oa oc hb h1 h2 =>
    ⟨hb, .inr ⟨hE.trans (if_pos hz), la, lc, oa, oc, rfl, h1, h2⟩⟩
  have HCs := Lib.hid (HCb.out _ hz)
  have HOk := Lib.hid (Tm.mayT_ok hm).2
  obtain ⟨i0, hi_, hz0, hz1, hz2⟩ := info_parts info_int
  obtain ⟨b0, hbi_, hbz0, hbz1, hbz2⟩ := info_parts info_bool
  clear hm hq hE hz
  go_enter Tryd.func9, Tryd.ntmps9
  go_wp2_with (first | (go_at_call 18; rw [← hW0]; clear hW0; refine (HCq.out _ (Below.refl _ _)).mono ?_; rintro e w3 ⟨rfl, hb1⟩; have HB1 := Lib.hid hb1; clear hb1 c0 c1 c2 y0 y1 t0 z0; obtain ⟨c0, c1, c2, y0, y1, t0, z0⟩ := HK.out _ HB1.out; simp only [reduceIte]) | (go_at_call 19; refine (HCr.out _ HB1.out).mono ?_; rintro e w4 ⟨rfl, hb2⟩; have HB2 := Lib.hid hb2; clear hb2 c0 c1 c2 y0 y1 t0 z0; obtain ⟨c0, c1, c2, y0, y1, t0, z0⟩ := HK.out _ HB2.out) | (go_at_call 20; refine (HCs.out _ HB2.out).mono ?_; rintro e w5 ⟨rfl, hb3⟩; have HB3 := Lib.hid hb3; clear hb3 c0 c1 c2 y0 y1 t0 z0))
  clear HCq HCr HCs HCt HCm HCb HE2
  go_loopw [9, 10, 11] (fun l o i wr => ∃ (k : Nat) (la : Option Addr) (lc : Nat) (oa : Option Addr) (oc : Nat), k ≤ t.length ∧ i = .int .i64 k ∧ l = .slice la k lc ∧ o = .slice oa k oc ∧ Hid (Below W0.heap.size W0 wr) ∧ Hid (∀ p ∈ evK x y t k, I64 p.1) ∧ Hid (wr.ownsRow W0.heap.size 3 1 (.slice la k lc) k ((evK x y t k).flatMap valL)) ∧ Hid (wr.ownsRow W0.heap.size 4 1 (.slice oa k oc) k ((evK x y t k).flatMap bitL))) (fun _ _ i _ => t.length - (intOf i).toNat)
  case atStart => exact ⟨0, none, 0, none, 0, Nat.zero_le _, rfl, rfl, rfl, HB3, fun p hp => by simp [evK] at hp, World.ownsRow_nil _ _ _ _, World.ownsRow_nil _ _ _ _⟩
  case round =>
    obtain ⟨wo, hwo⟩ : ∃ wo, wo = wr := ⟨_, rfl⟩
    subst hwo
    obtain ⟨k, la, lc, oa, oc, hk, rfl, rfl, rfl, HB, HI, HL, HO⟩ := hrel
    obtain ⟨c0, c1, c2, y0, y1, t0, z0⟩ := HK.out _ HB.out
    have HBw : Hid (Below w.heap.size w wo) := HB0.out.trans (HB.out.mono HB0.out.size)
    by_cases hlt : k < t.length
    rotate_left
    · obtain rfl : k = t.length := by omega
      obtain ⟨_, _, hla⟩ := own_to HL.out
      obtain ⟨_, _, hoa⟩ := own_to HO.out
      have HFx := Lib.hid (HF.out wo la lc oa oc HBw.out hla hoa)
      clear hla hoa
      go_wp2
      refine bodyPost_ret (v := .tuple #[.slice la t.length lc, .slice oa t.length oc, .int .i64 0]) (by simp [results, Tryd.results9, go_sem]) rfl HFx.out
    obtain ⟨n, hn⟩ : ∃ n, t[k]? = some n := ⟨_, List.getElem?_eq_getElem hlt⟩
    obtain ⟨g, o, rfl, hg, m0, m1, m2, m3, m4, m5, m6, m7⟩ := (HT.out.below HBw.out).node hn
    have hki : (k : Int) < (t.length : Int) := by omega
    have hk0 : (0 : Int) ≤ (k : Int) := by omega
    have hno := HT.out.ok n (List.mem_of_getElem? hn)
    have hst := (Tm.ok_at HOk.out hn).1
    have HIn : Hid (∀ j : Nat, (j : Int) < n.len → 0 ≤ argN n j ∧ argN n j < (k : Int)) := fun j hj => stands_arg hst j hj
    obtain ⟨nl, nh, no1, no2, nar⟩ := stands_form hst
    have HNx := Lib.hid (And.intro no1 (And.intro no2 nar))
    have HSt : Hid (stepV x y (evK x y t k) n = stepV x y (evK x y t k) (t.getD k Tm.trueN)) := by rw [List.getD_eq_getElem?_getD, hn]; rfl
    have HSo := Lib.hid (stepV_i64 (x := x) HY.out HI.out hno)
    have HNo := Lib.hid hno
    clear hn hst hno no1 no2 nar
    obtain ⟨W1, hW1⟩ : ∃ W1, W1 = wo.alloc (.cells #[.int .i8 n.op, .int .i8 n.len, .int .i64 n.a0, .int .i64 n.a1, .int .i64 n.a2, .int .i64 n.sort, .int .i64 n.fn, .int .i64 n.num] 66) := ⟨_, rfl⟩
    have hb1 : Below wo.heap.size wo W1 := by rw [hW1]; exact (Below.refl _ wo).alloc (Nat.le_refl _) _
    have hn1 : W1.heap[wo.heap.size]? = some (.cells #[.int .i8 n.op, .int .i8 n.len, .int .i64 n.a0, .int .i64 n.a1, .int .i64 n.a2, .int .i64 n.sort, .int .i64 n.fn, .int .i64 n.num] 66 (0, 0)) := by rw [hW1]; exact heap_alloc_new wo _
    have HK1 : Hid (∀ V, Below W1.heap.size W1 V → V.cell? ⟨wo.heap.size, 0, none⟩ = some (.int .i8 n.op) ∧ V.cell? ⟨wo.heap.size, 1, none⟩ = some (.int .i8 n.len) ∧ V.cell? ⟨wo.heap.size, 2, none⟩ = some (.int .i64 n.a0) ∧ V.cell? ⟨wo.heap.size, 3, none⟩ = some (.int .i64 n.a1) ∧ V.cell? ⟨wo.heap.size, 4, none⟩ = some (.int .i64 n.a2) ∧ V.cell? ⟨wo.heap.size, 5, none⟩ = some (.int .i64 n.sort) ∧ V.cell? ⟨wo.heap.size, 6, none⟩ = some (.int .i64 n.fn) ∧ V.cell? ⟨wo.heap.size, 7, none⟩ = some (.int .i64 n.num) ∧ wo.heap.size < V.heap.size) := fun V hV => by
      have h := (hV.block _ (Array.getElem?_eq_some_iff.1 hn1).1).trans hn1
      exact ⟨(cell_of_row _ _ 0 _ _ _ h).trans rfl, (cell_of_row _ _ 1 _ _ _ h).trans rfl, (cell_of_row _ _ 2 _ _ _ h).trans rfl, (cell_of_row _ _ 3 _ _ _ h).trans rfl, (cell_of_row _ _ 4 _ _ _ h).trans rfl, (cell_of_row _ _ 5 _ _ _ h).trans rfl, (cell_of_row _ _ 6 _ _ _ h).trans rfl, (cell_of_row _ _ 7 _ _ _ h).trans rfl, (Array.getElem?_eq_some_iff.1 h).1⟩
    have HB1' := Lib.hid hb1
    have HBr : Hid (∀ V, Below W1.heap.size W1 V → Below wo.heap.size wo V) := fun V hV => hb1.trans (hV.mono hb1.size)
    have HLa : Hid (∀ i : Nat, i < k → ∃ gl ol : Nat, la = some ⟨gl, ol, none⟩ ∧ Hid (∀ V, Below W1.heap.size W1 V → gl < V.heap.size ∧ V.cell? ⟨gl, ol + i, none⟩ = some (.int .i64 (atV (evK x y t k) i).1))) := fun i hi => by
      obtain ⟨gl, ol, e, h⟩ := own_elem (f := valL) HL.out valL_len (i := i) (p := atV (evK x y t k) i) (atV_get (by rw [evK_len]; exact hi)) rfl
      exact ⟨gl, ol, e, fun V hV => h V (HBr.out V hV)⟩
    have HOa : Hid (∀ i : Nat, i < k → ∃ gl ol : Nat, oa = some ⟨gl, ol, none⟩ ∧ Hid (∀ V, Below W1.heap.size W1 V → gl < V.heap.size ∧ V.cell? ⟨gl, ol + i, none⟩ = some (.bool (atV (evK x y t k) i).2))) := fun i hi => by
      obtain ⟨gl, ol, e, h⟩ := own_elem (f := bitL) HO.out bitL_len (i := i) (p := atV (evK x y t k) i) (atV_get (by rw [evK_len]; exact hi)) rfl
      exact ⟨gl, ol, e, fun V hV => h V (HBr.out V hV)⟩
    clear hn1 hb1
    go_wp2_with fail
    rw [← hW1]
    clear hW1 c0 c1 c2 y0 y1 t0 m0 m1 m2 m3 m4 m5 m6 m7
    go_loopw [13, 14, 15] (fun v bd i V => ∃ (j : Nat) (va : Option Addr) (vc : Nat), (j : Int) ≤ n.len ∧ i = .int .i64 j ∧ bd = .bool (badV (evK x y t k) n j) ∧ v = .slice va j vc ∧ Hid (Below W1.heap.size W1 V) ∧ Hid (V.ownsRow W1.heap.size 3 1 (.slice va j vc) j ((argsV (evK x y t k) n j).flatMap numL))) (fun _ _ i _ => n.len.toNat - (intOf i).toNat)
    case atStart => exact ⟨0, none, 0, nl, rfl, rfl, rfl, Below.refl _ _, World.ownsRow_nil _ _ _ _⟩
    case round =>
      obtain ⟨j, va, vc, hj, rfl, rfl, rfl, HV, HR⟩ := hrel
      obtain ⟨n0, n1, n2, n3, n4, n5, n6, n7, zn⟩ := HK1.out _ HV.out
      by_cases hjl : (j : Int) < n.len
      · obtain ⟨al, ah⟩ := HIn.out j hjl
        obtain ⟨i, hi⟩ : ∃ i : Nat, argN n j = (i : Int) := ⟨(argN n j).toNat, by omega⟩
        have hik : i < k := by omega
        obtain ⟨gl, ol, rfl, HGl⟩ := HLa.out i hik
        obtain ⟨go, oo, rfl, HGo⟩ := HOa.out i hik
        obtain ⟨hgl, hvl⟩ := HGl.out _ HV.out
        obtain ⟨hgo, hvo⟩ := HGo.out _ HV.out
        have hii : (i : Int) < (k : Int) := by omega
        have hi0 : (0 : Int) ≤ (i : Int) := by omega
        have HAi : Hid (argN n j = (i : Int)) := hi
        have hrow : wr.ownsRow W1.heap.size 3 1 (.slice va j vc) j ((argsV (evK x y t k) n j).flatMap numL) := HR.out
        have hc : j = 0 ∨ j = 1 ∨ j = 2 := by omega
        rcases hc with rfl | rfl | rfl
        · have ha0 : n.a0 = (i : Int) := hi
          have HA0 := Lib.hid ha0
          rw [ha0] at n2
          clear ha0 hi
          try simp only [Nat.cast_ofNat_Int] at hjl
          cases hbad : badV (evK x y t k) n 0 with
          | true =>
            have HBn : Hid (true = badV (evK x y t k) n (0 + 1)) := by show _ = (badV _ _ _ || _); rw [hbad]; rfl
            clear hbad
            go_wp2_with (at_builtin; refine wpList_append_lies _ rfl _ _ 27 rfl W1.heap.size 3 i0 _ 1 8 Tryd.underlying27 hi_ hz0 hz1 hz2 rfl (by decide) (Value.slice va 0 vc) 0 ((argsV (evK x y t k) n 0).flatMap numL) (by rfl) (hrow.alloc _) ⟨wr.heap.size, 0, none⟩ 1 1 [.int .i64 (atV (evK x y t k) i).1] (by rfl) rfl (World.news_of_block (B := wr.heap.size) (cs := #[.int .i64 (atV (evK x y t k) i).1]) (t := 3) (fr := (0, 0)) (heap_alloc_new wr _)) (by simp [Value.oneCell']) (by omega) (by simp only [maxLen]; omega) (by omega) (by have := HV.out.size; simp; omega) _ rfl ?_; intro g9 c9 w9 hown9 hgrow9 hat9 hlt9; have HB9 := Lib.hid (below_push' (Nat.le_refl _) HV.out hrow hgrow9); have HO9 := Lib.hid hown9; clear hown9 hgrow9 hat9 n0 n1 n2 n3 n4 n5 n6 n7 zn hvl hgl hvo hgo; obtain ⟨n0, n1, n2, n3, n4, n5, n6, n7, zn⟩ := HK1.out _ HB9.out; obtain ⟨hgo, hvo⟩ := HGo.out _ HB9.out; rw [HA0.out] at n2)
            go_roundw
            case rel => exact ⟨0 + 1, some ⟨g9, 0, none⟩, c9, by omega, by go_num, by rw [← HBn.out], rfl, HB9, by rw [badV_args, HAi.out]; exact HO9.out⟩
            case measure => first | (simp [intOf]; done) | (simp [intOf]; omega)
          | false =>
            have HBn : Hid ((atV (evK x y t k) i).2 = badV (evK x y t k) n (0 + 1)) := by show _ = (badV _ _ _ || (atV _ (argN n 0)).2); rw [hbad, HAi.out]; rfl
            clear hbad
            go_wp2_with (at_builtin; refine wpList_append_lies _ rfl _ _ 27 rfl W1.heap.size 3 i0 _ 1 8 Tryd.underlying27 hi_ hz0 hz1 hz2 rfl (by decide) (Value.slice va 0 vc) 0 ((argsV (evK x y t k) n 0).flatMap numL) (by rfl) (hrow.alloc _) ⟨wr.heap.size, 0, none⟩ 1 1 [.int .i64 (atV (evK x y t k) i).1] (by rfl) rfl (World.news_of_block (B := wr.heap.size) (cs := #[.int .i64 (atV (evK x y t k) i).1]) (t := 3) (fr := (0, 0)) (heap_alloc_new wr _)) (by simp [Value.oneCell']) (by omega) (by simp only [maxLen]; omega) (by omega) (by have := HV.out.size; simp; omega) _ rfl ?_; intro g9 c9 w9 hown9 hgrow9 hat9 hlt9; have HB9 := Lib.hid (below_push' (Nat.le_refl _) HV.out hrow hgrow9); have HO9 := Lib.hid hown9; clear hown9 hgrow9 hat9 n0 n1 n2 n3 n4 n5 n6 n7 zn hvl hgl hvo hgo; obtain ⟨n0, n1, n2, n3, n4, n5, n6, n7, zn⟩ := HK1.out _ HB9.out; obtain ⟨hgo, hvo⟩ := HGo.out _ HB9.out; rw [HA0.out] at n2)
            go_roundw
            case rel => exact ⟨0 + 1, some ⟨g9, 0, none⟩, c9, by omega, by go_num, by rw [← HBn.out], rfl, HB9, by rw [badV_args, HAi.out]; exact HO9.out⟩
            case measure => first | (simp [intOf]; done) | (simp [intOf]; omega)
        · have ha0 : n.a1 = (i : Int) := hi
          have HA0 := Lib.hid ha0
          rw [ha0] at n3
          clear ha0 hi
          try simp only [Nat.cast_ofNat_Int] at hjl
          cases hbad : badV (evK x y t k) n 1 with
          | true =>
            have HBn : Hid (true = badV (evK x y t k) n (1 + 1)) := by show _ = (badV _ _ _ || _); rw [hbad]; rfl
            clear hbad
            go_wp2_with (at_builtin; refine wpList_append_lies _ rfl _ _ 27 rfl W1.heap.size 3 i0 _ 1 8 Tryd.underlying27 hi_ hz0 hz1 hz2 rfl (by decide) (Value.slice va 1 vc) 1 ((argsV (evK x y t k) n 1).flatMap numL) (by rfl) (hrow.alloc _) ⟨wr.heap.size, 0, none⟩ 1 1 [.int .i64 (atV (evK x y t k) i).1] (by rfl) rfl (World.news_of_block (B := wr.heap.size) (cs := #[.int .i64 (atV (evK x y t k) i).1]) (t := 3) (fr := (0, 0)) (heap_alloc_new wr _)) (by simp [Value.oneCell']) (by omega) (by simp only [maxLen]; omega) (by omega) (by have := HV.out.size; simp; omega) _ rfl ?_; intro g9 c9 w9 hown9 hgrow9 hat9 hlt9; have HB9 := Lib.hid (below_push' (Nat.le_refl _) HV.out hrow hgrow9); have HO9 := Lib.hid hown9; clear hown9 hgrow9 hat9 n0 n1 n2 n3 n4 n5 n6 n7 zn hvl hgl hvo hgo; obtain ⟨n0, n1, n2, n3, n4, n5, n6, n7, zn⟩ := HK1.out _ HB9.out; obtain ⟨hgo, hvo⟩ := HGo.out _ HB9.out; rw [HA0.out] at n3)
            go_roundw
            case rel => exact ⟨1 + 1, some ⟨g9, 0, none⟩, c9, by omega, by go_num, by rw [← HBn.out], rfl, HB9, by rw [badV_args, HAi.out]; exact HO9.out⟩
            case measure => first | (simp [intOf]; done) | (simp [intOf]; omega)
          | false =>
            have HBn : Hid ((atV (evK x y t k) i).2 = badV (evK x y t k) n (1 + 1)) := by show _ = (badV _ _ _ || (atV _ (argN n 1)).2); rw [hbad, HAi.out]; rfl
            clear hbad
            go_wp2_with (at_builtin; refine wpList_append_lies _ rfl _ _ 27 rfl W1.heap.size 3 i0 _ 1 8 Tryd.underlying27 hi_ hz0 hz1 hz2 rfl (by decide) (Value.slice va 1 vc) 1 ((argsV (evK x y t k) n 1).flatMap numL) (by rfl) (hrow.alloc _) ⟨wr.heap.size, 0, none⟩ 1 1 [.int .i64 (atV (evK x y t k) i).1] (by rfl) rfl (World.news_of_block (B := wr.heap.size) (cs := #[.int .i64 (atV (evK x y t k) i).1]) (t := 3) (fr := (0, 0)) (heap_alloc_new wr _)) (by simp [Value.oneCell']) (by omega) (by simp only [maxLen]; omega) (by omega) (by have := HV.out.size; simp; omega) _ rfl ?_; intro g9 c9 w9 hown9 hgrow9 hat9 hlt9; have HB9 := Lib.hid (below_push' (Nat.le_refl _) HV.out hrow hgrow9); have HO9 := Lib.hid hown9; clear hown9 hgrow9 hat9 n0 n1 n2 n3 n4 n5 n6 n7 zn hvl hgl hvo hgo; obtain ⟨n0, n1, n2, n3, n4, n5, n6, n7, zn⟩ := HK1.out _ HB9.out; obtain ⟨hgo, hvo⟩ := HGo.out _ HB9.out; rw [HA0.out] at n3)
            go_roundw
            case rel => exact ⟨1 + 1, some ⟨g9, 0, none⟩, c9, by omega, by go_num, by rw [← HBn.out], rfl, HB9, by rw [badV_args, HAi.out]; exact HO9.out⟩
            case measure => first | (simp [intOf]; done) | (simp [intOf]; omega)
        · have ha0 : n.a2 = (i : Int) := hi
          have HA0 := Lib.hid ha0
          rw [ha0] at n4
          clear ha0 hi
          try simp only [Nat.cast_ofNat_Int] at hjl
          cases hbad : badV (evK x y t k) n 2 with
          | true =>
            have HBn : Hid (true = badV (evK x y t k) n (2 + 1)) := by show _ = (badV _ _ _ || _); rw [hbad]; rfl
            clear hbad
            go_wp2_with (at_builtin; refine wpList_append_lies _ rfl _ _ 27 rfl W1.heap.size 3 i0 _ 1 8 Tryd.underlying27 hi_ hz0 hz1 hz2 rfl (by decide) (Value.slice va 2 vc) 2 ((argsV (evK x y t k) n 2).flatMap numL) (by rfl) (hrow.alloc _) ⟨wr.heap.size, 0, none⟩ 1 1 [.int .i64 (atV (evK x y t k) i).1] (by rfl) rfl (World.news_of_block (B := wr.heap.size) (cs := #[.int .i64 (atV (evK x y t k) i).1]) (t := 3) (fr := (0, 0)) (heap_alloc_new wr _)) (by simp [Value.oneCell']) (by omega) (by simp only [maxLen]; omega) (by omega) (by have := HV.out.size; simp; omega) _ rfl ?_; intro g9 c9 w9 hown9 hgrow9 hat9 hlt9; have HB9 := Lib.hid (below_push' (Nat.le_refl _) HV.out hrow hgrow9); have HO9 := Lib.hid hown9; clear hown9 hgrow9 hat9 n0 n1 n2 n3 n4 n5 n6 n7 zn hvl hgl hvo hgo; obtain ⟨n0, n1, n2, n3, n4, n5, n6, n7, zn⟩ := HK1.out _ HB9.out; obtain ⟨hgo, hvo⟩ := HGo.out _ HB9.out; rw [HA0.out] at n4)
            go_roundw
            case rel => exact ⟨2 + 1, some ⟨g9, 0, none⟩, c9, by omega, by go_num, by rw [← HBn.out], rfl, HB9, by rw [badV_args, HAi.out]; exact HO9.out⟩
            case measure => first | (simp [intOf]; done) | (simp [intOf]; omega)
          | false =>
            have HBn : Hid ((atV (evK x y t k) i).2 = badV (evK x y t k) n (2 + 1)) := by show _ = (badV _ _ _ || (atV _ (argN n 2)).2); rw [hbad, HAi.out]; rfl
            clear hbad
            go_wp2_with (at_builtin; refine wpList_append_lies _ rfl _ _ 27 rfl W1.heap.size 3 i0 _ 1 8 Tryd.underlying27 hi_ hz0 hz1 hz2 rfl (by decide) (Value.slice va 2 vc) 2 ((argsV (evK x y t k) n 2).flatMap numL) (by rfl) (hrow.alloc _) ⟨wr.heap.size, 0, none⟩ 1 1 [.int .i64 (atV (evK x y t k) i).1] (by rfl) rfl (World.news_of_block (B := wr.heap.size) (cs := #[.int .i64 (atV (evK x y t k) i).1]) (t := 3) (fr := (0, 0)) (heap_alloc_new wr _)) (by simp [Value.oneCell']) (by omega) (by simp only [maxLen]; omega) (by omega) (by have := HV.out.size; simp; omega) _ rfl ?_; intro g9 c9 w9 hown9 hgrow9 hat9 hlt9; have HB9 := Lib.hid (below_push' (Nat.le_refl _) HV.out hrow hgrow9); have HO9 := Lib.hid hown9; clear hown9 hgrow9 hat9 n0 n1 n2 n3 n4 n5 n6 n7 zn hvl hgl hvo hgo; obtain ⟨n0, n1, n2, n3, n4, n5, n6, n7, zn⟩ := HK1.out _ HB9.out; obtain ⟨hgo, hvo⟩ := HGo.out _ HB9.out; rw [HA0.out] at n4)
            go_roundw
            case rel => exact ⟨2 + 1, some ⟨g9, 0, none⟩, c9, by omega, by go_num, by rw [← HBn.out], rfl, HB9, by rw [badV_args, HAi.out]; exact HO9.out⟩
            case measure => first | (simp [intOf]; done) | (simp [intOf]; omega)
      · have hnj : n.len = (j : Int) := by omega
        have hnk : n.len.toNat = j := by omega
        have hSl : (argsV (evK x y t k) n j).length = j := by unfold argsV; rw [List.length_map, List.length_range]
        have HBv := Lib.hid (HBr.out _ HV.out)
        have HBt : Hid (∀ U, Below wr.heap.size wr U → Below wo.heap.size wo U) := fun U hU => HBv.out.trans (hU.mono HBv.out.size)
        obtain ⟨c0, c1, c2, y0, y1, t0, z0⟩ := HK.out _ (HB.out.trans (HBv.out.mono HB.out.size))
        cases hbad : badV (evK x y t k) n j with
        | true =>
          have HS9 : Hid (stepV x y (evK x y t k) n = (0, true)) := by show stepV _ _ _ _ = _; unfold stepV; rw [hnk, hbad]; rfl
          clear hbad hnk hnj hSl
          have hl9 := Tm.own_heap HL.out (fun k _ hk => (HBv.out).block k hk)
          have ho9 := Tm.own_heap HO.out (fun k _ hk => (HBv.out).block k hk)
          have HBV : Hid (Below W0.heap.size W0 wr) := HB.out.trans ((HBv.out).mono HB.out.size)
          have hzV : W0.heap.size ≤ wr.heap.size := HBV.out.size
          go_wp2_with (first | (at_builtin; refine wpList_append_lies _ rfl _ _ 27 rfl W0.heap.size 3 i0 _ 1 8 Tryd.underlying27 hi_ hz0 hz1 hz2 rfl (by decide) (Value.slice la k lc) k ((evK x y t k).flatMap valL) (by rfl) (hl9.alloc _) ⟨wr.heap.size, 0, none⟩ 1 1 [.int .i64 0] (by rfl) rfl (World.news_of_block (B := wr.heap.size) (cs := #[.int .i64 0]) (t := 3) (fr := (0, 0)) (heap_alloc_new wr _)) (by simp [Value.oneCell']) (by omega) (by simp only [maxLen]; omega) (by omega) (by simp; omega) _ rfl ?_; intro g8 c8 w8 hown8 hgrow8 hat8 hlt8; have HB8 := Lib.hid (below_push' (Nat.le_refl _) HBV.out hl9 hgrow8); have ho8 := own_by ho9 hl9 ty_ib.symm hgrow8; clear hgrow8 hat8 hl9 ho9) | (at_builtin; refine wpList_append_lies _ rfl _ _ 41 rfl W0.heap.size 4 b0 _ 1 1 Tryd.underlying41 hbi_ hbz0 hbz1 hbz2 rfl (by decide) (Value.slice oa k oc) k ((evK x y t k).flatMap bitL) (by rfl) (ho8.alloc _) ⟨w8.heap.size, 0, none⟩ 1 1 [.bool true] (by rfl) rfl (World.news_of_block (B := w8.heap.size) (cs := #[.bool true]) (t := 4) (fr := (0, 0)) (heap_alloc_new w8 _)) (by simp [Value.oneCell']) (by omega) (by simp only [maxLen]; omega) (by omega) (by have := HB8.out.size; simp; omega) _ rfl ?_; intro g9 c9 w9 hown9 hgrow9 hat9 hlt9; have HB9 := Lib.hid (below_push' (Nat.le_refl _) HB8.out ho8 hgrow9); have HL9 := Lib.hid (own_by hown8 ho8 ty_ib hgrow9); have HO9 := Lib.hid hown9; clear hgrow9 hat9 hown8 hown9 ho8))
          go_roundw
          case rel =>
            obtain ⟨e1, e2, e3⟩ := evK_row HSt.out HS9.out
            exact ⟨k + 1, some ⟨g8, 0, none⟩, c8, some ⟨g9, 0, none⟩, c9, by omega, by go_num, rfl, rfl, HB9, fun q hq => e3 q (HI.out q) (by have h := HSo.out; rw [HS9.out] at h; exact h) hq, by rw [e1]; exact HL9.out, by rw [e2]; exact HO9.out⟩
          case measure => simp [intOf]; omega
        | false =>
          obtain ⟨X, q, hr⟩ : ∃ X q, ndV x y n (argsV (evK x y t k) n j) = (X, q) := ⟨_, _, rfl⟩
          obtain ⟨_, _, hat⟩ := own_to HR.out
          have hvo : ∀ a ∈ argsV (evK x y t k) n j, I64 a := fun a ha => by
            unfold argsV at ha
            obtain ⟨b, _, rfl⟩ := List.mem_map.1 ha
            unfold atV
            cases e : (evK x y t k)[(argN n b).toNat]? with
            | none => exact ⟨by decide, by decide⟩
            | some p => exact HI.out p (List.mem_of_getElem? e)
          have h := value_any x y n (argsV (evK x y t k) n j) va vc X q wr (HX.out.below (HBw.out.trans (HBv.out.mono HBw.out.size))) (HY.out.below (HBw.out.trans (HBv.out.mono HBw.out.size))) HNo.out hat hvo (by omega) ⟨HNx.out.1, HNx.out.2.1⟩ (by rw [hSl]; have := HNx.out.2.2; omega) hr
          rw [hSl] at h
          have HC := Lib.hid h
          clear h hat hvo
          cases q with
          | true =>
            have HS9 : Hid (stepV x y (evK x y t k) n = (X, false)) := by show stepV _ _ _ _ = _; unfold stepV; rw [hnk, hbad, hr]; rfl
            clear hbad hnk hnj hSl hr
            go_wp2_with (first | (go_at_call 21; refine HC.out.mono ?_; rintro e w7 ⟨rfl, hb7⟩; have HB7 := Lib.hid (HBt.out _ hb7); clear hb7 c0 c1 c2 y0 y1 t0 z0 n0 n1 n2 n3 n4 n5 n6 n7 zn; have hl9 := Tm.own_heap HL.out (fun k _ hk => (HB7.out).block k hk); have ho9 := Tm.own_heap HO.out (fun k _ hk => (HB7.out).block k hk); have HBV : Hid (Below W0.heap.size W0 w7) := HB.out.trans ((HB7.out).mono HB.out.size); have hzV : W0.heap.size ≤ w7.heap.size := HBV.out.size) | (at_builtin; refine wpList_append_lies _ rfl _ _ 27 rfl W0.heap.size 3 i0 _ 1 8 Tryd.underlying27 hi_ hz0 hz1 hz2 rfl (by decide) (Value.slice la k lc) k ((evK x y t k).flatMap valL) (by rfl) (hl9.alloc _) ⟨w7.heap.size, 0, none⟩ 1 1 [.int .i64 X] (by rfl) rfl (World.news_of_block (B := w7.heap.size) (cs := #[.int .i64 X]) (t := 3) (fr := (0, 0)) (heap_alloc_new w7 _)) (by simp [Value.oneCell']) (by omega) (by simp only [maxLen]; omega) (by omega) (by simp; omega) _ rfl ?_; intro g8 c8 w8 hown8 hgrow8 hat8 hlt8; have HB8 := Lib.hid (below_push' (Nat.le_refl _) HBV.out hl9 hgrow8); have ho8 := own_by ho9 hl9 ty_ib.symm hgrow8; clear hgrow8 hat8 hl9 ho9) | (at_builtin; refine wpList_append_lies _ rfl _ _ 41 rfl W0.heap.size 4 b0 _ 1 1 Tryd.underlying41 hbi_ hbz0 hbz1 hbz2 rfl (by decide) (Value.slice oa k oc) k ((evK x y t k).flatMap bitL) (by rfl) (ho8.alloc _) ⟨w8.heap.size, 0, none⟩ 1 1 [.bool false] (by rfl) rfl (World.news_of_block (B := w8.heap.size) (cs := #[.bool false]) (t := 4) (fr := (0, 0)) (heap_alloc_new w8 _)) (by simp [Value.oneCell']) (by omega) (by simp only [maxLen]; omega) (by omega) (by have := HB8.out.size; simp; omega) _ rfl ?_; intro g9 c9 w9 hown9 hgrow9 hat9 hlt9; have HB9 := Lib.hid (below_push' (Nat.le_refl _) HB8.out ho8 hgrow9); have HL9 := Lib.hid (own_by hown8 ho8 ty_ib hgrow9); have HO9 := Lib.hid hown9; clear hgrow9 hat9 hown8 hown9 ho8))
            go_roundw
            case rel =>
              obtain ⟨e1, e2, e3⟩ := evK_row HSt.out HS9.out
              exact ⟨k + 1, some ⟨g8, 0, none⟩, c8, some ⟨g9, 0, none⟩, c9, by omega, by go_num, rfl, rfl, HB9, fun q hq => e3 q (HI.out q) (by have h := HSo.out; rw [HS9.out] at h; exact h) hq, by rw [e1]; exact HL9.out, by rw [e2]; exact HO9.out⟩
            case measure => simp [intOf]; omega
          | false =>
            have HS9 : Hid (stepV x y (evK x y t k) n = (0, true)) := by show stepV _ _ _ _ = _; unfold stepV; rw [hnk, hbad, hr]; rfl
            clear hbad hnk hnj hSl hr
            go_wp2_with (first | (go_at_call 21; refine HC.out.mono ?_; rintro e w7 ⟨rfl, hb7⟩; have HB7 := Lib.hid (HBt.out _ hb7); clear hb7 c0 c1 c2 y0 y1 t0 z0 n0 n1 n2 n3 n4 n5 n6 n7 zn; have hl9 := Tm.own_heap HL.out (fun k _ hk => (HB7.out).block k hk); have ho9 := Tm.own_heap HO.out (fun k _ hk => (HB7.out).block k hk); have HBV : Hid (Below W0.heap.size W0 w7) := HB.out.trans ((HB7.out).mono HB.out.size); have hzV : W0.heap.size ≤ w7.heap.size := HBV.out.size) | (at_builtin; refine wpList_append_lies _ rfl _ _ 27 rfl W0.heap.size 3 i0 _ 1 8 Tryd.underlying27 hi_ hz0 hz1 hz2 rfl (by decide) (Value.slice la k lc) k ((evK x y t k).flatMap valL) (by rfl) (hl9.alloc _) ⟨w7.heap.size, 0, none⟩ 1 1 [.int .i64 0] (by rfl) rfl (World.news_of_block (B := w7.heap.size) (cs := #[.int .i64 0]) (t := 3) (fr := (0, 0)) (heap_alloc_new w7 _)) (by simp [Value.oneCell']) (by omega) (by simp only [maxLen]; omega) (by omega) (by simp; omega) _ rfl ?_; intro g8 c8 w8 hown8 hgrow8 hat8 hlt8; have HB8 := Lib.hid (below_push' (Nat.le_refl _) HBV.out hl9 hgrow8); have ho8 := own_by ho9 hl9 ty_ib.symm hgrow8; clear hgrow8 hat8 hl9 ho9) | (at_builtin; refine wpList_append_lies _ rfl _ _ 41 rfl W0.heap.size 4 b0 _ 1 1 Tryd.underlying41 hbi_ hbz0 hbz1 hbz2 rfl (by decide) (Value.slice oa k oc) k ((evK x y t k).flatMap bitL) (by rfl) (ho8.alloc _) ⟨w8.heap.size, 0, none⟩ 1 1 [.bool true] (by rfl) rfl (World.news_of_block (B := w8.heap.size) (cs := #[.bool true]) (t := 4) (fr := (0, 0)) (heap_alloc_new w8 _)) (by simp [Value.oneCell']) (by omega) (by simp only [maxLen]; omega) (by omega) (by have := HB8.out.size; simp; omega) _ rfl ?_; intro g9 c9 w9 hown9 hgrow9 hat9 hlt9; have HB9 := Lib.hid (below_push' (Nat.le_refl _) HB8.out ho8 hgrow9); have HL9 := Lib.hid (own_by hown8 ho8 ty_ib hgrow9); have HO9 := Lib.hid hown9; clear hgrow9 hat9 hown8 hown9 ho8))
            go_roundw
            case rel =>
              obtain ⟨e1, e2, e3⟩ := evK_row HSt.out HS9.out
              exact ⟨k + 1, some ⟨g8, 0, none⟩, c8, some ⟨g9, 0, none⟩, c9, by omega, by go_num, rfl, rfl, HB9, fun q hq => e3 q (HI.out q) (by have h := HSo.out; rw [HS9.out] at h; exact h) hq, by rw [e1]; exact HL9.out, by rw [e2]; exact HO9.out⟩
            case measure => simp [intOf]; omega
end Go.Proofs.YtinogambkfihpaaDoor
