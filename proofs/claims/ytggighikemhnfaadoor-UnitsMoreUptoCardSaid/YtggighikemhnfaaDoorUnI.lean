/- sort.IntSlice's methods. -/
import Derived.Test.YtggighikemhnfaaDoorUnH
import Derived.Test.YtggighikemhnfaaDoorClE
import Derived.BigQuiet
import Derived.RegionTactic
namespace Go.Proofs.YtggighikemhnfaaDoor.Tm
open Go.RowKit
set_option linter.unusedVariables false
/-- All blocks of P are as they were. -/
structure Kp (P : Nat → Prop) (w w' : World) : Prop where
  os : w'.os = w.os
  tape : w'.tape = w.tape
  output : w'.output = w.output
  size : w'.heap.size = w.heap.size
  keep : ∀ k, P k → w'.heap[k]? = w.heap[k]?
theorem Kp.refl (P : Nat → Prop) (w : World) : Kp P w w := ⟨rfl, rfl, rfl, rfl, fun _ _ => rfl⟩
theorem Kp.trans {P : Nat → Prop} {u v w : World} (h : Kp P u v) (k : Kp P v w) : Kp P u w :=
  ⟨k.os.trans h.os, k.tape.trans h.tape, k.output.trans h.output, k.size.trans h.size, fun i hi => (k.keep i hi).trans (h.keep i hi)⟩
theorem Kp.drewN {P : Nat → Prop} {u w : World} (h : Kp P u w) (n : Nat) : Kp P u (w.drewN n) := ⟨h.os, h.tape, h.output, h.size, h.keep⟩
theorem Kp.cell {P : Nat → Prop} {w w' : World} (h : Kp P w w') {b o : Nat} (hb : P b) : w'.cell? ⟨b, o, none⟩ = w.cell? ⟨b, o, none⟩ := World.cell?_of_block (a := ⟨b, o, none⟩) (h.keep b hb)
theorem Kp.set {P : Nat → Prop} {u w : World} (h : Kp P u w) {g o : Nat} (hg : ¬ P g) (v : Value) : Kp P u (w.setCell ⟨g, o, none⟩ v) :=
  ⟨h.os, h.tape, h.output, by simpa using h.size, fun k hk => (Below.heap_setCell _ _ _ _ (fun e => hg (by subst e; exact hk))).trans (h.keep k hk)⟩
theorem row_cell {w : World} {base g cap : Nat} {L : List Int} (h : RowO w base L (.slice (some ⟨g, 0, none⟩) L.length cap)) {i : Nat} (hi : i < L.length) : w.cell? ⟨g, i, none⟩ = some (.int .i64 (atI L i)) := by
  obtain ⟨a, c, e, _, _, h3, _⟩ := own_at h
  cases e
  obtain ⟨g', o', e2, _, hc⟩ := h3 (by simp; omega)
  cases e2
  have := hc i (.int .i64 (atI L i)) (by rw [List.getElem?_map, atI_get hi]; rfl)
  rw [Nat.zero_add] at this
  exact this
theorem row_own {w : World} {base g cap : Nat} {L : List Int} (h : RowO w base L (.slice (some ⟨g, 0, none⟩) L.length cap)) : ∃ cur, w.heap[g]? = some (.cells cur 3 (0, 0)) ∧ base ≤ g ∧ L.length ≤ cap ∧ cap ≤ maxLen ∧ cur.size = cap ∧ cur.toList.take L.length = L.map (.int .i64) := by
  rcases h.2 with ⟨e, _⟩ | ⟨g', cap', cur, e, h1, h2, h3, h4, h5, h6⟩
  · cases e
  · cases e
    rw [Nat.mul_one] at h5 h6
    exact ⟨cur, h2, h1, h3, h4, h5, h6⟩
theorem row_set {w : World} {base g cap : Nat} {L : List Int} (h : RowO w base L (.slice (some ⟨g, 0, none⟩) L.length cap)) {i : Nat} (hi : i < L.length) (x : Int) : RowO (w.setCell ⟨g, i, none⟩ (.int .i64 x)) base (L.set i x) (.slice (some ⟨g, 0, none⟩) (L.set i x).length cap) := by
  obtain ⟨cur, h2, h1, h3, h4, h5, h6⟩ := row_own h
  rw [List.length_set]
  refine ⟨by simp, .inr ⟨g, cap, cur.setIfInBounds i (.int .i64 x), by simp, h1, ?_, by simp; omega, h4, by simp; omega, ?_⟩⟩
  · rw [heap_setCell_same w g i _ _ _ h2]
  · rw [List.length_set, Nat.mul_one, List.map_set, ← h6]
    simp [List.take_set]
theorem row_fz {w : World} {base g cap : Nat} {L : List Int} (h : RowO w base L (.slice (some ⟨g, 0, none⟩) L.length cap)) (i : Nat) : w.frozen? ⟨g, i, none⟩ = false ∧ g < w.heap.size := by
  obtain ⟨cur, h2, _⟩ := row_own h
  exact ⟨by simp [World.frozen?, h2], (Array.getElem?_eq_some_iff.1 h2).1⟩
theorem ILen_any (a : Option Addr) (n c : Nat) (w : World) : Calls Tryd.prog 59 #[.slice a n c] w fun e w' => e = .returned (.int .i64 n) ∧ w = w' := by
  go_enter Tryd.func59, Tryd.ntmps59
  go_wp2
  go_ret
  exact ⟨rfl, rfl⟩
theorem ILess_any (base g cap : Nat) (L : List Int) (i j : Nat) (r : Bool) (w : World) (h : RowO w base L (.slice (some ⟨g, 0, none⟩) L.length cap)) (hi : i < L.length) (hj : j < L.length) (hr : decide (atI L i < atI L j) = r) :
    Calls Tryd.prog 93 #[.slice (some ⟨g, 0, none⟩) L.length cap, .int .i64 i, .int .i64 j] w fun e w' => e = .returned (.bool r) ∧ ∃ q, w' = w.drewN q := by
  have c1 := row_cell h hi
  have c2 := row_cell h hj
  obtain ⟨_, hlt⟩ := row_fz h 0
  have l1 : L.length ≤ 9223372036854775807 := by
    obtain ⟨cur, h2, h1, h3, h4, _⟩ := row_own h
    simp only [maxLen] at h4; omega
  obtain ⟨x, hx⟩ : ∃ x, atI L i = x := ⟨_, rfl⟩
  obtain ⟨y, hy⟩ : ∃ y, atI L j = y := ⟨_, rfl⟩
  rw [hx] at c1 hr
  rw [hy] at c2 hr
  have i1 : (i : Int) < (L.length : Int) := by omega
  have j1 : (j : Int) < (L.length : Int) := by omega
  have HR := Lib.hid hr
  clear h hr hx hy
  go_enter Tryd.func93, Tryd.ntmps93
  go_wp2
  go_quiet (fail)
  go_wp2
  go_ret
  exact ⟨ret_bool HR.out, _, rfl⟩
theorem ISwap_any (base g cap : Nat) (L : List Int) (i j : Nat) (w : World) (h : RowO w base L (.slice (some ⟨g, 0, none⟩) L.length cap)) (hi : i < L.length) (hj : j < L.length) :
    Calls Tryd.prog 95 #[.slice (some ⟨g, 0, none⟩) L.length cap, .int .i64 i, .int .i64 j] w fun e w' => e = .returned (.tuple #[]) ∧ Hid (RowO w' base (swapL L i j) (.slice (some ⟨g, 0, none⟩) L.length cap) ∧ Kp (fun k => k ≠ g) w w') := by
  have c1 := row_cell h hi
  have c2 := row_cell h hj
  obtain ⟨_, hlt⟩ := row_fz h 0
  have f1 := (row_fz h i).1
  have f2 := (row_fz h j).1
  have l1 : L.length ≤ 9223372036854775807 := by
    obtain ⟨cur, h2, h1, h3, h4, _⟩ := row_own h
    simp only [maxLen] at h4; omega
  have HF : Hid (RowO (((w.setCell ⟨g, i, none⟩ (.int .i64 (atI L j))).setCell ⟨g, j, none⟩ (.int .i64 (atI L i))).drew) base (swapL L i j) (.slice (some ⟨g, 0, none⟩) L.length cap) ∧ Kp (fun k => k ≠ g) w (((w.setCell ⟨g, i, none⟩ (.int .i64 (atI L j))).setCell ⟨g, j, none⟩ (.int .i64 (atI L i))).drew)) := by
    have h2 := row_set h hi (atI L j)
    have h3 := row_set h2 (i := j) (by rw [List.length_set]; exact hj) (atI L i)
    rw [List.length_set, List.length_set] at h3
    exact ⟨h3, (((Kp.refl _ w).set (fun e => e rfl) _).set (fun e => e rfl) _).drewN 1⟩
  obtain ⟨x, hx⟩ : ∃ x, atI L i = x := ⟨_, rfl⟩
  obtain ⟨y, hy⟩ : ∃ y, atI L j = y := ⟨_, rfl⟩
  rw [hx] at c1 HF
  rw [hy] at c2 HF
  have i1 : (i : Int) < (L.length : Int) := by omega
  have j1 : (j : Int) < (L.length : Int) := by omega
  clear h hx hy
  by_cases hij : i = j
  · subst hij
    obtain rfl : y = x := by rw [c1] at c2; cases c2; rfl
    clear c2
    go_enter Tryd.func95, Tryd.ntmps95
    go_wp2
    go_region
    all_goals go_wp2
    all_goals go_end0
    all_goals exact ⟨rfl, HF⟩
  · have hji : ¬ j = i := fun e => hij e.symm
    go_enter Tryd.func95, Tryd.ntmps95
    go_wp2
    go_region
    all_goals go_wp2
    all_goals go_end0
    all_goals exact ⟨rfl, HF⟩
end Go.Proofs.YtggighikemhnfaaDoor.Tm
