/- Rows of one's own, handed to the library's functions that write into them. -/
import Derived.Test.YtbjplhbflbabjaaDoorClA
import Derived.Test.YtbjplhbflbabjaaDoorShf
import Derived.Sort.OwnSortedInts
import Derived.Lib.RowBridge
namespace Go.Proofs.YtbjplhbflbabjaaDoor.Tm
open Go.RowKit Go.Sort Go.Lib Go.Shelf
set_option linter.unusedVariables false
theorem row_put {w : World} {base g cap q : Nat} {cur : Array Value} {xs ys rest : List Int} (os : Array Obj) (hb : w.heap[g]? = some (.cells cur 3 (0, 0))) (hbase : base ≤ g) (h1 : xs.length ≤ cap) (h2 : cap ≤ maxLen) (h3 : cur.size = cap * 1) (hl : (ys ++ rest).length = xs.length) :
    RowO (grow (putRow (Value.int .i64) (Sort.ahead w q) g 0 (ys ++ rest).toArray) os) base ys (.slice (some ⟨g, 0, none⟩) ys.length cap) ∧ w.grownBy (grow (putRow (Value.int .i64) (Sort.ahead w q) g 0 (ys ++ rest).toArray) os) (some g) := by
  rw [List.length_append] at hl
  refine ⟨⟨by simp, .inr ⟨g, cap, _, rfl, hbase, heap_sortedI _ hb, by omega, h2, by simp [putCells, h3], ?_⟩⟩, grownBy_sortedI _⟩
  have h := take_putCellsI cur (ys ++ rest) (by rw [List.length_append, h3]; omega)
  have h4 := congrArg (List.take ys.length) h
  rw [List.take_take, List.length_append, Nat.min_eq_left (by omega), List.map_append, List.take_left' (by simp)] at h4
  rw [Nat.mul_one]
  exact h4
theorem below_grownby {w w' : World} {base g : Nat} (hg : w.grownBy w' (some g)) (hbase : base ≤ g) (hb : base ≤ w.heap.size) : Below base w w' :=
  ⟨hg.os, hg.tape, hg.output, hg.size, fun k hk => hg.block k (by omega) (fun e => by cases e; omega)⟩
theorem holds_own {w : World} {g cap : Nat} {cur : Array Value} {xs : List Int} (hb : w.heap[g]? = some (.cells cur 3 (0, 0))) (ht : cur.toList.take (xs.length * 1) = xs.map (Value.int .i64)) : Holds (Value.int .i64) w g 0 xs.toArray := by
  rw [Nat.mul_one] at ht
  exact holds_of_blockI hb ht
theorem len_fits {n cap : Nat} (h1 : n ≤ cap) (h2 : cap ≤ maxLen) : n ≤ 9223372036854775807 := by simp only [maxLen] at h2; omega
theorem delete_any (p : Int → Bool) (gf : Nat) (lb : Array Value) (eg : ∀ args w, (callFunc gf args).run Tryd.prog w = .ok (.enter gf args) w) (xs : List Int) (v : Value) (base : Nat) (w : World) (hown : RowO w base xs v) (hbase : base ≤ w.heap.size)
    (hp : ∀ W x, Below base w W → FnGives Tryd.prog gf lb #[.int .i64 x] (.bool (p x)) W) :
    Calls Tryd.prog 28 #[v, .func (.func gf) #[] lb] w fun e w' => ∃ v', e = .returned v' ∧ RowO w' base (xs.filter fun x => !p x) v' ∧ Below base w w' := by
  rcases hown.2 with ⟨rfl, h0⟩ | ⟨g, cap, cur, rfl, h1, h2, h3, h4, h5, h6⟩
  · have hx : xs = [] := List.eq_nil_of_length_eq_zero h0
    subst hx
    have HR := Lib.hid hown
    have HI : Hid (∀ V, Calls Tryd.prog 35 #[.slice none 0 0, .func (.func gf) #[] lb] V fun e w' => e = .returned (.int .i64 (-1)) ∧ w' = V) := fun V => Tryd.slices_IndexFunc_empty (α := Int) none 0 _ V
    clear hown hp
    go_enter Tryd.func28, Tryd.ntmps28
    go_wp2_with (go_at_call 35; refine (HI.out _).mono ?_; rintro e w1 ⟨rfl, rfl⟩)
    go_ret
    exact ⟨_, rfl, HR.out, Below.refl _ _⟩
  · have hglt := (Array.getElem?_eq_some_iff.1 h2).1
    have key := Tryd.slices_DeleteFunc (α := Int) (Value.int .i64) (fun _ => rfl) p gf lb eg 0 (fun w => Tryd.zeroValue3 w) g 0 cap xs.toArray w
      (fun W x hb => hp W x (hb.mono hbase))
      (fun n os dk x _ => hp _ x (below_grownby (grownBy_sortedI dk) h1 hbase)) (holds_own (cap := cap) h2 h6) (by simpa using len_fits h3 h4) (by simpa using h3)
    rw [List.size_toArray] at key
    refine key.mono ?_
    rintro e w' ⟨rfl, q, rfl⟩
    have hfl : (xs.filter fun x => !p x).length ≤ xs.length := List.length_filter_le _ _
    obtain ⟨r1, r2⟩ := row_put (w := w) (base := base) (q := q) (xs := xs) (ys := xs.filter fun x => !p x) (rest := List.replicate (xs.length - (xs.filter fun x => !p x).length) 0) #[] h2 h1 h3 h4 h5 (by rw [List.length_append, List.length_replicate]; omega)
    rw [grow_empty] at r1 r2
    refine ⟨_, rfl, ?_, ?_⟩
    · simpa using r1
    · simpa using below_grownby r2 h1 hbase
theorem sort_any (xs : List Int) (v : Value) (base : Nat) (w : World) (hown : RowO w base xs v) (hbase : base ≤ w.heap.size) (hm : xs.length ≤ 4000000000000000000) :
    Calls Tryd.prog 31 #[v] w fun e w' => e = .returned (.tuple #[]) ∧ RowO w' base (xs.mergeSort fun x y => decide (x ≤ y)) v ∧ Below base w w' := by
  rcases hown.2 with ⟨rfl, h0⟩ | ⟨g, cap, cur, rfl, h1, h2, h3, h4, h5, h6⟩
  · have hx : xs = [] := List.eq_nil_of_length_eq_zero h0
    subst hx
    refine (Tryd.slices_Sort_int_none none 0 w).mono ?_
    rintro e w' ⟨rfl, rfl⟩
    exact ⟨rfl, by rw [List.mergeSort_nil]; exact hown, Below.refl _ _⟩
  · have hglt := (Array.getElem?_eq_some_iff.1 h2).1
    refine (Tryd.slices_Sort_int g 0 cap xs w (holds_own (cap := cap) h2 h6) hglt (by omega)).mono ?_
    rintro e w' ⟨rfl, q, os, rfl⟩
    obtain ⟨r1, r2⟩ := row_put (w := w) (base := base) (q := q) (xs := xs) (ys := xs.mergeSort fun x y => decide (x ≤ y)) (rest := []) os h2 h1 h3 h4 h5 (by simp)
    rw [List.append_nil] at r1 r2
    refine ⟨rfl, ?_, below_grownby r2 h1 hbase⟩
    rw [List.length_mergeSort] at r1
    exact r1
theorem compact_any (xs : List Int) (v : Value) (base : Nat) (w : World) (hown : RowO w base xs v) (hbase : base ≤ w.heap.size) :
    Calls Tryd.prog 32 #[v] w fun e w' => ∃ v', e = .returned v' ∧ RowO w' base (Lib.compact xs) v' ∧ Below base w w' := by
  rcases hown.2 with ⟨rfl, h0⟩ | ⟨g, cap, cur, rfl, h1, h2, h3, h4, h5, h6⟩
  · have hx : xs = [] := List.eq_nil_of_length_eq_zero h0
    subst hx
    refine (Tryd.slices_Compact_int_empty none 0 w).mono ?_
    rintro e w' ⟨rfl, rfl⟩
    exact ⟨_, rfl, hown, Below.refl _ _⟩
  · have hglt := (Array.getElem?_eq_some_iff.1 h2).1
    refine (Tryd.slices_Compact_int g 0 cap xs w (holds_own (cap := cap) h2 h6) (len_fits h3 h4) h3).mono ?_
    rintro e w' ⟨rfl, q, rfl⟩
    have hfl := Lib.compact_length_le xs
    obtain ⟨r1, r2⟩ := row_put (w := w) (base := base) (q := q) (xs := xs) (ys := Lib.compact xs) (rest := List.replicate (xs.length - (Lib.compact xs).length) 0) #[] h2 h1 h3 h4 h5 (by rw [List.length_append, List.length_replicate]; omega)
    rw [grow_empty] at r1 r2
    exact ⟨_, rfl, r1, below_grownby r2 h1 hbase⟩
end Go.Proofs.YtbjplhbflbabjaaDoor.Tm
