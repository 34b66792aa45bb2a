/- Nodes in a row, sorted. -/
import Derived.Test.YtmgppnepccmceaaHpN
import Derived.Test.YtmgppnepccmceaaHpS
namespace Go.Proofs.Ytmgppnepccmceaa
open Go.RowKit
set_option linter.unusedVariables false
def encN (x : Int × Int) : List Value := [.int .i32 x.1, .int .i64 x.2]
theorem cmp_lt (x y : Int × Int) : ltOf cmpN x y = decide (y.2 < x.2 ∨ x.2 = y.2 ∧ x.1 < y.1) := by
  obtain ⟨x1, x2⟩ := x
  obtain ⟨y1, y2⟩ := y
  unfold ltOf cmpN orI Lib.compareInt
  dsimp only
  apply decide_eq_decide.2
  repeat' split
  all_goals omega
theorem cmp_swo : Sort.SWO (ltOf cmpN) where
  irrefl x := by rw [cmp_lt]; simp
  trans x y z h1 h2 := by rw [cmp_lt] at *; simp at *; omega
  ntrans x y z h1 h2 := by rw [cmp_lt] at *; simp at *; omega
/-- A row of nodes. -/
def rowN (D : List (Int × Int)) : List Value := D.flatMap encN
theorem rowN_len (D : List (Int × Int)) : (rowN D).length = D.length * 2 := len_flat (f := encN) (n := 2) (fun _ => rfl) D
theorem rowN_get {D : List (Int × Int)} {i j : Nat} {x : Int × Int} (h : D[i]? = some x) (hj : j < 2) : (rowN D)[i * 2 + j]? = (encN x)[j]? := get_flat (f := encN) (n := 2) (fun _ => rfl) D i j x h hj
theorem rowN_set {D : List (Int × Int)} {i : Nat} (hi : i < D.length) (x : Int × Int) : ((rowN D).set (i * 2) (.int .i32 x.1)).set (i * 2 + 1) (.int .i64 x.2) = rowN (D.set i x) := by
  apply List.ext_getElem?
  intro k
  rw [List.getElem?_set, List.getElem?_set]
  simp only [List.length_set, rowN_len]
  by_cases hk : k < D.length * 2
  · have e : k = k / 2 * 2 + k % 2 := by omega
    obtain ⟨q, hq⟩ : ∃ q, k / 2 = q := ⟨_, rfl⟩
    obtain ⟨j, hj⟩ : ∃ j, k % 2 = j := ⟨_, rfl⟩
    rw [hq, hj] at e
    have hqD : q < D.length := by omega
    have hj2 : j < 2 := by omega
    subst e
    by_cases hqi : q = i
    · subst hqi
      rw [rowN_get (D := D.set q x) (x := x) (by rw [List.getElem?_set, if_pos rfl, if_pos hqD]) hj2]
      rcases (show j = 0 ∨ j = 1 by omega) with e | e <;> subst e
      · rw [if_neg (by omega), if_pos (by omega), if_pos (by omega)]; rfl
      · rw [if_pos (by omega), if_pos (by omega)]; rfl
    · rw [if_neg (by omega), if_neg (by omega), rowN_get (List.getElem?_eq_getElem hqD) hj2, rowN_get (D := D.set i x) (by rw [List.getElem?_set, if_neg (fun e => hqi e.symm), List.getElem?_eq_getElem hqD]) hj2]
  · rw [if_neg (by omega), if_neg (by omega), List.getElem?_eq_none (by rw [rowN_len]; omega), List.getElem?_eq_none (by rw [rowN_len, List.length_set]; omega)]
section
open Go.Shelf Go.Lib Go.Sort
theorem sort_any (D : List (Int × Int)) (c b : Nat) (W : World) (h : W.heap[b]? = some (.cells ⟨rowN D⟩ 51 (0, 0))) (hD : D.length ≤ 300) :
    Calls Try.prog 35 #[.slice (some ⟨b, 0, none⟩) D.length c, .func (.func 36) #[] #[]] W fun e w' => e = .returned (.tuple #[]) ∧ ∃ D' : List (Int × Int), D'.Perm D ∧ D'.Pairwise (fun x y => ltOf cmpN y x = false) ∧ (∀ i x, D'[i]? = some x → w'.cell? ⟨b, i * 2, none⟩ = some (.int .i32 x.1) ∧ w'.cell? ⟨b, i * 2 + 1, none⟩ = some (.int .i64 x.2)) ∧ Gr (fun k => k ≠ b) W w' := by
  have hb := (Array.getElem?_eq_some_iff.1 h).1
  have eg : ∀ args w, (callFunc 36 args).run Try.prog w = .ok (.enter 36 args) w := enters_of Try.func36 (by kernel_rfl) rfl
  have hH : HoldsK encN 2 W b 0 D.toArray := by
    intro k hk
    rw [size_flatK] at hk
    have hk2 : k < D.length * 2 := by simpa using hk
    refine ⟨?_, by simp [World.frozen?, h]⟩
    show W.cell? ⟨b, 0 + k, none⟩ = some ((flatK encN 2 D.toArray)[k]!)
    rw [Nat.zero_add, cell_of_row W b _ _ _ _ h, ← Array.getElem?_toList, get_flatK _ _ _ _ hk]
    show (rowN D)[k]? = _
    have hq : k / 2 < D.length := by omega
    have := rowN_get (D := D) (i := k / 2) (j := k % 2) (List.getElem?_eq_getElem hq) (by omega)
    rw [show k / 2 * 2 + k % 2 = k by omega] at this
    rw [this]
    have e : D.toArray[k / 2]! = D[k / 2] := by simp [hq]
    rw [e]
    rcases (show k % 2 = 0 ∨ k % 2 = 1 by omega) with e | e <;> rw [e] <;> rfl
  have hcon := AnyQ.slices_SortFunc Try.sortNode 2 Try.isAgg51 Try.sizeOf51 encN (fun _ => rfl) (fun x v hv => by simp [encN] at hv; rcases hv with rfl | rfl <;> rfl) cmpN cmp_swo 36 #[] b 0 c D.toArray W eg (fun _ _ _ _ x y => compare_any x y _) hH hb (by simp; omega)
  change Calls Try.prog 35 _ _ _ at hcon
  refine hcon.mono ?_
  rintro e w' ⟨he, d', n, os, hp, hs, hw⟩
  obtain ⟨hp1, _, hp3⟩ := hp
  have hsz : D.toArray.size = D.length := by simp
  have hd : d'.size = D.length := by rw [hp1, hsz]
  have hperm : d'.toList.Perm D := by
    have e1 : d'.extract 0 D.toArray.size = d' := by rw [hsz, ← hd, Array.extract_size]
    have e2 : D.toArray.extract 0 D.toArray.size = D.toArray := Array.extract_size
    rw [e1, e2] at hp3
    exact hp3
  have hhold : HoldsK encN 2 w' b 0 d' := by
    rw [hw]
    exact holdsK_sortWorldK_c encN 2 W b 0 D.toArray d' n os hH hb (by rw [hd, hsz])
  refine ⟨he, d'.toList, hperm, ?_, fun i x hx => ?_, ?_⟩
  · rw [List.pairwise_iff_getElem]
    intro i j hi hj hij
    have := hs i j (Nat.zero_le _) hij (by rw [hsz, ← hd]; simpa using hj)
    have hi' : i < d'.size := by simpa using hi
    have hj' : j < d'.size := by simpa using hj
    rw [getElem!_pos d' i hi', getElem!_pos d' j hj'] at this
    simpa using this
  · have hi : i < d'.size := by
      have := (List.getElem?_eq_some_iff.1 hx).1
      simpa using this
    have hxe : d'[i]! = x := by
      rw [getElem!_pos d' i hi]
      have := (List.getElem?_eq_some_iff.1 hx).2
      simpa using this
    have c1 := (hhold.cell hi (c := 0) (by omega))
    have c2 := (hhold.cell hi (c := 1) (by omega))
    rw [hxe] at c1 c2
    rw [Nat.zero_add, Nat.add_zero] at c1
    rw [Nat.zero_add] at c2
    exact ⟨c1.1, c2.1⟩
  · rw [hw]
    refine ⟨rfl, rfl, rfl, size_sortWorldK_c encN 2 W b 0 n d' os, fun k hk hkb => ?_⟩
    have e1 : (sortWorldK encN 2 W b 0 n d' os).heap[k]? = (putRowK encN 2 (Sort.ahead W n) b 0 d').heap[k]? := Sort.heap_grow_old _ _ (by rw [size_putRowK]; exact hk)
    rw [e1]
    show (W.heap.modify b _)[k]? = _
    rw [Array.getElem?_modify, if_neg (fun e => hkb e.symm)]
end
end Go.Proofs.Ytmgppnepccmceaa
