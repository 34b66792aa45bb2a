/- Package heap's small functions: places, and how nodes are held against each other. -/
import Derived.Test.YtmgppnepccmceaaProg
import Derived.Test.YtmgppnepccmceaaAid
import Derived.BigQuiet
import Derived.Deep.RegionHeld3
import Derived.Laws.Rows
import Derived.Lib.Small
import Derived.Sort.Grow
namespace Go.Proofs.Ytmgppnepccmceaa
open Go.RowKit
set_option linter.unusedVariables false
theorem parent_any (p : Nat) (w : World) (hp : 0 < p) (hm : p ≤ 1000) : Calls Try.prog 38 #[.int .i32 p] w fun e w' => e = .returned (.int .i32 ((p - 1) / 2 : Nat)) ∧ w = w' := by
  have hR : Hid ((((p - 1) / 2 : Nat) : Int) = ((p : Int) - 1) / 2) := by show _ = _; omega
  rw [hR.out]
  clear hR
  go_enter Try.func38, Try.ntmps38
  go_wp2
  go_ret
  exact ⟨rfl, rfl⟩
theorem child_any (p : Nat) (w : World) (hm : p ≤ 1000) : Calls Try.prog 45 #[.int .i32 p] w fun e w' => e = .returned (.int .i32 ((p : Int) * 2 + 1)) ∧ w = w' := by
  go_enter Try.func45, Try.ntmps45
  go_wp2
  go_ret
  exact ⟨rfl, rfl⟩
theorem isNaN64_any (x : Int) (w : World) : Calls Try.prog 56 #[.int .i64 x] w fun e w' => e = .returned (.bool false) ∧ w = w' := by
  go_enter Try.func56, Try.ntmps56
  go_wp2
  go_ret
  exact ⟨rfl, rfl⟩
theorem isNaN32_any (x : Int) (w : World) : Calls Try.prog 57 #[.int .i32 x] w fun e w' => e = .returned (.bool false) ∧ w = w' := by
  go_enter Try.func57, Try.ntmps57
  go_wp2
  go_ret
  exact ⟨rfl, rfl⟩
theorem cmp64_any (x y : Int) (w : World) : Calls Try.prog 43 #[.int .i64 x, .int .i64 y] w fun e w' => e = .returned (.int .i64 (Lib.compareInt x y)) ∧ w = w' := by
  go_enter Try.func43, Try.ntmps43
  go_wp2_with (first | (go_at_call 56; refine (isNaN64_any _ _).mono ?_; rintro e w1 ⟨rfl, rfl⟩))
  all_goals (go_ret; refine ⟨?_, rfl⟩; unfold Lib.compareInt; (repeat' split) <;> first | rfl | (exfalso; omega))
theorem cmp32_any (x y : Int) (w : World) : Calls Try.prog 44 #[.int .i32 x, .int .i32 y] w fun e w' => e = .returned (.int .i64 (Lib.compareInt x y)) ∧ w = w' := by
  go_enter Try.func44, Try.ntmps44
  go_wp2_with (first | (go_at_call 57; refine (isNaN32_any _ _).mono ?_; rintro e w1 ⟨rfl, rfl⟩))
  all_goals (go_ret; refine ⟨?_, rfl⟩; unfold Lib.compareInt; (repeat' split) <;> first | rfl | (exfalso; omega))
/-- The first of two that is not 0. -/
def orI (x y : Int) : Int := if x = 0 then y else x
theorem or_any (b : Nat) (x y : Int) (w : World) (h : w.heap[b]? = some (.cells #[.int .i64 x, .int .i64 y] 3 (0, 0))) : Calls Try.prog 42 #[.slice (some ⟨b, 0, none⟩) 2 2] w fun e w' => e = .returned (.int .i64 (orI x y)) ∧ w = w' := by
  have hb := (Array.getElem?_eq_some_iff.1 h).1
  have c0 : w.cell? ⟨b, 0, none⟩ = some (.int .i64 x) := by rw [cell_of_row w b 0 _ _ _ h]; rfl
  have c1 : w.cell? ⟨b, 1, none⟩ = some (.int .i64 y) := by rw [cell_of_row w b 1 _ _ _ h]; rfl
  have HE : Hid (orI x y = if x = 0 then y else x) := Lib.hid rfl
  obtain ⟨r, hr⟩ : ∃ r, orI x y = r := ⟨_, rfl⟩
  rw [hr] at HE ⊢
  clear h hr
  go_enter Try.func42, Try.ntmps42
  go_wp2
  go_loopw [8] (fun iv wr => ∃ k : Nat, k ≤ 2 ∧ iv = .int .i64 k ∧ wr = w ∧ Hid ((0 < k → x = 0) ∧ (1 < k → y = 0))) (fun iv _ => 2 - (intOf iv).toNat)
  case atStart => exact ⟨0, by omega, rfl, rfl, fun h => absurd h (by omega), fun h => absurd h (by omega)⟩
  case round =>
    obtain ⟨k, hk, rfl, rfl, HK⟩ := hrel
    rcases (show k = 0 ∨ k = 1 ∨ k = 2 by omega) with rfl | rfl | rfl
    · by_cases hx : x = 0
      · have dx : (x != 0) = false := by simp [hx]
        have HX := Lib.hid hx
        clear hx
        go_wp2
        go_roundw
        case rel => exact ⟨1, by omega, rfl, trivial, fun _ => HX.out, fun h => absurd h (by omega)⟩
        case measure => simp [intOf]
      · have dx : (x != 0) = true := by simp [hx]
        have HR : Hid (r = x) := by show _ = _; rw [HE.out, if_neg hx]
        clear hx HE
        go_wp2
        go_ret
        exact ⟨ret_int HR.out.symm, rfl⟩
    · have hx : x = 0 := HK.out.1 (by omega)
      have HR : Hid (r = y) := by show _ = _; rw [HE.out, if_pos hx]
      by_cases hy : y = 0
      · have dy : (y != 0) = false := by simp [hy]
        have HY := Lib.hid hy
        have HX := Lib.hid hx
        clear hy hx HE
        go_wp2
        go_roundw
        case rel => exact ⟨2, by omega, rfl, trivial, fun _ => HX.out, fun _ => HY.out⟩
        case measure => simp [intOf]
      · have dy : (y != 0) = true := by simp [hy]
        clear hx hy HE
        go_wp2
        go_ret
        exact ⟨ret_int HR.out.symm, rfl⟩
    · have HR : Hid (r = 0) := by show _ = _; rw [HE.out, if_pos (HK.out.1 (by omega))]; exact HK.out.2 (by omega)
      clear HE
      go_wp2
      go_ret
      exact ⟨ret_int HR.out.symm, rfl⟩
/-- Which of two nodes (their number, their activity) is ahead: below 0, if the first. -/
def cmpN (x y : Int × Int) : Int := orI (Lib.compareInt y.2 x.2) (Lib.compareInt x.1 y.1)
theorem compare_any (x y : Int × Int) (w : World) : Calls Try.prog 36 #[.agg #[.int .i32 x.1, .int .i64 x.2], .agg #[.int .i32 y.1, .int .i64 y.2]] w fun e w' => e = .returned (.int .i64 (cmpN x y)) ∧ ∃ q os, w' = Sort.grow (w.drewN q) os := by
  obtain ⟨x1, x2⟩ := x
  obtain ⟨y1, y2⟩ := y
  obtain ⟨c, hc⟩ : ∃ c, Lib.compareInt y2 x2 = c := ⟨_, rfl⟩
  obtain ⟨d, hd⟩ : ∃ d, Lib.compareInt x1 y1 = d := ⟨_, rfl⟩
  have HC : Hid (∀ W, Calls Try.prog 43 #[.int .i64 y2, .int .i64 x2] W fun e w' => e = .returned (.int .i64 c) ∧ W = w') := fun W => by have := cmp64_any y2 x2 W; rw [hc] at this; exact this
  have HD : Hid (∀ W, Calls Try.prog 44 #[.int .i32 x1, .int .i32 y1] W fun e w' => e = .returned (.int .i64 d) ∧ W = w') := fun W => by have := cmp32_any x1 y1 W; rw [hd] at this; exact this
  have HE : cmpN (x1, x2) (y1, y2) = orI c d := by unfold cmpN; rw [hc, hd]
  rw [HE]
  obtain ⟨r, hr⟩ : ∃ r, orI c d = r := ⟨_, rfl⟩
  have HO : Hid (∀ W b, W.heap[b]? = some (.cells #[.int .i64 c, .int .i64 d] 3 (0, 0)) → Calls Try.prog 42 #[.slice (some ⟨b, 0, none⟩) 2 2] W fun e w' => e = .returned (.int .i64 r) ∧ W = w') := fun W b h => by have := or_any b c d W h; rw [hr] at this; exact this
  rw [hr]
  clear hr hc hd HE
  dsimp only
  go_enter Try.func36, Try.ntmps36
  go_wp2
  obtain ⟨W, hW⟩ : ∃ W, (w.alloc (.cells #[.int .i32 x1, .int .i64 x2] 51)).alloc (.cells #[.int .i32 y1, .int .i64 y2] 51) = W := ⟨_, rfl⟩
  have k0 : W.cell? ⟨w.heap.size, 0, none⟩ = some (.int .i32 x1) := by rw [← hW]; simp
  have k1 : W.cell? ⟨w.heap.size, 1, none⟩ = some (.int .i64 x2) := by rw [← hW]; simp
  have k2 : W.cell? ⟨w.heap.size + 1, 0, none⟩ = some (.int .i32 y1) := by rw [← hW]; simp
  have k3 : W.cell? ⟨w.heap.size + 1, 1, none⟩ = some (.int .i64 y2) := by rw [← hW]; simp
  rw [hW]
  have HW := Lib.hid hW
  clear hW
  have HP := Lib.hid (HO.out (W.alloc (.cells #[.int .i64 c, .int .i64 d] 3)).drew W.heap.size (heap_alloc_new W _))
  go_region_held3 (fun V => V.cell? ⟨w.heap.size, 0, none⟩ = some (.int .i32 x1) ∧ V.cell? ⟨w.heap.size, 1, none⟩ = some (.int .i64 x2) ∧ V.cell? ⟨w.heap.size + 1, 0, none⟩ = some (.int .i32 y1) ∧ V.cell? ⟨w.heap.size + 1, 1, none⟩ = some (.int .i64 y2)) (first | exact ⟨k0, k1, k2, k3⟩ | go_keep) (first | (go_at_call 43; with_reducible refine (HC.out _).mono ?_; rintro e w1 ⟨rfl, rfl⟩) | (go_at_call 44; with_reducible refine (HD.out _).mono ?_; rintro e w1 ⟨rfl, rfl⟩) | (go_at_call 42; with_reducible refine HP.out.mono ?_; rintro e w1 ⟨rfl, rfl⟩))
  go_wp2
  go_ret
  refine ⟨rfl, 1, #[.cells #[.int .i32 x1, .int .i64 x2] 51] ++ #[.cells #[.int .i32 y1, .int .i64 y2] 51] ++ #[.cells #[.int .i64 c, .int .i64 d] 3], ?_⟩
  rw [← HW.out, Sort.alloc_eq_grow, Sort.alloc_eq_grow, Sort.alloc_eq_grow, Sort.grow_grow, Sort.grow_grow]
  rfl
end Go.Proofs.Ytmgppnepccmceaa
