/- What a heap is asked. -/
import Derived.Test.YtmgppnepccmceaaHpH
namespace Go.Proofs.Ytmgppnepccmceaa
open Go.RowKit
set_option linter.unusedVariables false
/-- Why nothing can be done with a node of n. -/
def faultV (n : Nat) (x : Int) : Int := if 0 ≤ x ∧ x < n then 0 else 2
theorem made_nil (w : World) : Calls Try.prog 34 #[.pointer none] w fun e w' => e = .returned (.bool false) ∧ w = w' := by
  go_enter Try.func34, Try.ntmps34
  go_wp2
  go_ret
  exact ⟨rfl, rfl⟩
theorem fault_nil (x : Int) (w : World) : Calls Try.prog 29 #[.pointer none, .int .i64 x] w fun e w' => e = .returned (.int .i64 3) ∧ w = w' := by
  go_enter Try.func29, Try.ntmps29
  go_wp2
  go_ret
  exact ⟨rfl, rfl⟩
section
variable {w : World} {h t nb ib : Nat} {A : List Int} {pl : Nat → Int} {L : List Nat}
theorem made_any (H : HX w h t nb ib A pl L) : Calls Try.prog 34 #[.pointer (some ⟨h, 0, none⟩)] w fun e w' => e = .returned (.bool true) ∧ w = w' := by
  have c := H.head
  clear H
  go_enter Try.func34, Try.ntmps34
  go_wp2
  go_ret
  exact ⟨rfl, rfl⟩
theorem fault_any (H : HX w h t nb ib A pl L) (x : Int) {r : Int} (hr : faultV A.length x = r) : Calls Try.prog 29 #[.pointer (some ⟨h, 0, none⟩), .int .i64 x] w fun e w' => e = .returned (.int .i64 r) ∧ w = w' := by
  have c := H.head
  have c0 := H.tree.1
  have HM := Lib.hid (made_any H)
  have HR := Lib.hid hr
  obtain ⟨n, hn⟩ : ∃ n, A.length = n := ⟨_, rfl⟩
  rw [hn] at c0 HR
  clear H hr hn
  by_cases h0 : x < 0
  · have HE : Hid ((2 : Int) = r) := by show _ = _; rw [← HR.out]; unfold faultV; rw [if_neg (by omega)]
    go_enter Try.func29, Try.ntmps29
    go_wp2_with (first | (go_at_call 34; with_reducible refine HM.out.mono ?_; rintro e w1 ⟨rfl, rfl⟩))
    go_ret
    exact ⟨ret_int HE.out, rfl⟩
  · by_cases h1 : (n : Int) ≤ x
    · have HE : Hid ((2 : Int) = r) := by show _ = _; rw [← HR.out]; unfold faultV; rw [if_neg (by omega)]
      go_enter Try.func29, Try.ntmps29
      go_wp2_with (first | (go_at_call 34; with_reducible refine HM.out.mono ?_; rintro e w1 ⟨rfl, rfl⟩))
      go_ret
      exact ⟨ret_int HE.out, rfl⟩
    · have HE : Hid ((0 : Int) = r) := by show _ = _; rw [← HR.out]; unfold faultV; rw [if_pos (by omega)]
      go_enter Try.func29, Try.ntmps29
      go_wp2_with (first | (go_at_call 34; with_reducible refine HM.out.mono ?_; rintro e w1 ⟨rfl, rfl⟩))
      go_ret
      exact ⟨ret_int HE.out, rfl⟩
theorem Len_nil (w : World) : Calls Try.prog 19 #[.pointer none] w fun e w' => e = .returned (.int .i64 0) ∧ w = w' := by
  have HM := Lib.hid (made_nil w)
  go_enter Try.func19, Try.ntmps19
  go_wp2_with (first | (go_at_call 34; with_reducible refine HM.out.mono ?_; rintro e w1 ⟨rfl, rfl⟩))
  go_ret
  exact ⟨rfl, rfl⟩
theorem Len_any (H : HX w h t nb ib A pl L) : Calls Try.prog 19 #[.pointer (some ⟨h, 0, none⟩)] w fun e w' => e = .returned (.int .i64 L.length) ∧ w = w' := by
  have c := H.head
  have c1 := H.tree.2.1
  have HM := Lib.hid (made_any H)
  clear H
  go_enter Try.func19, Try.ntmps19
  go_wp2_with (first | (go_at_call 34; with_reducible refine HM.out.mono ?_; rintro e w1 ⟨rfl, rfl⟩))
  go_ret
  exact ⟨rfl, rfl⟩
/-- A node's activity, 0 of none. -/
def actV (A : List Int) (x : Int) : Int := if 0 ≤ x then A.getD x.toNat 0 else 0
theorem Act_nil (x : Int) (w : World) : Calls Try.prog 21 #[.pointer none, .int .i64 x] w fun e w' => e = .returned (.int .i64 0) ∧ w = w' := by
  have HM := Lib.hid (fault_nil x w)
  go_enter Try.func21, Try.ntmps21
  go_wp2_with (first | (go_at_call 29; with_reducible refine HM.out.mono ?_; rintro e w1 ⟨rfl, rfl⟩))
  go_ret
  exact ⟨rfl, rfl⟩
theorem Act_any (H : HX w h t nb ib A pl L) (x : Int) {r : Int} (hr : actV A x = r) : Calls Try.prog 21 #[.pointer (some ⟨h, 0, none⟩), .int .i64 x] w fun e w' => e = .returned (.int .i64 r) ∧ w = w' := by
  have c := H.head
  have c0 := H.tree.1
  by_cases h0 : 0 ≤ x ∧ x < A.length
  · obtain ⟨k, rfl⟩ : ∃ k : Nat, x = (k : Int) := ⟨x.toNat, by omega⟩
    have hk : k < A.length := by omega
    have c2 := H.ac hk
    have HM := Lib.hid (fault_any H (k : Int) (r := 0) (by unfold faultV; rw [if_pos h0]))
    have e : A.getD k 0 = r := by rw [← hr]; unfold actV; rw [if_pos (by omega)]; rfl
    rw [e] at c2
    have hk' : (k : Int) < (A.length : Int) := by omega
    clear H e hr h0
    go_enter Try.func21, Try.ntmps21
    go_wp2_with (first | (go_at_call 29; with_reducible refine HM.out.mono ?_; rintro e w1 ⟨rfl, rfl⟩))
    go_ret
    exact ⟨rfl, rfl⟩
  · have HM := Lib.hid (fault_any H x (r := 2) (by unfold faultV; rw [if_neg h0]))
    have HE : Hid ((0 : Int) = r) := by
      show _ = _
      rw [← hr]; unfold actV
      split
      · rw [List.getD_eq_getElem?_getD, List.getElem?_eq_none (by omega)]; rfl
      · rfl
    clear H hr h0
    go_enter Try.func21, Try.ntmps21
    go_wp2_with (first | (go_at_call 29; with_reducible refine HM.out.mono ?_; rintro e w1 ⟨rfl, rfl⟩))
    go_ret
    exact ⟨ret_int HE.out, rfl⟩
theorem Has_nil (x : Int) (w : World) : Calls Try.prog 23 #[.pointer none, .int .i64 x] w fun e w' => e = .returned (.bool false) ∧ w = w' := by
  have HM := Lib.hid (fault_nil x w)
  go_enter Try.func23, Try.ntmps23
  go_wp2_with (first | (go_at_call 29; with_reducible refine HM.out.mono ?_; rintro e w1 ⟨rfl, rfl⟩))
  go_ret
  exact ⟨rfl, rfl⟩
theorem Has_any (H : HX w h t nb ib A (plc L) L) (x : Int) {r : Bool} (hr : decide (0 ≤ x ∧ x.toNat ∈ L) = r) : Calls Try.prog 23 #[.pointer (some ⟨h, 0, none⟩), .int .i64 x] w fun e w' => e = .returned (.bool r) ∧ w = w' := by
  have c := H.head
  have c0 := H.tree.1
  by_cases h0 : 0 ≤ x ∧ x < A.length
  · obtain ⟨k, rfl⟩ : ∃ k : Nat, x = (k : Int) := ⟨x.toNat, by omega⟩
    have hk : k < A.length := by omega
    have c2 := H.pc hk
    have HM := Lib.hid (fault_any H (k : Int) (r := 0) (by unfold faultV; rw [if_pos h0]))
    obtain ⟨p, hp⟩ : ∃ p, plc L k = p := ⟨_, rfl⟩
    have e : (p != -1) = r := by
      rw [← hr, ← hp]
      unfold plc
      by_cases hm : k ∈ L
      · rw [if_pos hm, decide_eq_true (⟨by omega, hm⟩ : 0 ≤ (k : Int) ∧ (k : Int).toNat ∈ L)]
        simp
      · rw [if_neg hm, decide_eq_false (fun e => hm e.2)]
        rfl
    rw [hp] at c2
    have hk' : (k : Int) < (A.length : Int) := by omega
    have HE := Lib.hid e
    clear H e hr h0 hp
    go_enter Try.func23, Try.ntmps23
    go_wp2_with (first | (go_at_call 29; with_reducible refine HM.out.mono ?_; rintro e w1 ⟨rfl, rfl⟩))
    go_ret
    exact ⟨ret_bool HE.out, rfl⟩
  · have HM := Lib.hid (fault_any H x (r := 2) (by unfold faultV; rw [if_neg h0]))
    have HE : Hid (false = r) := by
      show _ = _
      rw [← hr]
      exact (decide_eq_false (fun e => h0 ⟨e.1, by have := H.lt _ e.2; omega⟩)).symm
    clear H hr h0
    go_enter Try.func23, Try.ntmps23
    go_wp2_with (first | (go_at_call 29; with_reducible refine HM.out.mono ?_; rintro e w1 ⟨rfl, rfl⟩))
    go_ret
    exact ⟨ret_bool HE.out, rfl⟩
end
end Go.Proofs.Ytmgppnepccmceaa
