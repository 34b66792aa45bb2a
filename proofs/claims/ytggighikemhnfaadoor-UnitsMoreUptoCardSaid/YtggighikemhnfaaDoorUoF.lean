/- ref15's has, Within; a run's literals' numbers. -/
import Derived.Test.YtggighikemhnfaaDoorUoD
namespace Go.Proofs.YtggighikemhnfaaDoor.Tm
open Go.RowKit
set_option linter.unusedVariables false
theorem has_any (xs : List Int) (a : Option Addr) (c : Nat) (x : Int) (w : World) (hA : IntsR w xs a c) :
    Calls Tryd.prog 75 #[.slice a xs.length c, .int .i64 x] w fun e w' => e = .returned (.bool (decide (x ∈ xs))) ∧ w = w' := by
  have HA := Lib.hid hA
  have l1 : xs.length ≤ c := hA.le
  have c1 : xs.length ≤ 9223372036854775807 := by have := hA.cap; simp only [maxLen] at this; omega
  obtain ⟨q, hq⟩ : ∃ q, decide (x ∈ xs) = q := ⟨_, rfl⟩
  have HQ := Lib.hid hq
  rw [hq]
  clear hA hq
  go_enter Tryd.func75, Tryd.ntmps75
  go_wp2
  go_loopw [5] (fun iv wr => ∃ k : Nat, k ≤ xs.length ∧ iv = .int .i64 k ∧ Hid (∀ j y, j < k → xs[j]? = some y → y ≠ x) ∧ wr = w) (fun iv _ => xs.length - (intOf iv).toNat)
  case atStart => exact ⟨0, Nat.zero_le _, rfl, (fun j y h _ => absurd h (by omega)), rfl⟩
  case round =>
    obtain ⟨k, hkl, rfl, HE, rfl⟩ := hrel
    by_cases hlt : k < xs.length
    · obtain ⟨y, hy⟩ : ∃ y, xs[k]? = some y := ⟨_, List.getElem?_eq_getElem hlt⟩
      obtain ⟨g, o, rfl, hg, q0⟩ := HA.out.cell hy
      have HY := Lib.hid hy
      clear hy
      by_cases hxy : y = x
      · have e1 : (y == x) = true := eq_t hxy
        have HR : Hid (true = q) := by
          show _ = _
          rw [← HQ.out, decide_eq_true (by rw [← hxy]; exact List.mem_of_getElem? HY.out)]
        clear hxy
        go_wp2
        go_ret
        exact ⟨ret_bool HR.out, rfl⟩
      · have e1 : (y == x) = false := eq_f hxy
        have HN : Hid (∀ j z, j < k + 1 → xs[j]? = some z → z ≠ x) := fun j z hj h1 => by
          by_cases e : j = k
          · subst e
            rw [HY.out] at h1
            cases h1
            exact hxy
          · exact HE.out j z (by omega) h1
        clear hxy
        go_wp2
        go_roundw
        case rel => exact ⟨k + 1, by omega, by go_num, HN, trivial⟩
        case measure => simp [intOf]; omega
    · obtain rfl : k = xs.length := by omega
      have HR : Hid (false = q) := by
        show _ = _
        rw [← HQ.out, decide_eq_false (fun h => by
          obtain ⟨j, hj⟩ := List.getElem?_of_mem h
          exact HE.out j x (List.getElem?_eq_some_iff.1 hj).1 hj rfl)]
      go_wp2
      go_ret
      exact ⟨ret_bool HR.out, rfl⟩
theorem PsI.half {r : List Int} (h : PsI r) {i k : Nat} {x y : Int} (hk : k < i) (hx : r[i]? = some x) (hy : r[k]? = some y) : x / 2 ≠ y / 2 := fun e => by
  have hxm := List.mem_of_getElem? hx
  have hym := List.mem_of_getElem? hy
  have h0 := (mayU_iff.1 (h.may x hxm)).1
  have h1 := (mayU_iff.1 (h.may y hym)).1
  by_cases hxy : x = y
  · subst hxy
    have hlt := (List.getElem?_eq_some_iff.1 hx).1
    have hlk := (List.getElem?_eq_some_iff.1 hy).1
    have a1 := (List.getElem?_eq_some_iff.1 hx).2
    have a2 := (List.getElem?_eq_some_iff.1 hy).2
    have := (List.getElem_inj (i := i) (j := k) (h₀ := hlt) (h₁ := hlk) h.nodup).1 (a1.trans a2.symm)
    omega
  · refine h.cons y hym ?_
    have : negM y = x := by unfold negM; split <;> omega
    rw [this]
    exact hxm
theorem within_one {ys : List Int} {x : Int} {q : Bool} (h : decide (∀ z ∈ [x], z ∈ ys) = q) : q = decide (x ∈ ys) := by
  rw [← h]
  by_cases hx : x ∈ ys
  · rw [decide_eq_true hx, decide_eq_true (fun z hz => by rw [show z = x by simpa using hz]; exact hx)]
  · rw [decide_eq_false hx, decide_eq_false (fun h => hx (h x (by simp)))]
end Go.Proofs.YtggighikemhnfaaDoor.Tm
