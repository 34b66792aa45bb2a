/- ref15's Holds and Make. -/
import Derived.Test.YtggighikemhnfaaDoorZUoJ
namespace Go.Proofs.YtggighikemhnfaaDoor.Tm
open Go.RowKit Go.Lib
set_option linter.unusedVariables false
def opF (vs xs : List Int) : List Int := xs.filter (fun x => rvM vs x == 0)
def StP (vs xs : List Int) (s y : Int) : Prop :=
  (s = 0 ∧ ∃ x ∈ xs, rvM vs x = 1) ∨ ((∀ x ∈ xs, rvM vs x ≠ 1) ∧ ((s = 1 ∧ opF vs xs = []) ∨ (s = 2 ∧ opF vs xs = [y]) ∨ (s = 3 ∧ 2 ≤ (opF vs xs).length)))
theorem opF_take {vs xs : List Int} {k : Nat} {x : Int} (h : xs[k]? = some x) : opF vs (xs.take (k + 1)) = if rvM vs x = 0 then opF vs (xs.take k) ++ [x] else opF vs (xs.take k) := by
  unfold opF
  rw [List.take_add_one, h, List.filter_append]
  by_cases h0 : rvM vs x = 0
  · rw [if_pos h0]; simp [h0]
  · rw [if_neg h0]; simp [h0]
set_option maxRecDepth 100000 in
theorem RState_any (vs : List Int) (b : Option Addr) (d : Nat) (xs : List Int) (a : Option Addr) (c : Nat) (w : World) (hA : IntsR w xs a c) (hV : ValR w vs b d) :
    Calls Tryd.prog 57 #[.slice a xs.length c, .slice b vs.length d] w fun e w' => (∃ s y, e = .returned (.tuple #[.int .i8 s, .int .i64 y]) ∧ StP vs xs s y) ∧ Below w.heap.size w w' := by
  have HA := Lib.hid hA
  have HVl : Hid (∀ x, I64 x → ∀ W z, Below w.heap.size w W → rvM vs x = z → Calls Tryd.prog 21 #[.slice b vs.length d, .int .i64 x] W fun e w' => e = .returned (.int .i8 z) ∧ W = w') := fun x hx W z hW hz => RVal_any vs b d x z W (hV.below hW) hx hz
  have l1 : xs.length ≤ c := hA.le
  have c1 : xs.length ≤ 9223372036854775807 := by have := hA.cap; simp only [maxLen] at this; omega
  have HB0 : Hid (Below w.heap.size w w) := Below.refl _ _
  clear hA hV
  go_enter Tryd.func57, Tryd.ntmps57
  go_wp2
  go_loopw [6, 7, 8] (fun n l iv wr => ∃ (k m : Nat) (y : Int), k ≤ xs.length ∧ m ≤ k ∧ iv = .int .i64 k ∧ n = .int .i64 m ∧ l = .int .i64 y ∧ Hid ((∀ j x, j < k → xs[j]? = some x → rvM vs x ≠ 1) ∧ m = (opF vs (xs.take k)).length ∧ (m = 1 → opF vs (xs.take k) = [y])) ∧ Hid (Below w.heap.size w wr)) (fun _ _ iv _ => xs.length - (intOf iv).toNat)
  case atStart => exact ⟨0, 0, -1, Nat.zero_le _, Nat.le_refl _, rfl, rfl, rfl, ⟨fun j x h _ => absurd h (by omega), rfl, fun e => absurd e (by omega)⟩, HB0⟩
  case round =>
    obtain ⟨k, m, y, hkl, hmk, rfl, rfl, rfl, HI, HW⟩ := hrel
    by_cases hlt : k < xs.length
    · obtain ⟨x, hx⟩ : ∃ x, xs[k]? = some x := ⟨_, List.getElem?_eq_getElem hlt⟩
      obtain ⟨g, o, rfl, hg, q0⟩ := (HA.out.below HW.out).cell hx
      have HX := Lib.hid hx
      obtain ⟨z, hz⟩ : ∃ z, rvM vs x = z := ⟨_, rfl⟩
      have HZ := Lib.hid hz
      have HVx := Lib.hid (HVl.out x (HA.out.ok x (List.mem_of_getElem? hx)) wr z HW.out hz)
      clear hx hz
      go_wp2_with fail
      with_reducible refine HVx.out.mono ?_
      rintro e wv ⟨rfl, rfl⟩
      by_cases h1 : z = 1
      · have d1 : (z == 1) = true := eq_t h1
        have HE : Hid (StP vs xs 0 (-1)) := .inl ⟨rfl, x, List.mem_of_getElem? HX.out, by rw [HZ.out, h1]⟩
        clear h1
        go_wp2_with fail
        go_ret2
        exact ⟨⟨_, _, rfl, HE.out⟩, HW.out⟩
      · have d1 : (z == 1) = false := eq_f h1
        have HN1 : Hid (∀ j x, j < k + 1 → xs[j]? = some x → rvM vs x ≠ 1) := fun j x' hj hx' => by
          by_cases e : j = k
          · subst e
            rw [HX.out] at hx'
            cases hx'
            rw [HZ.out]; exact h1
          · exact HI.out.1 j x' (by omega) hx'
        clear h1
        by_cases h0 : z = 0
        · have d0 : (z == 0) = true := eq_t h0
          have HT : Hid (opF vs (xs.take (k + 1)) = opF vs (xs.take k) ++ [x]) := by
            show _ = _
            rw [opF_take HX.out, if_pos (by rw [HZ.out, h0])]
          have HN : Hid ((∀ j x, j < k + 1 → xs[j]? = some x → rvM vs x ≠ 1) ∧ m + 1 = (opF vs (xs.take (k + 1))).length ∧ (m + 1 = 1 → opF vs (xs.take (k + 1)) = [x])) := by
            refine ⟨HN1.out, by rw [HT.out, List.length_append, ← HI.out.2.1]; rfl, fun e => ?_⟩
            have : opF vs (xs.take k) = [] := List.eq_nil_of_length_eq_zero (by rw [← HI.out.2.1]; omega)
            rw [HT.out, this]; rfl
          clear h0
          go_wp2_with fail
          go_roundw
          case rel => exact ⟨k + 1, m + 1, x, by omega, by omega, by go_num, by go_num, rfl, HN, HW⟩
          case measure => simp [intOf]; omega
        · have d0 : (z == 0) = false := eq_f h0
          have HT : Hid (opF vs (xs.take (k + 1)) = opF vs (xs.take k)) := by
            show _ = _
            rw [opF_take HX.out, if_neg (by rw [HZ.out]; exact h0)]
          have HN : Hid ((∀ j x, j < k + 1 → xs[j]? = some x → rvM vs x ≠ 1) ∧ m = (opF vs (xs.take (k + 1))).length ∧ (m = 1 → opF vs (xs.take (k + 1)) = [y])) := by
            show _ ∧ _
            rw [HT.out]; exact ⟨HN1.out, HI.out.2⟩
          clear h0
          go_wp2_with fail
          go_roundw
          case rel => exact ⟨k + 1, m, y, by omega, by omega, by go_num, rfl, rfl, HN, HW⟩
          case measure => simp [intOf]; omega
    · obtain rfl : k = xs.length := by omega
      have HA1 : Hid (∀ x ∈ xs, rvM vs x ≠ 1) := fun x hx => by
        obtain ⟨j, hj⟩ := List.getElem?_of_mem hx
        exact HI.out.1 j x (List.getElem?_eq_some_iff.1 hj).1 hj
      have HM : Hid (m = (opF vs xs).length ∧ (m = 1 → opF vs xs = [y])) := by
        have := HI.out.2
        rw [List.take_length] at this
        exact this
      by_cases h0 : m = 0
      · subst h0
        have HE : Hid (StP vs xs 1 (-1)) := .inr ⟨HA1.out, .inl ⟨rfl, List.eq_nil_of_length_eq_zero HM.out.1.symm⟩⟩
        go_wp2_with fail
        go_ret2
        exact ⟨⟨_, _, rfl, HE.out⟩, HW.out⟩
      · by_cases h1 : m = 1
        · subst h1
          have HE : Hid (StP vs xs 2 y) := .inr ⟨HA1.out, .inr (.inl ⟨rfl, HM.out.2 rfl⟩)⟩
          clear h0
          go_wp2_with fail
          go_ret2
          exact ⟨⟨_, _, rfl, HE.out⟩, HW.out⟩
        · have HE : Hid (StP vs xs 3 (-1)) := .inr ⟨HA1.out, .inr (.inr ⟨rfl, by have := HM.out.1; omega⟩)⟩
          have d0 : ((m : Int) == 0) = false := eq_f (by omega)
          have d1 : ((m : Int) == 1) = false := eq_f (by omega)
          go_wp2_with fail
          go_ret2
          exact ⟨⟨_, _, rfl, HE.out⟩, HW.out⟩
end Go.Proofs.YtggighikemhnfaaDoor.Tm
namespace Go.Proofs.YtggighikemhnfaaDoor.Tm
open Go.RowKit Go.Lib
set_option linter.unusedVariables false
end Go.Proofs.YtggighikemhnfaaDoor.Tm
