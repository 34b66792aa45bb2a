/- ref15's Holds and Make. -/
import Derived.Test.YtggighikemhnfaaDoorUoL
import Derived.Test.YtggighikemhnfaaDoorUoJ
namespace Go.Proofs.YtggighikemhnfaaDoor.Tm
open Go.RowKit Go.Lib
set_option linter.unusedVariables false
theorem RHolds_any (rs : List RowD) (a : Option Addr) (c : Nat) (vs : List Int) (b : Option Addr) (d : Nat) (w : World) (hR : RowsR w rs a c) (hV : ValR w vs b d) :
    Calls Tryd.prog 34 #[.slice a rs.length c, .slice b vs.length d] w fun e w' => (∃ q, e = .returned (.bool q) ∧ (q = true → ∀ y ∈ rs, ∃ x ∈ y.xs, rvM vs x = 1)) ∧ Below w.heap.size w w' := by
  have HR : Hid (∀ V, Below w.heap.size w V → RowsR V rs a c) := fun V hV => hR.below hV
  have HSt : Hid (∀ V y, Below w.heap.size w V → y ∈ rs → Calls Tryd.prog 57 #[.slice y.a y.xs.length y.c, .slice b vs.length d] V fun e w' => (∃ s l, e = .returned (.tuple #[.int .i8 s, .int .i64 l]) ∧ StP vs y.xs s l) ∧ Below V.heap.size V w') := fun V y hB hy => RState_any vs b d y.xs y.a y.c V ((hR.below hB).ok y hy) (hV.below hB)
  have l1 : rs.length ≤ c := hR.le
  have c1 : rs.length ≤ 9223372036854775807 := by have := hR.cap; simp only [maxLen] at this; omega
  have HB0 : Hid (Below w.heap.size w w) := Below.refl _ _
  clear hR hV
  go_enter Tryd.func34, Tryd.ntmps34
  go_wp2
  go_loopw [5] (fun iv wr => ∃ k : Nat, k ≤ rs.length ∧ iv = .int .i64 k ∧ Hid (∀ j y, j < k → rs[j]? = some y → ∃ x ∈ y.xs, rvM vs x = 1) ∧ Hid (Below w.heap.size w wr)) (fun iv _ => rs.length - (intOf iv).toNat)
  case atStart => exact ⟨0, Nat.zero_le _, rfl, (fun j y h _ => absurd h (by omega)), HB0⟩
  case round =>
    obtain ⟨k, hkl, rfl, HE, HW⟩ := hrel
    by_cases hlt : k < rs.length
    · obtain ⟨y, hy⟩ : ∃ y, rs[k]? = some y := ⟨_, List.getElem?_eq_getElem hlt⟩
      obtain ⟨g, o, rfl, hg, q0⟩ := (HR.out wr HW.out).cell hy
      have HY := Lib.hid hy
      have HS := Lib.hid (HSt.out wr y HW.out (List.mem_of_getElem? hy))
      clear hy
      go_wp2_with fail
      with_reducible refine HS.out.mono ?_
      rintro e wv ⟨⟨s, l, rfl, hs⟩, hb⟩
      have HSp := Lib.hid hs
      have HWv : Hid (Below w.heap.size w wv) := ball HW.out hb
      clear hs hb
      by_cases h0 : s = 0
      · have d0 : (s != 0) = false := ne_f h0
        have HN : Hid (∀ j z, j < k + 1 → rs[j]? = some z → ∃ x ∈ z.xs, rvM vs x = 1) := fun j z hj h1 => by
          by_cases e : j = k
          · subst e
            rw [HY.out] at h1
            cases h1
            rcases HSp.out with h | ⟨_, h | h | h⟩
            · exact h.2
            · exact absurd h.1 (by omega)
            · exact absurd h.1 (by omega)
            · exact absurd h.1 (by omega)
          · exact HE.out j z (by omega) h1
        clear h0
        go_wp2_with fail
        go_roundw
        case rel => exact ⟨k + 1, by omega, by go_num, HN, HWv⟩
        case measure => simp [intOf]; omega
      · have d0 : (s != 0) = true := ne_t h0
        clear h0
        go_wp2_with fail
        go_ret
        exact ⟨⟨false, rfl, fun e => by cases e⟩, HWv.out⟩
    · obtain rfl : k = rs.length := by omega
      go_wp2_with fail
      go_ret
      exact ⟨⟨true, rfl, fun _ y hy => by
        obtain ⟨j, hj⟩ := List.getElem?_of_mem hy
        exact HE.out j y (List.getElem?_eq_some_iff.1 hj).1 hj⟩, HW.out⟩
end Go.Proofs.YtggighikemhnfaaDoor.Tm
