/- ref16's first. -/
import Derived.Test.YtggighikemhnfaaDoorZUoJ
import Derived.Test.YtggighikemhnfaaDoorZUoM
namespace Go.Proofs.YtggighikemhnfaaDoor.Tm
open Go.RowKit Go.Lib
set_option linter.unusedVariables false
def RowsO (w : World) (base : Nat) (M : List RowD) (v : Value) : Prop := w.ownsRow base 23 1 v M.length (M.map rowV)
theorem info_sl : (Tryd.prog.info? 23).map (fun i => (i.zero, i.size, i.bytes)) = some (some (.slice none 0 0), 1, 24) := by kernel_rfl
theorem RowsO.rows {w : World} {B : Nat} {M : List RowD} {a : Option Addr} {c : Nat} (h : RowsO w B M (.slice a M.length c)) (hok : ∀ r ∈ M, IntsR w r.xs r.a r.c) : RowsR w M a c := by
  obtain ⟨a', c', e, h1, h2, h3, _⟩ := own_at h
  cases e
  exact ⟨h1, h2, h3, hok⟩
end Go.Proofs.YtggighikemhnfaaDoor.Tm
namespace Go.Proofs.YtggighikemhnfaaDoor.Tm
open Go.RowKit Go.Lib
set_option linter.unusedVariables false
/-- The first clause of a state, and the open literal that is told with it; none: (-1, -1). -/
def FiP (vs : List Int) (rs : List RowD) (st i l : Int) : Prop :=
  (∃ k : Nat, i = k ∧ (∃ y, rs[k]? = some y ∧ StP vs y.xs st l) ∧ ∀ (j : Nat) (y : RowD), j < k → rs[j]? = some y → ∃ s l', StP vs y.xs s l' ∧ s ≠ st) ∨ (i = -1 ∧ l = -1 ∧ ∀ (j : Nat) (y : RowD), rs[j]? = some y → ∃ s l', StP vs y.xs s l' ∧ s ≠ st)
theorem first_any (rs : List RowD) (a : Option Addr) (c : Nat) (vs : List Int) (b : Option Addr) (d : Nat) (st : Int) (w : World) (hR : RowsR w rs a c) (hV : ValR w vs b d) :
    Calls Tryd.prog 44 #[.slice a rs.length c, .slice b vs.length d, .int .i8 st] w fun e w' => (∃ i l, e = .returned (.tuple #[.int .i64 i, .int .i64 l]) ∧ FiP vs rs st i l) ∧ Below w.heap.size w w' := by
  have HR : Hid (∀ V, Below w.heap.size w V → RowsR V rs a c) := fun V hV => hR.below hV
  have HSt : Hid (∀ V y, Below w.heap.size w V → y ∈ rs → Calls Tryd.prog 57 #[.slice y.a y.xs.length y.c, .slice b vs.length d] V fun e w' => (∃ s l, e = .returned (.tuple #[.int .i8 s, .int .i64 l]) ∧ StP vs y.xs s l) ∧ Below V.heap.size V w') := fun V y hB hy => RState_any vs b d y.xs y.a y.c V ((hR.below hB).ok y hy) (hV.below hB)
  have l1 : rs.length ≤ c := hR.le
  have c1 : rs.length ≤ 9223372036854775807 := by have := hR.cap; simp only [maxLen] at this; omega
  have HB0 : Hid (Below w.heap.size w w) := Below.refl _ _
  clear hR hV
  go_enter Tryd.func44, Tryd.ntmps44
  go_wp2
  go_loopw [8] (fun iv wr => ∃ k : Nat, k ≤ rs.length ∧ iv = .int .i64 k ∧ Hid (∀ j y, j < k → rs[j]? = some y → ∃ s l', StP vs y.xs s l' ∧ s ≠ st) ∧ Hid (Below w.heap.size w wr)) (fun iv _ => rs.length - (intOf iv).toNat)
  case atStart => exact ⟨0, Nat.zero_le _, rfl, (fun j y h _ => absurd h (by omega)), HB0⟩
  case round =>
    obtain ⟨k, hkl, rfl, HE, HW⟩ := hrel
    by_cases hlt : k < rs.length
    · obtain ⟨y, hy⟩ : ∃ y, rs[k]? = some y := ⟨_, List.getElem?_eq_getElem hlt⟩
      obtain ⟨g, o, rfl, hg, q0⟩ := (HR.out wr HW.out).cell hy
      have HY := Lib.hid hy
      have HS := Lib.hid (HSt.out wr y HW.out (List.mem_of_getElem? hy))
      clear hy
      go_wp2_with fail
      with_reducible refine HS.out.mono ?_
      rintro e wv ⟨⟨s, l, rfl, hs⟩, hb⟩
      have HSp := Lib.hid hs
      have HWv : Hid (Below w.heap.size w wv) := ball HW.out hb
      clear hs hb
      by_cases h0 : s = st
      · have d0 : (s == st) = true := eq_t h0
        have HF : Hid (FiP vs rs st k l) := .inl ⟨k, rfl, ⟨y, HY.out, by rw [← h0]; exact HSp.out⟩, HE.out⟩
        clear h0
        go_wp2_with fail
        go_ret2
        exact ⟨⟨_, _, rfl, HF.out⟩, HWv.out⟩
      · have d0 : (s == st) = false := eq_f h0
        have HN : Hid (∀ j z, j < k + 1 → rs[j]? = some z → ∃ s l', StP vs z.xs s l' ∧ s ≠ st) := fun j z hj h1 => by
          by_cases e : j = k
          · subst e
            rw [HY.out] at h1
            cases h1
            exact ⟨s, l, HSp.out, h0⟩
          · exact HE.out j z (by omega) h1
        clear h0
        go_wp2_with fail
        go_roundw
        case rel => exact ⟨k + 1, by omega, by go_num, HN, HWv⟩
        case measure => simp [intOf]; omega
    · obtain rfl : k = rs.length := by omega
      have HF : Hid (FiP vs rs st (-1) (-1)) := .inr ⟨rfl, rfl, fun j y hj => HE.out j y (List.getElem?_eq_some_iff.1 hj).1 hj⟩
      go_wp2_with fail
      go_ret2
      exact ⟨⟨_, _, rfl, HF.out⟩, HW.out⟩
end Go.Proofs.YtggighikemhnfaaDoor.Tm
