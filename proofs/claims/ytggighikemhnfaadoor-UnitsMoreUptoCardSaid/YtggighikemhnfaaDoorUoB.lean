/- What is too great. -/
import Derived.Test.YtggighikemhnfaaDoorUoA
namespace Go.Proofs.YtggighikemhnfaaDoor.Tm
open Go.RowKit
set_option linter.unusedVariables false
def GrP (e : Ending) (P : Prop) : Prop := ∃ q : Bool, e = .returned (.bool q) ∧ (q = false → P)
theorem GrP.yes (P : Prop) : GrP (.returned (.bool true)) P := ⟨true, rfl, fun h => by cases h⟩
theorem GrP.no {P : Prop} (h : P) : GrP (.returned (.bool false)) P := ⟨false, rfl, fun _ => h⟩
theorem RGreat_any (rs : List RowD) (a : Option Addr) (c : Nat) (w : World) (hR : RowsR w rs a c) :
    Calls Tryd.prog 22 #[.slice a rs.length c] w fun e w' => GrP e (rs.length ≤ 80 ∧ ∀ y ∈ rs, y.xs.length ≤ 20) ∧ w = w' := by
  have HR := Lib.hid hR
  have l1 : rs.length ≤ c := hR.le
  have c1 : rs.length ≤ 9223372036854775807 := by have := hR.cap; simp only [maxLen] at this; omega
  clear hR
  by_cases hl : 80 < rs.length
  · have d1 : decide (80 < (rs.length : Int)) = true := decide_eq_true (by omega)
    clear hl
    go_enter Tryd.func22, Tryd.ntmps22
    go_wp2
    go_ret
    exact ⟨GrP.yes _, rfl⟩
  · have d1 : decide (80 < (rs.length : Int)) = false := decide_eq_false (by omega)
    have HLn : Hid (rs.length ≤ 80) := by show _ ≤ _; omega
    clear hl
    go_enter Tryd.func22, Tryd.ntmps22
    go_wp2
    go_loopw [3] (fun iv wr => ∃ k : Nat, k ≤ rs.length ∧ iv = .int .i64 k ∧ Hid (∀ j y, j < k → rs[j]? = some y → y.xs.length ≤ 20) ∧ wr = w) (fun iv _ => rs.length - (intOf iv).toNat)
    case atStart => exact ⟨0, Nat.zero_le _, rfl, (fun j y h _ => absurd h (by omega)), rfl⟩
    case round =>
      obtain ⟨k, hkl, rfl, HE, rfl⟩ := hrel
      by_cases hlt : k < rs.length
      · obtain ⟨y, hy⟩ : ∃ y, rs[k]? = some y := ⟨_, List.getElem?_eq_getElem hlt⟩
        obtain ⟨g, o, rfl, hg, q0⟩ := HR.out.cell hy
        have HI := Lib.hid (HR.out.ok y (List.mem_of_getElem? hy))
        have l2 : y.xs.length ≤ y.c := HI.out.le
        have c2 : y.xs.length ≤ 9223372036854775807 := by have := HI.out.cap; simp only [maxLen] at this; omega
        have HY := Lib.hid hy
        clear hy
        by_cases h2 : 20 < y.xs.length
        · have d2 : decide (20 < (y.xs.length : Int)) = true := decide_eq_true (by omega)
          clear h2
          go_wp2
          go_ret
          exact ⟨GrP.yes _, rfl⟩
        · have d2 : decide (20 < (y.xs.length : Int)) = false := decide_eq_false (by omega)
          have HN : Hid (∀ j z, j < k + 1 → rs[j]? = some z → z.xs.length ≤ 20) := fun j z hj h1 => by
            by_cases e : j = k
            · subst e
              rw [HY.out] at h1
              cases h1
              omega
            · exact HE.out j z (by omega) h1
          obtain ⟨ya, hya⟩ : ∃ ya, y.a = ya := ⟨_, rfl⟩
          rw [hya] at q0 HI
          clear h2 hya
          go_wp2
          rename World => wk
          go_loopw [4] (fun iv w2 => ∃ j : Nat, j ≤ y.xs.length ∧ iv = .int .i64 j ∧ w2 = wk) (fun iv _ => y.xs.length - (intOf iv).toNat)
          case atStart => exact ⟨0, Nat.zero_le _, rfl, rfl⟩
          case round =>
            obtain ⟨j, hjl, rfl, rfl⟩ := hrel
            by_cases hlt2 : j < y.xs.length
            · obtain ⟨z, hz⟩ : ∃ z, y.xs[j]? = some z := ⟨_, List.getElem?_eq_getElem hlt2⟩
              obtain ⟨g2, o2, rfl, hg2, q2⟩ := HI.out.cell hz
              clear hz
              by_cases h3 : 4096 < z
              · have d3 : decide (4096 < z) = true := decide_eq_true h3
                clear h3
                go_wp2
                go_ret
                exact ⟨GrP.yes _, rfl⟩
              · have d3 : decide (4096 < z) = false := decide_eq_false h3
                clear h3
                go_wp2
                go_roundw
                case rel => exact ⟨j + 1, by omega, by go_num, trivial⟩
                case measure => simp [intOf]; omega
            · obtain rfl : j = y.xs.length := by omega
              go_wp2
              go_roundw
              case rel => exact ⟨k + 1, by omega, by go_num, HN, trivial⟩
              case measure => simp [intOf]; omega
      · obtain rfl : k = rs.length := by omega
        have HF : Hid (rs.length ≤ 80 ∧ ∀ y ∈ rs, y.xs.length ≤ 20) := ⟨HLn.out, fun y hy => by
          obtain ⟨j, hj⟩ := List.getElem?_of_mem hy
          exact HE.out j y (List.getElem?_eq_some_iff.1 hj).1 hj⟩
        go_wp2
        go_ret
        exact ⟨GrP.no HF.out, rfl⟩
def SmallG (rs : List RowD) (gs : List Int) : Prop := (rs.length ≤ 80 ∧ ∀ y ∈ rs, y.xs.length ≤ 20) ∧ gs.length ≤ 200 ∧ (∀ x ∈ gs, x ≤ 4000) ∧ ∀ y ∈ rs, ∀ x ∈ y.xs, x ≤ 4000
theorem great_any (rs : List RowD) (a : Option Addr) (c : Nat) (gs : List Int) (a2 : Option Addr) (c2 : Nat) (w : World) (hR : RowsR w rs a c) (hA : IntsR w gs a2 c2) :
    Calls Tryd.prog 10 #[.slice a rs.length c, .slice a2 gs.length c2] w fun e w' => GrP e (SmallG rs gs) ∧ w = w' := by
  have HG := Lib.hid (RGreat_any rs a c w hR)
  have HR := Lib.hid hR
  have HA := Lib.hid hA
  have l1 : rs.length ≤ c := hR.le
  have c1 : rs.length ≤ 9223372036854775807 := by have := hR.cap; simp only [maxLen] at this; omega
  have l2 : gs.length ≤ c2 := hA.le
  have c2' : gs.length ≤ 9223372036854775807 := by have := hA.cap; simp only [maxLen] at this; omega
  clear hR hA
  go_enter Tryd.func10, Tryd.ntmps10
  go_wp2_with fail
  with_reducible refine HG.out.mono ?_
  rintro e w1 ⟨⟨q, rfl, hq⟩, rfl⟩
  cases q with
  | true =>
    clear hq
    go_wp2
    go_ret
    exact ⟨GrP.yes _, rfl⟩
  | false =>
    have HQ := Lib.hid (hq rfl)
    clear hq
    by_cases hg : 200 < gs.length
    · have d1 : decide (200 < (gs.length : Int)) = true := decide_eq_true (by omega)
      clear hg
      go_wp2
      go_ret
      exact ⟨GrP.yes _, rfl⟩
    · have d1 : decide (200 < (gs.length : Int)) = false := decide_eq_false (by omega)
      have HGl : Hid (gs.length ≤ 200) := by show _ ≤ _; omega
      clear hg
      go_wp2
      go_loopw [5] (fun iv wr => ∃ k : Nat, k ≤ gs.length ∧ iv = .int .i64 k ∧ Hid (∀ j y, j < k → gs[j]? = some y → y ≤ 4000) ∧ wr = w) (fun iv _ => gs.length - (intOf iv).toNat)
      case atStart => exact ⟨0, Nat.zero_le _, rfl, (fun j y h _ => absurd h (by omega)), rfl⟩
      case round =>
        obtain ⟨k, hkl, rfl, HE, rfl⟩ := hrel
        by_cases hlt : k < gs.length
        · obtain ⟨y, hy⟩ : ∃ y, gs[k]? = some y := ⟨_, List.getElem?_eq_getElem hlt⟩
          obtain ⟨g, o, rfl, hg, q0⟩ := HA.out.cell hy
          have HY := Lib.hid hy
          clear hy
          by_cases h2 : 4000 < y
          · have d2 : decide (4000 < y) = true := decide_eq_true h2
            clear h2
            go_wp2
            go_ret
            exact ⟨GrP.yes _, rfl⟩
          · have d2 : decide (4000 < y) = false := decide_eq_false h2
            have HN : Hid (∀ j z, j < k + 1 → gs[j]? = some z → z ≤ 4000) := fun j z hj h1 => by
              by_cases e : j = k
              · subst e
                rw [HY.out] at h1
                cases h1
                omega
              · exact HE.out j z (by omega) h1
            clear h2
            go_wp2
            go_roundw
            case rel => exact ⟨k + 1, by omega, by go_num, HN, trivial⟩
            case measure => simp [intOf]; omega
        · obtain rfl : k = gs.length := by omega
          have HGa : Hid (∀ x ∈ gs, x ≤ 4000) := fun x hx => by
            obtain ⟨j, hj⟩ := List.getElem?_of_mem hx
            exact HE.out j x (List.getElem?_eq_some_iff.1 hj).1 hj
          clear HE
          go_wp2
          rename World => wk
          go_loopw [6] (fun iv wr => ∃ k : Nat, k ≤ rs.length ∧ iv = .int .i64 k ∧ Hid (∀ j y, j < k → rs[j]? = some y → ∀ x ∈ y.xs, x ≤ 4000) ∧ wr = wk) (fun iv _ => rs.length - (intOf iv).toNat)
          case atStart => exact ⟨0, Nat.zero_le _, rfl, (fun j y h _ => absurd h (by omega)), rfl⟩
          case round =>
            obtain ⟨k, hkl, rfl, HE, rfl⟩ := hrel
            by_cases hlt : k < rs.length
            · obtain ⟨y, hy⟩ : ∃ y, rs[k]? = some y := ⟨_, List.getElem?_eq_getElem hlt⟩
              obtain ⟨g, o, rfl, hg, q0⟩ := HR.out.cell hy
              have HI := Lib.hid (HR.out.ok y (List.mem_of_getElem? hy))
              have l3 : y.xs.length ≤ y.c := HI.out.le
              have c3 : y.xs.length ≤ 9223372036854775807 := by have := HI.out.cap; simp only [maxLen] at this; omega
              have HY := Lib.hid hy
              obtain ⟨ya, hya⟩ : ∃ ya, y.a = ya := ⟨_, rfl⟩
              rw [hya] at q0 HI
              clear hy hya
              go_wp2
              rename World => wj
              go_loopw [7] (fun iv w2 => ∃ j : Nat, j ≤ y.xs.length ∧ iv = .int .i64 j ∧ Hid (∀ i z, i < j → y.xs[i]? = some z → z ≤ 4000) ∧ w2 = wj) (fun iv _ => y.xs.length - (intOf iv).toNat)
              case atStart => exact ⟨0, Nat.zero_le _, rfl, (fun j y h _ => absurd h (by omega)), rfl⟩
              case round =>
                obtain ⟨j, hjl, rfl, HE2, rfl⟩ := hrel
                by_cases hlt2 : j < y.xs.length
                · obtain ⟨z, hz⟩ : ∃ z, y.xs[j]? = some z := ⟨_, List.getElem?_eq_getElem hlt2⟩
                  obtain ⟨g2, o2, rfl, hg2, q2⟩ := HI.out.cell hz
                  have HZ := Lib.hid hz
                  clear hz
                  by_cases h3 : 4000 < z
                  · have d3 : decide (4000 < z) = true := decide_eq_true h3
                    clear h3
                    go_wp2
                    go_ret
                    exact ⟨GrP.yes _, rfl⟩
                  · have d3 : decide (4000 < z) = false := decide_eq_false h3
                    have HN : Hid (∀ i u, i < j + 1 → y.xs[i]? = some u → u ≤ 4000) := fun i u hi h1 => by
                      by_cases e : i = j
                      · subst e
                        rw [HZ.out] at h1
                        cases h1
                        omega
                      · exact HE2.out i u (by omega) h1
                    clear h3
                    go_wp2
                    go_roundw
                    case rel => exact ⟨j + 1, by omega, by go_num, HN, trivial⟩
                    case measure => simp [intOf]; omega
                · obtain rfl : j = y.xs.length := by omega
                  have HN : Hid (∀ i u, i < k + 1 → rs[i]? = some u → ∀ x ∈ u.xs, x ≤ 4000) := fun i u hi h1 => by
                    by_cases e : i = k
                    · subst e
                      rw [HY.out] at h1
                      cases h1
                      intro x hx
                      obtain ⟨m, hm⟩ := List.getElem?_of_mem hx
                      exact HE2.out m x (List.getElem?_eq_some_iff.1 hm).1 hm
                    · exact HE.out i u (by omega) h1
                  go_wp2
                  go_roundw
                  case rel => exact ⟨k + 1, by omega, by go_num, HN, trivial⟩
                  case measure => simp [intOf]; omega
            · obtain rfl : k = rs.length := by omega
              have HF : Hid (SmallG rs gs) := ⟨HQ.out, HGl.out, HGa.out, fun y hy => by
                obtain ⟨j, hj⟩ := List.getElem?_of_mem hy
                exact HE.out j y (List.getElem?_eq_some_iff.1 hj).1 hj⟩
              go_wp2
              go_ret
              exact ⟨GrP.no HF.out, rfl⟩
end Go.Proofs.YtggighikemhnfaaDoor.Tm
