/- Package sig's find, over each kind of row. -/
import Derived.Test.YtbddghcdibdloaaGreatDoorSgA
namespace Go.Proofs.YtbddghcdibdloaaGreatDoor
open Go.RowKit
set_option linter.unusedVariables false
theorem itself_any (s : ByteArray) (w : World) : Calls Tryz.prog 89 #[.string s] w fun e w' => e = .returned (.string s) ∧ w = w' := by
  go_enter Tryz.func89, Tryz.ntmps89
  go_wp2
  go_ret
  exact ⟨rfl, rfl⟩
theorem paramName_any (f : ParA) (w : World) : Calls Tryz.prog 77 #[parV f] w fun e w' => e = .returned (.string f.name) ∧ Below w.heap.size w w' := by
  unfold parV
  go_enter Tryz.func77, Tryz.ntmps77
  go_wp2
  go_ret
  exact ⟨rfl, (Below.refl _ _).alloc (Nat.le_refl _) _⟩
theorem tl_yes (s : ByteArray) : (s.toList == s.toList) = true := by simp
theorem tl_no {y s : ByteArray} (h : ¬ y = s) : (y.toList == s.toList) = false := by
  simp only [ByteArray.toList_eq, beq_eq_false_iff_ne, ne_eq]
  intro e
  exact h (ByteArray.ext (Array.toList_inj.1 e))
theorem tn_yes (s : ByteArray) : (s.toList != s.toList) = false := by simp
theorem tn_no {y s : ByteArray} (h : ¬ y = s) : (y.toList != s.toList) = true := by
  rw [bne, tl_no h]; rfl
theorem find_str (ss : List ByteArray) (s : ByteArray) (a : Option Addr) (cap : Nat) (w : World) (hA : At w w.heap.size (ss.flatMap strC) a) (hl : ss.length ≤ cap) (hc : cap ≤ maxLen) :
    Calls Tryz.prog 88 #[.slice a ss.length cap, .string s, .func (.func 89) #[] #[]] w fun e w' => e = .returned (.tuple #[.int .i64 (fndI ss s), .bool (fndB ss s)]) ∧ w = w' := by
  have HA := Lib.hid hA
  have hkm : ss.length ≤ 9223372036854775807 := by simp only [maxLen] at hc; omega
  clear hA
  go_enter Tryz.func88, Tryz.ntmps88
  go_wp2
  go_loopw [12] (fun i wr => ∃ k : Nat, k ≤ ss.length ∧ i = .int .i64 k ∧ wr = w ∧ Hid (∀ j, j < k → ∀ y, ss[j]? = some y → ¬ y = s)) (fun i _ => ss.length - (intOf i).toNat)
  case atStart => exact ⟨0, Nat.zero_le _, rfl, rfl, fun j hj => by omega⟩
  case round =>
    obtain ⟨k, hkl, rfl, rfl, HN⟩ := hrel
    by_cases hlt : k < ss.length
    · obtain ⟨y, hy⟩ : ∃ y, ss[k]? = some y := ⟨_, List.getElem?_eq_getElem hlt⟩
      obtain ⟨g, o, rfl, hg, hcell⟩ := HA.out (by rw [len_flat strC_len]; omega)
      have c0 := hcell _ _ ((get_flat strC_len ss k 0 y hy (by omega)).trans rfl)
      simp only [Nat.mul_one, Nat.add_zero] at c0
      have HY := Lib.hid hy
      clear hy hcell
      by_cases hys : y = s
      · subst hys
        have ht := tl_yes y
        have hf := fnd_at hlt HN.out HY.out
        go_wp2_with (go_at_call 89; refine (itself_any y _).mono ?_; rintro e w1 ⟨rfl, rfl⟩)
        go_ret2
        exact ⟨by simp only [fndI, fndB, hf, if_pos hlt, decide_eq_true hlt]; rfl, rfl⟩
      · have ht := tl_no hys
        go_wp2_with (go_at_call 89; refine (itself_any y _).mono ?_; rintro e w1 ⟨rfl, rfl⟩)
        refine ⟨⟨k + 1, by omega, by go_num, trivial, fun j hj z hz => ?_⟩, by simp [intOf]; omega⟩
        by_cases hjk : j < k
        · exact HN.out j hjk z hz
        · obtain rfl : j = k := by omega
          rw [HY.out] at hz; cases hz; exact hys
    · obtain rfl : k = ss.length := by omega
      have hno := fnd_none HN.out
      go_wp2
      go_ret2
      exact ⟨by simp only [fndI, fndB, if_neg hno, decide_eq_false hno]; rfl, rfl⟩
theorem find_par (fs : List ParA) (s : ByteArray) (a : Option Addr) (cap : Nat) (w : World) (hA : At w w.heap.size (fs.flatMap parC) a) (hl : fs.length ≤ cap) (hc : cap ≤ maxLen) :
    Calls Tryz.prog 76 #[.slice a fs.length cap, .string s, .func (.func 77) #[] #[]] w fun e w' => e = .returned (.tuple #[.int .i64 (fndI (fs.map (·.name)) s), .bool (fndB (fs.map (·.name)) s)]) ∧ Below w.heap.size w w' := by
  have HA := Lib.hid hA
  have hkm : fs.length ≤ 9223372036854775807 := by simp only [maxLen] at hc; omega
  clear hA
  go_enter Tryz.func76, Tryz.ntmps76
  go_wp2
  go_loopw [12] (fun i wr => ∃ k : Nat, k ≤ fs.length ∧ i = .int .i64 k ∧ Hid (Below w.heap.size w wr) ∧ Hid (∀ j, j < k → ∀ y, (fs.map (·.name))[j]? = some y → ¬ y = s)) (fun i _ => fs.length - (intOf i).toNat)
  case atStart => exact ⟨0, Nat.zero_le _, rfl, Below.refl _ _, fun j hj => by omega⟩
  case round =>
    obtain ⟨k, hkl, rfl, HB, HN⟩ := hrel
    by_cases hlt : k < fs.length
    · obtain ⟨y, hy⟩ : ∃ y, fs[k]? = some y := ⟨_, List.getElem?_eq_getElem hlt⟩
      obtain ⟨g, o, rfl, hg, hcell⟩ := (HA.out.below HB.out) (by rw [len_flat parC_len]; omega)
      have c0 := hcell _ _ ((get_flat parC_len fs k 0 y hy (by omega)).trans rfl)
      have c1 := hcell _ _ ((get_flat parC_len fs k 1 y hy (by omega)).trans rfl)
      simp only [Nat.add_zero, ← Nat.add_assoc] at c0 c1
      have HY : Hid ((fs.map (·.name))[k]? = some y.name) := by show _ = _; rw [List.getElem?_map, hy]; rfl
      have hltm : k < (fs.map (·.name)).length := by rw [List.length_map]; exact hlt
      have HC : Hid (∀ W : World, Calls Tryz.prog 77 #[.agg #[.string y.name, .int .i64 y.sort]] W fun e w' => e = .returned (.string y.name) ∧ Below W.heap.size W w') := fun W => paramName_any y W
      clear hy hcell
      by_cases hys : y.name = s
      · subst hys
        have ht := tl_yes y.name
        have hf := fnd_at hltm HN.out HY.out
        go_wp2_with (go_at_call 77; refine (HC.out _).mono ?_; rintro e w1 ⟨rfl, hb1⟩)
        go_ret2
        exact ⟨by simp only [fndI, fndB, hf, if_pos hltm, decide_eq_true hltm]; rfl, HB.out.trans (((Below.refl _ _).alloc (Nat.le_refl _) _).trans (hb1.mono (by simp)) |>.mono HB.out.size)⟩
      · have ht := tl_no hys
        go_wp2_with (go_at_call 77; refine (HC.out _).mono ?_; rintro e w1 ⟨rfl, hb1⟩)
        refine ⟨⟨k + 1, by omega, by go_num, HB.out.trans (((Below.refl _ _).alloc (Nat.le_refl _) _).trans (hb1.mono (by simp)) |>.mono HB.out.size), fun j hj z hz => ?_⟩, by simp [intOf]; omega⟩
        by_cases hjk : j < k
        · exact HN.out j hjk z hz
        · obtain rfl : j = k := by omega
          rw [HY.out] at hz; cases hz; exact hys
    · obtain rfl : k = fs.length := by omega
      have hno := fnd_none (l := fs.map (·.name)) (by rw [List.length_map]; exact HN.out)
      go_wp2
      go_ret2
      exact ⟨by simp only [fndI, fndB, if_neg hno, decide_eq_false hno]; rfl, HB.out⟩
end Go.Proofs.YtbddghcdibdloaaGreatDoor
