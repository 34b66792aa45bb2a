/- Package lex's Plain, of a name of at most 100 bytes that is not reserved: signs, the first one a digit. -/
import Derived.Test.YthbgigjjmojgfaaDoorLexName
namespace Go.Proofs.YthbgigjjmojgfaaDoor
open Go.RowKit
set_option linter.unusedVariables false
set_option maxHeartbeats 4000000 in
theorem Plain_b (s : ByteArray) (w : World) (hG : Globs w) (hp : 0 < s.size) (hs : s.size ≤ 100) (hr : resB s.data.toList = false) (ha : s.data.toList.all isSign = true) (hd : isDg s[0] = true) :
    Calls Tryd.prog 87 #[.string s] w fun e w' => e = .returned (.bool false) ∧ Below w.heap.size w w' := by
  have HG := Lib.hid hG
  have HR := Lib.hid hr
  have HA := Lib.hid ha
  have hne : ¬ s.toList = [] := fun h => by have := bytes_nil.1 h; omega
  have hem : s.toList.isEmpty = false := by simpa using hne
  have hem2 : (!s.toList.isEmpty) = true := by rw [hem]; rfl
  have hem3 : (s.toList != []) = true := by simpa using hne
  have hl100 : decide (s.size ≤ 100) = true := by simpa using hs
  have hl101 : decide ((s.size : Int) ≤ 100) = true := by simp; omega
  obtain ⟨gd0, d0, d1, d2, d3⟩ := HG.out.digits
  obtain ⟨gs0, s0, s1, s2, s3⟩ := HG.out.signs
  clear hne hG hr ha
  have HD := Lib.hid hd
  clear hd
  go_enter Tryd.func87, Tryd.ntmps87
  go_wp2
  first | (go_region_with (first | (go_at_call 69; refine (all_yes _ _ _ _ isSign signsIs s _ (by omega) HA.out).mono ?_; rintro e w1 ⟨rfl, hb1⟩; have HG1 := Lib.hid (HG.out.drew.below hb1); obtain ⟨ge0, x0, x1, x2, x3⟩ := HG1.out.digits) | (go_at_call 45; refine (has_yes _ _ _ _ isDg digitsIs s[0] _ HD.out).mono ?_; rintro e w2 ⟨rfl, hb2⟩))) | fail
  all_goals go_wp2
  all_goals go_ret
  all_goals exact ⟨rfl, ((Below.refl _ _).drew.trans (hb1.mono (Nat.le_refl _))).trans (hb2.mono hb1.size)⟩
end Go.Proofs.YthbgigjjmojgfaaDoor
