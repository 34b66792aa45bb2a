/- Package lex's Quote, of any name of at most 100 bytes. -/
import Derived.Test.YtfhcmhlbidjjgaaDoorLexName
namespace Go.Proofs.YtfhcmhlbidjjgaaDoor
open Go.RowKit
set_option linter.unusedVariables false
set_option maxHeartbeats 4000000 in
theorem Plain_a (s : ByteArray) (w : World) (hG : Globs w) (hp : 0 < s.size) (hs : s.size ≤ 100) (hr : resB s.data.toList = false) (ha : s.data.toList.all isSign = false) :
    Calls Tryd.prog 23 #[.string s] w fun e w' => e = .returned (.bool false) ∧ Below w.heap.size w w' := by
  have HG := Lib.hid hG
  have HR := Lib.hid hr
  have HA := Lib.hid ha
  have hne : ¬ s.toList = [] := fun h => by have := bytes_nil.1 h; omega
  have hem : s.toList.isEmpty = false := by simpa using hne
  have hem2 : (!s.toList.isEmpty) = true := by rw [hem]; rfl
  have hem3 : (s.toList != []) = true := by simpa using hne
  have hl100 : decide (s.size ≤ 100) = true := by simpa using hs
  have hl101 : decide ((s.size : Int) ≤ 100) = true := by simp; omega
  obtain ⟨gd0, d0, d1, d2, d3⟩ := HG.out.digits
  obtain ⟨gs0, s0, s1, s2, s3⟩ := HG.out.signs
  clear hne hG hr ha
  go_enter Tryd.func23, Tryd.ntmps23
  go_wp2
  first | (go_region_with (first | (go_at_call 34; refine (all_no _ _ _ _ isSign signsIs s _ (by omega) HA.out).mono ?_; rintro e w1 ⟨rfl, hb1⟩; have HG1 := Lib.hid (HG.out.drew.below hb1); obtain ⟨ge0, x0, x1, x2, x3⟩ := HG1.out.digits))) | fail
  all_goals go_wp2
  all_goals go_ret
  all_goals exact ⟨rfl, (Below.refl _ _).drew.trans (hb1.mono (Nat.le_refl _))⟩
end Go.Proofs.YtfhcmhlbidjjgaaDoor
namespace Go.Proofs.YtfhcmhlbidjjgaaDoor
open Go.RowKit
set_option linter.unusedVariables false
set_option maxHeartbeats 4000000 in
theorem Plain_b (s : ByteArray) (w : World) (hG : Globs w) (hp : 0 < s.size) (hs : s.size ≤ 100) (hr : resB s.data.toList = false) (ha : s.data.toList.all isSign = true) (hd : isDg s[0] = true) :
    Calls Tryd.prog 23 #[.string s] w fun e w' => e = .returned (.bool false) ∧ Below w.heap.size w w' := by
  have HG := Lib.hid hG
  have HR := Lib.hid hr
  have HA := Lib.hid ha
  have hne : ¬ s.toList = [] := fun h => by have := bytes_nil.1 h; omega
  have hem : s.toList.isEmpty = false := by simpa using hne
  have hem2 : (!s.toList.isEmpty) = true := by rw [hem]; rfl
  have hem3 : (s.toList != []) = true := by simpa using hne
  have hl100 : decide (s.size ≤ 100) = true := by simpa using hs
  have hl101 : decide ((s.size : Int) ≤ 100) = true := by simp; omega
  obtain ⟨gd0, d0, d1, d2, d3⟩ := HG.out.digits
  obtain ⟨gs0, s0, s1, s2, s3⟩ := HG.out.signs
  clear hne hG hr ha
  have HD := Lib.hid hd
  clear hd
  go_enter Tryd.func23, Tryd.ntmps23
  go_wp2
  first | (go_region_with (first | (go_at_call 34; refine (all_yes _ _ _ _ isSign signsIs s _ (by omega) HA.out).mono ?_; rintro e w1 ⟨rfl, hb1⟩; have HG1 := Lib.hid (HG.out.drew.below hb1); obtain ⟨ge0, x0, x1, x2, x3⟩ := HG1.out.digits) | (go_at_call 35; refine (has_yes _ _ _ _ isDg digitsIs s[0] _ HD.out).mono ?_; rintro e w2 ⟨rfl, hb2⟩))) | fail
  all_goals go_wp2
  all_goals go_ret
  all_goals exact ⟨rfl, ((Below.refl _ _).drew.trans (hb1.mono (Nat.le_refl _))).trans (hb2.mono hb1.size)⟩
end Go.Proofs.YtfhcmhlbidjjgaaDoor
namespace Go.Proofs.YtfhcmhlbidjjgaaDoor
open Go.RowKit
set_option linter.unusedVariables false
set_option maxHeartbeats 4000000 in
theorem Plain_c (s : ByteArray) (w : World) (hG : Globs w) (hp : 0 < s.size) (hs : s.size ≤ 100) (hr : resB s.data.toList = false) (ha : s.data.toList.all isSign = true) (hd : isDg s[0] = false) :
    Calls Tryd.prog 23 #[.string s] w fun e w' => e = .returned (.bool true) ∧ Below w.heap.size w w' := by
  have HG := Lib.hid hG
  have HR := Lib.hid hr
  have HA := Lib.hid ha
  have hne : ¬ s.toList = [] := fun h => by have := bytes_nil.1 h; omega
  have hem : s.toList.isEmpty = false := by simpa using hne
  have hem2 : (!s.toList.isEmpty) = true := by rw [hem]; rfl
  have hem3 : (s.toList != []) = true := by simpa using hne
  have hl100 : decide (s.size ≤ 100) = true := by simpa using hs
  have hl101 : decide ((s.size : Int) ≤ 100) = true := by simp; omega
  obtain ⟨gd0, d0, d1, d2, d3⟩ := HG.out.digits
  obtain ⟨gs0, s0, s1, s2, s3⟩ := HG.out.signs
  clear hne hG hr ha
  have HD := Lib.hid hd
  clear hd
  go_enter Tryd.func23, Tryd.ntmps23
  go_wp2
  first | (go_region_with (first | (go_at_call 34; refine (all_yes _ _ _ _ isSign signsIs s _ (by omega) HA.out).mono ?_; rintro e w1 ⟨rfl, hb1⟩; have HG1 := Lib.hid (HG.out.drew.below hb1); obtain ⟨ge0, x0, x1, x2, x3⟩ := HG1.out.digits) | (go_at_call 35; refine (has_no _ _ _ _ isDg digitsIs s[0] _ HD.out).mono ?_; rintro e w2 ⟨rfl, hb2⟩) | (go_at_call 24; refine (Res_no s _ HR.out).mono ?_; rintro e w3 ⟨rfl, rfl⟩))) | fail
  all_goals go_wp2
  all_goals go_ret
  all_goals exact ⟨rfl, ((Below.refl _ _).drew.trans (hb1.mono (Nat.le_refl _))).trans (hb2.mono hb1.size)⟩
end Go.Proofs.YtfhcmhlbidjjgaaDoor
namespace Go.Proofs.YtfhcmhlbidjjgaaDoor
open Go.RowKit
theorem Plain_any (s : ByteArray) (w : World) (hG : Globs w) (hs : s.size ≤ 100) (hr : resB s.data.toList = false) :
    Calls Tryd.prog 23 #[.string s] w fun e w' => e = .returned (.bool (plainB s.data.toList)) ∧ Below w.heap.size w w' := by
  by_cases h0 : s.size = 0
  · have hn : s.toList = [] := bytes_nil.2 h0
    have hem : s.toList.isEmpty = true := by rw [hn]; rfl
    have HP : Hid (plainB s.data.toList = false) := by show _ = _; rw [← ByteArray.toList_eq, hn]; rfl
    clear h0
    go_enter Tryd.func23, Tryd.ntmps23
    go_wp2
    go_quiet (fail)
    go_wp2
    go_ret
    exact ⟨ret_bool HP.out.symm, below_drewN (Below.refl _ _) _⟩
  · have hp : 0 < s.size := by omega
    have hd : s.data.toList = s[0] :: s.data.toList.drop 1 := by have := drop_cons s 0 hp; simpa using this
    have hpl : plainB s.data.toList = (s.data.toList.all isSign && !isDg s[0]) := by
      unfold plainB
      have e1 : s.data.toList.isEmpty = false := by rw [hd]; rfl
      have e2 : s.data.toList.head? = some s[0] := by rw [hd]; rfl
      rw [e1, e2]
      simp
    rw [hpl]
    cases ha : s.data.toList.all isSign with
    | false => exact Plain_a s w hG hp hs hr ha
    | true =>
      cases hdg : isDg s[0] with
      | true => exact Plain_b s w hG hp hs hr ha hdg
      | false => exact Plain_c s w hG hp hs hr ha hdg
end Go.Proofs.YtfhcmhlbidjjgaaDoor
namespace Go.Proofs.YtfhcmhlbidjjgaaDoor
open Go.RowKit
set_option linter.unusedVariables false
theorem bytesL_of' (s : ByteArray) : bytesL s.data.toList = s := by apply ByteArray.ext; simp [bytesL]
theorem Res_yes (s : ByteArray) (w : World) (h : resB s.data.toList = true) : Calls Tryd.prog 24 #[.string s] w fun e w' => e = .returned (.bool true) ∧ w = w' := by
  unfold resB at h
  simp only [Bool.or_eq_true, beq_iff_eq, ← ByteArray.toList_eq] at h
  rcases h with ((((((h | h) | h) | h) | h) | h) | h) | h
  all_goals
    go_enter Tryd.func24, Tryd.ntmps24
    go_wp2
    go_ret
    exact ⟨rfl, rfl⟩
theorem res_plain {l : List UInt8} (h : resB l = true) : plainB l = true := by
  unfold resB at h
  simp only [Bool.or_eq_true, beq_iff_eq] at h
  rcases h with ((((((h | h) | h) | h) | h) | h) | h) | h <;> subst h <;> decide
set_option maxHeartbeats 4000000 in
theorem Plain_r (s : ByteArray) (w : World) (hG : Globs w) (hs : s.size ≤ 100) (hr : resB s.data.toList = true) :
    Calls Tryd.prog 23 #[.string s] w fun e w' => e = .returned (.bool false) ∧ Below w.heap.size w w' := by
  have hpl := res_plain hr
  have hp : 0 < s.size := by
    apply Classical.byContradiction; intro h0
    have : s.data.toList = [] := by rw [← ByteArray.toList_eq]; exact bytes_nil.2 (by omega)
    rw [this] at hr; simp [resB] at hr
  have hd' : s.data.toList = s[0] :: s.data.toList.drop 1 := by have := drop_cons s 0 hp; simpa using this
  have hpl2 : s.data.toList.all isSign = true ∧ isDg s[0] = false := by
    unfold plainB at hpl
    have e1 : s.data.toList.isEmpty = false := by rw [hd']; rfl
    have e2 : s.data.toList.head? = some s[0] := by rw [hd']; rfl
    rw [e1, e2] at hpl
    simpa using hpl
  obtain ⟨ha, hd⟩ := hpl2
  have HG := Lib.hid hG
  have HR := Lib.hid hr
  have HA := Lib.hid ha
  have hne : ¬ s.toList = [] := fun h => by have := bytes_nil.1 h; omega
  have hem : s.toList.isEmpty = false := by simpa using hne
  have hem2 : (!s.toList.isEmpty) = true := by rw [hem]; rfl
  have hem3 : (s.toList != []) = true := by simpa using hne
  have hl100 : decide (s.size ≤ 100) = true := by simpa using hs
  have hl101 : decide ((s.size : Int) ≤ 100) = true := by simp; omega
  obtain ⟨gd0, d0, d1, d2, d3⟩ := HG.out.digits
  obtain ⟨gs0, s0, s1, s2, s3⟩ := HG.out.signs
  clear hne hG hr ha hpl hd'
  have HD := Lib.hid hd
  clear hd
  go_enter Tryd.func23, Tryd.ntmps23
  go_wp2
  first | (go_region_with (first | (go_at_call 34; refine (all_yes _ _ _ _ isSign signsIs s _ (by omega) HA.out).mono ?_; rintro e w1 ⟨rfl, hb1⟩; have HG1 := Lib.hid (HG.out.drew.below hb1); obtain ⟨ge0, x0, x1, x2, x3⟩ := HG1.out.digits) | (go_at_call 35; refine (has_no _ _ _ _ isDg digitsIs s[0] _ HD.out).mono ?_; rintro e w2 ⟨rfl, hb2⟩) | (go_at_call 24; refine (Res_yes s _ HR.out).mono ?_; rintro e w3 ⟨rfl, rfl⟩))) | fail
  all_goals go_wp2
  all_goals go_ret
  all_goals exact ⟨rfl, ((Below.refl _ _).drew.trans (hb1.mono (Nat.le_refl _))).trans (hb2.mono hb1.size)⟩
theorem Plain_is (s : ByteArray) (b : Bool) (w : World) (hG : Globs w) (hs : s.size ≤ 100) (hr : resB s.data.toList = false) (hp : plainB s.data.toList = b) :
    Calls Tryd.prog 23 #[.string s] w fun e w' => e = .returned (.bool b) ∧ Below w.heap.size w w' := by subst hp; exact Plain_any s w hG hs hr
theorem Quote_r (s : ByteArray) (w : World) (hG : Globs w) (hs : s.size ≤ 100) (hr : resB s.data.toList = true) :
    Calls Tryd.prog 14 #[.string s] w fun e w' => e = .returned (.string (bytesL (quoteL s.data.toList))) ∧ Below w.heap.size w w' := by
  have HQ : Hid (s = bytesL (quoteL s.data.toList)) := by show _ = _; unfold quoteL; rw [if_pos (res_plain hr), bytesL_of']
  have HG := Lib.hid hG
  have HR := Lib.hid hr
  clear hG hr
  go_enter Tryd.func14, Tryd.ntmps14
  go_wp2_with fail
  refine (Plain_r s _ HG.out hs HR.out).mono ?_
  rintro e w1 ⟨rfl, hb1⟩
  go_wp2_with fail
  refine (Res_yes s _ HR.out).mono ?_
  rintro e w2 ⟨rfl, rfl⟩
  go_wp2
  go_ret
  exact ⟨ret_str HQ.out, hb1⟩
theorem Quote_any (s : ByteArray) (w : World) (hG : Globs w) (hs : s.size ≤ 100) :
    Calls Tryd.prog 14 #[.string s] w fun e w' => e = .returned (.string (bytesL (quoteL s.data.toList))) ∧ Below w.heap.size w w' := by
  cases hr : resB s.data.toList with
  | true => exact Quote_r s w hG hs hr
  | false =>
  have HG := Lib.hid hG
  have HR := Lib.hid hr
  clear hG hr
  cases hp : plainB s.data.toList with
  | true =>
    have HQ : Hid (s = bytesL (quoteL s.data.toList)) := by show _ = _; unfold quoteL; rw [if_pos hp, bytesL_of']
    have HP := Lib.hid hp
    clear hp
    go_enter Tryd.func14, Tryd.ntmps14
    go_wp2_with fail
    refine (Plain_is s true _ HG.out hs HR.out HP.out).mono ?_
    rintro e w1 ⟨rfl, hb1⟩
    go_wp2
    go_ret
    exact ⟨ret_str HQ.out, hb1⟩
  | false =>
    have HQ : Hid ((ByteArray.mk #[124]) ++ s ++ (ByteArray.mk #[124]) = bytesL (quoteL s.data.toList)) := by
      show _ = _
      unfold quoteL
      rw [if_neg (by rw [hp]; exact Bool.false_ne_true)]
      apply ByteArray.ext
      simp [bytesL]
    have HP := Lib.hid hp
    clear hp
    go_enter Tryd.func14, Tryd.ntmps14
    go_wp2_with fail
    refine (Plain_is s false _ HG.out hs HR.out HP.out).mono ?_
    rintro e w1 ⟨rfl, hb1⟩
    go_wp2_with fail
    refine (Res_no s _ HR.out).mono ?_
    rintro e w2 ⟨rfl, rfl⟩
    go_wp2
    go_ret
    exact ⟨ret_str HQ.out, hb1⟩
end Go.Proofs.YtfhcmhlbidjjgaaDoor
