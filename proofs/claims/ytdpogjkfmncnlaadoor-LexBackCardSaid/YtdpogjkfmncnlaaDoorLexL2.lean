/- A name that may be and is not reserved, written, is one token, that name: the walk of the law LexBack. -/
import Derived.Test.YtdpogjkfmncnlaaDoorLexPl
namespace Go.Proofs.YtdpogjkfmncnlaaDoor
open Go.RowKit
set_option linter.unusedVariables false
theorem bytesL_of (s : ByteArray) : bytesL s.data.toList = s := by
  apply ByteArray.ext
  simp [bytesL]
theorem Plain_is (s : ByteArray) (b : Bool) (w : World) (hG : Globs w) (hs : s.size ≤ 100) (hr : resB s.data.toList = false) (hp : plainB s.data.toList = b) :
    Calls Tryd.prog 18 #[.string s] w fun e w' => e = .returned (.bool b) ∧ Below w.heap.size w w' := by subst hp; exact Plain_any s w hG hs hr
theorem Quote_any (s : ByteArray) (w : World) (hG : Globs w) (hs : s.size ≤ 100) (hr : resB s.data.toList = false) :
    Calls Tryd.prog 13 #[.string s] w fun e w' => e = .returned (.string (bytesL (quoteL s.data.toList))) ∧ Below w.heap.size w w' := by
  have HG := Lib.hid hG
  have HR := Lib.hid hr
  clear hG hr
  cases hp : plainB s.data.toList with
  | true =>
    have HQ : Hid (s = bytesL (quoteL s.data.toList)) := by show _ = _; unfold quoteL; rw [if_pos hp, bytesL_of]
    have HP := Lib.hid hp
    clear hp
    go_enter Tryd.func13, Tryd.ntmps13
    go_wp2_with fail
    refine (Plain_is s true _ HG.out hs HR.out HP.out).mono ?_
    rintro e w1 ⟨rfl, hb1⟩
    go_wp2
    go_ret
    exact ⟨ret_str HQ.out, hb1⟩
  | false =>
    have HQ : Hid ((ByteArray.mk #[124]) ++ s ++ (ByteArray.mk #[124]) = bytesL (quoteL s.data.toList)) := by
      show _ = _
      unfold quoteL
      rw [if_neg (by rw [hp]; exact Bool.false_ne_true)]
      apply ByteArray.ext
      simp [bytesL]
    have HP := Lib.hid hp
    clear hp
    go_enter Tryd.func13, Tryd.ntmps13
    go_wp2_with fail
    refine (Plain_is s false _ HG.out hs HR.out HP.out).mono ?_
    rintro e w1 ⟨rfl, hb1⟩
    go_wp2_with fail
    refine (Res_no s _ HR.out).mono ?_
    rintro e w2 ⟨rfl, rfl⟩
    go_wp2
    go_ret
    exact ⟨ret_str HQ.out, hb1⟩
set_option maxRecDepth 100000 in
set_option maxHeartbeats 2000000 in
theorem LexBack_walk (s : ByteArray) (w : World) (hG : Globs w) :
    Calls Tryd.prog 4 #[.string s] w fun e w' => e = .returned (.bool true) ∧ Below w.heap.size w w' := by
  have HG := Lib.hid hG
  clear hG
  by_cases hbig : 200 < s.size
  · go_enter Tryd.func4, Tryd.ntmps4
    go_wp2_with fail
    refine (wakes_any _ HG.out).mono ?_
    rintro e w1 ⟨rfl, hb1⟩
    go_wp2
    go_ret
    exact ⟨rfl, hb1⟩
  · cases hm : (decide (s.size ≤ 100) && s.data.toList.all inBar) with
    | false =>
      have HM := Lib.hid hm
      clear hm
      go_enter Tryd.func4, Tryd.ntmps4
      go_wp2_with fail
      refine (MayR_any s false _ (by omega) HM.out).mono ?_
      rintro e w1 ⟨rfl, rfl⟩
      go_wp2_with fail
      refine (wakes_any _ HG.out).mono ?_
      rintro e w1 ⟨rfl, hb1⟩
      go_wp2
      go_ret
      exact ⟨rfl, hb1⟩
    | true =>
      have HM := Lib.hid hm
      simp only [Bool.and_eq_true, decide_eq_true_eq] at hm
      obtain ⟨h100, hall⟩ := hm
      have HALL := Lib.hid hall
      clear hall
      cases hr : resB s.data.toList with
      | true =>
        have HR := Lib.hid hr
        clear hr
        go_enter Tryd.func4, Tryd.ntmps4
        go_wp2_with fail
        refine (MayR_any s true _ (by omega) HM.out).mono ?_
        rintro e w1 ⟨rfl, rfl⟩
        go_wp2_with fail
        refine (ResR_yes s _ HR.out).mono ?_
        rintro e w1 ⟨rfl, rfl⟩
        go_wp2_with fail
        refine (wakes_any _ HG.out).mono ?_
        rintro e w1 ⟨rfl, hb1⟩
        go_wp2
        go_ret
        exact ⟨rfl, hb1⟩
      | false =>
        have HR := Lib.hid hr
        have HL : Hid (s.data.toList.length = s.size) := by show _ = _; simp
        have htok := quote_tok (l := s.data.toList) (by rw [HL.out]; exact h100) HALL.out
        obtain ⟨Q, hQ⟩ : ∃ Q, Q = bytesL (quoteL s.data.toList) := ⟨_, rfl⟩
        have hql : Q.data.toList = quoteL s.data.toList := by rw [hQ, bytesL_list]
        have hqs : Q.size ≤ 102 := by
          rw [hQ, bytesL_size]
          have : s.data.toList.length = s.size := HL.out
          unfold quoteL
          split <;> simp <;> omega
        rw [← hql] at htok
        have HC : Hid (∀ W : World, Globs W → Calls Tryd.prog 13 #[.string s] W fun e w' => e = .returned (.string Q) ∧ Below W.heap.size W w') := by
          rw [hQ]; exact fun W hW => Quote_any s W hW h100 hr
        have h1 := one_alone htok
        obtain ⟨p2, q2, r2, h2⟩ := one_within htok
        have hw : ((ByteArray.mk #[32, 9, 59, 32, 120, 10]) ++ Q ++ (ByteArray.mk #[13, 59])).data.toList = [32, 9, 59, 32, 120] ++ 10 :: (Q.data.toList ++ [13, 59]) := by simp
        rw [← hw] at h2
        have hws : ((ByteArray.mk #[32, 9, 59, 32, 120, 10]) ++ Q ++ (ByteArray.mk #[13, 59])).size ≤ 200 := by
          have : ((ByteArray.mk #[32, 9, 59, 32, 120, 10]) ++ Q ++ (ByteArray.mk #[13, 59])).size = 6 + Q.size + 2 := by simp [ByteArray.size_append]; rfl
          omega
        have HA1 : Hid (∀ W : World, Globs W → Calls Tryd.prog 8 #[.string Q] W (AllRd [⟨2, s.data.toList, 0, Q.data.toList.length⟩] (Q.data.toList.length : Int) 0 W)) := fun W hW => All_to Q _ _ 0 _ 0 W hW (by omega) h1 rfl rfl
        have HA2 : Hid (∀ W : World, Globs W → Calls Tryd.prog 8 #[.string ((ByteArray.mk #[32, 9, 59, 32, 120, 10]) ++ Q ++ (ByteArray.mk #[13, 59]))] W (AllRd [⟨2, s.data.toList, p2, q2⟩] (r2 : Int) 0 W)) := fun W hW => All_to _ _ r2 0 r2 0 W hW (by omega) h2 rfl rfl
        obtain ⟨n1, hn1⟩ : ∃ n1, n1 = Q.data.toList.length := ⟨_, rfl⟩
        rw [← hn1] at HA1
        clear hr htok hql h1 h2 hw hws hQ hn1
        go_enter Tryd.func4, Tryd.ntmps4
        go_wp2_with fail
        refine (MayR_any s true _ (by omega) HM.out).mono ?_
        rintro e w1 ⟨rfl, rfl⟩
        go_wp2_with fail
        refine (ResR_no s _ HR.out).mono ?_
        rintro e w1 ⟨rfl, rfl⟩
        go_wp2_with fail
        refine (HC.out _ HG.out).mono ?_
        rintro e w1 ⟨rfl, hb1⟩
        have HG1 := Lib.hid (HG.out.below hb1)
        go_wp2_with fail
        refine (HA1.out _ HG1.out).mono ?_
        rintro en w2 ⟨A1, cap1, rfl, hcap1, hT1, hb2⟩
        have HG2 := Lib.hid (HG1.out.below hb2)
        have HT1 := Lib.hid hT1
        clear hT1
        rw [List.length_singleton] at hcap1 ⊢
        go_wp2_with fail
        refine (HA2.out _ HG2.out).mono ?_
        rintro en w3 ⟨A2, cap2, rfl, hcap2, hT2, hb3⟩
        have HG3 := Lib.hid (HG2.out.below hb3)
        rw [List.length_singleton] at hcap2 ⊢
        obtain ⟨g1, rfl, hg1, hc1⟩ := (HT1.out.below hb3) (by simp)
        obtain ⟨g2, rfl, hg2, hc2⟩ := hT2 (by simp)
        have k10 : w3.cell? ⟨g1, 0, none⟩ = some (.int .i8 2) := (hc1 0 (by simp)).1
        have k11 : w3.cell? ⟨g1, 1, none⟩ = some (.string s) := by have := (hc1 0 (by simp)).2.1; simp only [List.getElem_cons_zero, bytesL_of] at this; simpa using this
        have k21 : w3.cell? ⟨g2, 1, none⟩ = some (.string s) := by have := (hc2 0 (by simp)).2.1; simp only [List.getElem_cons_zero, bytesL_of] at this; simpa using this
        clear hc1 hc2 hT2
        go_wp2_with fail
        refine (wakes_any _ HG3.out).mono ?_
        rintro e w4 ⟨rfl, hb4⟩
        go_wp2
        go_ret
        exact ⟨rfl, ((hb1.trans (hb2.mono hb1.size)).trans (hb3.mono (Nat.le_trans hb1.size hb2.size))).trans (hb4.mono (Nat.le_trans (Nat.le_trans hb1.size hb2.size) hb3.size))⟩
theorem LexBack_w (w : World) (s : ByteArray) (_ : s.size ≤ maxLen) (hG : Globs w) :
    Calls Tryd.prog 4 #[.string s] w fun e w' => e = .returned (.bool true) ∧ Below w.heap.size w w' := LexBack_walk s w hG
end Go.Proofs.YtdpogjkfmncnlaaDoor
