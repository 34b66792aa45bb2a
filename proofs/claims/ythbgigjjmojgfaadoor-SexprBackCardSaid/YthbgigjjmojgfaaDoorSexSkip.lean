/- The document's Skip. -/
import Derived.Test.YthbgigjjmojgfaaDoorLexName
namespace Go.Proofs.YthbgigjjmojgfaaDoor
open Go.RowKit
set_option linter.unusedVariables false
theorem skipAt_turn {l : List UInt8} {m k : Nat} (h : SkipAt l m k true) (h10 : ∀ c r, l.drop k = c :: r → c.toNat = 10) : SkipAt l m k false := by
  unfold SkipAt at h ⊢
  rw [h]
  cases hd : l.drop k with
  | nil => rfl
  | cons c r =>
    have hc := h10 c r hd
    have hw : isWhite c = true := white_10 hc
    have e : ∀ cm, skipN cm (c :: r) = skipN false r + 1 := fun cm => by rw [skipN_yes (by rw [hw]; simp), cmt_no hc]
    rw [e true, e false]
theorem white_is (c : UInt8) (b : Bool) (w : World) (h : isWhite c = b) : Calls Tryd.prog 38 #[.int .u8 c.toNat] w fun e w' => e = .returned (.bool b) ∧ w = w' := by
  have := white_ref c w; rw [h] at this; exact this
theorem RSkip_any (s : ByteArray) (at_ : Int) (w : World) (hs : s.size ≤ 9223372036854775807) :
    Calls Tryd.prog 24 #[.string s, .int .i64 at_] w fun e w' => e = .returned (.int .i64 (skipA s.data.toList (clampN at_ s.size) : Int)) ∧ w = w' := by
  obtain ⟨m, hm, HM, hcase⟩ := clamp_cases at_ s.size
  rcases hcase with ⟨h0, h1⟩ | ⟨rfl, h0⟩ | ⟨h0, h1, h2⟩ | ⟨h0, h1, h2⟩
  all_goals
    go_enter Tryd.func24, Tryd.ntmps24
    go_wp2
    go_loop [1] (fun i => ∃ k : Nat, k ≤ s.size ∧ i = .int .i64 k ∧ Hid (SkipAt s.data.toList m k false)) (fun i => s.size - (intOf i).toNat)
    case atStart =>
      first
      | exact ⟨m, hm, rfl, skipAt_start⟩
      | (obtain rfl : m = 0 := by omega
         exact ⟨0, hm, rfl, skipAt_start⟩)
      | (obtain rfl : m = s.size := by omega
         exact ⟨s.size, hm, rfl, skipAt_start⟩)
    case round =>
      obtain ⟨k, hk, rfl, HP⟩ := hrel
      by_cases hlt : k < s.size
      · cases hw : isWhite s[k] with
        | true =>
          have HW := Lib.hid hw
          clear hw
          go_wp2_with fail
          refine (white_is s[k] true _ HW.out).mono ?_
          rintro e w1 ⟨rfl, rfl⟩
          go_wp2
          go_round
          case rel =>
            refine ⟨k + 1, by omega, by go_num, ?_⟩
            have h := skipAt_step HP.out hlt (by rw [HW.out]; simp)
            have e : cmt false s[k] = false := by
              have := HW.out
              unfold isWhite at this
              unfold cmt
              simp only [Bool.or_eq_true, beq_iff_eq] at this
              rcases this with ((h | h) | h) | h <;> rw [h] <;> rfl
            rw [e] at h
            exact h
          case measure => simp [intOf]; omega
        | false =>
          have HW := Lib.hid hw
          clear hw
          by_cases h59 : (s[k].toNat : Int) = 59
          · have hn2 := eq_true_ h59
            have HC59 := Lib.hid h59
            have HC := Lib.hid (cmt_semi (c := s[k]) (by omega))
            clear h59
            go_wp2_with fail
            refine (white_is s[k] false _ HW.out).mono ?_
            rintro e w1 ⟨rfl, rfl⟩
            go_wp2
            have h59' : s[k].toNat = 59 := by have := HC59.out; omega
            have H59 := Lib.hid h59'
            clear h59'
            go_loop [1] (fun i => ∃ j : Nat, k ≤ j ∧ j ≤ s.size ∧ i = .int .i64 j ∧ ∃ cm, Hid (SkipAt s.data.toList m j cm ∧ (cm = true ∨ j = k))) (fun i => s.size - (intOf i).toNat)
            case atStart => exact ⟨k, Nat.le_refl _, hk, rfl, false, HP.out, .inr rfl⟩
            case round =>
              obtain ⟨j, hkj, hj, rfl, cm, HJ⟩ := hrel
              by_cases hlj : j < s.size
              · by_cases h10 : (s[j].toNat : Int) = 10
                · have hn := ne_false h10
                  have HT : Hid (j ≠ k ∧ SkipAt s.data.toList m j false) := by
                    have hne : j ≠ k := fun e => by subst e; have := H59.out; omega
                    refine ⟨hne, ?_⟩
                    obtain ⟨h1, rfl | h2⟩ := HJ.out
                    · exact skipAt_turn h1 (fun c r hd => by rw [drop_cons s j hlj] at hd; have := (List.cons.inj hd).1; rw [← this]; omega)
                    · exact absurd h2 hne
                  clear h10
                  go_wp2
                  go_round
                  case rel => exact ⟨j, hj, rfl, HT.out.2⟩
                  case measure => have := HT.out.1; simp [intOf]; omega
                · have hn := ne_true h10
                  have HT : Hid (SkipAt s.data.toList m (j + 1) true) := by
                    obtain ⟨h1, h2⟩ := HJ.out
                    have e : cmt cm s[j] = true := by
                      rcases h2 with rfl | rfl
                      · exact cmt_in (by omega)
                      · cases cm with
                        | true => exact cmt_in (by omega)
                        | false => exact HC.out
                    have := skipAt_step h1 hlj (by rw [e]; rfl)
                    rw [e] at this
                    exact this
                  clear h10
                  go_wp2
                  go_round
                  case rel => exact ⟨j + 1, by omega, by omega, by go_num, true, HT.out, .inl rfl⟩
                  case measure => simp [intOf]; omega
              · have HT : Hid (SkipAt s.data.toList m j false) := by
                  obtain ⟨h1, rfl | h2⟩ := HJ.out
                  · exact skipAt_turn h1 (fun c r hd => by rw [drop_nil s j (by omega)] at hd; cases hd)
                  · omega
                go_wp2
                go_round
                case rel => exact ⟨j, hj, rfl, HT.out⟩
                case measure => simp [intOf]; omega
          · have hn2 := eq_false h59
            have HC := Lib.hid (cmt_out (c := s[k]) (by omega))
            clear h59
            go_wp2_with fail
            refine (white_is s[k] false _ HW.out).mono ?_
            rintro e w1 ⟨rfl, rfl⟩
            go_wp2
            go_ret
            exact ⟨by rw [HM.out]; exact congrArg _ (congrArg _ (congrArg _ (skipAt_stop HP.out hlt (by rw [HC.out, HW.out]; rfl)))), rfl⟩
      · go_wp2
        go_ret
        exact ⟨by rw [HM.out]; exact congrArg _ (congrArg _ (congrArg _ (skipAt_end HP.out (by omega)))), rfl⟩
end Go.Proofs.YthbgigjjmojgfaaDoor
