/- The document's Next. -/
import Derived.Test.YtodonngnigbpaaaGreatDoorLexName
namespace Go.Proofs.YtodonngnigbpaaaGreatDoor
open Go.RowKit
set_option linter.unusedVariables false
theorem skipAt_turn {l : List UInt8} {m k : Nat} (h : SkipAt l m k true) (h10 : ∀ c r, l.drop k = c :: r → c.toNat = 10) : SkipAt l m k false := by
  unfold SkipAt at h ⊢
  rw [h]
  cases hd : l.drop k with
  | nil => rfl
  | cons c r =>
    have hc := h10 c r hd
    have hw : isWhite c = true := white_10 hc
    have e : ∀ cm, skipN cm (c :: r) = skipN false r + 1 := fun cm => by rw [skipN_yes (by rw [hw]; simp), cmt_no hc]
    rw [e true, e false]
theorem white_is (c : UInt8) (b : Bool) (w : World) (h : isWhite c = b) : Calls Tryz.prog 95 #[.int .u8 c.toNat] w fun e w' => e = .returned (.bool b) ∧ w = w' := by
  have := white_ref c w; rw [h] at this; exact this
theorem RSkip_any (s : ByteArray) (at_ : Int) (w : World) (hs : s.size ≤ 9223372036854775807) :
    Calls Tryz.prog 63 #[.string s, .int .i64 at_] w fun e w' => e = .returned (.int .i64 (skipA s.data.toList (clampN at_ s.size) : Int)) ∧ w = w' := by
  obtain ⟨m, hm, HM, hcase⟩ := clamp_cases at_ s.size
  rcases hcase with ⟨h0, h1⟩ | ⟨rfl, h0⟩ | ⟨h0, h1, h2⟩ | ⟨h0, h1, h2⟩
  all_goals
    go_enter Tryz.func63, Tryz.ntmps63
    go_wp2
    go_loop [1] (fun i => ∃ k : Nat, k ≤ s.size ∧ i = .int .i64 k ∧ Hid (SkipAt s.data.toList m k false)) (fun i => s.size - (intOf i).toNat)
    case atStart =>
      first
      | exact ⟨m, hm, rfl, skipAt_start⟩
      | (obtain rfl : m = 0 := by omega
         exact ⟨0, hm, rfl, skipAt_start⟩)
      | (obtain rfl : m = s.size := by omega
         exact ⟨s.size, hm, rfl, skipAt_start⟩)
    case round =>
      obtain ⟨k, hk, rfl, HP⟩ := hrel
      by_cases hlt : k < s.size
      · cases hw : isWhite s[k] with
        | true =>
          have HW := Lib.hid hw
          clear hw
          go_wp2_with fail
          refine (white_is s[k] true _ HW.out).mono ?_
          rintro e w1 ⟨rfl, rfl⟩
          go_wp2
          go_round
          case rel =>
            refine ⟨k + 1, by omega, by go_num, ?_⟩
            have h := skipAt_step HP.out hlt (by rw [HW.out]; simp)
            have e : cmt false s[k] = false := by
              have := HW.out
              unfold isWhite at this
              unfold cmt
              simp only [Bool.or_eq_true, beq_iff_eq] at this
              rcases this with ((h | h) | h) | h <;> rw [h] <;> rfl
            rw [e] at h
            exact h
          case measure => simp [intOf]; omega
        | false =>
          have HW := Lib.hid hw
          clear hw
          by_cases h59 : (s[k].toNat : Int) = 59
          · have hn2 := eq_true_ h59
            have HC59 := Lib.hid h59
            have HC := Lib.hid (cmt_semi (c := s[k]) (by omega))
            clear h59
            go_wp2_with fail
            refine (white_is s[k] false _ HW.out).mono ?_
            rintro e w1 ⟨rfl, rfl⟩
            go_wp2
            have h59' : s[k].toNat = 59 := by have := HC59.out; omega
            have H59 := Lib.hid h59'
            clear h59'
            go_loop [1] (fun i => ∃ j : Nat, k ≤ j ∧ j ≤ s.size ∧ i = .int .i64 j ∧ ∃ cm, Hid (SkipAt s.data.toList m j cm ∧ (cm = true ∨ j = k))) (fun i => s.size - (intOf i).toNat)
            case atStart => exact ⟨k, Nat.le_refl _, hk, rfl, false, HP.out, .inr rfl⟩
            case round =>
              obtain ⟨j, hkj, hj, rfl, cm, HJ⟩ := hrel
              by_cases hlj : j < s.size
              · by_cases h10 : (s[j].toNat : Int) = 10
                · have hn := ne_false h10
                  have HT : Hid (j ≠ k ∧ SkipAt s.data.toList m j false) := by
                    have hne : j ≠ k := fun e => by subst e; have := H59.out; omega
                    refine ⟨hne, ?_⟩
                    obtain ⟨h1, rfl | h2⟩ := HJ.out
                    · exact skipAt_turn h1 (fun c r hd => by rw [drop_cons s j hlj] at hd; have := (List.cons.inj hd).1; rw [← this]; omega)
                    · exact absurd h2 hne
                  clear h10
                  go_wp2
                  go_round
                  case rel => exact ⟨j, hj, rfl, HT.out.2⟩
                  case measure => have := HT.out.1; simp [intOf]; omega
                · have hn := ne_true h10
                  have HT : Hid (SkipAt s.data.toList m (j + 1) true) := by
                    obtain ⟨h1, h2⟩ := HJ.out
                    have e : cmt cm s[j] = true := by
                      rcases h2 with rfl | rfl
                      · exact cmt_in (by omega)
                      · cases cm with
                        | true => exact cmt_in (by omega)
                        | false => exact HC.out
                    have := skipAt_step h1 hlj (by rw [e]; rfl)
                    rw [e] at this
                    exact this
                  clear h10
                  go_wp2
                  go_round
                  case rel => exact ⟨j + 1, by omega, by omega, by go_num, true, HT.out, .inl rfl⟩
                  case measure => simp [intOf]; omega
              · have HT : Hid (SkipAt s.data.toList m j false) := by
                  obtain ⟨h1, rfl | h2⟩ := HJ.out
                  · exact skipAt_turn h1 (fun c r hd => by rw [drop_nil s j (by omega)] at hd; cases hd)
                  · omega
                go_wp2
                go_round
                case rel => exact ⟨j, hj, rfl, HT.out⟩
                case measure => simp [intOf]; omega
          · have hn2 := eq_false h59
            have HC := Lib.hid (cmt_out (c := s[k]) (by omega))
            clear h59
            go_wp2_with fail
            refine (white_is s[k] false _ HW.out).mono ?_
            rintro e w1 ⟨rfl, rfl⟩
            go_wp2
            go_ret
            exact ⟨by rw [HM.out]; exact congrArg _ (congrArg _ (congrArg _ (skipAt_stop HP.out hlt (by rw [HC.out, HW.out]; rfl)))), rfl⟩
      · go_wp2
        go_ret
        exact ⟨by rw [HM.out]; exact congrArg _ (congrArg _ (congrArg _ (skipAt_end HP.out (by omega)))), rfl⟩
end Go.Proofs.YtodonngnigbpaaaGreatDoor
namespace Go.Proofs.YtodonngnigbpaaaGreatDoor
open Go.RowKit
set_option linter.unusedVariables false
def someL : List Nat := [126, 33, 64, 36, 37, 94, 38, 42, 95, 45, 43, 61, 60, 62, 46, 63, 47]
theorem sign_other (c : UInt8) (h : (¬ (48 ≤ c.toNat ∧ c.toNat ≤ 57)) ∧ (¬ (65 ≤ c.toNat ∧ c.toNat ≤ 90)) ∧ ¬ (97 ≤ c.toNat ∧ c.toNat ≤ 122)) : isSign c = someL.contains c.toNat := by
  have e1 : isDg c = false := by unfold isDg; simp only [Bool.and_eq_false_iff, decide_eq_false_iff_not]; omega
  have e2 : (decide (65 ≤ c.toNat) && decide (c.toNat ≤ 90)) = false := by simp only [Bool.and_eq_false_iff, decide_eq_false_iff_not]; omega
  have e3 : (decide (97 ≤ c.toNat) && decide (c.toNat ≤ 122)) = false := by simp only [Bool.and_eq_false_iff, decide_eq_false_iff_not]; omega
  unfold isSign
  rw [e1, e2, e3]
  rfl
theorem sign_in (c : UInt8) (h : (48 ≤ c.toNat ∧ c.toNat ≤ 57) ∨ (65 ≤ c.toNat ∧ c.toNat ≤ 90) ∨ (97 ≤ c.toNat ∧ c.toNat ≤ 122)) : isSign c = true := by
  unfold isSign isDg
  simp only [Bool.or_eq_true, Bool.and_eq_true, decide_eq_true_eq]
  omega
/-- None of the first k. -/
def NoneOf (n k : Nat) : Prop := ∀ j, j < k → someL[j]? ≠ some n
theorem NoneOf.step {n k m : Nat} (h : NoneOf n k) (hm : someL[k]? = some m) (hne : m ≠ n) : NoneOf n (k + 1) := fun j hj => by
  rcases Nat.lt_succ_iff_lt_or_eq.1 hj with h' | rfl
  · exact h j h'
  · rw [hm]; simpa using hne
theorem NoneOf.all {n : Nat} (h : NoneOf n 17) : someL.contains n = false := by
  rw [Bool.eq_false_iff]
  intro hc
  rw [List.contains_iff_mem] at hc
  obtain ⟨j, hj⟩ := List.getElem?_of_mem hc
  have : j < 17 := (List.getElem?_eq_some_iff.1 hj).1
  exact h j this hj
theorem some_at {k : Nat} (h : k < (ByteArray.mk #[126, 33, 64, 36, 37, 94, 38, 42, 95, 45, 43, 61, 60, 62, 46, 63, 47]).size) : someL[k]? = some ((ByteArray.mk #[126, 33, 64, 36, 37, 94, 38, 42, 95, 45, 43, 61, 60, 62, 46, 63, 47])[k]).toNat := by
  have key : ∀ k : Fin 17, someL[k.val]? = some ((ByteArray.mk #[126, 33, 64, 36, 37, 94, 38, 42, 95, 45, 43, 61, 60, 62, 46, 63, 47])[k.val]'k.isLt).toNat := by decide +kernel
  exact key ⟨k, h⟩
set_option maxHeartbeats 4000000 in
theorem Sign_ref (c : UInt8) (w : World) : Calls Tryz.prog 96 #[.int .u8 c.toNat] w fun e w' => e = .returned (.bool (isSign c)) ∧ w = w' := by
  have h256 := c.toNat_lt
  obtain hr | hr | hr | hr | hr | hr | hr : (0 ≤ c.toNat ∧ c.toNat ≤ 47) ∨ (48 ≤ c.toNat ∧ c.toNat ≤ 57) ∨ (58 ≤ c.toNat ∧ c.toNat ≤ 64) ∨ (65 ≤ c.toNat ∧ c.toNat ≤ 90) ∨ (91 ≤ c.toNat ∧ c.toNat ≤ 96) ∨ (97 ≤ c.toNat ∧ c.toNat ≤ 122) ∨ (123 ≤ c.toNat ∧ c.toNat ≤ 255) := by omega
  · have d48 : decide ((48 : Int) ≤ (c.toNat : Int)) = false := by simp; omega
    have d65 : decide ((65 : Int) ≤ (c.toNat : Int)) = false := by simp; omega
    have d97 : decide ((97 : Int) ≤ (c.toNat : Int)) = false := by simp; omega
    have d57 : decide ((c.toNat : Int) ≤ 57) = true := by simp; omega
    have d90 : decide ((c.toNat : Int) ≤ 90) = true := by simp; omega
    have d122 : decide ((c.toNat : Int) ≤ 122) = true := by simp; omega
    have HR : Hid (isSign c = someL.contains c.toNat) := sign_other c (by omega)
    clear hr h256
    go_enter Tryz.func96, Tryz.ntmps96
    go_wp2
    go_loop [3] (fun i => ∃ k : Nat, k ≤ 17 ∧ i = .int .i64 k ∧ Hid (NoneOf c.toNat k)) (fun i => 17 - (intOf i).toNat)
    case atStart => exact ⟨0, by omega, rfl, fun j hj => absurd hj (Nat.not_lt_zero j)⟩
    case round =>
      obtain ⟨k, hk, rfl, HN⟩ := hrel
      by_cases hlt : k < 17
      · have hb : k < (ByteArray.mk #[126, 33, 64, 36, 37, 94, 38, 42, 95, 45, 43, 61, 60, 62, 46, 63, 47]).size := hlt
        have HA := Lib.hid (some_at hb)
        by_cases he : (((ByteArray.mk #[126, 33, 64, 36, 37, 94, 38, 42, 95, 45, 43, 61, 60, 62, 46, 63, 47])[k]).toNat : Int) = (c.toNat : Int)
        · have e1 := eq_true_ he
          have HE := Lib.hid he
          clear he
          go_wp2
          go_ret
          exact ⟨ret_bool (by rw [HR.out]; symm; rw [List.contains_iff_mem]; exact List.mem_of_getElem? (HA.out.trans (congrArg some (by have := HE.out; omega)))), rfl⟩
        · have e1 := eq_false he
          have HE := Lib.hid he
          clear he
          go_wp2
          go_round
          case rel => exact ⟨k + 1, by omega, by go_num, HN.out.step HA.out (fun e => HE.out (by omega))⟩
          case measure => simp [intOf]; omega
      · obtain rfl : k = 17 := by omega
        go_wp2
        go_ret
        exact ⟨ret_bool (by rw [HR.out, HN.out.all]), rfl⟩
  · have d48 : decide ((48 : Int) ≤ (c.toNat : Int)) = true := by simp; omega
    have d65 : decide ((65 : Int) ≤ (c.toNat : Int)) = false := by simp; omega
    have d97 : decide ((97 : Int) ≤ (c.toNat : Int)) = false := by simp; omega
    have d57 : decide ((c.toNat : Int) ≤ 57) = true := by simp; omega
    have d90 : decide ((c.toNat : Int) ≤ 90) = true := by simp; omega
    have d122 : decide ((c.toNat : Int) ≤ 122) = true := by simp; omega
    have HR : Hid (isSign c = true) := sign_in c (by omega)
    clear hr h256
    go_enter Tryz.func96, Tryz.ntmps96
    go_wp2
    go_ret
    exact ⟨ret_bool HR.out.symm, rfl⟩
  · have d48 : decide ((48 : Int) ≤ (c.toNat : Int)) = true := by simp; omega
    have d65 : decide ((65 : Int) ≤ (c.toNat : Int)) = false := by simp; omega
    have d97 : decide ((97 : Int) ≤ (c.toNat : Int)) = false := by simp; omega
    have d57 : decide ((c.toNat : Int) ≤ 57) = false := by simp; omega
    have d90 : decide ((c.toNat : Int) ≤ 90) = true := by simp; omega
    have d122 : decide ((c.toNat : Int) ≤ 122) = true := by simp; omega
    have HR : Hid (isSign c = someL.contains c.toNat) := sign_other c (by omega)
    clear hr h256
    go_enter Tryz.func96, Tryz.ntmps96
    go_wp2
    go_loop [3] (fun i => ∃ k : Nat, k ≤ 17 ∧ i = .int .i64 k ∧ Hid (NoneOf c.toNat k)) (fun i => 17 - (intOf i).toNat)
    case atStart => exact ⟨0, by omega, rfl, fun j hj => absurd hj (Nat.not_lt_zero j)⟩
    case round =>
      obtain ⟨k, hk, rfl, HN⟩ := hrel
      by_cases hlt : k < 17
      · have hb : k < (ByteArray.mk #[126, 33, 64, 36, 37, 94, 38, 42, 95, 45, 43, 61, 60, 62, 46, 63, 47]).size := hlt
        have HA := Lib.hid (some_at hb)
        by_cases he : (((ByteArray.mk #[126, 33, 64, 36, 37, 94, 38, 42, 95, 45, 43, 61, 60, 62, 46, 63, 47])[k]).toNat : Int) = (c.toNat : Int)
        · have e1 := eq_true_ he
          have HE := Lib.hid he
          clear he
          go_wp2
          go_ret
          exact ⟨ret_bool (by rw [HR.out]; symm; rw [List.contains_iff_mem]; exact List.mem_of_getElem? (HA.out.trans (congrArg some (by have := HE.out; omega)))), rfl⟩
        · have e1 := eq_false he
          have HE := Lib.hid he
          clear he
          go_wp2
          go_round
          case rel => exact ⟨k + 1, by omega, by go_num, HN.out.step HA.out (fun e => HE.out (by omega))⟩
          case measure => simp [intOf]; omega
      · obtain rfl : k = 17 := by omega
        go_wp2
        go_ret
        exact ⟨ret_bool (by rw [HR.out, HN.out.all]), rfl⟩
  · have d48 : decide ((48 : Int) ≤ (c.toNat : Int)) = true := by simp; omega
    have d65 : decide ((65 : Int) ≤ (c.toNat : Int)) = true := by simp; omega
    have d97 : decide ((97 : Int) ≤ (c.toNat : Int)) = false := by simp; omega
    have d57 : decide ((c.toNat : Int) ≤ 57) = false := by simp; omega
    have d90 : decide ((c.toNat : Int) ≤ 90) = true := by simp; omega
    have d122 : decide ((c.toNat : Int) ≤ 122) = true := by simp; omega
    have HR : Hid (isSign c = true) := sign_in c (by omega)
    clear hr h256
    go_enter Tryz.func96, Tryz.ntmps96
    go_wp2
    go_ret
    exact ⟨ret_bool HR.out.symm, rfl⟩
  · have d48 : decide ((48 : Int) ≤ (c.toNat : Int)) = true := by simp; omega
    have d65 : decide ((65 : Int) ≤ (c.toNat : Int)) = true := by simp; omega
    have d97 : decide ((97 : Int) ≤ (c.toNat : Int)) = false := by simp; omega
    have d57 : decide ((c.toNat : Int) ≤ 57) = false := by simp; omega
    have d90 : decide ((c.toNat : Int) ≤ 90) = false := by simp; omega
    have d122 : decide ((c.toNat : Int) ≤ 122) = true := by simp; omega
    have HR : Hid (isSign c = someL.contains c.toNat) := sign_other c (by omega)
    clear hr h256
    go_enter Tryz.func96, Tryz.ntmps96
    go_wp2
    go_loop [3] (fun i => ∃ k : Nat, k ≤ 17 ∧ i = .int .i64 k ∧ Hid (NoneOf c.toNat k)) (fun i => 17 - (intOf i).toNat)
    case atStart => exact ⟨0, by omega, rfl, fun j hj => absurd hj (Nat.not_lt_zero j)⟩
    case round =>
      obtain ⟨k, hk, rfl, HN⟩ := hrel
      by_cases hlt : k < 17
      · have hb : k < (ByteArray.mk #[126, 33, 64, 36, 37, 94, 38, 42, 95, 45, 43, 61, 60, 62, 46, 63, 47]).size := hlt
        have HA := Lib.hid (some_at hb)
        by_cases he : (((ByteArray.mk #[126, 33, 64, 36, 37, 94, 38, 42, 95, 45, 43, 61, 60, 62, 46, 63, 47])[k]).toNat : Int) = (c.toNat : Int)
        · have e1 := eq_true_ he
          have HE := Lib.hid he
          clear he
          go_wp2
          go_ret
          exact ⟨ret_bool (by rw [HR.out]; symm; rw [List.contains_iff_mem]; exact List.mem_of_getElem? (HA.out.trans (congrArg some (by have := HE.out; omega)))), rfl⟩
        · have e1 := eq_false he
          have HE := Lib.hid he
          clear he
          go_wp2
          go_round
          case rel => exact ⟨k + 1, by omega, by go_num, HN.out.step HA.out (fun e => HE.out (by omega))⟩
          case measure => simp [intOf]; omega
      · obtain rfl : k = 17 := by omega
        go_wp2
        go_ret
        exact ⟨ret_bool (by rw [HR.out, HN.out.all]), rfl⟩
  · have d48 : decide ((48 : Int) ≤ (c.toNat : Int)) = true := by simp; omega
    have d65 : decide ((65 : Int) ≤ (c.toNat : Int)) = true := by simp; omega
    have d97 : decide ((97 : Int) ≤ (c.toNat : Int)) = true := by simp; omega
    have d57 : decide ((c.toNat : Int) ≤ 57) = false := by simp; omega
    have d90 : decide ((c.toNat : Int) ≤ 90) = false := by simp; omega
    have d122 : decide ((c.toNat : Int) ≤ 122) = true := by simp; omega
    have HR : Hid (isSign c = true) := sign_in c (by omega)
    clear hr h256
    go_enter Tryz.func96, Tryz.ntmps96
    go_wp2
    go_ret
    exact ⟨ret_bool HR.out.symm, rfl⟩
  · have d48 : decide ((48 : Int) ≤ (c.toNat : Int)) = true := by simp; omega
    have d65 : decide ((65 : Int) ≤ (c.toNat : Int)) = true := by simp; omega
    have d97 : decide ((97 : Int) ≤ (c.toNat : Int)) = true := by simp; omega
    have d57 : decide ((c.toNat : Int) ≤ 57) = false := by simp; omega
    have d90 : decide ((c.toNat : Int) ≤ 90) = false := by simp; omega
    have d122 : decide ((c.toNat : Int) ≤ 122) = false := by simp; omega
    have HR : Hid (isSign c = someL.contains c.toNat) := sign_other c (by omega)
    clear hr h256
    go_enter Tryz.func96, Tryz.ntmps96
    go_wp2
    go_loop [3] (fun i => ∃ k : Nat, k ≤ 17 ∧ i = .int .i64 k ∧ Hid (NoneOf c.toNat k)) (fun i => 17 - (intOf i).toNat)
    case atStart => exact ⟨0, by omega, rfl, fun j hj => absurd hj (Nat.not_lt_zero j)⟩
    case round =>
      obtain ⟨k, hk, rfl, HN⟩ := hrel
      by_cases hlt : k < 17
      · have hb : k < (ByteArray.mk #[126, 33, 64, 36, 37, 94, 38, 42, 95, 45, 43, 61, 60, 62, 46, 63, 47]).size := hlt
        have HA := Lib.hid (some_at hb)
        by_cases he : (((ByteArray.mk #[126, 33, 64, 36, 37, 94, 38, 42, 95, 45, 43, 61, 60, 62, 46, 63, 47])[k]).toNat : Int) = (c.toNat : Int)
        · have e1 := eq_true_ he
          have HE := Lib.hid he
          clear he
          go_wp2
          go_ret
          exact ⟨ret_bool (by rw [HR.out]; symm; rw [List.contains_iff_mem]; exact List.mem_of_getElem? (HA.out.trans (congrArg some (by have := HE.out; omega)))), rfl⟩
        · have e1 := eq_false he
          have HE := Lib.hid he
          clear he
          go_wp2
          go_round
          case rel => exact ⟨k + 1, by omega, by go_num, HN.out.step HA.out (fun e => HE.out (by omega))⟩
          case measure => simp [intOf]; omega
      · obtain rfl : k = 17 := by omega
        go_wp2
        go_ret
        exact ⟨ret_bool (by rw [HR.out, HN.out.all]), rfl⟩
theorem SignR_is (c : UInt8) (b : Bool) (w : World) (h : isSign c = b) : Calls Tryz.prog 96 #[.int .u8 c.toNat] w fun e w' => e = .returned (.bool b) ∧ w = w' := by
  have := Sign_ref c w; rw [h] at this; exact this
theorem digit_is (c : UInt8) (b : Bool) (w : World) (h : isDg c = b) : Calls Tryz.prog 66 #[.int .u8 c.toNat] w fun e w' => e = .returned (.bool b) ∧ w = w' := by
  have HB := Lib.hid h
  by_cases h1 : 48 ≤ c.toNat
  · by_cases h2 : c.toNat ≤ 57
    · have d1 : decide ((48 : Int) ≤ (c.toNat : Int)) = true := by simp; omega
      have d2 : decide ((c.toNat : Int) ≤ 57) = true := by simp; omega
      have HR : Hid (b = true) := by show _ = _; rw [← HB.out]; unfold isDg; simp; omega
      clear h h1 h2
      go_enter Tryz.func66, Tryz.ntmps66
      go_wp2
      go_ret
      exact ⟨ret_bool HR.out.symm, rfl⟩
    · have d1 : decide ((48 : Int) ≤ (c.toNat : Int)) = true := by simp; omega
      have d2 : decide ((c.toNat : Int) ≤ 57) = false := by simp; omega
      have HR : Hid (b = false) := by show _ = _; rw [← HB.out]; unfold isDg; simp; omega
      clear h h1 h2
      go_enter Tryz.func66, Tryz.ntmps66
      go_wp2
      go_ret
      exact ⟨ret_bool HR.out.symm, rfl⟩
  · have d1 : decide ((48 : Int) ≤ (c.toNat : Int)) = false := by simp; omega
    have HR : Hid (b = false) := by show _ = _; rw [← HB.out]; unfold isDg; simp; omega
    clear h h1
    go_enter Tryz.func66, Tryz.ntmps66
    go_wp2
    go_ret
    exact ⟨ret_bool HR.out.symm, rfl⟩
/-- Where signs end. -/
theorem run_is (s : ByteArray) (k m : Nat) (w : World) (hs : s.size < 9223372036854775807) (hk : k ≤ s.size) (hm : m = k + spanN isSign (s.data.toList.drop k)) :
    Calls Tryz.prog 64 #[.string s, .int .i64 k] w fun e w' => e = .returned (.int .i64 m) ∧ w = w' := by
  have HM := Lib.hid hm
  clear hm
  go_enter Tryz.func64, Tryz.ntmps64
  go_wp2
  go_loop [1] (fun i => ∃ j : Nat, j ≤ s.size ∧ i = .int .i64 j ∧ Hid (m = j + spanN isSign (s.data.toList.drop j))) (fun i => s.size - (intOf i).toNat)
  case atStart => exact ⟨k, hk, rfl, HM⟩
  case round =>
    obtain ⟨j, hj, rfl, HJ⟩ := hrel
    by_cases hlt : j < s.size
    · have hd := drop_cons s j hlt
      have dl : decide ((j : Int) < (s.size : Int)) = true := by simp; omega
      cases hsg : isSign s[j] with
      | true =>
        have HN : Hid (m = j + 1 + spanN isSign (s.data.toList.drop (j + 1))) := by
          have := HJ.out
          rw [hd, spanN, if_pos hsg] at this
          show _ = _
          omega
        have HS := Lib.hid hsg
        clear hsg hd
        go_wp2_with fail
        refine (SignR_is s[j] true _ HS.out).mono ?_
        rintro e w1 ⟨rfl, rfl⟩
        go_wp2
        go_round
        case rel => exact ⟨j + 1, by omega, by go_num, HN.out⟩
        case measure => simp [intOf]; omega
      | false =>
        have HN : Hid (m = j) := by
          have := HJ.out
          rw [hd, spanN, if_neg (by rw [hsg]; simp)] at this
          exact this
        have HS := Lib.hid hsg
        clear hsg hd
        go_wp2_with fail
        refine (SignR_is s[j] false _ HS.out).mono ?_
        rintro e w1 ⟨rfl, rfl⟩
        go_wp2
        go_ret
        exact ⟨by rw [HN.out]; rfl, rfl⟩
    · have dl : decide ((j : Int) < (s.size : Int)) = false := by simp; omega
      have HN : Hid (m = j) := by
        have := HJ.out
        rw [drop_nil s j (by omega)] at this
        exact this
      go_wp2
      go_ret
      exact ⟨by rw [HN.out]; rfl, rfl⟩
theorem get_at {s : ByteArray} {j : Nat} (h : j < s.size) : s.data.toList[j]? = some s[j] := by
  rw [← List.head?_drop, drop_cons s j h]; rfl
theorem all_step {p : UInt8 → Bool} {s : ByteArray} {j : Nat} (h : j < s.size) (ha : (s.data.toList.take j).all p = true) (hp : p s[j] = true) : (s.data.toList.take (j + 1)).all p = true := by
  rw [List.take_add_one, get_at h, List.all_append, ha]
  simp [hp]
theorem all_nope {p : UInt8 → Bool} {s : ByteArray} {j : Nat} (h : j < s.size) (hp : p s[j] = false) : s.data.toList.all p = false := by
  rw [List.all_eq_false]
  exact ⟨s[j], List.mem_of_getElem? (get_at h), by rw [hp]; simp⟩
theorem numOk_no {l : List UInt8} (h : l.all isDg = false) : numOk l = false := by unfold numOk; rw [h]; rfl
/-- A numeral of at least one byte. -/
theorem numeral_is (s : ByteArray) (b : Bool) (w : World) (hs : s.size < 9223372036854775807) (h0 : 0 < s.size) (hb : numOk s.data.toList = b) :
    Calls Tryz.prog 67 #[.string s] w fun e w' => e = .returned (.bool b) ∧ w = w' := by
  have HB := Lib.hid hb
  clear hb
  go_enter Tryz.func67, Tryz.ntmps67
  go_wp2
  go_loop [3] (fun i => ∃ j : Nat, j ≤ s.size ∧ i = .int .i64 j ∧ Hid ((s.data.toList.take j).all isDg = true)) (fun i => s.size - (intOf i).toNat)
  case atStart => exact ⟨0, Nat.zero_le _, rfl, by show _ = _; simp⟩
  case round =>
    obtain ⟨j, hj, rfl, HJ⟩ := hrel
    by_cases hlt : j < s.size
    · cases hsg : isDg s[j] with
      | true =>
        have HN : Hid ((s.data.toList.take (j + 1)).all isDg = true) := by
          exact all_step hlt HJ.out hsg
        have HS := Lib.hid hsg
        clear hsg
        go_wp2_with fail
        refine (digit_is s[j] true _ HS.out).mono ?_
        rintro e w1 ⟨rfl, rfl⟩
        go_wp2
        go_round
        case rel => exact ⟨j + 1, by omega, by go_num, HN.out⟩
        case measure => simp [intOf]; omega
      | false =>
        have HN : Hid (b = false) := by
          exact HB.out.symm.trans (numOk_no (all_nope hlt hsg))
        have HS := Lib.hid hsg
        clear hsg
        go_wp2_with fail
        refine (digit_is s[j] false _ HS.out).mono ?_
        rintro e w1 ⟨rfl, rfl⟩
        go_wp2
        go_ret
        exact ⟨by rw [HN.out]; rfl, rfl⟩
    · obtain rfl : j = s.size := by omega
      have hall : s.data.toList.all isDg = true := by have := HJ.out; rw [List.take_of_length_le (by simp)] at this; exact this
      have HALL := Lib.hid hall
      clear hall
      have hem : s.toList.isEmpty = false := by
        have : ¬ s.toList = [] := fun h => by have := bytes_nil.1 h; omega
        simpa using this
      have HD : Hid (s.toList = s.data.toList) := by show _ = _; rw [ByteArray.toList_eq]
      have HH : Hid (s.data.toList.head? = some s[0]) := by
        show _ = _
        rw [← get_at h0, List.head?_eq_getElem?]
      by_cases hz : s.toList = [48]
      · have e1 : (s.toList == [48]) = true := by simpa using hz
        have HR : Hid (b = true) := by
          show _ = _
          rw [← HB.out]
          unfold numOk
          rw [HALL.out, ← HD.out, e1]; simp
        clear hz
        go_wp2
        go_ret
        exact ⟨by rw [HR.out]; rfl, rfl⟩
      · have e1 : (s.toList == [48]) = false := by simpa using hz
        clear hz
        by_cases h48 : (s[0].toNat : Int) = 48
        · have e2 := ne_false h48
          have HR : Hid (b = false) := by
            show _ = _
            rw [← HB.out]
            unfold numOk
            have : s[0] = 48 := UInt8.toNat_inj.1 (by have : (48 : UInt8).toNat = 48 := rfl; omega)
            rw [HALL.out, HH.out, ← HD.out, e1, this]; rfl
          clear h48
          go_wp2
          go_ret
          exact ⟨by rw [HR.out]; rfl, rfl⟩
        · have e2 := ne_true h48
          have HR : Hid (b = true) := by
            show _ = _
            rw [← HB.out]
            unfold numOk
            have : ¬ s[0] = 48 := fun e => h48 (by rw [e]; rfl)
            rw [HALL.out, HH.out]
            simp [this]
          clear h48
          go_wp2
          go_ret
          exact ⟨by rw [HR.out]; rfl, rfl⟩
/-- Between bars, from byte i on; k: where the name began. -/
def BarAt (L : List UInt8) (k i : Nat) : Prop := k + 1 ≤ i ∧ spanN inBar (L.drop (k + 1)) = (i - (k + 1)) + spanN inBar (L.drop i)
theorem quoted_is (s : ByteArray) (k : Nat) (r : List UInt8 × Nat × Bool) (w : World) (hs : s.size < 9223372036854775807) (hk : k < s.size) (hr : barR (s.data.toList.drop (k + 1)) = r) :
    Calls Tryz.prog 65 #[.string s, .int .i64 k] w fun e w' => (∃ t m, e = .returned (.tuple #[.string t, .int .i64 m, .bool (r.2.2 && decide (r.1.length ≤ 100))]) ∧ (r.2.2 = true → t = bytesL r.1 ∧ m = ((k + r.2.1 : Nat) : Int))) ∧ w = w' := by
  have HR := Lib.hid hr
  have hw1 : IntKind.i64.wrap ((k : Int) + 1) = (k : Int) + 1 := by rw [IntKind.wrap_i64]; omega
  clear hr
  go_enter Tryz.func65, Tryz.ntmps65
  go_wp2
  go_loop [7] (fun i => ∃ j : Nat, j ≤ s.size ∧ i = .int .i64 j ∧ Hid (BarAt s.data.toList k j)) (fun i => s.size - (intOf i).toNat)
  case atStart => exact ⟨k + 1, by omega, by go_num, Nat.le_refl _, by omega⟩
  case round =>
    obtain ⟨j, hj, rfl, HJ⟩ := hrel
    by_cases hlt : j < s.size
    · have dl : decide ((j : Int) < (s.size : Int)) = true := by simp; omega
      have hd := drop_cons s j hlt
      by_cases hbar : (s[j].toNat : Int) = 124
      · have e1 := eq_true_ hbar
        have hc : s[j] = 124 := UInt8.toNat_inj.1 (by have : (124 : UInt8).toNat = 124 := rfl; omega)
        obtain ⟨q1, q2⟩ := HJ.out
        have hsp : spanN inBar (s.data.toList.drop (k + 1)) = j - (k + 1) := by
          rw [q2, hd, spanN, if_neg (by rw [hc]; decide)]; omega
        have hget : (s.data.toList.drop (k + 1))[j - (k + 1)]? = some 124 := by
          rw [List.getElem?_drop, show k + 1 + (j - (k + 1)) = j by omega, get_at hlt, hc]
        have hrr : r = ((s.data.toList.drop (k + 1)).take (j - (k + 1)), j - (k + 1) + 2, true) := by
          rw [← HR.out]; unfold barR; rw [hsp, if_pos hget]
        have HRR := Lib.hid hrr
        have hlen : r.1.length = j - (k + 1) := by rw [hrr]; simp; omega
        have HLEN := Lib.hid hlen
        have hkj0 : (k : Int) + 1 ≤ (j : Int) := by omega
        clear hc hsp hget hrr hlen q2 hd hbar
        go_wp2
        have hdec : decide ((j : Int) - (k : Int) - 1 ≤ 100) = (r.2.2 && decide (r.1.length ≤ 100)) := by
          rw [HLEN.out, HRR.out]
          simp only [Bool.true_and, decide_eq_decide]
          omega
        refine bodyPost_ret (v := .tuple #[.string (s.extract (k + 1) j), .int .i64 ((j : Int) + 1), .bool (decide ((j : Int) - (k : Int) - 1 ≤ 100))]) (by simp [results, Tryz.results65, go_sem]) rfl ⟨⟨_, _, by rw [hdec], fun _ => ⟨?_, ?_⟩⟩, rfl⟩
        · rw [HRR.out]
          have := extract_bytes s (k + 1) (j - (k + 1))
          rw [show k + 1 + (j - (k + 1)) = j by omega] at this
          exact this
        · rw [HRR.out]; simp only; omega
      · have e1 := eq_false hbar
        have hc : ¬ s[j] = 124 := fun e => hbar (by rw [e]; rfl)
        cases hin : inBar s[j] with
        | true =>
          have HN : Hid (BarAt s.data.toList k (j + 1)) := by
            obtain ⟨q1, q2⟩ := HJ.out
            refine ⟨by omega, ?_⟩
            rw [q2, hd, spanN, if_pos hin]; omega
          have HIN := Lib.hid hin
          clear hin hd hbar hc
          go_wp2_with fail
          refine (within_yes s[j] _ HIN.out).mono ?_
          rintro e w1 ⟨rfl, rfl⟩
          go_wp2
          go_round
          case rel => exact ⟨j + 1, by omega, by go_num, HN.out⟩
          case measure => simp [intOf]; omega
        | false =>
          have HN : Hid (r = ([], 0, false)) := by
            obtain ⟨q1, q2⟩ := HJ.out
            have hsp : spanN inBar (s.data.toList.drop (k + 1)) = j - (k + 1) := by
              rw [q2, hd, spanN, if_neg (by rw [hin]; simp)]; omega
            show _ = _
            rw [← HR.out]; unfold barR
            rw [hsp, List.getElem?_drop, show k + 1 + (j - (k + 1)) = j by omega, get_at hlt, if_neg (by simpa using hc)]
          have HIN := Lib.hid hin
          clear hin hd hbar hc
          go_wp2_with fail
          refine (within_no s[j] _ HIN.out).mono ?_
          rintro e w1 ⟨rfl, rfl⟩
          go_wp2
          exact bodyPost_ret (v := .tuple #[.string ⟨#[]⟩, .int .i64 0, .bool false]) (by simp [results, Tryz.results65, go_sem]) rfl ⟨⟨_, _, by rw [HN.out]; rfl, fun h => by rw [HN.out] at h; cases h⟩, rfl⟩
    · have HN : Hid (r = ([], 0, false)) := by
        obtain ⟨q1, q2⟩ := HJ.out
        have hj' : j = s.size := by omega
        have hsp : spanN inBar (s.data.toList.drop (k + 1)) = j - (k + 1) := by
          rw [q2, drop_nil s j (by omega)]; simp [spanN]
        show _ = _
        rw [← HR.out]; unfold barR
        rw [hsp, List.getElem?_drop, show k + 1 + (j - (k + 1)) = j by omega, List.getElem?_eq_none (by simp; omega), if_neg (by simp)]
      have dl : decide ((j : Int) < (s.size : Int)) = false := by simp; omega
      go_wp2
      exact bodyPost_ret (v := .tuple #[.string ⟨#[]⟩, .int .i64 0, .bool false]) (by simp [results, Tryz.results65, go_sem]) rfl ⟨⟨_, _, by rw [HN.out]; rfl, fun h => by rw [HN.out] at h; cases h⟩, rfl⟩
end Go.Proofs.YtodonngnigbpaaaGreatDoor
namespace Go.Proofs.YtodonngnigbpaaaGreatDoor
open Go.RowKit
set_option linter.unusedVariables false
theorem tok_open {c : UInt8} {r : List UInt8} (h : c.toNat = 40) : tokN (c :: r) = some (0, [], 1) := by
  have : kindN c = some 0 := by unfold kindN; rw [if_pos h]
  exact tokN_of this rfl (by show ([] : List UInt8).length ≤ 100; simp)
theorem tok_close {c : UInt8} {r : List UInt8} (h : c.toNat = 41) : tokN (c :: r) = some (1, [], 1) := by
  have : kindN c = some 1 := by unfold kindN; rw [if_neg (by omega), if_pos h]
  exact tokN_of this rfl (by show ([] : List UInt8).length ≤ 100; simp)
theorem dg_of {c : UInt8} (h : ¬ (48 ≤ c.toNat ∧ c.toNat ≤ 57)) : isDg c = false := by unfold isDg; simp only [Bool.and_eq_false_iff, decide_eq_false_iff_not]; omega
theorem dg_is {c : UInt8} (h : isDg c = true) : 48 ≤ c.toNat ∧ c.toNat ≤ 57 := by unfold isDg at h; simpa using h
theorem kind_bar {c : UInt8} (h : c.toNat = 124) : kindN c = some 2 := by
  unfold kindN; rw [if_neg (by omega), if_neg (by omega), if_neg (by omega), if_neg (by rw [dg_of (by omega)]; simp), if_pos (.inl h)]
theorem read_bar {c : UInt8} {r : List UInt8} (h : c.toNat = 124) : readR 2 (c :: r) = barR r := by show (if c.toNat = 124 then barR r else signR (c :: r)) = _; rw [if_pos h]
theorem tok_bar_yes {c : UInt8} {r : List UInt8} (h : c.toNat = 124) (h1 : (barR r).2.2 = true) (h2 : (barR r).1.length ≤ 100) : tokN (c :: r) = some (2, (barR r).1, (barR r).2.1) := by
  have := tokN_of (r := r) (kind_bar h) (by rw [read_bar h]; exact h1) (by rw [read_bar h]; exact h2)
  rw [read_bar h] at this
  exact this
theorem tok_bar_no {c : UInt8} {r : List UInt8} (h : c.toNat = 124) (h1 : ((barR r).2.2 && decide ((barR r).1.length ≤ 100)) = false) : tokN (c :: r) = none := by
  refine tokN_none (kind_bar h) ?_
  rw [read_bar h]
  rcases Bool.and_eq_false_iff.1 h1 with h1 | h1
  · exact .inl h1
  · exact .inr (by simpa using h1)
theorem take_span (p : UInt8 → Bool) (l : List UInt8) : (l.take (spanN p l)).length = spanN p l := by
  have := spanN_le p l
  simp; omega
theorem bsize (l : List UInt8) : (bytesL l).size = l.length := by show l.toArray.size = _; simp
theorem bdata (l : List UInt8) : (bytesL l).data.toList = l := by show l.toArray.toList = _; simp
theorem kind_key {c : UInt8} (h : c.toNat = 58) : kindN c = some 4 := by unfold kindN; rw [if_neg (by omega), if_neg (by omega), if_pos h]
theorem tok_key_yes {c : UInt8} {r : List UInt8} (h : c.toNat = 58) (h1 : 0 < spanN isSign r) (h2 : spanN isSign r ≤ 100) : tokN (c :: r) = some (4, r.take (spanN isSign r), spanN isSign r + 1) := by
  refine tokN_of (r := r) (kind_key h) ?_ ?_
  · show (!(r.take (spanN isSign r)).isEmpty) = true
    have := take_span isSign r
    cases hc : r.take (spanN isSign r) with
    | nil => rw [hc] at this; simp at this; omega
    | cons a b => rfl
  · show (r.take (spanN isSign r)).length ≤ 100
    rw [take_span]; exact h2
theorem tok_key_no {c : UInt8} {r : List UInt8} (h : c.toNat = 58) (h1 : spanN isSign r = 0 ∨ 100 < spanN isSign r) : tokN (c :: r) = none := by
  refine tokN_none (kind_key h) ?_
  rcases h1 with h1 | h1
  · left
    show (!(r.take (spanN isSign r)).isEmpty) = false
    rw [h1]; rfl
  · right
    show 100 < (r.take (spanN isSign r)).length
    rw [take_span]; exact h1
theorem tok_none {c : UInt8} {r : List UInt8} (h : c.toNat ≠ 40 ∧ c.toNat ≠ 41 ∧ c.toNat ≠ 58 ∧ c.toNat ≠ 124) (hs : isSign c = false) : tokN (c :: r) = none := by
  refine tokN_kind ?_
  have hd : isDg c = false := by
    cases hd : isDg c with
    | false => rfl
    | true => rw [sign_in c (.inl (dg_is hd))] at hs; cases hs
  unfold kindN
  rw [if_neg h.1, if_neg h.2.1, if_neg h.2.2.1, if_neg (by rw [hd]; simp), if_neg (by rw [hs]; simp; exact h.2.2.2)]
theorem kind_num {c : UInt8} (h : isDg c = true) : kindN c = some 3 := by
  have := dg_is h
  unfold kindN; rw [if_neg (by omega), if_neg (by omega), if_neg (by omega), if_pos h]
theorem tok_num_yes {c : UInt8} {r : List UInt8} (h : isDg c = true) (h1 : spanN isSign (c :: r) ≤ 100) (h2 : numOk ((c :: r).take (spanN isSign (c :: r))) = true) : tokN (c :: r) = some (3, (c :: r).take (spanN isSign (c :: r)), spanN isSign (c :: r)) := by
  refine tokN_of (r := r) (kind_num h) h2 ?_
  show ((c :: r).take (spanN isSign (c :: r))).length ≤ 100
  rw [take_span]; exact h1
theorem tok_num_no {c : UInt8} {r : List UInt8} (h : isDg c = true) (h1 : 100 < spanN isSign (c :: r) ∨ numOk ((c :: r).take (spanN isSign (c :: r))) = false) : tokN (c :: r) = none := by
  refine tokN_none (kind_num h) ?_
  rcases h1 with h1 | h1
  · right
    show 100 < ((c :: r).take (spanN isSign (c :: r))).length
    rw [take_span]; exact h1
  · exact .inl h1
theorem kind_name {c : UInt8} (h : c.toNat ≠ 40 ∧ c.toNat ≠ 41 ∧ c.toNat ≠ 58 ∧ c.toNat ≠ 124) (hs : isSign c = true) (hd : isDg c = false) : kindN c = some 2 := by
  unfold kindN; rw [if_neg h.1, if_neg h.2.1, if_neg h.2.2.1, if_neg (by rw [hd]; simp), if_pos (.inr hs)]
theorem read_name {c : UInt8} {r : List UInt8} (h : c.toNat ≠ 124) : readR 2 (c :: r) = signR (c :: r) := by show (if c.toNat = 124 then barR r else signR (c :: r)) = _; rw [if_neg h]
theorem tok_name_yes {c : UInt8} {r : List UInt8} (h : c.toNat ≠ 40 ∧ c.toNat ≠ 41 ∧ c.toNat ≠ 58 ∧ c.toNat ≠ 124) (hs : isSign c = true) (hd : isDg c = false) (h1 : spanN isSign (c :: r) ≤ 100) : tokN (c :: r) = some (2, (c :: r).take (spanN isSign (c :: r)), spanN isSign (c :: r)) := by
  have := tokN_of (r := r) (kind_name h hs hd) (by rw [read_name h.2.2.2]; rfl) (by rw [read_name h.2.2.2]; show ((c :: r).take (spanN isSign (c :: r))).length ≤ 100; rw [take_span]; exact h1)
  rw [read_name h.2.2.2] at this
  exact this
theorem tok_name_no {c : UInt8} {r : List UInt8} (h : c.toNat ≠ 40 ∧ c.toNat ≠ 41 ∧ c.toNat ≠ 58 ∧ c.toNat ≠ 124) (hs : isSign c = true) (hd : isDg c = false) (h1 : 100 < spanN isSign (c :: r)) : tokN (c :: r) = none := by
  refine tokN_none (kind_name h hs hd) (.inr ?_)
  rw [read_name h.2.2.2]; show 100 < ((c :: r).take (spanN isSign (c :: r))).length; rw [take_span]; exact h1
theorem tk_below (w : World) (o o' : Obj) : Below w.heap.size w ((w.alloc o).alloc o') := ((Below.refl _ _).alloc (Nat.le_refl _) _).alloc (by simp) _
set_option maxHeartbeats 8000000 in
theorem RNext_any (s : ByteArray) (at_ : Int) (X : Nxt) (w : World) (hs : s.size < 900000) (hX : nextL s.data.toList (clampN at_ s.size) = X) :
    Calls Tryz.prog 36 #[.string s, .int .i64 at_] w fun e w' => e = .returned (nxtV X) ∧ Below w.heap.size w w' := by
  have HL : Hid (s.data.toList.length = s.size) := by show _ = _; simp
  obtain ⟨n, hn⟩ : ∃ n, n = skipA s.data.toList (clampN at_ s.size) := ⟨_, rfl⟩
  have HSK : Hid (∀ W : World, Calls Tryz.prog 63 #[.string s, .int .i64 at_] W fun e w' => e = .returned (.int .i64 (n : Int)) ∧ W = w') := fun W => by
    rw [hn]; exact RSkip_any s at_ W (by omega)
  have hnle : n ≤ s.size := by
    have := (skipA_le (l := s.data.toList) (k := clampN at_ s.size) (by rw [HL.out]; exact clampN_le _ _)).2
    rw [HL.out] at this; omega
  have HX : Hid (nextA s.data.toList n = X) := by show _ = _; rw [hn]; exact hX
  have HS := Lib.hid hs
  clear hX hn
  by_cases hend : n = s.size
  · have d2 : decide ((s.size : Int) ≤ (n : Int)) = true := by simp; omega
    have HXX : Hid (X = ⟨⟨0, [], 0, 0⟩, false, 0⟩) := by show _ = _; rw [← HX.out]; unfold nextA; rw [if_pos (by rw [HL.out]; exact hend)]
    have hge : s.size ≤ n := by omega
    clear hend
    go_enter Tryz.func36, Tryz.ntmps36
    go_wp2_with fail
    refine (HSK.out _).mono ?_
    rintro e w1 ⟨rfl, rfl⟩
    go_wp2_with fail
    have hh := heap_alloc_new w (.cells #[.int .i8 0, .string ⟨#[]⟩, .int .i64 0, .int .i64 0] 70)
    have c0 := cell_of_row _ _ 0 _ _ _ hh
    have c1 := cell_of_row _ _ 1 _ _ _ hh
    have c2 := cell_of_row _ _ 2 _ _ _ hh
    have c3 := cell_of_row _ _ 3 _ _ _ hh
    exact bodyPost_ret (v := .tuple #[.agg #[.int .i8 0, .string ⟨#[]⟩, .int .i64 0, .int .i64 0], .bool false, .int .i64 0]) (by simp [results, Tryz.results36, go_sem, c0, c1, c2, c3]) rfl ⟨by rw [HXX.out]; first | rfl | (simp [nxtV, tokV, bytesL]; done), (Below.refl _ _).alloc (Nat.le_refl _) _⟩
  · have hlt : n < s.size := by omega
    have d2 : decide ((s.size : Int) ≤ (n : Int)) = false := by simp; omega
    have hd := drop_cons s n hlt
    obtain ⟨c, hc⟩ : ∃ c, c = s[n] := ⟨_, rfl⟩
    obtain ⟨r, hr⟩ : ∃ r, r = s.data.toList.drop (n + 1) := ⟨_, rfl⟩
    have hcr : s.data.toList.drop n = c :: r := by rw [hd, hc, hr]
    have HCR := Lib.hid hcr
    have HYes : ∀ k t m, tokN (c :: r) = some (k, t, m) → X = ⟨⟨k, t, n, n + m⟩, true, 0⟩ := fun k t m h => by
      rw [← HX.out]; unfold nextA
      rw [if_neg (by rw [HL.out]; exact hend), hcr, h]
    have HNo : tokN (c :: r) = none → X = ⟨⟨0, [], n, 0⟩, false, 20⟩ := fun h => by
      rw [← HX.out]; unfold nextA
      rw [if_neg (by rw [HL.out]; exact hend), hcr, h]
    have hspl : n + spanN isSign (c :: r) ≤ s.size := by
      have := spanN_le isSign (s.data.toList.drop n)
      rw [List.length_drop, HL.out, hcr] at this
      omega
    have hspl2 : n + 1 + spanN isSign r ≤ s.size := by
      have := spanN_le isSign (s.data.toList.drop (n + 1))
      rw [List.length_drop, HL.out, ← hr] at this
      omega
    obtain ⟨en, hen⟩ : ∃ en, en = n + spanN isSign (c :: r) := ⟨_, rfl⟩
    have HRUN : Hid (∀ W : World, Calls Tryz.prog 64 #[.string s, .int .i64 n] W fun e w' => e = .returned (.int .i64 (en : Int)) ∧ W = w') := fun W => run_is s n en W (by omega) (by omega) (by rw [hcr]; exact hen)
    have HEN := Lib.hid hen
    have HDR := Lib.hid hr
    have HSc := Lib.hid hc
    have hw1 : IntKind.i64.wrap ((n : Int) + 1) = (n : Int) + 1 := by rw [IntKind.wrap_i64]; omega
    have hn0 : (0 : Int) ≤ (n : Int) := by omega
    clear hen hcr hr hd hend
    by_cases h40 : c.toNat = 40
    · have e1 := eq_true_ (x := (c.toNat : Int)) (y := 40) (by omega)
      have HXX := Lib.hid (HYes _ _ _ (tok_open h40))
      rw [hc] at e1
      clear HYes HNo h40 hc hspl hspl2
      go_enter Tryz.func36, Tryz.ntmps36
      go_wp2_with fail
      refine (HSK.out _).mono ?_
      rintro e w1 ⟨rfl, rfl⟩
      go_wp2_with fail
      refine (HRUN.out _).mono ?_
      rintro e w1 ⟨rfl, rfl⟩
      go_wp2_with fail
      exact bodyPost_ret (v := .tuple #[.agg #[.int .i8 0, .string ⟨#[]⟩, .int .i64 n, .int .i64 ((n : Int) + 1)], .bool true, .int .i64 0]) (by simp [results, Tryz.results36, go_sem]) rfl ⟨by rw [HXX.out]; first | rfl | (simp [nxtV, tokV, bytesL]; done), tk_below _ _ _⟩
    · have e1 := eq_false (x := (c.toNat : Int)) (y := 40) (by omega)
      by_cases h41 : c.toNat = 41
      · have e2 := eq_true_ (x := (c.toNat : Int)) (y := 41) (by omega)
        have HXX := Lib.hid (HYes _ _ _ (tok_close h41))
        rw [hc] at e1 e2
        clear HYes HNo h40 h41 hc hspl hspl2
        go_enter Tryz.func36, Tryz.ntmps36
        go_wp2_with fail
        refine (HSK.out _).mono ?_
        rintro e w1 ⟨rfl, rfl⟩
        go_wp2_with fail
        refine (HRUN.out _).mono ?_
        rintro e w1 ⟨rfl, rfl⟩
        go_wp2_with fail
        exact bodyPost_ret (v := .tuple #[.agg #[.int .i8 1, .string ⟨#[]⟩, .int .i64 n, .int .i64 ((n : Int) + 1)], .bool true, .int .i64 0]) (by simp [results, Tryz.results36, go_sem]) rfl ⟨by rw [HXX.out]; first | rfl | (simp [nxtV, tokV, bytesL]; done), tk_below _ _ _⟩
      · have e2 := eq_false (x := (c.toNat : Int)) (y := 41) (by omega)
        by_cases h124 : c.toNat = 124
        · have e3 := eq_true_ (x := (c.toNat : Int)) (y := 124) (by omega)
          have HQ := Lib.hid (fun W => quoted_is s n (barR r) W (by omega) hlt (by rw [← HDR.out]))
          rw [hc] at e1 e2 e3
          cases hok : ((barR r).2.2 && decide ((barR r).1.length ≤ 100)) with
          | true =>
            have hok' := hok
            simp only [Bool.and_eq_true, decide_eq_true_eq] at hok'
            have HXX := Lib.hid (HYes _ _ _ (tok_bar_yes h124 hok'.1 hok'.2))
            rw [hok] at HQ
            have HOK := Lib.hid hok'.1
            clear HYes HNo h40 h41 h124 hc hspl hspl2 hok hok'
            go_enter Tryz.func36, Tryz.ntmps36
            go_wp2_with fail
            refine (HSK.out _).mono ?_
            rintro e w1 ⟨rfl, rfl⟩
            go_wp2_with fail
            refine (HRUN.out _).mono ?_
            rintro e w1 ⟨rfl, rfl⟩
            go_wp2_with fail
            refine (HQ.out _).mono ?_
            rintro e w1 ⟨⟨t, m, rfl, htm⟩, rfl⟩
            obtain ⟨rfl, rfl⟩ := htm HOK.out
            clear htm
            go_wp2_with fail
            exact bodyPost_ret (v := .tuple #[.agg #[.int .i8 2, .string (bytesL (barR r).1), .int .i64 n, .int .i64 ((n + (barR r).2.1 : Nat) : Int)], .bool true, .int .i64 0]) (by simp [results, Tryz.results36, go_sem]) rfl ⟨by rw [HXX.out]; first | rfl | (simp [nxtV, tokV, bytesL]; done), tk_below _ _ _⟩
          | false =>
            have HXX := Lib.hid (HNo (tok_bar_no h124 hok))
            rw [hok] at HQ
            clear HYes HNo h40 h41 h124 hc hspl hspl2 hok
            go_enter Tryz.func36, Tryz.ntmps36
            go_wp2_with fail
            refine (HSK.out _).mono ?_
            rintro e w1 ⟨rfl, rfl⟩
            go_wp2_with fail
            refine (HRUN.out _).mono ?_
            rintro e w1 ⟨rfl, rfl⟩
            go_wp2_with fail
            refine (HQ.out _).mono ?_
            rintro e w1 ⟨⟨t, m, rfl, htm⟩, rfl⟩
            clear htm
            go_wp2_with fail
            exact bodyPost_ret (v := .tuple #[.agg #[.int .i8 0, .string ⟨#[]⟩, .int .i64 n, .int .i64 0], .bool false, .int .i64 20]) (by simp [results, Tryz.results36, go_sem]) rfl ⟨by rw [HXX.out]; first | rfl | (simp [nxtV, tokV, bytesL]; done), tk_below _ _ _⟩
        · have e3 := eq_false (x := (c.toNat : Int)) (y := 124) (by omega)
          by_cases h58 : c.toNat = 58
          · have e4 := eq_true_ (x := (c.toNat : Int)) (y := 58) (by omega)
            obtain ⟨m, hm⟩ : ∃ m, m = spanN isSign r := ⟨_, rfl⟩
            obtain ⟨en2, hen2⟩ : ∃ en2, en2 = n + 1 + m := ⟨_, rfl⟩
            have HRUN2 : Hid (∀ W : World, Calls Tryz.prog 64 #[.string s, .int .i64 ((n : Int) + 1)] W fun e w' => e = .returned (.int .i64 (en2 : Int)) ∧ W = w') := fun W => by
              have := run_is s (n + 1) en2 W (by omega) (by omega) (by rw [← HDR.out, ← hm]; exact hen2)
              simpa using this
            have hw2 : IntKind.i64.wrap ((en2 : Int) - (n : Int)) = (en2 : Int) - (n : Int) := by rw [IntKind.wrap_i64]; omega
            rw [← hm] at hspl2
            rw [hc] at e1 e2 e3 e4
            by_cases h0 : m = 0
            · have HXX := Lib.hid (HNo (tok_key_no h58 (.inl (by rw [← hm]; exact h0))))
              have e5 := eq_true_ (x := (en2 : Int)) (y := (n : Int) + 1) (by omega)
              clear HYes HNo h40 h41 h124 h58 hc hspl hspl2 hm h0 hen2
              go_enter Tryz.func36, Tryz.ntmps36
              go_wp2_with fail
              refine (HSK.out _).mono ?_
              rintro e w1 ⟨rfl, rfl⟩
              go_wp2_with fail
              refine (HRUN.out _).mono ?_
              rintro e w1 ⟨rfl, rfl⟩
              go_wp2_with fail
              refine (HRUN2.out _).mono ?_
              rintro e w1 ⟨rfl, rfl⟩
              go_wp2_with fail
              exact bodyPost_ret (v := .tuple #[.agg #[.int .i8 0, .string ⟨#[]⟩, .int .i64 n, .int .i64 0], .bool false, .int .i64 20]) (by simp [results, Tryz.results36, go_sem]) rfl ⟨by rw [HXX.out]; first | rfl | (simp [nxtV, tokV, bytesL]; done), tk_below _ _ _⟩
            · have e5 := eq_false (x := (en2 : Int)) (y := (n : Int) + 1) (by omega)
              by_cases h100 : m ≤ 100
              · have HXX := Lib.hid (HYes _ _ _ (tok_key_yes h58 (by omega) (by omega)))
                have e6 : decide ((en2 : Int) - (n : Int) > 101) = false := by simp; omega
                have e7 : decide (101 < (en2 : Int) - (n : Int)) = false := by simp; omega
                have g1 : (n : Int) + 1 ≤ (en2 : Int) := by omega
                have g2 : (en2 : Int) ≤ (s.size : Int) := by omega
                have HM := Lib.hid hm
                have HE2 := Lib.hid hen2
                clear HYes HNo h40 h41 h124 h58 hc hspl hm h0 hen2
                go_enter Tryz.func36, Tryz.ntmps36
                go_wp2_with fail
                refine (HSK.out _).mono ?_
                rintro e w1 ⟨rfl, rfl⟩
                go_wp2_with fail
                refine (HRUN.out _).mono ?_
                rintro e w1 ⟨rfl, rfl⟩
                go_wp2_with fail
                refine (HRUN2.out _).mono ?_
                rintro e w1 ⟨rfl, rfl⟩
                go_wp2_with fail
                exact bodyPost_ret (v := .tuple #[.agg #[.int .i8 4, .string (s.extract (n + 1) en2), .int .i64 n, .int .i64 en2], .bool true, .int .i64 0]) (by simp [results, Tryz.results36, go_sem]) rfl ⟨by rw [HXX.out, HE2.out, extract_bytes, ← HDR.out, ← HM.out]; simp [nxtV, tokV]; omega, tk_below _ _ _⟩
              · have HXX := Lib.hid (HNo (tok_key_no h58 (.inr (by rw [← hm]; omega))))
                have e6 : decide ((en2 : Int) - (n : Int) > 101) = true := by simp; omega
                have e7 : decide (101 < (en2 : Int) - (n : Int)) = true := by simp; omega
                clear HYes HNo h40 h41 h124 h58 hc hspl hspl2 hm h0 hen2
                go_enter Tryz.func36, Tryz.ntmps36
                go_wp2_with fail
                refine (HSK.out _).mono ?_
                rintro e w1 ⟨rfl, rfl⟩
                go_wp2_with fail
                refine (HRUN.out _).mono ?_
                rintro e w1 ⟨rfl, rfl⟩
                go_wp2_with fail
                refine (HRUN2.out _).mono ?_
                rintro e w1 ⟨rfl, rfl⟩
                go_wp2_with fail
                exact bodyPost_ret (v := .tuple #[.agg #[.int .i8 0, .string ⟨#[]⟩, .int .i64 n, .int .i64 0], .bool false, .int .i64 20]) (by simp [results, Tryz.results36, go_sem]) rfl ⟨by rw [HXX.out]; first | rfl | (simp [nxtV, tokV, bytesL]; done), tk_below _ _ _⟩
          · have e4 := eq_false (x := (c.toNat : Int)) (y := 58) (by omega)
            have hkk : c.toNat ≠ 40 ∧ c.toNat ≠ 41 ∧ c.toNat ≠ 58 ∧ c.toNat ≠ 124 := ⟨h40, h41, h58, h124⟩
            have hw2 : IntKind.i64.wrap ((en : Int) - (n : Int)) = (en : Int) - (n : Int) := by have := HEN.out; rw [IntKind.wrap_i64]; omega
            rw [hc] at e1 e2 e3 e4
            cases hsg : isSign c with
            | false =>
              have hm0 : spanN isSign (c :: r) = 0 := by rw [spanN, if_neg (by rw [hsg]; simp)]
              have HXX := Lib.hid (HNo (tok_none hkk hsg))
              have e5 := eq_true_ (x := (en : Int)) (y := (n : Int)) (by have := HEN.out; omega)
              clear HYes HNo h40 h41 h124 h58 hc hspl hspl2 hkk hm0 hsg
              go_enter Tryz.func36, Tryz.ntmps36
              go_wp2_with fail
              refine (HSK.out _).mono ?_
              rintro e w1 ⟨rfl, rfl⟩
              go_wp2_with fail
              refine (HRUN.out _).mono ?_
              rintro e w1 ⟨rfl, rfl⟩
              go_wp2_with fail
              exact bodyPost_ret (v := .tuple #[.agg #[.int .i8 0, .string ⟨#[]⟩, .int .i64 n, .int .i64 0], .bool false, .int .i64 20]) (by simp [results, Tryz.results36, go_sem]) rfl ⟨by rw [HXX.out]; first | rfl | (simp [nxtV, tokV, bytesL]; done), tk_below _ _ _⟩
            | true =>
              have hm1 : 0 < spanN isSign (c :: r) := by rw [spanN, if_pos hsg]; omega
              have e5 := eq_false (x := (en : Int)) (y := (n : Int)) (by have := HEN.out; omega)
              by_cases h100 : spanN isSign (c :: r) ≤ 100
              · have e6 : decide ((en : Int) - (n : Int) > 100) = false := by have := HEN.out; simp; omega
                have e7 : decide (100 < (en : Int) - (n : Int)) = false := by have := HEN.out; simp; omega
                have g1 : (n : Int) ≤ (en : Int) := by have := HEN.out; omega
                have g2 : (en : Int) ≤ (s.size : Int) := by have := HEN.out; omega
                have HEX : Hid (s.extract n en = bytesL ((c :: r).take (spanN isSign (c :: r)))) := by
                  show _ = _
                  rw [HEN.out, extract_bytes, HCR.out]
                cases hdg : isDg c with
                | true =>
                  have HDG : Hid (∀ W : World, Calls Tryz.prog 66 #[.int .u8 s[n].toNat] W fun e w' => e = .returned (.bool true) ∧ W = w') := fun W => digit_is s[n] true W (by rw [← HSc.out]; exact hdg)
                  have hesz : (s.extract n en).size = spanN isSign (c :: r) := by rw [HEX.out, bsize, take_span]
                  cases hno : numOk ((c :: r).take (spanN isSign (c :: r))) with
                  | true =>
                    have HNU := Lib.hid (fun W => numeral_is (s.extract n en) true W (by omega) (by omega) (by rw [HEX.out, bdata]; exact hno))
                    have HXX := Lib.hid (HYes _ _ _ (tok_num_yes hdg h100 hno))
                    clear HYes HNo h40 h41 h124 h58 hc hspl hspl2 hkk hsg hdg hno hm1 h100 hesz
                    go_enter Tryz.func36, Tryz.ntmps36
                    go_wp2_with fail
                    refine (HSK.out _).mono ?_
                    rintro e w1 ⟨rfl, rfl⟩
                    go_wp2_with fail
                    refine (HRUN.out _).mono ?_
                    rintro e w1 ⟨rfl, rfl⟩
                    go_wp2_with fail
                    refine (HDG.out _).mono ?_
                    rintro e w1 ⟨rfl, rfl⟩
                    go_wp2_with fail
                    refine (HNU.out _).mono ?_
                    rintro e w1 ⟨rfl, rfl⟩
                    go_wp2_with fail
                    exact bodyPost_ret (v := .tuple #[.agg #[.int .i8 3, .string (s.extract n en), .int .i64 n, .int .i64 en], .bool true, .int .i64 0]) (by simp [results, Tryz.results36, go_sem]) rfl ⟨by rw [HXX.out, HEX.out, HEN.out]; simp [nxtV, tokV], tk_below _ _ _⟩
                  | false =>
                    have HNU := Lib.hid (fun W => numeral_is (s.extract n en) false W (by omega) (by omega) (by rw [HEX.out, bdata]; exact hno))
                    have HXX := Lib.hid (HNo (tok_num_no hdg (.inr hno)))
                    clear HYes HNo h40 h41 h124 h58 hc hspl hspl2 hkk hsg hdg hno hm1 h100 hesz
                    go_enter Tryz.func36, Tryz.ntmps36
                    go_wp2_with fail
                    refine (HSK.out _).mono ?_
                    rintro e w1 ⟨rfl, rfl⟩
                    go_wp2_with fail
                    refine (HRUN.out _).mono ?_
                    rintro e w1 ⟨rfl, rfl⟩
                    go_wp2_with fail
                    refine (HDG.out _).mono ?_
                    rintro e w1 ⟨rfl, rfl⟩
                    go_wp2_with fail
                    refine (HNU.out _).mono ?_
                    rintro e w1 ⟨rfl, rfl⟩
                    go_wp2_with fail
                    exact bodyPost_ret (v := .tuple #[.agg #[.int .i8 0, .string ⟨#[]⟩, .int .i64 n, .int .i64 0], .bool false, .int .i64 20]) (by simp [results, Tryz.results36, go_sem]) rfl ⟨by rw [HXX.out]; first | rfl | (simp [nxtV, tokV, bytesL]; done), tk_below _ _ _⟩
                | false =>
                  have HDG : Hid (∀ W : World, Calls Tryz.prog 66 #[.int .u8 s[n].toNat] W fun e w' => e = .returned (.bool false) ∧ W = w') := fun W => digit_is s[n] false W (by rw [← HSc.out]; exact hdg)
                  have HXX := Lib.hid (HYes _ _ _ (tok_name_yes hkk hsg hdg h100))
                  clear HYes HNo h40 h41 h124 h58 hc hspl hspl2 hkk hsg hdg hm1 h100
                  go_enter Tryz.func36, Tryz.ntmps36
                  go_wp2_with fail
                  refine (HSK.out _).mono ?_
                  rintro e w1 ⟨rfl, rfl⟩
                  go_wp2_with fail
                  refine (HRUN.out _).mono ?_
                  rintro e w1 ⟨rfl, rfl⟩
                  go_wp2_with fail
                  refine (HDG.out _).mono ?_
                  rintro e w1 ⟨rfl, rfl⟩
                  go_wp2_with fail
                  exact bodyPost_ret (v := .tuple #[.agg #[.int .i8 2, .string (s.extract n en), .int .i64 n, .int .i64 en], .bool true, .int .i64 0]) (by simp [results, Tryz.results36, go_sem]) rfl ⟨by rw [HXX.out, HEX.out, HEN.out]; simp [nxtV, tokV], tk_below _ _ _⟩
              · have e6 : decide ((en : Int) - (n : Int) > 100) = true := by have := HEN.out; simp; omega
                have e7 : decide (100 < (en : Int) - (n : Int)) = true := by have := HEN.out; simp; omega
                have HXX : Hid (X = ⟨⟨0, [], n, 0⟩, false, 20⟩) := by
                  cases hdg : isDg c with
                  | true => exact HNo (tok_num_no hdg (.inl (by omega)))
                  | false => exact HNo (tok_name_no hkk hsg hdg (by omega))
                clear HYes HNo h40 h41 h124 h58 hc hspl hspl2 hkk hsg hm1 h100
                go_enter Tryz.func36, Tryz.ntmps36
                go_wp2_with fail
                refine (HSK.out _).mono ?_
                rintro e w1 ⟨rfl, rfl⟩
                go_wp2_with fail
                refine (HRUN.out _).mono ?_
                rintro e w1 ⟨rfl, rfl⟩
                go_wp2_with fail
                exact bodyPost_ret (v := .tuple #[.agg #[.int .i8 0, .string ⟨#[]⟩, .int .i64 n, .int .i64 0], .bool false, .int .i64 20]) (by simp [results, Tryz.results36, go_sem]) rfl ⟨by rw [HXX.out]; first | rfl | (simp [nxtV, tokV, bytesL]; done), tk_below _ _ _⟩
end Go.Proofs.YtodonngnigbpaaaGreatDoor
