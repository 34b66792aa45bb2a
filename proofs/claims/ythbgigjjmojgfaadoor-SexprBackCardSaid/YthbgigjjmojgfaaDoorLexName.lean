/- Names: the document's May and Reserved, and package lex's Reserved, Plain and Quote. -/
import Derived.Test.YthbgigjjmojgfaaDoorLexNext
import Derived.Test.YthbgigjjmojgfaaDoorLexFacts4
import Derived.Deep.RegionHeld3
import Derived.BigQuiet
namespace Go.Proofs.YthbgigjjmojgfaaDoor
open Go.RowKit
set_option linter.unusedVariables false
theorem resB_no {l : List UInt8} (h : resB l = false) : (l == [95]) = false ∧ (l == [33]) = false ∧ (l == [97, 115]) = false ∧ (l == [108, 101, 116]) = false ∧ (l == [101, 120, 105, 115, 116, 115]) = false ∧ (l == [102, 111, 114, 97, 108, 108]) = false ∧ (l == [109, 97, 116, 99, 104]) = false ∧ (l == [112, 97, 114]) = false := by
  unfold resB at h
  simp only [Bool.or_eq_false_iff] at h
  obtain ⟨⟨⟨⟨⟨⟨⟨h0, h1⟩, h2⟩, h3⟩, h4⟩, h5⟩, h6⟩, h7⟩ := h
  exact ⟨h0, h1, h2, h3, h4, h5, h6, h7⟩
theorem white_ref (c : UInt8) (w : World) : Calls Tryd.prog 38 #[.int .u8 c.toNat] w fun e w' => e = .returned (.bool (isWhite c)) ∧ w = w' := by
  have HW := Lib.hid (isWhite_iff c)
  by_cases h1 : c.toNat = 32
  · have e1 := eq_true_ (x := (c.toNat : Int)) (y := 32) (by omega)
    have HR : Hid (isWhite c = true) := by show _ = _; rw [HW.out]; simp [h1]
    clear h1
    go_enter Tryd.func38, Tryd.ntmps38
    go_wp2
    go_ret
    exact ⟨ret_bool HR.out.symm, rfl⟩
  · have e1 := eq_false (x := (c.toNat : Int)) (y := 32) (by omega)
    by_cases h2 : c.toNat = 9
    · have e2 := eq_true_ (x := (c.toNat : Int)) (y := 9) (by omega)
      have HR : Hid (isWhite c = true) := by show _ = _; rw [HW.out]; simp [h2]
      clear h1 h2
      go_enter Tryd.func38, Tryd.ntmps38
      go_wp2
      go_ret
      exact ⟨ret_bool HR.out.symm, rfl⟩
    · have e2 := eq_false (x := (c.toNat : Int)) (y := 9) (by omega)
      by_cases h3 : c.toNat = 10
      · have e3 := eq_true_ (x := (c.toNat : Int)) (y := 10) (by omega)
        have HR : Hid (isWhite c = true) := by show _ = _; rw [HW.out]; simp [h3]
        clear h1 h2 h3
        go_enter Tryd.func38, Tryd.ntmps38
        go_wp2
        go_ret
        exact ⟨ret_bool HR.out.symm, rfl⟩
      · have e3 := eq_false (x := (c.toNat : Int)) (y := 10) (by omega)
        by_cases h4 : c.toNat = 13
        · have e4 := eq_true_ (x := (c.toNat : Int)) (y := 13) (by omega)
          have HR : Hid (isWhite c = true) := by show _ = _; rw [HW.out]; simp [h4]
          clear h1 h2 h3 h4
          go_enter Tryd.func38, Tryd.ntmps38
          go_wp2
          go_ret
          exact ⟨ret_bool HR.out.symm, rfl⟩
        · have e4 := eq_false (x := (c.toNat : Int)) (y := 13) (by omega)
          have HR : Hid (isWhite c = false) := by show _ = _; rw [HW.out]; simp [h1, h2, h3, h4]
          clear h1 h2 h3 h4
          go_enter Tryd.func38, Tryd.ntmps38
          go_wp2
          go_ret
          exact ⟨ret_bool HR.out.symm, rfl⟩
theorem within_ref (c : UInt8) (w : World) : Calls Tryd.prog 72 #[.int .u8 c.toNat] w fun e w' => e = .returned (.bool (inBar c)) ∧ w = w' := by
  have HI := Lib.hid (inBar_iff c)
  by_cases h1 : c.toNat = 124
  · have e1 := ne_false (x := (c.toNat : Int)) (y := 124) (by omega)
    have HR : Hid (inBar c = false) := by show _ = _; rw [HI.out]; simp [h1]
    clear h1
    go_enter Tryd.func72, Tryd.ntmps72
    go_wp2
    go_ret
    exact ⟨ret_bool HR.out.symm, rfl⟩
  · have e1 := ne_true (x := (c.toNat : Int)) (y := 124) (by omega)
    by_cases h2 : c.toNat = 92
    · have e2 := ne_false (x := (c.toNat : Int)) (y := 92) (by omega)
      have HR : Hid (inBar c = false) := by show _ = _; rw [HI.out]; simp [h2]
      clear h1 h2
      go_enter Tryd.func72, Tryd.ntmps72
      go_wp2
      go_ret
      exact ⟨ret_bool HR.out.symm, rfl⟩
    · have e2 := ne_true (x := (c.toNat : Int)) (y := 92) (by omega)
      by_cases h3 : 32 ≤ c.toNat
      · by_cases h4 : c.toNat ≤ 126
        · have g3 : (32 : Int) ≤ c.toNat := by omega
          have g4 : (c.toNat : Int) ≤ 126 := by omega
          have HR : Hid (inBar c = true) := by show _ = _; rw [HI.out]; simp [h1, h2, h3, h4]
          clear h1 h2 h3 h4
          go_enter Tryd.func72, Tryd.ntmps72
          go_wp2
          go_ret
          exact ⟨ret_bool HR.out.symm, rfl⟩
        · have g3 : (32 : Int) ≤ c.toNat := by omega
          have g4 : (126 : Int) < c.toNat := by omega
          have d4 : decide ((c.toNat : Int) ≤ 126) = false := by simp; omega
          have HR : Hid (inBar c = isWhite c) := by show _ = _; rw [HI.out]; simp [h1, h2, h4]
          clear h1 h2 h3 h4
          go_enter Tryd.func72, Tryd.ntmps72
          go_wp2_with fail
          refine (white_ref c _).mono ?_
          rintro e w' ⟨rfl, rfl⟩
          go_wp2
          go_ret
          exact ⟨ret_bool HR.out.symm, rfl⟩
      · have g3 : (c.toNat : Int) < 32 := by omega
        have HR : Hid (inBar c = isWhite c) := by show _ = _; rw [HI.out]; simp [h1, h2, h3]
        clear h1 h2 h3
        go_enter Tryd.func72, Tryd.ntmps72
        go_wp2_with fail
        refine (white_ref c _).mono ?_
        rintro e w' ⟨rfl, rfl⟩
        go_wp2
        go_ret
        exact ⟨ret_bool HR.out.symm, rfl⟩
theorem within_yes (c : UInt8) (w : World) (h : inBar c = true) : Calls Tryd.prog 72 #[.int .u8 c.toNat] w fun e w' => e = .returned (.bool true) ∧ w = w' := by
  have := within_ref c w; rw [h] at this; exact this
theorem within_no (c : UInt8) (w : World) (h : inBar c = false) : Calls Tryd.prog 72 #[.int .u8 c.toNat] w fun e w' => e = .returned (.bool false) ∧ w = w' := by
  have := within_ref c w; rw [h] at this; exact this
theorem MayR_any (s : ByteArray) (r : Bool) (w : World) (hs : s.size ≤ 200) (hr : (decide (s.size ≤ 100) && s.data.toList.all inBar) = r) :
    Calls Tryd.prog 53 #[.string s] w fun e w' => e = .returned (.bool r) ∧ w = w' := by
  have HR := Lib.hid hr
  clear hr
  by_cases hbig : 100 < s.size
  · go_enter Tryd.func53, Tryd.ntmps53
    go_wp2
    go_ret
    exact ⟨ret_bool (by rw [← HR.out, decide_eq_false (by omega)]; rfl), rfl⟩
  · have HL : Hid (s.data.toList.length = s.size) := by show _ = _; simp
    go_enter Tryd.func53, Tryd.ntmps53
    go_wp2
    go_loop [3] (fun i => ∃ k : Nat, k ≤ s.size ∧ i = .int .i64 k ∧ Hid (s.data.toList.all inBar = (s.data.toList.drop k).all inBar)) (fun i => s.size - (intOf i).toNat)
    case atStart => exact ⟨0, Nat.zero_le _, rfl, rfl⟩
    case round =>
      obtain ⟨k, hk, rfl, HA⟩ := hrel
      by_cases hlt : k < s.size
      · cases hc : inBar s[k] with
        | true =>
          have HC := Lib.hid hc
          clear hc
          go_wp2_with fail
          refine (within_yes s[k] _ HC.out).mono ?_
          rintro e w' ⟨rfl, rfl⟩
          go_wp2
          go_round
          case rel => exact ⟨k + 1, by omega, by go_num, by show _ = _; rw [HA.out, drop_cons s k hlt, List.all_cons, HC.out]; rfl⟩
          case measure => simp [intOf]; omega
        | false =>
          have HC := Lib.hid hc
          clear hc
          go_wp2_with fail
          refine (within_no s[k] _ HC.out).mono ?_
          rintro e w' ⟨rfl, rfl⟩
          go_wp2
          go_ret
          exact ⟨ret_bool (by rw [← HR.out, HA.out, drop_cons s k hlt, List.all_cons, HC.out]; simp), rfl⟩
      · go_wp2
        go_ret
        exact ⟨ret_bool (by rw [← HR.out, HA.out, drop_nil s k (by omega), decide_eq_true (by omega)]; rfl), rfl⟩
theorem ResR_no (s : ByteArray) (w : World) (h : resB s.data.toList = false) : Calls Tryd.prog 67 #[.string s] w fun e w' => e = .returned (.bool false) ∧ w = w' := by
  have f0 : (s.toList == [95]) = false := by have := resB_no h; simp only [ByteArray.toList_eq]; exact this.1
  have f1 : (s.toList == [33]) = false := by have := resB_no h; simp only [ByteArray.toList_eq]; exact this.2.1
  have f2 : (s.toList == [97, 115]) = false := by have := resB_no h; simp only [ByteArray.toList_eq]; exact this.2.2.1
  have f3 : (s.toList == [108, 101, 116]) = false := by have := resB_no h; simp only [ByteArray.toList_eq]; exact this.2.2.2.1
  have f4 : (s.toList == [101, 120, 105, 115, 116, 115]) = false := by have := resB_no h; simp only [ByteArray.toList_eq]; exact this.2.2.2.2.1
  have f5 : (s.toList == [102, 111, 114, 97, 108, 108]) = false := by have := resB_no h; simp only [ByteArray.toList_eq]; exact this.2.2.2.2.2.1
  have f6 : (s.toList == [109, 97, 116, 99, 104]) = false := by have := resB_no h; simp only [ByteArray.toList_eq]; exact this.2.2.2.2.2.2.1
  have f7 : (s.toList == [112, 97, 114]) = false := by have := resB_no h; simp only [ByteArray.toList_eq]; exact this.2.2.2.2.2.2.2
  clear h
  go_enter Tryd.func67, Tryd.ntmps67
  go_wp2
  go_ret
  exact ⟨rfl, rfl⟩
theorem Res_no (s : ByteArray) (w : World) (h : resB s.data.toList = false) : Calls Tryd.prog 88 #[.string s] w fun e w' => e = .returned (.bool false) ∧ w = w' := by
  have f0 : (s.toList == [95]) = false := by have := resB_no h; simp only [ByteArray.toList_eq]; exact this.1
  have f1 : (s.toList == [33]) = false := by have := resB_no h; simp only [ByteArray.toList_eq]; exact this.2.1
  have f2 : (s.toList == [97, 115]) = false := by have := resB_no h; simp only [ByteArray.toList_eq]; exact this.2.2.1
  have f3 : (s.toList == [108, 101, 116]) = false := by have := resB_no h; simp only [ByteArray.toList_eq]; exact this.2.2.2.1
  have f4 : (s.toList == [101, 120, 105, 115, 116, 115]) = false := by have := resB_no h; simp only [ByteArray.toList_eq]; exact this.2.2.2.2.1
  have f5 : (s.toList == [102, 111, 114, 97, 108, 108]) = false := by have := resB_no h; simp only [ByteArray.toList_eq]; exact this.2.2.2.2.2.1
  have f6 : (s.toList == [109, 97, 116, 99, 104]) = false := by have := resB_no h; simp only [ByteArray.toList_eq]; exact this.2.2.2.2.2.2.1
  have f7 : (s.toList == [112, 97, 114]) = false := by have := resB_no h; simp only [ByteArray.toList_eq]; exact this.2.2.2.2.2.2.2
  clear h
  go_enter Tryd.func88, Tryd.ntmps88
  go_wp2
  go_ret
  exact ⟨rfl, rfl⟩
theorem ResR_yes (s : ByteArray) (w : World) (h : resB s.data.toList = true) : Calls Tryd.prog 67 #[.string s] w fun e w' => e = .returned (.bool true) ∧ w = w' := by
  unfold resB at h
  simp only [Bool.or_eq_true, beq_iff_eq, ← ByteArray.toList_eq] at h
  rcases h with ((((((h | h) | h) | h) | h) | h) | h) | h
  all_goals
    go_enter Tryd.func67, Tryd.ntmps67
    go_wp2
    go_ret
    exact ⟨rfl, rfl⟩
theorem bytes_nil {s : ByteArray} : s.toList = [] ↔ s.size = 0 := by
  rw [ByteArray.toList_eq]
  have : s.data.toList.length = s.size := by simp
  rw [← List.length_eq_zero_iff, this]
theorem s8 {w' : World} (h : Globs w') : w'.cell? ⟨4, 0, none⟩ = some (.int .u64 17582031444648132608) ∧ w'.cell? ⟨4, 1, none⟩ = some (.int .u64 5188146765496319999) ∧ w'.cell? ⟨4, 2, none⟩ = some (.int .u64 0) ∧ w'.cell? ⟨4, 3, none⟩ = some (.int .u64 0) ∧ w'.cell? ⟨3, 0, none⟩ = some (.int .u64 287948901175001088) ∧ w'.cell? ⟨3, 1, none⟩ = some (.int .u64 0) ∧ w'.cell? ⟨3, 2, none⟩ = some (.int .u64 0) ∧ w'.cell? ⟨3, 3, none⟩ = some (.int .u64 0) :=
  ⟨h.signs.2.1, h.signs.2.2.1, h.signs.2.2.2.1, h.signs.2.2.2.2, h.digits.2.1, h.digits.2.2.1, h.digits.2.2.2.1, h.digits.2.2.2.2⟩
end Go.Proofs.YthbgigjjmojgfaaDoor
