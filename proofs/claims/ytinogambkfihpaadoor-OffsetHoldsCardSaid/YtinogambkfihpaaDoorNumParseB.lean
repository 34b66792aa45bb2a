/- The function Parse of package num and of the document gives the number of a numeral, or the error. -/
import Derived.Test.YtinogambkfihpaaDoorProg
import Derived.Test.YtinogambkfihpaaDoorNumPlain
import Derived.Test.YtinogambkfihpaaDoorAid
namespace Go.Proofs.YtinogambkfihpaaDoor
open Go.RowKit
/-- The byte at k, as the walk spells it and as the list has it. -/
theorem at_list (s : ByteArray) (k : Nat) (h : k < s.size) : s.data.toList[k]'(by simpa using h) = s[k] := by
  simp; rfl
theorem numB_at {s : ByteArray} (h : numB s.data.toList = true) (k : Nat) (hk : k < s.size) : 48 ≤ s[k].toNat ∧ s[k].toNat ≤ 57 := by
  have h1 := numB_allD h
  have h2 : isD (s.data.toList[k]'(by simpa using hk)) = true := List.all_eq_true.1 h1 _ (List.getElem_mem _)
  rw [at_list s k hk, isD_true] at h2
  exact h2
set_option maxHeartbeats 400000 in
theorem RParse_any (s : ByteArray) (w : World) (hs : s.size ≤ 9223372036854775807) :
    Calls Tryd.prog 73 #[.string s] w fun e w' => e = .returned (.tuple #[.int .i64 (parseV s.data.toList), .int .i64 (parseE s.data.toList)]) ∧ w = w' := by
  have hL : s.data.toList.length = s.size := by simp
  by_cases h0 : s.size = 0
  · have hn : s.toList = [] := bytes_empty.2 h0
    have HN := Lib.hid (numB_no (l := s.data.toList) (.inl (by omega)))
    clear hL h0
    go_enter Tryd.func73, Tryd.ntmps73
    go_wp2
    go_ret2
    exact ⟨ret_two (val_int (by simp [parseV, HN.out])) (val_int (by simp [parseE, HN.out])), rfl⟩
  · have hp : 0 < s.size := by omega
    have hne : ¬ s.toList = [] := fun h => h0 (bytes_empty.1 h)
    have hem : s.toList.isEmpty = false := by simpa using hne
    by_cases h1 : (s[0].toNat : Int) = 48 ∧ 1 < s.size
    · obtain ⟨h48, h2⟩ := h1
      have HN := Lib.hid (numB_no (l := s.data.toList) (.inr ⟨by omega, by rw [at_list s 0 hp]; omega, by omega⟩))
      clear hL h0
      go_enter Tryd.func73, Tryd.ntmps73
      go_wp2
      go_ret2
      exact ⟨ret_two (val_int (by simp [parseV, HN.out])) (val_int (by simp [parseE, HN.out])), rfl⟩
    · have HF := Lib.hid (numB_of (l := s.data.toList) (by omega) (by rw [at_list s 0 hp]; omega))
      have HL := Lib.hid hL
      have hcase : ((s[0].toNat : Int) = 48 ∧ s.size ≤ 1) ∨ ((s[0].toNat : Int) == 48) = false := by
        by_cases e : (s[0].toNat : Int) = 48
        · exact .inl ⟨e, by omega⟩
        · exact .inr (by simpa using e)
      clear hL h0 h1
      rcases hcase with ⟨h48, h2⟩ | h48
      all_goals
        go_enter Tryd.func73, Tryd.ntmps73
        go_wp2
        go_loop [4] (fun i => ∃ k : Nat, k ≤ s.size ∧ (s.data.toList.take k).all isD = true ∧ i = .int .i64 k) (fun i => s.size - (intOf i).toNat)
        case atStart => exact ⟨0, Nat.zero_le _, rfl, rfl⟩
        case round =>
          obtain ⟨k, hk, hall, rfl⟩ := hrel
          have HA := Lib.hid hall; clear hall
          by_cases hlt : k < s.size
          · by_cases hd1 : 48 ≤ (s[k].toNat : Int)
            · by_cases hd2 : (s[k].toNat : Int) ≤ 57
              · have hD : Hid ((s.data.toList.take (k + 1)).all isD = true) := by
                  have := allD_take_succ s.data.toList k (by have := HL.out; omega)
                  rw [at_list s k hlt, HA.out, isD_true.2 ⟨by omega, by omega⟩] at this
                  exact this
                go_wp2
                go_round
                case rel => exact ⟨k + 1, by omega, hD.out, by go_num⟩
                case measure => simp [intOf]; omega
              · have hD : Hid (numB s.data.toList = false) := by
                  have := allD_false_of s.data.toList k (by have := HL.out; omega) (by rw [at_list s k hlt]; exact isD_false.2 (by omega))
                  exact HF.out.trans this
                go_wp2
                go_ret2
                exact ⟨ret_two (val_int (by simp [parseV, hD.out])) (val_int (by simp [parseE, hD.out])), rfl⟩
            · have hD : Hid (numB s.data.toList = false) := by
                have := allD_false_of s.data.toList k (by have := HL.out; omega) (by rw [at_list s k hlt]; exact isD_false.2 (by omega))
                exact HF.out.trans this
              go_wp2
              go_ret2
              exact ⟨ret_two (val_int (by simp [parseV, hD.out])) (val_int (by simp [parseE, hD.out])), rfl⟩
          · have HN : Hid (numB s.data.toList = true) := by
              show _ = _
              rw [HF.out, ← HA.out, List.take_of_length_le (by have := HL.out; omega)]
            go_wp2
            go_loop [5, 6] (fun n i => ∃ k : Nat, k ≤ s.size ∧ valN (s.data.toList.take k) ≤ 4611686018427387904 ∧ i = .int .i64 k ∧ n = .int .i64 (valN (s.data.toList.take k))) (fun _ i => s.size - (intOf i).toNat)
            case atStart => exact ⟨0, Nat.zero_le _, by simp [valN_nil], rfl, by simp [valN_nil]⟩
            case round =>
              obtain ⟨k, hk, hv, rfl, rfl⟩ := hrel
              by_cases hlt : k < s.size
              · obtain ⟨d1, d2⟩ := numB_at HN.out k hlt
                have HS : Hid (valN (s.data.toList.take (k + 1)) = valN (s.data.toList.take k) * 10 + (s[k].toNat - 48)) := by
                  have := valN_take_succ s.data.toList k (by have := HL.out; omega)
                  rw [at_list s k hlt] at this
                  exact this
                by_cases hgo : valN (s.data.toList.take k) * 10 + (s[k].toNat - 48) ≤ 4611686018427387904
                · have h3 : (valN (s.data.toList.take k) : Int) ≤ (4611686018427387904 - ((s[k].toNat : Int) - 48)) / 10 := by omega
                  go_wp2
                  go_round
                  case rel => exact ⟨k + 1, by omega, by rw [HS.out]; exact hgo, by go_num, val_int (by rw [HS.out]; omega)⟩
                  case measure => simp [intOf]; omega
                · have h3 : (4611686018427387904 - ((s[k].toNat : Int) - 48)) / 10 < (valN (s.data.toList.take k) : Int) := by omega
                  go_wp2
                  go_ret2
                  have hbig : ¬ valN s.data.toList ≤ 4611686018427387904 := by
                    have := valN_take_le s.data.toList (k + 1)
                    rw [HS.out] at this
                    omega
                  exact ⟨ret_two (val_int (by simp [parseV, HN.out, hbig])) (val_int (by simp [parseE, HN.out, hbig])), rfl⟩
              · have ht : s.data.toList.take k = s.data.toList := List.take_of_length_le (by have := HL.out; omega)
                rw [ht] at hv ⊢
                go_wp2
                go_ret2
                exact ⟨ret_two (val_int (by simp [parseV, HN.out, hv])) (val_int (by simp [parseE, HN.out, hv])), rfl⟩
end Go.Proofs.YtinogambkfihpaaDoor
