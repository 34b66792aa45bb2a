/- The function Parse of package num and of the document gives the number of a numeral, or the error. -/
import Derived.Test.YtbddghcdibdloaaGreatDoorProg
import Derived.Test.YtbddghcdibdloaaGreatDoorNumPlain
import Derived.Test.YtbddghcdibdloaaGreatDoorAid
namespace Go.Proofs.YtbddghcdibdloaaGreatDoor
open Go.RowKit
/-- The byte at k, as the walk spells it and as the list has it. -/
theorem at_list (s : ByteArray) (k : Nat) (h : k < s.size) : s.data.toList[k]'(by simpa using h) = s[k] := by
  simp; rfl
theorem isNumeral_any (s : ByteArray) (w : World) (hs : s.size ≤ 9223372036854775807) :
    Calls Tryz.prog 101 #[.string s] w fun e w' => e = .returned (.bool (numB s.data.toList)) ∧ w = w' := by
  have hL : s.data.toList.length = s.size := by simp
  by_cases h0 : s.size = 0
  · have hn : s.toList = [] := bytes_empty.2 h0
    have HF := Lib.hid (numB_no (l := s.data.toList) (.inl (by omega)))
    clear hL h0
    go_enter Tryz.func101, Tryz.ntmps101
    go_wp2
    go_ret
    exact ⟨ret_bool HF.out.symm, rfl⟩
  · have hp : 0 < s.size := by omega
    have hne : ¬ s.toList = [] := fun h => h0 (bytes_empty.1 h)
    have hem : s.toList.isEmpty = false := by simpa using hne
    by_cases h1 : (s[0].toNat : Int) = 48 ∧ 1 < s.size
    · obtain ⟨h48, h2⟩ := h1
      have HF := Lib.hid (numB_no (l := s.data.toList) (.inr ⟨by omega, by rw [at_list s 0 hp]; omega, by omega⟩))
      clear hL h0
      go_enter Tryz.func101, Tryz.ntmps101
      go_wp2
      go_ret
      exact ⟨ret_bool HF.out.symm, rfl⟩
    · have HF := Lib.hid (numB_of (l := s.data.toList) (by omega) (by rw [at_list s 0 hp]; omega))
      have HL := Lib.hid hL
      have hcase : ((s[0].toNat : Int) = 48 ∧ s.size ≤ 1) ∨ ((s[0].toNat : Int) == 48) = false := by
        by_cases e : (s[0].toNat : Int) = 48
        · exact .inl ⟨e, by omega⟩
        · exact .inr (by simpa using e)
      clear hL h0 h1
      rcases hcase with ⟨h48, h2⟩ | h48
      all_goals
        go_enter Tryz.func101, Tryz.ntmps101
        go_wp2
        go_loop [18] (fun i => ∃ k : Nat, k ≤ s.size ∧ (s.data.toList.take k).all isD = true ∧ i = .int .i64 k) (fun i => s.size - (intOf i).toNat)
        case atStart => exact ⟨0, Nat.zero_le _, rfl, rfl⟩
        case round =>
          obtain ⟨k, hk, hall, rfl⟩ := hrel
          have HA := Lib.hid hall; clear hall
          by_cases hlt : k < s.size
          · by_cases hd1 : 48 ≤ (s[k].toNat : Int)
            · by_cases hd2 : (s[k].toNat : Int) ≤ 57
              · have hD : Hid ((s.data.toList.take (k + 1)).all isD = true) := by
                  have := allD_take_succ s.data.toList k (by have := HL.out; omega)
                  rw [at_list s k hlt, HA.out, isD_true.2 ⟨by omega, by omega⟩] at this
                  exact this
                go_wp2
                go_round
                case rel => exact ⟨k + 1, by omega, hD.out, by go_num⟩
                case measure => simp [intOf]; omega
              · have hD : Hid (numB s.data.toList = false) := by
                  have := allD_false_of s.data.toList k (by have := HL.out; omega) (by rw [at_list s k hlt]; exact isD_false.2 (by omega))
                  exact HF.out.trans this
                go_wp2
                go_ret
                exact ⟨ret_bool hD.out.symm, rfl⟩
            · have hD : Hid (numB s.data.toList = false) := by
                have := allD_false_of s.data.toList k (by have := HL.out; omega) (by rw [at_list s k hlt]; exact isD_false.2 (by omega))
                exact HF.out.trans this
              go_wp2
              go_ret
              exact ⟨ret_bool hD.out.symm, rfl⟩
          · go_wp2
            go_ret
            exact ⟨ret_bool (by rw [HF.out, ← HA.out, List.take_of_length_le (by have := HL.out; omega)]), rfl⟩
theorem put_yes (b : Nat) (n c : Int) (w : World) (h1 : 48 ≤ c) (h2 : c ≤ 57) (n1 : 0 ≤ n) (n2 : n * 10 + (c - 48) ≤ 4611686018427387904)
    (hc : w.cell? ⟨b, 0, none⟩ = some (.int .u64 n)) (hf : w.frozen? ⟨b, 0, none⟩ = false) :
    Calls Tryz.prog 102 #[.int .u8 c, .pointer (some ⟨b, 0, none⟩)] w fun e w' => e = .returned (.bool true) ∧ w.setCell ⟨b, 0, none⟩ (.int .u64 (n * 10 + (c - 48))) = w' := by
  have h3 : n ≤ (4611686018427387904 - (c - 48)) / 10 := by omega
  go_enter Tryz.func102, Tryz.ntmps102
  go_wp2
  go_ret
  exact ⟨rfl, rfl⟩
theorem put_no (b : Nat) (n c : Int) (w : World) (h1 : 48 ≤ c) (h2 : c ≤ 57) (_n1 : 0 ≤ n) (_n3 : n ≤ 4611686018427387904) (n2 : 4611686018427387904 < n * 10 + (c - 48))
    (hc : w.cell? ⟨b, 0, none⟩ = some (.int .u64 n)) :
    Calls Tryz.prog 102 #[.int .u8 c, .pointer (some ⟨b, 0, none⟩)] w fun e w' => e = .returned (.bool false) ∧ w = w' := by
  have h3 : (4611686018427387904 - (c - 48)) / 10 < n := by omega
  go_enter Tryz.func102, Tryz.ntmps102
  go_wp2
  go_ret
  exact ⟨rfl, rfl⟩
theorem isNumeral_yes (s : ByteArray) (w : World) (hs : s.size ≤ 9223372036854775807) (h : numB s.data.toList = true) :
    Calls Tryz.prog 101 #[.string s] w fun e w' => e = .returned (.bool true) ∧ w = w' := by
  have := isNumeral_any s w hs; rw [h] at this; exact this
theorem isNumeral_no (s : ByteArray) (w : World) (hs : s.size ≤ 9223372036854775807) (h : numB s.data.toList = false) :
    Calls Tryz.prog 101 #[.string s] w fun e w' => e = .returned (.bool false) ∧ w = w' := by
  have := isNumeral_any s w hs; rw [h] at this; exact this
theorem numB_at {s : ByteArray} (h : numB s.data.toList = true) (k : Nat) (hk : k < s.size) : 48 ≤ s[k].toNat ∧ s[k].toNat ≤ 57 := by
  have h1 := numB_allD h
  have h2 : isD (s.data.toList[k]'(by simpa using hk)) = true := List.all_eq_true.1 h1 _ (List.getElem_mem _)
  rw [at_list s k hk, isD_true] at h2
  exact h2
theorem Parse_any (s : ByteArray) (w : World) (hs : s.size ≤ 9223372036854775807) :
    Calls Tryz.prog 96 #[.string s] w fun e w' => e = .returned (.tuple #[.int .i64 (parseV s.data.toList), .int .i64 (parseE s.data.toList)]) ∧ Below w.heap.size w w' := by
  have HL : Hid (s.data.toList.length = s.size) := by show _ = _; simp
  cases hn : numB s.data.toList with
  | false =>
    have HN := Lib.hid hn
    clear hn
    go_enter Tryz.func96, Tryz.ntmps96
    go_wp2_with (go_at_call 101; refine (isNumeral_no s _ hs HN.out).mono ?_; rintro e w' ⟨rfl, rfl⟩)
    go_ret2
    exact ⟨ret_two (val_int (by simp [parseV, HN.out])) (val_int (by simp [parseE, HN.out])), Below.refl _ _⟩
  | true =>
    have HN := Lib.hid hn
    clear hn
    go_enter Tryz.func96, Tryz.ntmps96
    go_wp2_with (go_at_call 101; refine (isNumeral_yes s _ hs HN.out).mono ?_; rintro e w' ⟨rfl, rfl⟩)
    go_loopw [13] (fun i wr => ∃ k : Nat, k ≤ s.size ∧ valN (s.data.toList.take k) ≤ 4611686018427387904 ∧ i = .int .i64 k ∧ wr.heap[w.heap.size]? = some (.cells #[.int .u64 (valN (s.data.toList.take k))] 25 (0, 0)) ∧ Below w.heap.size w wr) (fun i _ => s.size - (intOf i).toNat)
    case atStart =>
      refine ⟨0, Nat.zero_le _, by simp [valN_nil], rfl, ?_, (Below.refl _ _).alloc (Nat.le_refl _) _⟩
      simpa [valN_nil] using heap_alloc_new w (.cells #[.int .u64 0] 25)
    case round =>
      obtain ⟨k, hk, hv, rfl, hb, hbel⟩ := hrel
      have hcell := cell_of_one hb
      have hfree := free_of_one hb
      by_cases hlt : k < s.size
      · obtain ⟨d1, d2⟩ := numB_at HN.out k hlt
        have HS : Hid (valN (s.data.toList.take (k + 1)) = valN (s.data.toList.take k) * 10 + (s[k].toNat - 48)) := by
          have := valN_take_succ s.data.toList k (by have := HL.out; omega)
          rw [at_list s k hlt] at this
          exact this
        have HB := Lib.hid hb
        clear hb
        by_cases hgo : valN (s.data.toList.take k) * 10 + (s[k].toNat - 48) ≤ 4611686018427387904
        · go_wp2_with (go_at_call 102; refine (put_yes _ _ _ _ (by omega) (by omega) (by omega) (by omega) hcell hfree).mono ?_; rintro e w' ⟨rfl, rfl⟩)
          go_roundw
          case rel =>
            refine ⟨k + 1, by omega, by rw [HS.out]; exact hgo, by go_num, ?_, hbel.setCell (Nat.le_refl _) _⟩
            rw [one_setCell HB.out, HS.out, show (valN (s.data.toList.take k) : Int) * 10 + ((s[k].toNat : Int) - 48) = ((valN (s.data.toList.take k) * 10 + (s[k].toNat - 48) : Nat) : Int) from by omega]
          case measure => simp [intOf]; omega
        · go_wp2_with (go_at_call 102; refine (put_no _ _ _ _ (by omega) (by omega) (by omega) (by omega) (by omega) hcell).mono ?_; rintro e w' ⟨rfl, rfl⟩)
          go_ret2
          have hbig : ¬ valN s.data.toList ≤ 4611686018427387904 := by
            have := valN_take_le s.data.toList (k + 1)
            rw [HS.out] at this
            omega
          exact ⟨ret_two (val_int (by simp [parseV, HN.out, hbig])) (val_int (by simp [parseE, HN.out, hbig])), hbel⟩
      · have ht : s.data.toList.take k = s.data.toList := List.take_of_length_le (by have := HL.out; omega)
        rw [ht] at hv hcell
        go_wp2
        go_ret2
        exact ⟨ret_two (val_int (by simp [parseV, HN.out, hv])) (val_int (by simp [parseE, HN.out, hv])), hbel⟩
end Go.Proofs.YtbddghcdibdloaaGreatDoor
