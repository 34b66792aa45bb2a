/- The function Sum of package num and of the document gives the sum without signs, or none. -/
import Derived.Test.YtgbpepkhdjcnbaaNumText
namespace Go.Proofs.Ytgbpepkhdjcnbaa
open Go.RowKit
theorem cap_cases (most : Int) : (most ≤ 0 ∧ Hid (cap most = 0)) ∨ (0 < most ∧ most ≤ 4611686018427387904 ∧ Hid (cap most = most)) ∨ (4611686018427387904 < most ∧ Hid (cap most = 4611686018427387904)) := by
  by_cases h : most ≤ 0
  · refine .inl ⟨h, ?_⟩
    show _ = _
    unfold cap
    split
    · rfl
    · rw [if_pos (by omega)]; omega
  · by_cases h2 : most ≤ 4611686018427387904
    · exact .inr (.inl ⟨by omega, h2, by show _ = _; unfold cap; rw [if_neg (by omega), if_pos h2]⟩)
    · exact .inr (.inr ⟨by omega, by show _ = _; unfold cap; rw [if_neg (by omega), if_neg h2]⟩)
set_option maxHeartbeats 800000 in
theorem RSum_any (A : Option Addr) (c : Nat) (xs : List Int) (most : Int) (w : World) (hn : xs.length ≤ 9223372036854775807) (hI : IntsAt w w.heap.size A xs) :
    Calls Try.prog 18 #[.slice A xs.length c, .int .i64 most] w fun e w' => e = .returned (.tuple #[.int .i64 (sumV most xs), .bool (sumOk most xs)]) ∧ w = w' := by
  rcases cap_cases most with ⟨hm, HM⟩ | ⟨hm, hm2, HM⟩ | ⟨hm, HM⟩
  all_goals
    go_enter Try.func18, Try.ntmps18
    go_wp2
    go_loop [6, 7] (fun s i => ∃ k : Nat, k ≤ xs.length ∧ sumA (xs.take k) ≤ cap most ∧ Hid ((xs.take k).all mayB = true) ∧ i = .int .i64 k ∧ s = .int .i64 (sumA (xs.take k))) (fun _ i => xs.length - (intOf i).toNat)
    case atStart => exact ⟨0, Nat.zero_le _, by simpa [sumA] using cap_nonneg most, by show _ = _; simp, rfl, by simp [sumA]⟩
    case round =>
      obtain ⟨k, hk, hle, HA, rfl, rfl⟩ := hrel
      have h0 := sumA_nonneg (xs.take k)
      by_cases hlt : k < xs.length
      · obtain ⟨b, o, rfl, _, hc⟩ := hI (by omega)
        have hck := hc k hlt
        clear hc
        cases hmay : mayB xs[k] with
        | false =>
          have HN := Lib.hid (sumOk_bad (m := most) (all_false_of xs k hlt hmay))
          have HY := Lib.hid hmay
          clear hmay
          go_wp2_with (go_at_call 20; refine (RMay_no _ _ HY.out).mono ?_; rintro e w' ⟨rfl, rfl⟩)
          go_ret2
          exact ⟨ret_two (val_int (sumV_no HN.out).symm) (val_bool HN.out.symm), rfl⟩
        | true =>
          obtain ⟨lo, hi⟩ := mayB_true.1 hmay
          have HY := Lib.hid hmay
          have HS : Hid (sumA (xs.take (k + 1)) = sumA (xs.take k) + abs1 xs[k]) := sumA_take_succ xs k hlt
          have HA2 : Hid ((xs.take (k + 1)).all mayB = true) := by
            show _ = _
            rw [all_take_succ xs k hlt, HA.out, hmay]; rfl
          clear hmay
          by_cases hneg : xs[k] < 0
          all_goals
            have HG : Hid (abs1 xs[k] = if xs[k] < 0 then -xs[k] + 1 else xs[k] + 1) := by
              show _ = _
              unfold abs1; split <;> rfl
            by_cases hgo : sumA (xs.take k) + abs1 xs[k] ≤ cap most
            · have hgo2 := hgo
              have hle2 := hle
              rw [HM.out, HG.out] at hgo2
              rw [HM.out] at hle2
              simp only [hneg, if_true, if_false] at hgo2
              have HGO := Lib.hid hgo
              clear hgo
              first
                | (exfalso; omega)
                | (go_wp2_with (go_at_call 20; refine (RMay_yes _ _ HY.out).mono ?_; rintro e w' ⟨rfl, rfl⟩)
                   go_round
                   case rel => exact ⟨k + 1, by omega, by rw [HS.out]; exact HGO.out, HA2, by go_num, val_int (by rw [HS.out, HG.out]; split <;> omega)⟩
                   case measure => simp [intOf]; omega)
            · have HN : Hid (sumOk most xs = false) := by
                refine sumOk_big ?_
                have := sumA_take_le xs (k + 1)
                rw [HS.out] at this
                omega
              have hgo2 := hgo
              have hle2 := hle
              rw [HM.out, HG.out] at hgo2
              rw [HM.out] at hle2
              simp only [hneg, if_true, if_false] at hgo2
              clear hgo
              go_wp2_with (go_at_call 20; refine (RMay_yes _ _ HY.out).mono ?_; rintro e w' ⟨rfl, rfl⟩)
              go_ret2
              exact ⟨ret_two (val_int (sumV_no HN.out).symm) (val_bool HN.out.symm), rfl⟩
      · have ht : xs.take k = xs := List.take_of_length_le (by omega)
        rw [ht] at hle HA ⊢
        have HN := Lib.hid (sumOk_yes HA.out hle)
        go_wp2
        go_ret2
        exact ⟨ret_two (val_int (sumV_yes HN.out).symm) (val_bool HN.out.symm), rfl⟩
set_option maxHeartbeats 800000 in
theorem Sum_any (A : Option Addr) (c : Nat) (xs : List Int) (most : Int) (w : World) (hn : xs.length ≤ 9223372036854775807) (hx : ∀ x ∈ xs, I64 x) (hI : IntsAt w w.heap.size A xs) :
    Calls Try.prog 17 #[.slice A xs.length c, .int .i64 most] w fun e w' => e = .returned (.tuple #[.int .i64 (sumV most xs), .bool (sumOk most xs)]) ∧ Below w.heap.size w w' := by
  have HX := Lib.hid hx
  clear hx
  rcases cap_cases most with ⟨hm, HM⟩ | ⟨hm, hm2, HM⟩ | ⟨hm, HM⟩
  all_goals
    go_enter Try.func17, Try.ntmps17
    go_wp2
    go_loopw [6, 14] (fun s i wr => ∃ k : Nat, k ≤ xs.length ∧ sumA (xs.take k) ≤ cap most ∧ Hid ((xs.take k).all mayB = true) ∧ i = .int .i64 k ∧ s = .int .i64 (sumA (xs.take k)) ∧ Below w.heap.size w wr) (fun _ i _ => xs.length - (intOf i).toNat)
    case atStart => exact ⟨0, Nat.zero_le _, by simpa [sumA] using cap_nonneg most, by show _ = _; simp, rfl, by simp [sumA], Below.refl _ _⟩
    case round =>
      obtain ⟨k, hk, hle, HA, rfl, rfl, hbel⟩ := hrel
      have h0 := sumA_nonneg (xs.take k)
      by_cases hlt : k < xs.length
      · obtain ⟨b, o, rfl, _, hc⟩ := (hI.below hbel) (by omega)
        have hck := hc k hlt
        have hxx := HX.out _ (List.getElem_mem hlt)
        clear hc
        cases hmay : mayB xs[k] with
        | false =>
          have HN := Lib.hid (sumOk_bad (m := most) (all_false_of xs k hlt hmay))
          have HY := Lib.hid hmay
          have HXX := Lib.hid hxx
          clear hmay hxx
          go_wp2_with (go_at_call 21; refine (allMay1_no _ _ _ HXX.out HY.out (by simp)).mono ?_; rintro e w' ⟨rfl, rfl⟩)
          go_ret2
          exact ⟨ret_two (val_int (sumV_no HN.out).symm) (val_bool HN.out.symm), hbel.alloc hbel.size _⟩
        | true =>
          obtain ⟨lo, hi⟩ := mayB_true.1 hmay
          have HY := Lib.hid hmay
          have HS : Hid (sumA (xs.take (k + 1)) = sumA (xs.take k) + abs1 xs[k]) := sumA_take_succ xs k hlt
          have HA2 : Hid ((xs.take (k + 1)).all mayB = true) := by
            show _ = _
            rw [all_take_succ xs k hlt, HA.out, hmay]; rfl
          clear hmay hxx
          by_cases hneg : xs[k] < 0
          all_goals
            have HG : Hid (abs1 xs[k] = if xs[k] < 0 then -xs[k] + 1 else xs[k] + 1) := by
              show _ = _
              unfold abs1; split <;> rfl
            by_cases hgo : sumA (xs.take k) + abs1 xs[k] ≤ cap most
            · have hgo2 := hgo
              have hle2 := hle
              rw [HM.out, HG.out] at hgo2
              rw [HM.out] at hle2
              simp only [hneg, if_true, if_false] at hgo2
              have HGO := Lib.hid hgo
              clear hgo
              first
                | (exfalso; omega)
                | (go_wp2_with (go_at_call 21; refine (allMay1_yes _ _ _ HY.out (by simp)).mono ?_; rintro e w' ⟨rfl, rfl⟩)
                   go_roundw
                   case rel => exact ⟨k + 1, by omega, by rw [HS.out]; exact HGO.out, HA2, by go_num, val_int (by rw [HS.out, HG.out]; split <;> omega), hbel.alloc hbel.size _⟩
                   case measure => simp [intOf]; omega)
            · have HN : Hid (sumOk most xs = false) := by
                refine sumOk_big ?_
                have := sumA_take_le xs (k + 1)
                rw [HS.out] at this
                omega
              have hgo2 := hgo
              have hle2 := hle
              rw [HM.out, HG.out] at hgo2
              rw [HM.out] at hle2
              simp only [hneg, if_true, if_false] at hgo2
              clear hgo
              go_wp2_with (go_at_call 21; refine (allMay1_yes _ _ _ HY.out (by simp)).mono ?_; rintro e w' ⟨rfl, rfl⟩)
              go_ret2
              exact ⟨ret_two (val_int (sumV_no HN.out).symm) (val_bool HN.out.symm), hbel.alloc hbel.size _⟩
      · have ht : xs.take k = xs := List.take_of_length_le (by omega)
        rw [ht] at hle HA ⊢
        have HN := Lib.hid (sumOk_yes HA.out hle)
        go_wp2
        go_ret2
        exact ⟨ret_two (val_int (sumV_yes HN.out).symm) (val_bool HN.out.symm), hbel⟩
end Go.Proofs.Ytgbpepkhdjcnbaa
