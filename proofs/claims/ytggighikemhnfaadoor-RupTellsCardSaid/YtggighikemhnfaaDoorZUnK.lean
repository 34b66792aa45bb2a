/- container/heap over the queue: up, down. -/
import Derived.Test.YtggighikemhnfaaDoorZUnJ
namespace Go.Proofs.YtggighikemhnfaaDoor.Tm
open Go.RowKit
set_option linter.unusedVariables false
theorem up_any (base b g cap : Nat) (L : List Int) (j : Nat) (w : World) (h : HQ w base b g cap L) (hj : j < L.length) (hU : UpI L L.length j) :
    Calls Tryd.prog 76 #[qI b, .int .i64 j] w fun e w' => e = .returned (.tuple #[]) ∧ ∃ L', L'.Perm L ∧ HeapN L' L'.length ∧ HQ w' base b g cap L' ∧ Kp (fun k => k ≠ g) w w' := by
  have hlen := h.len
  have H0 : Hid (∃ L', L'.Perm L ∧ UpI L' L.length j ∧ HQ w base b g cap L' ∧ Kp (fun k => k ≠ g) w w) := ⟨L, List.Perm.refl _, hU, h, Kp.refl _ _⟩
  clear h hU
  unfold qI
  go_enter Tryd.func76, Tryd.ntmps76
  go_wp2
  go_loopw [1] (fun jv wr => ∃ k : Nat, k < L.length ∧ jv = .int .i64 k ∧ Hid (∃ L', L'.Perm L ∧ UpI L' L.length k ∧ HQ wr base b g cap L' ∧ Kp (fun k => k ≠ g) w wr)) (fun jv _ => (intOf jv).toNat)
  case atStart => exact ⟨j, hj, rfl, H0⟩
  case round =>
    clear H0
    obtain ⟨k, hkl, rfl, HR⟩ := hrel
    cases k with
    | zero =>
      have HE : Hid (∃ L', L'.Perm L ∧ HeapN L' L'.length ∧ HQ wr base b g cap L' ∧ Kp (fun k => k ≠ g) w wr) := by
        obtain ⟨L', l1, l2, l3, l4⟩ := HR.out
        exact ⟨L', l1, by rw [l1.length_eq]; exact l2.stop (.inl rfl), l3, l4⟩
      clear HR
      go_wp2
      go_end0
      exact ⟨rfl, HE.out⟩
    | succ m =>
      obtain ⟨L', l1, l2, l3, l4⟩ := HR.out
      obtain ⟨p, hpm⟩ : ∃ p, m / 2 = p := ⟨_, rfl⟩
      have hp : ((m : Nat) : Int) / 2 = (p : Int) := by omega
      have hne : ((p : Int) == (m : Int) + 1) = false := eq_f (by omega)
      have hll := l1.length_eq
      have hpl : p < L'.length := by omega
      have hml : m + 1 < L'.length := by omega
      have hmL := meth_Less l3.ptr
      have hmS : Hid (∀ q, Sem.run Tryd.prog (method 223 84 (.pointer (some ⟨b, 1026, none⟩)) "Swap") (wr.drewN q) = .ok (95, .slice (some ⟨g, 0, none⟩) L'.length cap) (wr.drewN q)) := fun q => meth_Swap l3.ptr
      obtain ⟨r, hr⟩ : ∃ r, decide (atI L' (m + 1) < atI L' p) = r := ⟨_, rfl⟩
      have HL : Hid (Calls Tryd.prog 93 #[.slice (some ⟨g, 0, none⟩) L'.length cap, .int .i64 ((m : Int) + 1), .int .i64 p] wr fun e w' => e = .returned (.bool r) ∧ ∃ q, w' = wr.drewN q) := ILess_any base g cap L' (m + 1) p r wr l3.row hml hpl hr
      have HS : Hid (∀ q, Calls Tryd.prog 95 #[.slice (some ⟨g, 0, none⟩) L'.length cap, .int .i64 p, .int .i64 ((m : Int) + 1)] (wr.drewN q) fun e w' => e = .returned (.tuple #[]) ∧ Hid (RowO w' base (swapL L' p (m + 1)) (.slice (some ⟨g, 0, none⟩) L'.length cap) ∧ Kp (fun k => k ≠ g) (wr.drewN q) w')) := fun q => ISwap_any base g cap L' p (m + 1) (wr.drewN q) (l3.drewN q).row hpl hml
      have HN : Hid (∀ q w', RowO w' base (swapL L' p (m + 1)) (.slice (some ⟨g, 0, none⟩) L'.length cap) ∧ Kp (fun k => k ≠ g) (wr.drewN q) w' → r = true → ∃ L', L'.Perm L ∧ UpI L' L.length p ∧ HQ w' base b g cap L' ∧ Kp (fun k => k ≠ g) w w') := fun q w' ⟨a1, a2⟩ hrt => by
        rw [hrt] at hr
        have hlt := of_decide_eq_true hr
        have hst := l2.step (by omega) (by omega) (by omega) (by rw [show (m + 1 - 1) / 2 = p by omega]; exact hlt)
        rw [show (m + 1 - 1) / 2 = p by omega] at hst
        exact ⟨_, (swapL_perm hpl hml).trans l1, hst, (l3.drewN q).kp a2 (swapL_len _ _ _) a1, (l4.drewN q).trans a2⟩
      have HE : Hid (∀ q, r = false → ∃ L', L'.Perm L ∧ HeapN L' L'.length ∧ HQ (wr.drewN q) base b g cap L' ∧ Kp (fun k => k ≠ g) w (wr.drewN q)) := fun q hrf => by
        rw [hrf] at hr
        have hlt := of_decide_eq_false hr
        exact ⟨L', l1, by rw [hll]; exact l2.stop (.inr (by rw [show (m + 1 - 1) / 2 = p by omega]; omega)), l3.drewN q, l4.drewN q⟩
      clear HR l1 l2 l3 l4 hr hll
      cases r
      · go_wp2_with (first | (go_at_call 93; refine HL.out.mono ?_; rintro e w1 ⟨rfl, q, rfl⟩))
        go_end0
        exact ⟨rfl, HE.out q trivial⟩
      · go_wp2_with (first | (go_at_call 93; refine HL.out.mono ?_; rintro e w1 ⟨rfl, q, rfl⟩; have hmS1 := hmS.out q) | (go_at_call 95; refine (HS.out _).mono ?_; rintro e w2 ⟨rfl, HW⟩))
        have HN2 := Lib.hid (HN.out _ _ HW.out trivial)
        go_roundw
        case rel => exact ⟨p, by omega, rfl, HN2⟩
        case measure => simp [intOf]; omega
set_option maxHeartbeats 4000000 in
theorem down_any (base b g cap : Nat) (L : List Int) (n : Nat) (w : World) (h : HQ w base b g cap L) (hn : n ≤ L.length) (hb : L.length ≤ 1000000) (hn0 : 0 < L.length) (hD : DownI L n 0) :
    Calls Tryd.prog 74 #[qI b, .int .i64 0, .int .i64 n] w fun e w' => ∃ r : Bool, e = .returned (.bool r) ∧ ∃ L', L'.Perm L ∧ HeapN L' n ∧ (∀ i, n ≤ i → atI L' i = atI L i) ∧ HQ w' base b g cap L' ∧ Kp (fun k => k ≠ g) w w' := by
  have hlen := h.len
  have H0 : Hid (∃ L', L'.Perm L ∧ DownI L' n 0 ∧ (∀ i, n ≤ i → atI L' i = atI L i) ∧ HQ w base b g cap L' ∧ Kp (fun k => k ≠ g) w w) := ⟨L, List.Perm.refl _, hD, fun _ _ => rfl, h, Kp.refl _ _⟩
  clear h hD
  unfold qI
  go_enter Tryd.func74, Tryd.ntmps74
  go_wp2
  go_loopw [7] (fun iv wr => ∃ k : Nat, (k = 0 ∨ k < n) ∧ iv = .int .i64 k ∧ Hid (∃ L', L'.Perm L ∧ DownI L' n k ∧ (∀ i, n ≤ i → atI L' i = atI L i) ∧ HQ wr base b g cap L' ∧ Kp (fun k => k ≠ g) w wr)) (fun iv _ => n - (intOf iv).toNat)
  case atStart => exact ⟨0, .inl rfl, rfl, H0⟩
  case round =>
    clear H0
    obtain ⟨k, hkl, rfl, HR⟩ := hrel
    have hkb : k ≤ 1000000 := by omega
    obtain ⟨L', l1, l2, l5, l3, l4⟩ := HR.out
    have hll := l1.length_eq
    by_cases hj : 2 * k + 1 < n
    · have d1 : decide ((n : Int) ≤ 2 * (k : Int) + 1) = false := decide_eq_false (by omega)
      have d2 : decide (2 * (k : Int) + 1 < 0) = false := decide_eq_false (by omega)
      obtain ⟨k1, k2, k3⟩ := kid_range L' hj
      have hkL : k < L'.length := by omega
      have hcL : kidI L' n k < L'.length := by omega
      have hmL : Hid (∀ q, Sem.run Tryd.prog (method 223 84 (.pointer (some ⟨b, 1026, none⟩)) "Less") (wr.drewN q) = .ok (93, .slice (some ⟨g, 0, none⟩) L'.length cap) (wr.drewN q)) := fun q => meth_Less l3.ptr
      have hmS : Hid (∀ q, Sem.run Tryd.prog (method 223 84 (.pointer (some ⟨b, 1026, none⟩)) "Swap") (wr.drewN q) = .ok (95, .slice (some ⟨g, 0, none⟩) L'.length cap) (wr.drewN q)) := fun q => meth_Swap l3.ptr
      obtain ⟨c, hc⟩ : ∃ c, kidI L' n k = c := ⟨_, rfl⟩
      rw [hc] at k1 k2 k3 hcL
      obtain ⟨r, hr⟩ : ∃ r, decide (atI L' c < atI L' k) = r := ⟨_, rfl⟩
      have HS : Hid (∀ q, Calls Tryd.prog 95 #[.slice (some ⟨g, 0, none⟩) L'.length cap, .int .i64 k, .int .i64 c] (wr.drewN q) fun e w' => e = .returned (.tuple #[]) ∧ Hid (RowO w' base (swapL L' k c) (.slice (some ⟨g, 0, none⟩) L'.length cap) ∧ Kp (fun k => k ≠ g) (wr.drewN q) w')) := fun q => ISwap_any base g cap L' k c (wr.drewN q) (l3.drewN q).row hkL hcL
      have HLc : Hid (∀ q, Calls Tryd.prog 93 #[.slice (some ⟨g, 0, none⟩) L'.length cap, .int .i64 c, .int .i64 k] (wr.drewN q) fun e w' => e = .returned (.bool r) ∧ ∃ q', w' = wr.drewN q') := fun q => (ILess_any base g cap L' c k r (wr.drewN q) (l3.drewN q).row hcL hkL hr).mono fun e w' ⟨e1, q', e2⟩ => ⟨e1, q + q', by rw [e2, World.drewN_drewN]⟩
      have HN : Hid (∀ q w', RowO w' base (swapL L' k c) (.slice (some ⟨g, 0, none⟩) L'.length cap) ∧ Kp (fun k => k ≠ g) (wr.drewN q) w' → r = true → ∃ L', L'.Perm L ∧ DownI L' n c ∧ (∀ i, n ≤ i → atI L' i = atI L i) ∧ HQ w' base b g cap L' ∧ Kp (fun k => k ≠ g) w w') := fun q w' ⟨a1, a2⟩ hrt => by
        rw [hrt] at hr
        have hlt := of_decide_eq_true hr
        have hst := l2.step hj (by omega) (by rw [hc]; exact hlt)
        rw [hc] at hst
        refine ⟨_, (swapL_perm hkL hcL).trans l1, hst, fun i hi => ?_, (l3.drewN q).kp a2 (swapL_len _ _ _) a1, (l4.drewN q).trans a2⟩
        rw [atI_swap hkL hcL, if_neg (by omega), if_neg (by omega)]
        exact l5 i hi
      have HE : Hid (∀ q, r = false → ∃ L', L'.Perm L ∧ HeapN L' n ∧ (∀ i, n ≤ i → atI L' i = atI L i) ∧ HQ (wr.drewN q) base b g cap L' ∧ Kp (fun k => k ≠ g) w (wr.drewN q)) := fun q hrf => by
        rw [hrf] at hr
        have hlt := of_decide_eq_false hr
        exact ⟨L', l1, l2.stop (.inr (by rw [hc]; omega)), l5, l3.drewN q, l4.drewN q⟩
      by_cases hj2 : 2 * k + 2 < n
      · have d3 : decide (2 * (k : Int) + 1 + 1 < (n : Int)) = true := decide_eq_true (by omega)
        obtain ⟨r2, hr2⟩ : ∃ r, decide (atI L' (2 * k + 2) < atI L' (2 * k + 1)) = r := ⟨_, rfl⟩
        have HL2 : Hid (Calls Tryd.prog 93 #[.slice (some ⟨g, 0, none⟩) L'.length cap, .int .i64 (2 * (k : Int) + 1 + 1), .int .i64 (2 * (k : Int) + 1)] wr fun e w' => e = .returned (.bool r2) ∧ ∃ q, w' = wr.drewN q) := ILess_any base g cap L' (2 * k + 2) (2 * k + 1) r2 wr l3.row (by omega) (by omega) hr2
        have hm0 : Sem.run Tryd.prog (method 223 84 (.pointer (some ⟨b, 1026, none⟩)) "Less") wr = .ok (93, .slice (some ⟨g, 0, none⟩) L'.length cap) wr := meth_Less l3.ptr
        cases r2
        · have hc1 : (c : Int) = 2 * (k : Int) + 1 := by
            rw [← hc]; unfold kidI
            rw [if_neg (fun e => by have := of_decide_eq_false hr2; exact this e.2)]; omega
          rw [hc1] at HS HLc
          have HC1 := Lib.hid hc1
          clear hc1
          clear HR l1 l2 l3 l4 l5 hll hr hr2 hc
          cases r
          · go_wp2_with (first | (go_at_call 93; with_reducible refine HL2.out.mono ?_; rintro e w1 ⟨rfl, q, rfl⟩; have hmL1 := hmL.out q) | (go_at_call 93; with_reducible refine (HLc.out _).mono ?_; rintro e w2 ⟨rfl, q2, rfl⟩; have hmS1 := hmS.out q2) | (go_at_call 95; with_reducible refine (HS.out _).mono ?_; rintro e w3 ⟨rfl, HW⟩))
            go_ret
            exact ⟨_, rfl, HE.out _ trivial⟩
          · go_wp2_with (first | (go_at_call 93; with_reducible refine HL2.out.mono ?_; rintro e w1 ⟨rfl, q, rfl⟩; have hmL1 := hmL.out q) | (go_at_call 93; with_reducible refine (HLc.out _).mono ?_; rintro e w2 ⟨rfl, q2, rfl⟩; have hmS1 := hmS.out q2) | (go_at_call 95; with_reducible refine (HS.out _).mono ?_; rintro e w3 ⟨rfl, HW⟩))
            have HN2 := Lib.hid (HN.out _ _ HW.out trivial)
            go_roundw
            case rel => exact ⟨c, .inr k1, by rw [HC1.out], HN2⟩
            case measure => simp [intOf]; omega
        · have hc1 : (c : Int) = 2 * (k : Int) + 1 + 1 := by
            rw [← hc]; unfold kidI
            rw [if_pos ⟨hj2, of_decide_eq_true hr2⟩]; omega
          rw [hc1] at HS HLc
          have HC1 := Lib.hid hc1
          clear hc1
          clear HR l1 l2 l3 l4 l5 hll hr hr2 hc
          cases r
          · go_wp2_with (first | (go_at_call 93; with_reducible refine HL2.out.mono ?_; rintro e w1 ⟨rfl, q, rfl⟩; have hmL1 := hmL.out q) | (go_at_call 93; with_reducible refine (HLc.out _).mono ?_; rintro e w2 ⟨rfl, q2, rfl⟩; have hmS1 := hmS.out q2) | (go_at_call 95; with_reducible refine (HS.out _).mono ?_; rintro e w3 ⟨rfl, HW⟩))
            go_ret
            exact ⟨_, rfl, HE.out _ trivial⟩
          · go_wp2_with (first | (go_at_call 93; with_reducible refine HL2.out.mono ?_; rintro e w1 ⟨rfl, q, rfl⟩; have hmL1 := hmL.out q) | (go_at_call 93; with_reducible refine (HLc.out _).mono ?_; rintro e w2 ⟨rfl, q2, rfl⟩; have hmS1 := hmS.out q2) | (go_at_call 95; with_reducible refine (HS.out _).mono ?_; rintro e w3 ⟨rfl, HW⟩))
            have HN2 := Lib.hid (HN.out _ _ HW.out trivial)
            go_roundw
            case rel => exact ⟨c, .inr k1, by rw [HC1.out], HN2⟩
            case measure => simp [intOf]; omega
      · have d3 : decide (2 * (k : Int) + 1 + 1 < (n : Int)) = false := decide_eq_false (by omega)
        have hm0 : Sem.run Tryd.prog (method 223 84 (.pointer (some ⟨b, 1026, none⟩)) "Less") wr = .ok (93, .slice (some ⟨g, 0, none⟩) L'.length cap) wr := meth_Less l3.ptr
        have HLc0 : Hid (Calls Tryd.prog 93 #[.slice (some ⟨g, 0, none⟩) L'.length cap, .int .i64 c, .int .i64 k] wr fun e w' => e = .returned (.bool r) ∧ ∃ q', w' = wr.drewN q') := ILess_any base g cap L' c k r wr l3.row hcL hkL hr
        have hc1 : (c : Int) = 2 * (k : Int) + 1 := by
          rw [← hc]; unfold kidI
          rw [if_neg (fun e => hj2 e.1)]; omega
        rw [hc1] at HS HLc0
        have HC1 := Lib.hid hc1
        clear hc1
        clear HR l1 l2 l3 l4 l5 hll hr hc
        cases r
        · go_wp2_with (first | (go_at_call 93; with_reducible refine HLc0.out.mono ?_; rintro e w2 ⟨rfl, q2, rfl⟩; have hmS1 := hmS.out q2) | (go_at_call 95; with_reducible refine (HS.out _).mono ?_; rintro e w3 ⟨rfl, HW⟩))
          go_ret
          exact ⟨_, rfl, HE.out _ trivial⟩
        · go_wp2_with (first | (go_at_call 93; with_reducible refine HLc0.out.mono ?_; rintro e w2 ⟨rfl, q2, rfl⟩; have hmS1 := hmS.out q2) | (go_at_call 95; with_reducible refine (HS.out _).mono ?_; rintro e w3 ⟨rfl, HW⟩))
          have HN2 := Lib.hid (HN.out _ _ HW.out trivial)
          go_roundw
          case rel => exact ⟨c, .inr k1, by rw [HC1.out], HN2⟩
          case measure => simp [intOf]; omega
    · have d1 : decide ((n : Int) ≤ 2 * (k : Int) + 1) = true := decide_eq_true (by omega)
      have HE : Hid (∃ L', L'.Perm L ∧ HeapN L' n ∧ (∀ i, n ≤ i → atI L' i = atI L i) ∧ HQ wr base b g cap L' ∧ Kp (fun k => k ≠ g) w wr) := ⟨L', l1, l2.stop (.inl (by omega)), l5, l3, l4⟩
      clear HR l1 l2 l3 l4 l5 hll
      go_wp2
      go_ret
      exact ⟨_, rfl, HE.out⟩
end Go.Proofs.YtggighikemhnfaaDoor.Tm
