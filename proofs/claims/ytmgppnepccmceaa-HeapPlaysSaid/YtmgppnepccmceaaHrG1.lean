/- HeapPlays: n below zero. -/
import Derived.Test.YtmgppnepccmceaaHrF
namespace Go.Proofs.Ytmgppnepccmceaa
open Go.RowKit
set_option linter.unusedVariables false
set_option maxRecDepth 100000 in
set_option maxHeartbeats 2000000 in
theorem Plays_neg (w : World) (n : Int) (hn : I64 n) (hn0 : n < 0) (az : List ActA) (a : Option Addr) (c l : Nat) (HLL : Hid (az.length = l)) (h1i : ¬ (300 : Int) < (l : Int)) (hle : l ≤ c) (hcm : c ≤ 9223372036854775807) (hA : ActsR w az a c) (yy : Int) (hyy : I64 yy) :
    Calls Try.prog 3 #[.int .i64 n, .slice a l c, .int .i64 yy] w fun e w' => e = .returned (.bool true) ∧ Below w.heap.size w w' := by
  have CN := Lib.hid (New_bad n w (.inl hn0))
  have CR := Lib.hid (RNew_bad n w (.inl hn0))
  obtain ⟨m, hm⟩ : ∃ m : Nat, m = 0 := ⟨_, rfl⟩
  go_enter Try.func3, Try.ntmps3
  go_wp2_with fail
  with_reducible refine CN.out.mono ?_
  rintro e w1 ⟨rfl, rfl⟩
  go_wp2_with fail
  with_reducible refine CR.out.mono ?_
  rintro e w1 ⟨rfl, rfl⟩
  have HD0 : Hid (∀ lo N, Duo lo N w true (.pointer none) (.pointer none) (runS (s0 m) (az.take 0)) (runS (s0 m) (az.take 0))) := fun _ _ => .inl ⟨rfl, rfl, rfl⟩
  have HB2 : Hid (Below w.heap.size w w) := Below.refl _ _
  clear CN CR hm
  have HA := Lib.hid hA
  clear hA
  obtain ⟨N, hN⟩ : ∃ N, w.heap.size = N := ⟨_, rfl⟩
  have HNs := Lib.hid hN
  obtain ⟨lo, hlo⟩ : ∃ lo, w.heap.size = lo := ⟨_, rfl⟩
  have HLo := Lib.hid hlo
  have HD0 := Lib.hid (HD0.out lo N)
  have HR0 : Hid (Duo lo N w true (.pointer none) (.pointer none) (runS (s0 m) (az.take 0)) (runS (s0 m) (az.take 0)) ∧ Gr (Out lo N) w w) := ⟨HD0.out, Gr.refl _ _⟩
  clear HD0 hN hlo
  go_wp2_with fail
  go_loopw [9] (fun iv wr => ∃ i : Nat, iv = .int .i64 i ∧ i ≤ l ∧ Hid (Duo lo N wr true (.pointer none) (.pointer none) (runS (s0 m) (az.take i)) (runS (s0 m) (az.take i)) ∧ Gr (Out lo N) w wr)) (fun iv _ => l - (intOf iv).toNat)
  case atStart => exact ⟨0, rfl, by omega, HR0⟩
  case round =>
    clear HR0
    obtain ⟨i, rfl, hi, HR⟩ := hrel
    have hbw : Below w.heap.size w wr := below_out (N := N) HB2.out (by rw [HLo.out]; exact HR.out.2)
    by_cases hin : i < l
    · obtain ⟨x, hx⟩ : ∃ x, az[i]? = some x := ⟨_, List.getElem?_eq_getElem (by rw [HLL.out]; exact hin)⟩
      obtain ⟨ga, oa, rfl, hga, e0, e1, e2⟩ := (HA.out.below hbw).at_ hx
      have HS : Hid (∀ V, Duo lo N V true (.pointer none) (.pointer none) (stepS (runS (s0 m) (az.take i)) x) (stepS (runS (s0 m) (az.take i)) x) ∧ Gr (Out lo N) wr V → Duo lo N V true (.pointer none) (.pointer none) (runS (s0 m) (az.take (i + 1))) (runS (s0 m) (az.take (i + 1))) ∧ Gr (Out lo N) w V) := fun V h2 => by
        rw [runS_step _ _ hx]
        exact ⟨h2.1, HR.out.2.trans h2.2⟩
      have hini : (i : Int) < (l : Int) := by omega
      have HD1 := Lib.hid HR.out.1
      have hNw : N ≤ wr.heap.size := by rw [← HNs.out]; exact HR.out.2.size
      clear HR hbw hx
      obtain ⟨s, hs⟩ : ∃ s, runS (s0 m) (az.take i) = s := ⟨_, rfl⟩
      rw [hs] at HD1 HS
      obtain ⟨d, y, b⟩ := x
      dsimp only at e0 e1 e2
      have HG0 : Hid (Gr (Out lo N) wr (wr.alloc (.cells #[.int .i64 d, .int .i64 y, .int .i64 b] 29))) := (Gr.refl _ wr).alloc _
      have HD := Lib.hid (HD1.out.gr ((Gr.refl (fun k => k < N) wr).alloc (.cells #[.int .i64 d, .int .i64 y, .int .i64 b] 29)))
      have HC : Hid (∀ V, Gr (Out lo N) (wr.alloc (.cells #[.int .i64 d, .int .i64 y, .int .i64 b] 29)) V → V.cell? ⟨wr.heap.size, 1, none⟩ = some (.int .i64 y) ∧ V.cell? ⟨wr.heap.size, 2, none⟩ = some (.int .i64 b)) := fun V hV => by
        have h1 := (hV.keep wr.heap.size (by simp) (.inr hNw)).trans (heap_alloc_new wr _)
        exact ⟨by rw [cell_of_row V _ _ _ _ _ h1]; rfl, by rw [cell_of_row V _ _ _ _ _ h1]; rfl⟩
      clear hs HD1
      by_cases d0 : d = 0
      · subst d0
        have hst : stepS s ⟨0, y, b⟩ = putS s y := by unfold stepS; dsimp only; rw [if_pos rfl]
        rw [hst] at HS
        obtain ⟨q, hq⟩ : ∃ q, putE true s y = q := ⟨_, rfl⟩
        have HGd : Hid (Gr (Out lo N) (wr.alloc (.cells #[.int .i64 0, .int .i64 y, .int .i64 b] 29)) (wr.alloc (.cells #[.int .i64 0, .int .i64 y, .int .i64 b] 29)).drew) := (Gr.refl _ _).drew
        have C1' := (HD.out.gr ((Gr.refl (fun k => k < N) _).drew)).put_h y
        have C2' : ∀ V, Duo lo N V true (.pointer none) (.pointer none) (putS s y) s → Calls Try.prog 12 #[(.pointer none), .int .i64 y] V fun e w' => e = .returned (.int .i64 (putE true s y)) ∧ Hid (Duo lo N w' true (.pointer none) (.pointer none) (putS s y) (putS s y) ∧ Gr (Out lo N) V w') := fun V hV => hV.put_r y
        rw [hq] at C1' C2'
        have C1 := Lib.hid C1'
        have C2 := Lib.hid C2'
        have hk0 := (HC.out _ HGd.out).1
        clear hst hq C1' C2' HD
        go_wp2_with fail
        go_region_held3 (fun V => V.cell? ⟨wr.heap.size, 1, none⟩ = some (.int .i64 y)) (first | exact hk0 | exact (HC.out _ (HGd.out.trans HW3.out.2)).1 | exact (HC.out _ ((HGd.out.trans HW3.out.2).trans HW4.out.2)).1) (first | (go_at_call 11; with_reducible refine C1.out.mono ?_; rintro e w3 ⟨rfl, HW3⟩) | (go_at_call 12; with_reducible refine (C2.out _ HW3.out.1).mono ?_; rintro e w4 ⟨rfl, HW4⟩))
        have HE : Hid (Duo lo N w4 true (.pointer none) (.pointer none) (putS s y) (putS s y) ∧ Gr (Out lo N) wr w4) := ⟨HW4.out.1, HG0.out.trans ((HGd.out.trans HW3.out.2).trans HW4.out.2)⟩
        have hk1 := (HC.out _ ((HGd.out.trans HW3.out.2).trans HW4.out.2)).1
        clear C1 C2 HW3 HW4 hk0 HGd HC HG0
        obtain ⟨ql, qa, qh, hqq⟩ := HE.out.1.asks y
        have HQQ := Lib.hid hqq
        have HN2 : Hid (∀ q, Duo lo N (w4.drewN q) true (.pointer none) (.pointer none) (runS (s0 m) (az.take (i + 1))) (runS (s0 m) (az.take (i + 1))) ∧ Gr (Out lo N) w (w4.drewN q)) := fun q => HS.out _ ⟨HE.out.1.gr ((Gr.refl _ _).drewN q), HE.out.2.drewN q⟩
        clear hqq HE HS
        go_wp2_with fail
        go_quiet (first | (go_at_call 19; exact Calls.quiet_of_same (HQQ.out _).1) | (go_at_call 20; exact Calls.quiet_of_same (HQQ.out _).2.1) | (go_at_call 21; exact Calls.quiet_of_same (HQQ.out _).2.2.1) | (go_at_call 22; exact Calls.quiet_of_same (HQQ.out _).2.2.2.1) | (go_at_call 23; exact Calls.quiet_of_same (HQQ.out _).2.2.2.2.1) | (go_at_call 24; exact Calls.quiet_of_same (HQQ.out _).2.2.2.2.2))
        go_wp2
        go_roundw
        case rel => exact ⟨i + 1, by go_num, by omega, HN2.out _⟩
        case measure => simp [intOf]; omega
      · by_cases d1 : d = 1
        · subst d1
          have hst : stepS s ⟨1, y, b⟩ = popS s := by unfold stepS; dsimp only; rw [if_neg (by decide), if_pos rfl]
          rw [hst] at HS
          obtain ⟨q, hq⟩ : ∃ q, popE true s = q := ⟨_, rfl⟩
          obtain ⟨p, hp2⟩ : ∃ p, popF true s = p := ⟨_, rfl⟩
          have C1' := HD.out.pop_h
          have C2' : ∀ V, Duo lo N V true (.pointer none) (.pointer none) (popS s) s → Calls Try.prog 14 #[(.pointer none)] V fun e w' => e = .returned (.tuple #[.int .i64 (popE true s), .bool (popF true s)]) ∧ Hid (Duo lo N w' true (.pointer none) (.pointer none) (popS s) (popS s) ∧ Gr (Out lo N) V w') := fun V hV => hV.pop_r
          rw [hq, hp2] at C1' C2'
          have C1 := Lib.hid C1'
          have C2 := Lib.hid C2'
          clear hst hq hp2 C1' C2' HD d0
          go_wp2_with fail
          with_reducible refine C1.out.mono ?_
          rintro e w3 ⟨rfl, HW3⟩
          go_wp2_with fail
          with_reducible refine (C2.out _ HW3.out.1).mono ?_
          rintro e w4 ⟨rfl, HW4⟩
          have HE : Hid (Duo lo N w4 true (.pointer none) (.pointer none) (popS s) (popS s) ∧ Gr (Out lo N) wr w4) := ⟨HW4.out.1, HG0.out.trans (HW3.out.2.trans HW4.out.2)⟩
          have hk1 := (HC.out _ (HW3.out.2.trans HW4.out.2)).1
          clear C1 C2 HW3 HW4 HC HG0
          obtain ⟨ql, qa, qh, hqq⟩ := HE.out.1.asks y
          have HQQ := Lib.hid hqq
          have HN2 : Hid (∀ q, Duo lo N (w4.drewN q) true (.pointer none) (.pointer none) (runS (s0 m) (az.take (i + 1))) (runS (s0 m) (az.take (i + 1))) ∧ Gr (Out lo N) w (w4.drewN q)) := fun q => HS.out _ ⟨HE.out.1.gr ((Gr.refl _ _).drewN q), HE.out.2.drewN q⟩
          clear hqq HE HS
          go_wp2_with fail
          go_quiet (first | (go_at_call 19; exact Calls.quiet_of_same (HQQ.out _).1) | (go_at_call 20; exact Calls.quiet_of_same (HQQ.out _).2.1) | (go_at_call 21; exact Calls.quiet_of_same (HQQ.out _).2.2.1) | (go_at_call 22; exact Calls.quiet_of_same (HQQ.out _).2.2.2.1) | (go_at_call 23; exact Calls.quiet_of_same (HQQ.out _).2.2.2.2.1) | (go_at_call 24; exact Calls.quiet_of_same (HQQ.out _).2.2.2.2.2))
          go_wp2
          go_roundw
          case rel => exact ⟨i + 1, by go_num, by omega, HN2.out _⟩
          case measure => simp [intOf]; omega
        · by_cases d2 : d = 2
          · subst d2
            have hst : stepS s ⟨2, y, b⟩ = bumpS s y b := by unfold stepS; dsimp only; rw [if_neg (by decide), if_neg (by decide), if_pos rfl]
            rw [hst] at HS
            obtain ⟨q, hq⟩ : ∃ q, bumpF true s y b = q := ⟨_, rfl⟩
            have HGd : Hid (Gr (Out lo N) (wr.alloc (.cells #[.int .i64 2, .int .i64 y, .int .i64 b] 29)) (wr.alloc (.cells #[.int .i64 2, .int .i64 y, .int .i64 b] 29)).drew) := (Gr.refl _ _).drew
            have C1' := (HD.out.gr ((Gr.refl (fun k => k < N) _).drew)).bump_h y b
            have C2' : ∀ V, Duo lo N V true (.pointer none) (.pointer none) (bumpS s y b) s → Calls Try.prog 16 #[(.pointer none), .int .i64 y, .int .i64 b] V fun e w' => e = .returned (.int .i64 (bumpF true s y b)) ∧ Hid (Duo lo N w' true (.pointer none) (.pointer none) (bumpS s y b) (bumpS s y b) ∧ Gr (Out lo N) V w') := fun V hV => hV.bump_r y b
            rw [hq] at C1' C2'
            have C1 := Lib.hid C1'
            have C2 := Lib.hid C2'
            have hk0 := HC.out _ HGd.out
            clear hst hq C1' C2' HD d0 d1
            go_wp2_with fail
            go_region_held3 (fun V => V.cell? ⟨wr.heap.size, 1, none⟩ = some (.int .i64 y) ∧ V.cell? ⟨wr.heap.size, 2, none⟩ = some (.int .i64 b)) (first | exact hk0 | exact (HC.out _ (HGd.out.trans HW3.out.2)) | exact (HC.out _ ((HGd.out.trans HW3.out.2).trans HW4.out.2))) (first | (go_at_call 15; with_reducible refine C1.out.mono ?_; rintro e w3 ⟨rfl, HW3⟩) | (go_at_call 16; with_reducible refine (C2.out _ HW3.out.1).mono ?_; rintro e w4 ⟨rfl, HW4⟩))
            have HE : Hid (Duo lo N w4 true (.pointer none) (.pointer none) (bumpS s y b) (bumpS s y b) ∧ Gr (Out lo N) wr w4) := ⟨HW4.out.1, HG0.out.trans ((HGd.out.trans HW3.out.2).trans HW4.out.2)⟩
            have hk1 := (HC.out _ ((HGd.out.trans HW3.out.2).trans HW4.out.2)).1
            clear C1 C2 HW3 HW4 hk0 HGd HC HG0
            obtain ⟨ql, qa, qh, hqq⟩ := HE.out.1.asks y
            have HQQ := Lib.hid hqq
            have HN2 : Hid (∀ q, Duo lo N (w4.drewN q) true (.pointer none) (.pointer none) (runS (s0 m) (az.take (i + 1))) (runS (s0 m) (az.take (i + 1))) ∧ Gr (Out lo N) w (w4.drewN q)) := fun q => HS.out _ ⟨HE.out.1.gr ((Gr.refl _ _).drewN q), HE.out.2.drewN q⟩
            clear hqq HE HS
            go_wp2_with fail
            go_quiet (first | (go_at_call 19; exact Calls.quiet_of_same (HQQ.out _).1) | (go_at_call 20; exact Calls.quiet_of_same (HQQ.out _).2.1) | (go_at_call 21; exact Calls.quiet_of_same (HQQ.out _).2.2.1) | (go_at_call 22; exact Calls.quiet_of_same (HQQ.out _).2.2.2.1) | (go_at_call 23; exact Calls.quiet_of_same (HQQ.out _).2.2.2.2.1) | (go_at_call 24; exact Calls.quiet_of_same (HQQ.out _).2.2.2.2.2))
            go_wp2
            go_roundw
            case rel => exact ⟨i + 1, by go_num, by omega, HN2.out _⟩
            case measure => simp [intOf]; omega
          · by_cases d3 : d = 3
            · subst d3
              have hst : stepS s ⟨3, y, b⟩ = halfS s := by unfold stepS; dsimp only; rw [if_neg (by decide), if_neg (by decide), if_neg (by decide), if_pos rfl]
              rw [hst] at HS
              have C1 := Lib.hid HD.out.halve_h
              have C2 : Hid (∀ V, Duo lo N V true (.pointer none) (.pointer none) (halfS s) s → Calls Try.prog 18 #[(.pointer none)] V fun e w' => e = .returned (.tuple #[]) ∧ Hid (Duo lo N w' true (.pointer none) (.pointer none) (halfS s) (halfS s) ∧ Gr (Out lo N) V w')) := fun V hV => hV.halve_r
              clear hst HD d0 d1 d2
              go_wp2_with fail
              with_reducible refine C1.out.mono ?_
              rintro e w3 ⟨rfl, HW3⟩
              go_wp2_with fail
              with_reducible refine (C2.out _ HW3.out.1).mono ?_
              rintro e w4 ⟨rfl, HW4⟩
              have HE : Hid (Duo lo N w4 true (.pointer none) (.pointer none) (halfS s) (halfS s) ∧ Gr (Out lo N) wr w4) := ⟨HW4.out.1, HG0.out.trans (HW3.out.2.trans HW4.out.2)⟩
              have hk1 := (HC.out _ (HW3.out.2.trans HW4.out.2)).1
              clear C1 C2 HW3 HW4 HC HG0
              obtain ⟨ql, qa, qh, hqq⟩ := HE.out.1.asks y
              have HQQ := Lib.hid hqq
              have HN2 : Hid (∀ q, Duo lo N (w4.drewN q) true (.pointer none) (.pointer none) (runS (s0 m) (az.take (i + 1))) (runS (s0 m) (az.take (i + 1))) ∧ Gr (Out lo N) w (w4.drewN q)) := fun q => HS.out _ ⟨HE.out.1.gr ((Gr.refl _ _).drewN q), HE.out.2.drewN q⟩
              clear hqq HE HS
              go_wp2_with fail
              go_quiet (first | (go_at_call 19; exact Calls.quiet_of_same (HQQ.out _).1) | (go_at_call 20; exact Calls.quiet_of_same (HQQ.out _).2.1) | (go_at_call 21; exact Calls.quiet_of_same (HQQ.out _).2.2.1) | (go_at_call 22; exact Calls.quiet_of_same (HQQ.out _).2.2.2.1) | (go_at_call 23; exact Calls.quiet_of_same (HQQ.out _).2.2.2.2.1) | (go_at_call 24; exact Calls.quiet_of_same (HQQ.out _).2.2.2.2.2))
              go_wp2
              go_roundw
              case rel => exact ⟨i + 1, by go_num, by omega, HN2.out _⟩
              case measure => simp [intOf]; omega
            · have hst : stepS s ⟨d, y, b⟩ = s := by unfold stepS; dsimp only; rw [if_neg d0, if_neg d1, if_neg d2, if_neg d3]
              rw [hst] at HS
              have HE : Hid (Duo lo N (wr.alloc (.cells #[.int .i64 d, .int .i64 y, .int .i64 b] 29)) true (.pointer none) (.pointer none) s s ∧ Gr (Out lo N) wr (wr.alloc (.cells #[.int .i64 d, .int .i64 y, .int .i64 b] 29))) := ⟨HD.out, HG0.out⟩
              have hk1 := (HC.out _ (Gr.refl _ _)).1
              have q0 : (d == 0) = false := by simp [d0]
              have q1 : (d == 1) = false := by simp [d1]
              have q2 : (d == 2) = false := by simp [d2]
              have q3 : (d == 3) = false := by simp [d3]
              clear hst d0 d1 d2 d3 HC HG0 HD
              obtain ⟨ql, qa, qh, hqq⟩ := HE.out.1.asks y
              have HQQ := Lib.hid hqq
              have HN2 : Hid (∀ q, Duo lo N ((wr.alloc (.cells #[.int .i64 d, .int .i64 y, .int .i64 b] 29)).drewN q) true (.pointer none) (.pointer none) (runS (s0 m) (az.take (i + 1))) (runS (s0 m) (az.take (i + 1))) ∧ Gr (Out lo N) w ((wr.alloc (.cells #[.int .i64 d, .int .i64 y, .int .i64 b] 29)).drewN q)) := fun q => HS.out _ ⟨HE.out.1.gr ((Gr.refl _ _).drewN q), HE.out.2.drewN q⟩
              clear hqq HE HS
              go_wp2_with fail
              go_quiet (first | (go_at_call 19; exact Calls.quiet_of_same (HQQ.out _).1) | (go_at_call 20; exact Calls.quiet_of_same (HQQ.out _).2.1) | (go_at_call 21; exact Calls.quiet_of_same (HQQ.out _).2.2.1) | (go_at_call 22; exact Calls.quiet_of_same (HQQ.out _).2.2.2.1) | (go_at_call 23; exact Calls.quiet_of_same (HQQ.out _).2.2.2.2.1) | (go_at_call 24; exact Calls.quiet_of_same (HQQ.out _).2.2.2.2.2))
              go_wp2
              go_roundw
              case rel => exact ⟨i + 1, by go_num, by omega, HN2.out _⟩
              case measure => simp [intOf]; omega
    · have hni : ¬ (i : Int) < (l : Int) := by omega
      have hD : Duo lo N wr true (.pointer none) (.pointer none) (runS (s0 m) az) (runS (s0 m) az) := by
        have := HR.out.1
        rw [List.take_of_length_le (by rw [HLL.out]; omega)] at this
        exact this
      obtain ⟨s, hs⟩ : ∃ s, runS (s0 m) az = s := ⟨_, rfl⟩
      rw [hs] at hD
      have HD := Lib.hid hD
      have HB := Lib.hid hbw
      have C1 := Lib.hid hD.sorted_h
      clear HR hbw hs hD
      go_wp2_with fail
      with_reducible refine C1.out.mono ?_
      rintro e w3 ⟨a1, c1, M1, rfl, HM1⟩
      have C2 := Lib.hid (HD.out.gr (Gr.of_below HM1.out.2.2.2)).sorted_r
      clear C1
      go_wp2_with fail
      with_reducible refine C2.out.mono ?_
      rintro e w4 ⟨a2, c2, M2, rfl, HM2⟩
      obtain rfl : M1 = M2 := srt_one HM1.out.1 HM2.out.1
      have CSm : Hid (Calls Try.prog 25 #[.slice a1 M1.length c1, .slice a2 M1.length c2] w4 fun e w' => e = .returned (.bool true) ∧ Below w4.heap.size w4 w') := by
        have := same_any (M1.map (fun x : Nat => (x : Int))) a1 a2 c1 c2 w4 (by rw [List.length_map]; have := HM1.out.2.2.1; omega) (HM1.out.2.1.below HM2.out.2.2) HM2.out.2.1
        rw [List.length_map] at this
        exact this
      clear C2
      go_wp2_with fail
      with_reducible refine CSm.out.mono ?_
      rintro e w5 ⟨rfl, hb5⟩
      have HB5 := Lib.hid hb5
      have HD5 := Lib.hid ((((HD.out.gr (Gr.of_below HM1.out.2.2.2)).gr (Gr.of_below HM2.out.2.2)).gr (Gr.of_below hb5)))
      obtain ⟨qa, hqa⟩ : ∃ q, actE true s yy = q := ⟨_, rfl⟩
      obtain ⟨qh, hqh⟩ : ∃ q, hasE true s yy = q := ⟨_, rfl⟩
      have A1' := HD5.out.act_h yy
      have A2' := HD5.out.act_r yy
      have A3' := HD5.out.has_h yy
      have A4' := HD5.out.has_r yy
      rw [hqa] at A1' A2'
      rw [hqh] at A3' A4'
      have A1 := Lib.hid A1'
      have A2 := Lib.hid A2'
      have A3 := Lib.hid A3'
      have A4 := Lib.hid A4'
      have HWk := Lib.hid (wakes_any w5)
      clear A1' A2' A3' A4' hb5 CSm hqa hqh
      go_wp2_with fail
      with_reducible refine A1.out.mono ?_
      rintro e w6 ⟨rfl, rfl⟩
      go_wp2_with fail
      with_reducible refine A2.out.mono ?_
      rintro e w6 ⟨rfl, rfl⟩
      go_wp2_with fail
      with_reducible refine A3.out.mono ?_
      rintro e w6 ⟨rfl, rfl⟩
      go_wp2_with fail
      with_reducible refine A4.out.mono ?_
      rintro e w6 ⟨rfl, rfl⟩
      cases qh
      all_goals go_wp2_with fail
      all_goals with_reducible refine HWk.out.mono ?_
      all_goals rintro e w6 ⟨rfl, hb6⟩
      all_goals go_wp2
      all_goals go_ret
      all_goals exact ⟨rfl, below_two (below_two (below_two (below_two HB.out HM1.out.2.2.2) HM2.out.2.2) HB5.out) hb6⟩
end Go.Proofs.Ytmgppnepccmceaa
