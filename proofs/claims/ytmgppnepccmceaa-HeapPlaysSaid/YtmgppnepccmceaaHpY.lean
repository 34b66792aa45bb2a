/- HeapTurns. -/
import Derived.Test.YtmgppnepccmceaaHpX
namespace Go.Proofs.Ytmgppnepccmceaa
open Go.RowKit
set_option linter.unusedVariables false
/-- Both rows, as they are put together. -/
structure TwoR (w wr : World) (F : List ActA) (va vb : Value) : Prop where
  bel : Below w.heap.size w wr
  ra : ActsO wr w.heap.size F va
  rb : ActsO wr w.heap.size F.reverse vb
  ap : ∀ g, va.ownBlock = some g → vb.ownBlock ≠ some g
def filtP (az : List ActA) (i : Nat) : List ActA := (az.take i).filter isPB
theorem filtP_step (az : List ActA) {i : Nat} {x : ActA} (hx : az[i]? = some x) : filtP az (i + 1) = if isPB x = true then filtP az i ++ [x] else filtP az i := by
  unfold filtP
  rw [List.take_add_one, hx, List.filter_append]
  show _ ++ List.filter isPB [x] = _
  by_cases h : isPB x = true
  · rw [if_pos h, List.filter_cons_of_pos h]; rfl
  · rw [if_neg h, List.filter_cons_of_neg h]; simp
theorem filtP_len (az : List ActA) (i : Nat) : (filtP az i).length ≤ az.length := by
  unfold filtP
  refine Nat.le_trans (List.length_filter_le _ _) ?_
  rw [List.length_take]
  omega
theorem filtP_is (az : List ActA) (i : Nat) : ∀ x ∈ filtP az i, isPB x = true := fun x hx => (List.mem_filter.1 hx).2
theorem below_grown {w V V2 : World} {b : Option Nat} (h : Below w.heap.size w V) (hg : V.grownBy V2 b) (hb : ∀ k, b = some k → w.heap.size ≤ k) : Below w.heap.size w V2 := h.grown hg h.size hb
set_option maxRecDepth 100000 in
set_option maxHeartbeats 1000000 in
theorem HeapTurns_w (w : World) (n : Int) (hn : I64 n) (az : List ActA) (a : Option Addr) (c : Nat) (hA : ActsR w az a c) :
    Calls Try.prog 7 #[.int .i64 n, .slice a az.length c] w fun e w' => e = .returned (.bool true) ∧ Below w.heap.size w w' := by
  have HWk := Lib.hid (wakes_any w)
  have hle := hA.le
  have hcm : c ≤ 9223372036854775807 := by have := hA.cap; simp only [maxLen] at this; omega
  obtain ⟨l, hl⟩ : ∃ l, az.length = l := ⟨_, rfl⟩
  have HLL := Lib.hid hl
  rw [hl] at hle ⊢
  have HA := Lib.hid hA
  clear hA hl
  by_cases h1 : 300 < l
  · have h1i : (300 : Int) < (l : Int) := by omega
    go_enter Try.func7, Try.ntmps7
    go_wp2_with fail
    with_reducible refine HWk.out.mono ?_
    rintro e w1 ⟨rfl, hb⟩
    go_wp2
    go_ret
    exact ⟨rfl, hb⟩
  · have h1i : ¬ (300 : Int) < (l : Int) := by omega
    by_cases h2 : n < 0
    · go_enter Try.func7, Try.ntmps7
      go_wp2_with fail
      with_reducible refine HWk.out.mono ?_
      rintro e w1 ⟨rfl, hb⟩
      go_wp2
      go_ret
      exact ⟨rfl, hb⟩
    · by_cases h3 : 300 < n
      · go_enter Try.func7, Try.ntmps7
        go_wp2_with fail
        with_reducible refine HWk.out.mono ?_
        rintro e w1 ⟨rfl, hb⟩
        go_wp2
        go_ret
        exact ⟨rfl, hb⟩
      · obtain ⟨m, rfl⟩ : ∃ m : Nat, n = (m : Int) := ⟨n.toNat, by omega⟩
        have HFl : Hid (∀ i, (filtP az i).length ≤ l) := fun i => by rw [← HLL.out]; exact filtP_len az i
        clear HWk
        go_enter Try.func7, Try.ntmps7
        go_wp2_with fail
        go_loopw [5, 6, 7] (fun va vb iv wr => ∃ i : Nat, iv = .int .i64 i ∧ i ≤ l ∧ Hid (TwoR w wr (filtP az i) va vb)) (fun va vb iv _ => l - (intOf iv).toNat)
        case atStart => exact ⟨0, rfl, by omega, Below.refl _ _, ⟨rfl, .inl ⟨rfl, rfl⟩⟩, ⟨rfl, .inl ⟨rfl, rfl⟩⟩, fun g hg => by cases hg⟩
        case round =>
          obtain ⟨i, rfl, hi, HR⟩ := hrel
          by_cases hin : i < l
          · obtain ⟨x, hx⟩ : ∃ x, az[i]? = some x := ⟨_, List.getElem?_eq_getElem (by rw [HLL.out]; exact hin)⟩
            have HX := Lib.hid hx
            obtain ⟨F, hF⟩ : ∃ F, filtP az i = F := ⟨_, rfl⟩
            have HF := Lib.hid hF
            have HFL : Hid (F.length ≤ 300) := by show _ ≤ _; rw [← hF]; have := HFl.out i; omega
            rw [hF] at HR
            obtain ⟨R, hR⟩ : ∃ R, F.reverse = R := ⟨_, rfl⟩
            have HRv := Lib.hid hR
            have hrb := HR.out.rb
            rw [hR] at hrb
            obtain ⟨ab, cb, hub, hRb⟩ := hrb.rows
            subst hub
            have HRl : Hid (R.length ≤ 300) := by show _ ≤ _; rw [← hR, List.length_reverse]; exact HFL.out
            have HT := Lib.hid HR.out
            have HRB := Lib.hid hrb
            clear hF hR hrb
            obtain ⟨g, o, rfl, hg, e0, e1, e2⟩ := (HA.out.below HR.out.bel).at_ hx
            obtain ⟨d, y, b⟩ := x
            dsimp only at e0 e1 e2
            have HE : Hid (∀ V, Below w.heap.size w V → V.cell? ⟨g, o + i * 3, none⟩ = some (.int .i64 d) ∧ V.cell? ⟨g, o + i * 3 + 1, none⟩ = some (.int .i64 y) ∧ V.cell? ⟨g, o + i * 3 + 2, none⟩ = some (.int .i64 b)) := fun V hV => by
              obtain ⟨g', o', e, _, k0, k1, k2⟩ := (HA.out.below hV).at_ hx
              cases e
              exact ⟨k0, k1, k2⟩
            have hini : (i : Int) < (l : Int) := by omega
            clear HR hx hRb
            by_cases d0 : d = 0
            · subst d0
              have HPB : isPB ⟨0, y, b⟩ = true := rfl
              have HSt : Hid (filtP az (i + 1) = F ++ [⟨0, y, b⟩]) := by show _ = _; rw [filtP_step az HX.out, if_pos HPB, HF.out]
              have hro := own_alloc HT.out.ra (.cells #[.int .i64 0, .int .i64 y, .int .i64 b] 29)
              have hRx := one_rows wr ⟨0, y, b⟩
              have hbs : w.heap.size ≤ (wr.alloc (.cells #[.int .i64 0, .int .i64 y, .int .i64 b] 29)).heap.size := by have := HT.out.bel.size; simp; omega
              have hls : F.length + [(⟨0, y, b⟩ : ActA)].length ≤ 6000 := by have := HFL.out; simp; omega
              go_wp2_with (at_builtin; refine wpList_appA rfl _ _ rfl rfl w.heap.size _ F [⟨0, y, b⟩] _ 1 (by rfl) (by rfl) hro hRx hbs hls ?_)
              intro v1 w1 ho1 hg1 h41
              have hb1 : Below w.heap.size w w1 := below_grown (HT.out.bel.alloc HT.out.bel.size (.cells #[.int .i64 0, .int .i64 y, .int .i64 b] 29)) hg1 (fun k e => (own_lt hro e).1)
              have hr1 : ActsO w1 w.heap.size R (.slice ab R.length cb) := by
                refine own_move (own_alloc HRB.out (.cells #[.int .i64 0, .int .i64 y, .int .i64 b] 29)) (fun k hk => hg1.block k (own_lt (own_alloc HRB.out (.cells #[.int .i64 0, .int .i64 y, .int .i64 b] 29)) hk).2 (fun e => HT.out.ap k e.symm hk))
              obtain ⟨k0, k1, k2⟩ := HE.out w1 hb1
              have hro2 := one_own w1 ⟨0, y, b⟩
              have hRx2 : ActsR (w1.alloc (.cells #[.int .i64 0, .int .i64 y, .int .i64 b] 29)) R ab cb := by
                obtain ⟨a', c', e, hh⟩ := (ActsO.rows (own_alloc hr1 (.cells #[.int .i64 0, .int .i64 y, .int .i64 b] 29)))
                cases e
                exact hh
              have hbs2 : w1.heap.size ≤ (w1.alloc (.cells #[.int .i64 0, .int .i64 y, .int .i64 b] 29)).heap.size := by simp
              have hls2 : [(⟨0, y, b⟩ : ActA)].length + R.length ≤ 6000 := by have := HRl.out; simp; omega
              have H1 := Lib.hid (show Below w.heap.size w w1 ∧ ActsO w1 w.heap.size (F ++ [⟨0, y, b⟩]) v1 from ⟨hb1, ho1⟩)
              have hsz1 := hb1.size
              clear hro hRx hbs hls ho1 hg1 h41 hr1 hb1
              go_wp2_with (at_builtin; refine wpList_appA rfl _ _ rfl rfl w1.heap.size _ [⟨0, y, b⟩] R ab cb (by rfl) (by rfl) hro2 hRx2 hbs2 hls2 ?_)
              intro v2 w2 ho2 hg2 h42
              have HN : Hid (TwoR w w2 (filtP az (i + 1)) v1 v2) := by
                rw [HSt.out]
                have hw1 := H1.out.2
                refine ⟨below_grown (H1.out.1.alloc H1.out.1.size (.cells #[.int .i64 0, .int .i64 y, .int .i64 b] 29)) hg2 (fun k e => by cases e; exact hsz1), own_move (own_alloc hw1 (.cells #[.int .i64 0, .int .i64 y, .int .i64 b] 29)) (fun k hk => hg2.block k (own_lt (own_alloc hw1 (.cells #[.int .i64 0, .int .i64 y, .int .i64 b] 29)) hk).2 (fun e => ?_)), ?_, fun k hk e => ?_⟩
                · have h9 := (own_lt hw1 hk).2
                  simp [Value.ownBlock] at e
                  omega
                · rw [List.reverse_append, HRv.out]
                  exact own_base ho2 hsz1
                · have := (own_lt hw1 hk).2
                  have := (own_lt ho2 e).1
                  omega
              clear hro2 hRx2 hbs2 hls2 ho2 hg2 h42 k0 k1 k2
              go_wp2
              go_roundw
              case rel => exact ⟨i + 1, by go_num, by omega, HN⟩
              case measure => simp [intOf]; omega
            · by_cases d2 : d = 2
              · subst d2
                have HPB : isPB ⟨2, y, b⟩ = true := rfl
                clear d0
                have HSt : Hid (filtP az (i + 1) = F ++ [⟨2, y, b⟩]) := by show _ = _; rw [filtP_step az HX.out, if_pos HPB, HF.out]
                have hro := own_alloc HT.out.ra (.cells #[.int .i64 2, .int .i64 y, .int .i64 b] 29)
                have hRx := one_rows wr ⟨2, y, b⟩
                have hbs : w.heap.size ≤ (wr.alloc (.cells #[.int .i64 2, .int .i64 y, .int .i64 b] 29)).heap.size := by have := HT.out.bel.size; simp; omega
                have hls : F.length + [(⟨2, y, b⟩ : ActA)].length ≤ 6000 := by have := HFL.out; simp; omega
                go_wp2_with (at_builtin; refine wpList_appA rfl _ _ rfl rfl w.heap.size _ F [⟨2, y, b⟩] _ 1 (by rfl) (by rfl) hro hRx hbs hls ?_)
                intro v1 w1 ho1 hg1 h41
                have hb1 : Below w.heap.size w w1 := below_grown (HT.out.bel.alloc HT.out.bel.size (.cells #[.int .i64 2, .int .i64 y, .int .i64 b] 29)) hg1 (fun k e => (own_lt hro e).1)
                have hr1 : ActsO w1 w.heap.size R (.slice ab R.length cb) := by
                  refine own_move (own_alloc HRB.out (.cells #[.int .i64 2, .int .i64 y, .int .i64 b] 29)) (fun k hk => hg1.block k (own_lt (own_alloc HRB.out (.cells #[.int .i64 2, .int .i64 y, .int .i64 b] 29)) hk).2 (fun e => HT.out.ap k e.symm hk))
                obtain ⟨k0, k1, k2⟩ := HE.out w1 hb1
                have hro2 := one_own w1 ⟨2, y, b⟩
                have hRx2 : ActsR (w1.alloc (.cells #[.int .i64 2, .int .i64 y, .int .i64 b] 29)) R ab cb := by
                  obtain ⟨a', c', e, hh⟩ := (ActsO.rows (own_alloc hr1 (.cells #[.int .i64 2, .int .i64 y, .int .i64 b] 29)))
                  cases e
                  exact hh
                have hbs2 : w1.heap.size ≤ (w1.alloc (.cells #[.int .i64 2, .int .i64 y, .int .i64 b] 29)).heap.size := by simp
                have hls2 : [(⟨2, y, b⟩ : ActA)].length + R.length ≤ 6000 := by have := HRl.out; simp; omega
                have H1 := Lib.hid (show Below w.heap.size w w1 ∧ ActsO w1 w.heap.size (F ++ [⟨2, y, b⟩]) v1 from ⟨hb1, ho1⟩)
                have hsz1 := hb1.size
                clear hro hRx hbs hls ho1 hg1 h41 hr1 hb1
                go_wp2_with (at_builtin; refine wpList_appA rfl _ _ rfl rfl w1.heap.size _ [⟨2, y, b⟩] R ab cb (by rfl) (by rfl) hro2 hRx2 hbs2 hls2 ?_)
                intro v2 w2 ho2 hg2 h42
                have HN : Hid (TwoR w w2 (filtP az (i + 1)) v1 v2) := by
                  rw [HSt.out]
                  have hw1 := H1.out.2
                  refine ⟨below_grown (H1.out.1.alloc H1.out.1.size (.cells #[.int .i64 2, .int .i64 y, .int .i64 b] 29)) hg2 (fun k e => by cases e; exact hsz1), own_move (own_alloc hw1 (.cells #[.int .i64 2, .int .i64 y, .int .i64 b] 29)) (fun k hk => hg2.block k (own_lt (own_alloc hw1 (.cells #[.int .i64 2, .int .i64 y, .int .i64 b] 29)) hk).2 (fun e => ?_)), ?_, fun k hk e => ?_⟩
                  · have h9 := (own_lt hw1 hk).2
                    simp [Value.ownBlock] at e
                    omega
                  · rw [List.reverse_append, HRv.out]
                    exact own_base ho2 hsz1
                  · have := (own_lt hw1 hk).2
                    have := (own_lt ho2 e).1
                    omega
                clear hro2 hRx2 hbs2 hls2 ho2 hg2 h42 k0 k1 k2
                go_wp2
                go_roundw
                case rel => exact ⟨i + 1, by go_num, by omega, HN⟩
                case measure => simp [intOf]; omega
              · have HPB : ¬ isPB ⟨d, y, b⟩ = true := fun e => (isPB_or e).elim d0 d2
                have HN : Hid (TwoR w wr (filtP az (i + 1)) u5 (.slice ab R.length cb)) := by
                  rw [filtP_step az HX.out, if_neg HPB, HF.out]
                  exact HT.out
                have q0 : (d == 0) = false := by simp [d0]
                have q2 : (d == 2) = false := by simp [d2]
                clear HPB d0 d2
                go_wp2
                go_roundw
                case rel => exact ⟨i + 1, by go_num, by omega, HN⟩
                case measure => simp [intOf]; omega
          · have hni : ¬ (i : Int) < (l : Int) := by omega
            obtain ⟨F, hF⟩ : ∃ F, filtP az i = F := ⟨_, rfl⟩
            have HPB : Hid (∀ x ∈ F, isPB x = true) := fun x hx => filtP_is az i x (by rw [hF]; exact hx)
            have hFl := HFl.out i
            rw [hF] at HR hFl
            obtain ⟨R, hR⟩ : ∃ R, F.reverse = R := ⟨_, rfl⟩
            have HRv := Lib.hid hR
            have hrb := HR.out.rb
            rw [hR] at hrb
            have hRl : R.length ≤ 300 := by rw [← hR, List.length_reverse]; omega
            obtain ⟨aa, ca, hua, hRa⟩ := HR.out.ra.rows
            obtain ⟨ab, cb, hub, hRb⟩ := hrb.rows
            subst hua
            subst hub
            have CA := Lib.hid (behind_any m F aa ca wr (by omega) (by omega) hRa)
            have HRb := Lib.hid hRb
            have HB := Lib.hid HR.out.bel
            clear hRa hRb HR hF hR hrb
            go_wp2_with fail
            with_reducible refine CA.out.mono ?_
            rintro e w1 ⟨h, t, nb, ib, rfl, q1, o1, o2, o3, o4, hb1⟩
            have HQ1 := Lib.hid q1
            have HO1 := Lib.hid (show wr.heap.size ≤ t ∧ wr.heap.size ≤ nb ∧ wr.heap.size ≤ ib ∧ Below wr.heap.size wr w1 from ⟨o2, o3, o4, hb1⟩)
            have CBb := Lib.hid (behind_any m R ab cb w1 (by omega) hRl (HRb.out.below hb1))
            clear q1 o1 o2 o3 o4 hb1 CA
            go_wp2_with fail
            with_reducible refine CBb.out.mono ?_
            rintro e w2 ⟨h', t', nb', ib', rfl, q2, o1, o2, o3, o4, hb2⟩
            have HQ2 := Lib.hid q2
            have HQ1b := Lib.hid (HQ1.out.below hb2)
            have HB2 := Lib.hid hb2
            obtain ⟨s1, hs1⟩ : ∃ s1, runS (s0 m) F = s1 := ⟨_, rfl⟩
            obtain ⟨s2, hs2⟩ : ∃ s2, runS (s0 m) R = s2 := ⟨_, rfl⟩
            have HEq : Hid (Eqv s2 s1) := by
              show Eqv s2 s1
              rw [← hs1, ← hs2, ← HRv.out]
              exact run_rev F _ HPB.out
            rw [hs1] at HQ1 HQ1b
            rw [hs2] at HQ2
            have hlen : s2.S.length = s1.S.length := len_eqv HQ2.out.lt.1 HQ1.out.lt.1 HEq.out.2
            have hs3 : s1.S.length ≤ 300 := by have := HQ1.out.lt; omega
            have CS1 := Lib.hid (Sorted_q HQ1b.out)
            obtain ⟨z, hz⟩ : ∃ z, s1.S.length = z := ⟨_, rfl⟩
            have HZ := Lib.hid hz
            have HZ2 : Hid (s2.S.length = z) := hlen.trans hz
            rw [hz] at CS1 hs3
            clear q2 o1 o2 o3 o4 hb2 CBb hs1 hs2 hlen hz
            go_wp2_with fail
            with_reducible refine CS1.out.mono ?_
            rintro e w3 ⟨b1, M1, rfl, HM1⟩
            have CS2' := Sorted_q (HQ2.out.below HM1.out.2.2.2)
            rw [HZ2.out] at CS2'
            have CS2 := Lib.hid CS2'
            clear CS2' CS1
            go_wp2_with fail
            with_reducible refine CS2.out.mono ?_
            rintro e w4 ⟨b2, M2, rfl, HM2⟩
            have hMM : M1 = M2 := by
              have hA2 : SortedM s1.A s2.S M2 := by rw [← HEq.out.1]; exact HM2.out.1
              exact sorted_eq M1 M2 HM1.out.1.2 hA2.2 (fun x => (HM1.out.1.1.mem_iff.trans (HEq.out.2 x).symm).trans HM2.out.1.1.mem_iff.symm)
            have hML : (M1.map (fun x : Nat => (x : Int))).length = z := by rw [List.length_map, HM1.out.1.1.length_eq, HZ.out]
            have CSm : Hid (Calls Try.prog 25 #[.slice (some ⟨b1, 0, none⟩) z z, .slice (some ⟨b2, 0, none⟩) z z] w4 fun e w' => e = .returned (.bool true) ∧ Below w4.heap.size w4 w') := by
              have := same_any (M1.map (fun x : Nat => (x : Int))) (some ⟨b1, 0, none⟩) (some ⟨b2, 0, none⟩) z z w4 (by rw [hML]; omega) ((IntsW.row HM1.out.2.2.1).below HM2.out.2.2.2) (by rw [hMM]; exact IntsW.row HM2.out.2.2.1)
              rw [hML] at this
              exact this
            clear CS2 hMM hML
            go_wp2_with fail
            with_reducible refine CSm.out.mono ?_
            rintro e w5 ⟨rfl, hb5⟩
            have HB5 := Lib.hid hb5
            have L1' := Len_q (((HQ1b.out.below HM1.out.2.2.2).below HM2.out.2.2.2).below hb5)
            rw [HZ.out] at L1'
            have L1 := Lib.hid L1'
            have L2' := Len_q (((HQ2.out.below HM1.out.2.2.2).below HM2.out.2.2.2).below hb5)
            rw [HZ2.out] at L2'
            have L2 := Lib.hid L2'
            have HWk := Lib.hid (wakes_any w5)
            clear L1' L2' hb5 CSm
            go_wp2_with fail
            with_reducible refine L1.out.mono ?_
            rintro e w6 ⟨rfl, rfl⟩
            go_wp2_with fail
            with_reducible refine L2.out.mono ?_
            rintro e w6 ⟨rfl, rfl⟩
            go_wp2_with fail
            with_reducible refine HWk.out.mono ?_
            rintro e w6 ⟨rfl, hb6⟩
            have HB6 := Lib.hid hb6
            clear hb6
            go_wp2
            go_ret
            exact ⟨rfl, below_two (below_two (below_two (below_two (below_two (below_two HB.out HO1.out.2.2.2) HB2.out) HM1.out.2.2.2) HM2.out.2.2.2) HB5.out) HB6.out⟩
end Go.Proofs.Ytmgppnepccmceaa
