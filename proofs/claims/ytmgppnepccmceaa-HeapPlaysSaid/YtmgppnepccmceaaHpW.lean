/- HeapPops. -/
import Derived.Test.YtmgppnepccmceaaHpV
namespace Go.Proofs.Ytmgppnepccmceaa
open Go.RowKit
set_option linter.unusedVariables false
theorem sorted_first {A : List Int} {M : List Nat} (hs : M.Pairwise (fun x y => keyA A x < keyA A y)) {i x : Nat} (hx : M[i]? = some x) : M.drop i = x :: M.drop (i + 1) ∧ ∀ y ∈ M.drop i, keyA A x ≤ keyA A y := by
  have hi := (List.getElem?_eq_some_iff.1 hx).1
  have he : M.drop i = x :: M.drop (i + 1) := by
    rw [List.drop_eq_getElem_cons hi]
    rw [List.getElem?_eq_getElem hi] at hx
    simp only [Option.some.injEq] at hx
    rw [hx]
  refine ⟨he, fun y hy => ?_⟩
  have hp := hs.sublist (List.drop_sublist i M)
  rw [he] at hp hy
  rcases List.mem_cons.1 hy with rfl | hy
  · exact Int.le_refl _
  · exact Int.le_of_lt ((List.pairwise_cons.1 hp).1 y hy)
theorem pop_sorted {A : List Int} {M T : List Nat} (hs : M.Pairwise (fun x y => keyA A x < keyA A y)) (hl : ∀ x ∈ M, x < 1000) {i x : Nat} (hx : M[i]? = some x) (hT : T.Perm (M.drop i)) :
    bestN A T = some x ∧ (T.erase x).Perm (M.drop (i + 1)) ∧ x ∉ T.erase x := by
  obtain ⟨he, hm⟩ := sorted_first hs hx
  have hxT : x ∈ T := hT.mem_iff.2 (by rw [he]; simp)
  have hb : bestN A T = some x := best_is (fun y hy => hl y (List.mem_of_mem_drop (hT.mem_iff.1 hy))) hxT (fun y hy => hm y (hT.mem_iff.1 hy))
  have hp : (T.erase x).Perm (M.drop (i + 1)) := by
    have := hT.erase x
    rw [he, List.erase_cons_head] at this
    exact this
  refine ⟨hb, hp, fun e => ?_⟩
  have h1 := hs.sublist (List.drop_sublist i M)
  rw [he] at h1
  have := (List.pairwise_cons.1 h1).1 x (hp.mem_iff.1 e)
  omega
theorem sorted_prev {A : List Int} {M : List Nat} (hs : M.Pairwise (fun x y => keyA A x < keyA A y)) {i x y : Nat} (hy : M[i]? = some y) (hx : M[i + 1]? = some x) : keyA A y < keyA A x := by
  rw [List.pairwise_iff_getElem] at hs
  have h1 := (List.getElem?_eq_some_iff.1 hy)
  have h2 := (List.getElem?_eq_some_iff.1 hx)
  obtain ⟨h1, rfl⟩ := h1
  obtain ⟨h2, rfl⟩ := h2
  exact hs i (i + 1) h1 h2 (by omega)
set_option maxRecDepth 100000 in
set_option maxHeartbeats 1000000 in
theorem HeapPops_w (w : World) (n : Int) (hn : I64 n) (az : List ActA) (a : Option Addr) (c : Nat) (hA : ActsR w az a c) :
    Calls Try.prog 4 #[.int .i64 n, .slice a az.length c] w fun e w' => e = .returned (.bool true) ∧ Below w.heap.size w w' := by
  have HWk := Lib.hid (wakes_any w)
  have hle := hA.le
  have hcm : c ≤ 9223372036854775807 := by have := hA.cap; simp only [maxLen] at this; omega
  obtain ⟨l, hl⟩ : ∃ l, az.length = l := ⟨_, rfl⟩
  have HLL := Lib.hid hl
  rw [hl] at hle ⊢
  have HA := Lib.hid hA
  clear hA hl
  by_cases h1 : 300 < l
  · have h1i : (300 : Int) < (l : Int) := by omega
    go_enter Try.func4, Try.ntmps4
    go_wp2_with fail
    with_reducible refine HWk.out.mono ?_
    rintro e w1 ⟨rfl, hb⟩
    go_wp2
    go_ret
    exact ⟨rfl, hb⟩
  · have h1i : ¬ (300 : Int) < (l : Int) := by omega
    by_cases h2 : n < 0
    · go_enter Try.func4, Try.ntmps4
      go_wp2_with fail
      with_reducible refine HWk.out.mono ?_
      rintro e w1 ⟨rfl, hb⟩
      go_wp2
      go_ret
      exact ⟨rfl, hb⟩
    · by_cases h3 : 300 < n
      · go_enter Try.func4, Try.ntmps4
        go_wp2_with fail
        with_reducible refine HWk.out.mono ?_
        rintro e w1 ⟨rfl, hb⟩
        go_wp2
        go_ret
        exact ⟨rfl, hb⟩
      · obtain ⟨m, rfl⟩ : ∃ m : Nat, n = (m : Int) := ⟨n.toNat, by omega⟩
        have CB : Hid (Calls Try.prog 28 #[.int .i64 m, .slice a l c] w fun e w' => BehindP m az w e w') := by
          have := behind_any m az a c w (by omega) (by rw [HLL.out]; omega) HA.out
          rw [HLL.out] at this
          exact this
        clear HWk
        go_enter Try.func4, Try.ntmps4
        go_wp2_with fail
        with_reducible refine CB.out.mono ?_
        rintro e w1 ⟨h, t, nb, ib, rfl, q1, o1, o2, o3, o4, hb1⟩
        obtain ⟨s, hs⟩ : ∃ s, runS (s0 m) az = s := ⟨_, rfl⟩
        rw [hs] at q1
        obtain ⟨_, hSA, hA3, hSl, hact⟩ := q1.lt
        have bk := q1.blk
        have HQ1 := Lib.hid q1
        have HSt := Lib.hid (Sorted_q q1)
        have HO := Lib.hid (show w.heap.size ≤ t ∧ w.heap.size ≤ nb ∧ w.heap.size ≤ ib ∧ Below w.heap.size w w1 from ⟨o2, o3, o4, hb1⟩)
        clear CB hs q1 o1 o2 o3 o4 hb1
        go_wp2_with fail
        with_reducible refine HSt.out.mono ?_
        rintro e w2 ⟨b, M, rfl, HM⟩
        have hMl : M.length = s.S.length := HM.out.1.1.length_eq
        have HLn := Lib.hid (Len_q (HQ1.out.below HM.out.2.2.2))
        obtain ⟨z, hz⟩ : ∃ z, s.S.length = z := ⟨_, rfl⟩
        rw [hz] at HLn hSl hMl ⊢
        have HMl := Lib.hid hMl
        have HZ := Lib.hid hz
        have hz3 : z ≤ 300 := by omega
        have hM3 : ∀ x ∈ M, x < s.A.length := fun x hx => hSA x (HM.out.1.1.mem_iff.1 hx)
        have HK := Lib.hid (show (∀ x ∈ M, x < s.A.length) ∧ s.A.length ≤ 300 from ⟨hM3, hA3⟩)
        have HR0 : Hid (∃ T, T.Perm (M.drop 0) ∧ HQ w2 h t nb ib ⟨s.A, T⟩ ∧ Gr (Oth t nb ib) w1 w2) := ⟨s.S, HM.out.1.1.symm, HQ1.out.below HM.out.2.2.2, Gr.of_below HM.out.2.2.2⟩
        have HB2 : Hid (w2.heap[b]? = some (.cells ⟨rowI (M.map (fun x : Nat => (x : Int)))⟩ 3 (0, 0)) ∧ w1.heap.size ≤ b) := ⟨HM.out.2.2.1, HM.out.2.1⟩
        have HOt : Hid (b ≠ t ∧ b ≠ nb ∧ b ≠ ib) := by
          have := HM.out.2.1
          exact ⟨by omega, by omega, by omega⟩
        clear HSt hSA hA3 hSl hact hMl hz hM3 bk
        go_wp2_with fail
        with_reducible refine HLn.out.mono ?_
        rintro e w3 ⟨rfl, rfl⟩
        go_wp2_with fail
        go_loopw [7] (fun iv wr => ∃ i : Nat, iv = .int .i64 i ∧ i ≤ z ∧ Hid (∃ T, T.Perm (M.drop i) ∧ HQ wr h t nb ib ⟨s.A, T⟩ ∧ Gr (Oth t nb ib) w2 wr)) (fun iv _ => z - (intOf iv).toNat)
        case atStart => exact ⟨0, rfl, by omega, HR0.out.elim fun T hT => ⟨T, hT.1, hT.2.1, Gr.refl _ _⟩⟩
        case round =>
          clear HR0 HLn
          obtain ⟨i, rfl, hi, HR⟩ := hrel
          obtain ⟨T, hT1, hT2, hT3⟩ := HR.out
          by_cases hin : i < z
          · obtain ⟨x, hx⟩ : ∃ x, M[i]? = some x := ⟨_, List.getElem?_eq_getElem (by rw [HMl.out]; exact hin)⟩
            obtain ⟨p1, p2, p3⟩ := pop_sorted HM.out.1.2 (fun y hy => by have := HK.out.1 y hy; have := HK.out.2; omega) hx hT1
            have hxA := HK.out.1 x (List.mem_of_getElem? hx)
            have P := Pop_q hT2
            rw [show popV (St.mk s.A T) = (x : Int) by unfold popV; rw [p1], show popB (St.mk s.A T) = true by unfold popB; rw [p1]; rfl, show popS (St.mk s.A T) = ⟨s.A, T.erase x⟩ by unfold popS; rw [p1]] at P
            have HP := Lib.hid P
            have HX := Lib.hid (show (T.erase x).Perm (M.drop (i + 1)) ∧ x ∉ T.erase x ∧ M[i]? = some x from ⟨p2, p3, hx⟩)
            have HT3 := Lib.hid hT3
            have hini : (i : Int) < (z : Int) := by omega
            have hx3 : (x : Int) ≤ 300 := by have := HK.out.2; omega
            clear HR hT1 hT2 hT3 p1 p2 p3 P hx
            go_wp2_with fail
            with_reducible refine HP.out.mono ?_
            rintro e w4 ⟨rfl, HW⟩
            have hblk : w4.heap[b]? = some (.cells ⟨rowI (M.map (fun x : Nat => (x : Int)))⟩ 3 (0, 0)) := by
              have g := HT3.out.trans HW.out.2
              exact (g.keep b (Array.getElem?_eq_some_iff.1 HB2.out.1).1 HOt.out).trans HB2.out.1
            have HC : Hid (∀ (j y : Nat), M[j]? = some y → w4.cell? ⟨b, j, none⟩ = some (.int .i64 y)) := fun j y hy => by
              rw [cell_of_row w4 _ _ _ _ _ hblk, ← Array.getElem?_toList]
              show (rowI (M.map (fun x : Nat => (x : Int))))[j]? = _
              unfold rowI
              rw [List.getElem?_map, List.getElem?_map, hy]; rfl
            have e1 := HC.out i x HX.out.2.2
            have HHa := Lib.hid (Has_q HW.out.1 (x : Int) (r := false) (by unfold hasV; exact decide_eq_false (fun e => HX.out.2.1 e.2)))
            have HAc := Lib.hid (Act_q HW.out.1 (x : Int) (r := s.A.getD x 0) (by unfold actV; rw [if_pos (by omega)]; rfl))
            have HN : Hid (∃ T, T.Perm (M.drop (i + 1)) ∧ HQ w4 h t nb ib ⟨s.A, T⟩ ∧ Gr (Oth t nb ib) w2 w4) := ⟨T.erase x, HX.out.1, HW.out.1, HT3.out.trans HW.out.2⟩
            clear hblk HP
            go_wp2_with fail
            with_reducible refine HHa.out.mono ?_
            rintro e w5 ⟨rfl, rfl⟩
            by_cases hi0 : i = 0
            · subst hi0
              go_wp2
              go_roundw
              case rel => exact ⟨1, by go_num, by omega, HN⟩
              case measure => simp [intOf]; omega
            · obtain ⟨i0, hie⟩ : ∃ i0, i = i0 + 1 := ⟨i - 1, by omega⟩
              obtain ⟨y, hy⟩ : ∃ y, M[i0]? = some y := ⟨_, List.getElem?_eq_getElem (by rw [HMl.out]; omega)⟩
              have hkey := sorted_prev HM.out.1.2 hy (by rw [← hie]; exact HX.out.2.2)
              have hyA := HK.out.1 y (List.mem_of_getElem? hy)
              have hxA' := HK.out.1 x (List.mem_of_getElem? HX.out.2.2)
              have hA3 := HK.out.2
              rw [key_lt (by omega) (by omega)] at hkey
              have e2 := HC.out i0 y hy
              have HAy := Lib.hid (Act_q HW.out.1 (y : Int) (r := s.A.getD y 0) (by unfold actV; rw [if_pos (by omega)]; rfl))
              obtain ⟨p, hp⟩ : ∃ p, s.A.getD x 0 = p := ⟨_, rfl⟩
              obtain ⟨q, hq⟩ : ∃ q, s.A.getD y 0 = q := ⟨_, rfl⟩
              rw [hp] at HAc hkey
              rw [hq] at HAy hkey
              have hs1 : (i : Int) - 1 = (i0 : Int) := by omega
              have hlt0 : (0 : Int) < (i : Int) := by omega
              have hz1 : (i0 : Int) < (z : Int) := by omega
              have d1 : decide (q < p) = false := decide_eq_false (by omega)
              clear hp hq hy hie hi0
              go_wp2_with fail
              with_reducible refine HAy.out.mono ?_
              rintro e w6 ⟨rfl, rfl⟩
              go_wp2_with fail
              with_reducible refine HAc.out.mono ?_
              rintro e w6 ⟨rfl, rfl⟩
              by_cases hpq : q = p
              · subst hpq
                have d2 : decide (x ≤ y) = false := decide_eq_false (by omega)
                have d3 : ¬ x ≤ y := by omega
                clear hkey
                go_wp2_with fail
                with_reducible refine HAy.out.mono ?_
                rintro e w6 ⟨rfl, rfl⟩
                go_wp2_with fail
                with_reducible refine HAc.out.mono ?_
                rintro e w6 ⟨rfl, rfl⟩
                go_wp2
                go_roundw
                case rel => exact ⟨i + 1, by go_num, by omega, HN⟩
                case measure => simp [intOf]; omega
              · have d2 : (q == p) = false := by simp [hpq]
                clear hkey hpq
                go_wp2_with fail
                with_reducible refine HAy.out.mono ?_
                rintro e w6 ⟨rfl, rfl⟩
                go_wp2_with fail
                with_reducible refine HAc.out.mono ?_
                rintro e w6 ⟨rfl, rfl⟩
                go_wp2
                go_roundw
                case rel => exact ⟨i + 1, by go_num, by omega, HN⟩
                case measure => simp [intOf]; omega
          · have hie : i = z := by omega
            have hni : ¬ (i : Int) < (z : Int) := by omega
            have hTn : T = [] := by
              rw [List.drop_eq_nil_of_le (by rw [HMl.out]; omega)] at hT1
              exact hT1.eq_nil
            subst hTn
            have P := Pop_q hT2
            rw [show popV (St.mk s.A []) = 0 from rfl, show popB (St.mk s.A []) = false from rfl, show popS (St.mk s.A []) = ⟨s.A, []⟩ from rfl] at P
            have HP := Lib.hid P
            have HT3 := Lib.hid hT3
            clear HR hT1 hT2 hT3 P hie
            go_wp2_with fail
            with_reducible refine HP.out.mono ?_
            rintro e w4 ⟨rfl, HW⟩
            have HL3 : Hid (Calls Try.prog 19 #[.pointer (some ⟨h, 0, none⟩)] w4 fun e w' => e = .returned (.int .i64 0) ∧ w4 = w') := Len_q HW.out.1
            have HWk := Lib.hid (wakes_any w4)
            have HF : Hid (Below w.heap.size w w4) := below_gr HO.out.2.2.2 (((Gr.of_below HM.out.2.2.2).trans HT3.out).trans HW.out.2) HO.out.1 HO.out.2.1 HO.out.2.2.1
            go_wp2_with fail
            with_reducible refine HL3.out.mono ?_
            rintro e w5 ⟨rfl, rfl⟩
            go_wp2_with fail
            with_reducible refine HWk.out.mono ?_
            rintro e w5 ⟨rfl, hb5⟩
            have HB5 := Lib.hid hb5
            clear hb5
            go_wp2
            go_ret
            exact ⟨rfl, below_two HF.out HB5.out⟩
end Go.Proofs.Ytmgppnepccmceaa
