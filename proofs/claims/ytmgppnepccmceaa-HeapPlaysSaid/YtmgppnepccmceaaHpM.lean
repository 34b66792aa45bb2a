/- Pop. -/
import Derived.Test.YtmgppnepccmceaaHpL
namespace Go.Proofs.Ytmgppnepccmceaa
open Go.RowKit
set_option linter.unusedVariables false
theorem atI_take {L : List Int} {n i : Nat} (h : i < n) : atI (L.take n) i = atI L i := by
  unfold atI
  rw [List.getD_eq_getElem?_getD, List.getElem?_take, if_pos h, List.getD_eq_getElem?_getD]
theorem DownI.take {L : List Int} {n : Nat} (h : DownI L n 0) (hn : n ≤ L.length) : DownI (L.take n) n 0 := by
  refine ⟨fun i h0 hi hp => ?_, fun h0 => absurd h0 (by omega)⟩
  rw [atI_take (by omega), atI_take hi]
  exact h.1 i h0 hi hp
theorem take_last {L : List Nat} {m : Nat} (h : L.length = m + 1) : L = L.take m ++ [nodeAt L m] := by
  have h1 : m < L.length := by omega
  have h2 := nodeAt_get h1
  rw [List.getElem?_eq_getElem h1] at h2
  simp only [Option.some.injEq] at h2
  have h3 := List.take_append_getElem (l := L) (i := m) h1
  rw [h2] at h3
  rw [h3, List.take_of_length_le (by omega)]
section
variable {w : World} {h t nb ib : Nat} {A : List Int} {pl : Nat → Int} {L : List Nat}
theorem HX.cut (H : HX w h t nb ib A pl L) {m : Nat} (hm : m ≤ L.length) : HX (w.setCell ⟨t, 1, none⟩ (.slice (some ⟨ib, 0, none⟩) m A.length)) h t nb ib A pl (L.take m) := by
  obtain ⟨n1, n2, n3, n4, n5, n6⟩ := H.ne
  obtain ⟨sp, e, e2⟩ := H.row
  refine ⟨(Below.heap_setCell _ _ _ _ n1).trans H.hd, (heap_setCell_same _ t _ _ _ _ H.tr).trans ?_, (Below.heap_setCell _ _ _ _ (Ne.symm n4)).trans H.nd, ⟨(L.drop m).map (ptrE nb) ++ sp, (Below.heap_setCell _ _ _ _ (Ne.symm n5)).trans ?_, ?_⟩, H.le, fun y hy => H.lt y (List.mem_of_mem_take hy), H.act⟩
  · rw [List.length_take, Nat.min_eq_left hm]; rfl
  · rw [← List.append_assoc, ← List.map_append, List.take_append_drop]
    exact e
  · rw [List.length_append, List.length_map, List.length_take, List.length_drop]
    omega
theorem Pop_nil (w : World) : Calls Try.prog 13 #[.pointer none] w fun e w' => e = .returned (.tuple #[.int .i64 0, .bool false]) ∧ w = w' := by
  have HM := Lib.hid (Len_nil w)
  go_enter Try.func13, Try.ntmps13
  go_wp2_with (first | (go_at_call 19; with_reducible refine HM.out.mono ?_; rintro e w1 ⟨rfl, rfl⟩))
  go_ret2
  exact ⟨rfl, rfl⟩
theorem Pop_none (H : HX w h t nb ib A pl []) : Calls Try.prog 13 #[.pointer (some ⟨h, 0, none⟩)] w fun e w' => e = .returned (.tuple #[.int .i64 0, .bool false]) ∧ w = w' := by
  have HM : Hid (Calls Try.prog 19 #[.pointer (some ⟨h, 0, none⟩)] w fun e w' => e = .returned (.int .i64 0) ∧ w = w') := Len_any H
  clear H
  go_enter Try.func13, Try.ntmps13
  go_wp2_with (first | (go_at_call 19; with_reducible refine HM.out.mono ?_; rintro e w1 ⟨rfl, rfl⟩))
  go_ret2
  exact ⟨rfl, rfl⟩
set_option maxRecDepth 100000 in
set_option maxHeartbeats 1000000 in
theorem Pop_some (H : HX w h t nb ib A (plc L) L) (hn : L.Nodup) (hH : HeapN (L.map (keyA A)) L.length) {m x : Nat} (hm : L.length = m + 1) (hx : nodeAt L 0 = x) :
    Calls Try.prog 13 #[.pointer (some ⟨h, 0, none⟩)] w fun e w' => e = .returned (.tuple #[.int .i64 x, .bool true]) ∧ ∃ L', (x :: L').Perm L ∧ HeapN (L'.map (keyA A)) L'.length ∧ HX w' h t nb ib A (plc L') L' ∧ Gr (Oth t nb ib) w w' := by
  have hle := H.le
  have hll := H.lens
  have c := H.head
  obtain ⟨c0, c1, _⟩ := H.tree
  have i0 := (H.inc (p := 0) (by omega)).1
  rw [hx] at i0
  have HM := Lib.hid (Len_any H)
  rw [hm] at c1 HM
  have hm3 : (m : Int) ≤ 300 := by omega
  have h0L : 0 < L.length := by omega
  have hmL : m < L.length := by omega
  have hxA : x < A.length := by rw [← hx]; exact H.lt _ (nodeAt_mem h0L)
  have HS : Hid (∀ q, Calls Try.prog 32 #[.pointer (some ⟨t, 0, none⟩), .int .i32 0, .int .i32 m] (w.drewN q) fun e w' => e = .returned (.tuple #[]) ∧ Hid (HX w' h t nb ib A (plc (swapN L 0 m)) (swapN L 0 m) ∧ Gr (Oth t nb ib) w w')) := fun q =>
    (swap_any (H.drewN q) hn (p := 0) h0L hmL).mono fun e w' ⟨e1, e2⟩ => ⟨e1, e2.out.1, ((Gr.refl _ w).drewN q).trans e2.out.2⟩
  obtain ⟨T, hT⟩ : ∃ T, (swapN L 0 m).take m = T := ⟨_, rfl⟩
  have hsl : (swapN L 0 m).length = m + 1 := by rw [swapN_len, hm]
  have hTl : T.length = m := by rw [← hT, List.length_take, hsl]; omega
  have hTx : swapN L 0 m = T ++ [x] := by
    have := take_last hsl
    rw [hT, nodeAt_swap h0L hmL, if_pos rfl, hx] at this
    exact this
  have hTn : (T ++ [x]).Nodup := by rw [← hTx]; exact (swapN_perm h0L hmL).nodup_iff.2 hn
  have hxT : x ∉ T := fun e => (List.nodup_append.1 hTn).2.2 x e x (by simp) rfl
  have hTp : (x :: T).Perm L := by
    have h1 := swapN_perm h0L hmL
    rw [hTx] at h1
    exact (List.perm_append_comm (l₁ := [x]) (l₂ := T)).trans h1
  have hTN := (List.nodup_append.1 hTn).1
  have HC : Hid (∀ W, HX W h t nb ib A (plc (swapN L 0 m)) (swapN L 0 m) ∧ Gr (Oth t nb ib) w W → HX ((W.setCell ⟨t, 1, none⟩ (.slice (some ⟨ib, 0, none⟩) m A.length)).setCell ⟨nb, x * 3 + 2, none⟩ (.int .i32 (-1))).drew h t nb ib A (plc T) T ∧ Gr (Oth t nb ib) w ((W.setCell ⟨t, 1, none⟩ (.slice (some ⟨ib, 0, none⟩) m A.length)).setCell ⟨nb, x * 3 + 2, none⟩ (.int .i32 (-1))).drew) := fun W HW => by
    have h1 := HW.1.cut (m := m) (by rw [hsl]; omega)
    rw [hT] at h1
    refine ⟨((h1.setP hxA (-1)).drew).congr (fun y hy => ?_), ((HW.2.set (fun _ e => e.1 rfl) _).set (fun _ e => e.2.1 rfl) _).drew⟩
    show (if y = x then (-1 : Int) else plc (swapN L 0 m) y) = plc T y
    rw [hTx]
    by_cases e : y = x
    · rw [if_pos e, e, plc_out hxT]
    · rw [if_neg e, plc_push hxT, if_neg e]
  have HT : Hid (∀ W, HX W h t nb ib A (plc (swapN L 0 m)) (swapN L 0 m) → W.cell? ⟨h, 0, none⟩ = some (.pointer (some ⟨t, 0, none⟩)) ∧ W.cell? ⟨t, 1, none⟩ = some (.slice (some ⟨ib, 0, none⟩) (m + 1) A.length) ∧ W.frozen? ⟨t, 1, none⟩ = false ∧ W.cell? ⟨nb, x * 3 + 2, none⟩ = some (.int .i32 (plc (swapN L 0 m) x)) ∧ W.frozen? ⟨nb, x * 3 + 2, none⟩ = false ∧ t < W.heap.size ∧ nb < W.heap.size) := fun W HW => by
    have g := HW.tree
    rw [hsl] at g
    have g2 := HW.cell (j := 2) hxA (by omega) rfl
    exact ⟨HW.head, g.2.1, g.2.2, g2.1, g2.2, HW.blk.2.1, HW.blk.2.2.1⟩
  have HD : Hid (0 < m → ∀ W, HX W h t nb ib A (plc T) T → Calls Try.prog 33 #[.pointer (some ⟨t, 0, none⟩), .pointer (some ⟨nb, nodeAt T 0 * 3, none⟩)] W fun e w' => e = .returned (.tuple #[]) ∧ HpP W h t nb ib A T w') := fun h0 W HW => by
    refine down_any HW hTN (j := 0) (by omega) rfl ?_
    rw [← List.length_map (f := keyA A)] at hH
    have h1 := hH.pop (n := m) (by rw [List.length_map]; omega)
    rw [← swapN_map _ h0L hmL] at h1
    have h2 := h1.take (by rw [List.length_map, hsl]; omega)
    rw [← List.map_take, hT] at h2
    rw [hTl]
    exact h2
  obtain ⟨n1, n2, n3, n4, n5, n6⟩ := H.ne
  have hx30 : (x : Int) ≤ 300 := by omega
  obtain ⟨a, ha⟩ : ∃ a, A.length = a := ⟨_, rfl⟩
  have HA2 := Lib.hid ha
  have hma : m + 1 ≤ a := by omega
  obtain ⟨v, hv⟩ : ∃ v, plc (swapN L 0 m) x = v := ⟨_, rfl⟩
  rw [ha] at c0 c1 HC HT
  rw [hv] at HT
  clear hH H hx hle hll ha hv hsl hTn
  go_enter Try.func13, Try.ntmps13
  go_wp2_with (first | (go_at_call 19; with_reducible refine HM.out.mono ?_; rintro e w1 ⟨rfl, rfl⟩))
  go_quiet (fail)
  have HS1 := Lib.hid (HS.out nq)
  clear HS
  go_wp2_with (first | (go_at_call 32; with_reducible refine HS1.out.mono ?_; rintro e w2 ⟨rfl, HW⟩))
  obtain ⟨g0, g1, g2, g3, g4, g5, g6⟩ := HT.out _ HW.out.1
  have HC1 := Lib.hid (HC.out _ HW.out)
  clear HT HC c c0 c1 i0
  go_region
  obtain ⟨W3, hW3⟩ : ∃ W3, ((w2.setCell ⟨t, 1, none⟩ (.slice (some ⟨ib, 0, none⟩) m a)).setCell ⟨nb, x * 3 + 2, none⟩ (.int .i32 (-1))).drew = W3 := ⟨_, rfl⟩
  rw [hW3] at HC1
  have hid3 := HC1.out.1.id hxA
  rcases Nat.eq_zero_or_pos m with hm0 | hm0
  · subst hm0
    have hT0 : T = [] := List.eq_nil_of_length_eq_zero hTl
    have h4 : (((w2.setCell ⟨t, 1, none⟩ (.slice (some ⟨ib, 0, none⟩) 0 a)).setCell ⟨nb, x * 3 + 2, none⟩ (.int .i32 (-1))).drew).cell? ⟨nb, x * 3, none⟩ = some (.int .i32 x) := by
      have : ((w2.setCell ⟨t, 1, none⟩ (.slice (some ⟨ib, 0, none⟩) 0 a)).setCell ⟨nb, x * 3 + 2, none⟩ (.int .i32 (-1))).drew = W3 := hW3
      rw [this]; exact hid3
    have HE : Hid (((w2.setCell ⟨t, 1, none⟩ (.slice (some ⟨ib, 0, none⟩) 0 a)).setCell ⟨nb, x * 3 + 2, none⟩ (.int .i32 (-1))).drew = W3) := hW3
    have d0 : decide ((0 : Int) < 0) = false := rfl
    clear hW3
    go_wp2
    rw [HE.out]
    go_ret2
    refine ⟨rfl, T, hTp, ?_, HC1.out.1, HC1.out.2⟩
    rw [hT0]
    exact fun i h0 hi => absurd hi (by simp)
  · have hh := HC1.out.1.head
    have ht := HC1.out.1.tree.2.1
    have hi := (HC1.out.1.inc (p := 0) (by omega)).1
    rw [hTl] at ht
    have HD1 := Lib.hid (HD.out hm0 W3.drew HC1.out.1.drew)
    have HF : Hid (∀ w4, HpP W3.drew h t nb ib A T w4 → w4.cell? ⟨nb, x * 3, none⟩ = some (.int .i32 x) ∧ ∃ L', (x :: L').Perm L ∧ HeapN (L'.map (keyA A)) L'.length ∧ HX w4 h t nb ib A (plc L') L' ∧ Gr (Oth t nb ib) w w4) := fun w4 ⟨L', b1, b2, b3, b4⟩ => ⟨b3.id hxA, L', (b1.cons x).trans hTp, b2, b3, HC1.out.2.drew.trans b4⟩
    rw [HA2.out] at ht
    have hkz : (0 : Int) < (m : Int) := by omega
    clear HC1 HW HS1 HD g0 g1 g2 hid3
    go_wp2_with fail
    clear hW3 g3 g4 g5 g6
    go_still_tail 13, (by kernel_rfl)
    change wpList _ _ _ _ _ W3.drew
    go_wp2_with (first | (go_at_call 33; with_reducible refine HD1.out.mono ?_; rintro e w4 ⟨rfl, HP⟩; have HP2 := Lib.hid HP; clear HP; have hid4 := (HF.out _ HP2.out).1))
    go_ret2
    exact ⟨rfl, (HF.out _ HP2.out).2⟩
end
end Go.Proofs.Ytmgppnepccmceaa
