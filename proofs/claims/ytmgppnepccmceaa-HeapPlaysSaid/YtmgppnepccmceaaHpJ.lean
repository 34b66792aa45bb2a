/- Put. -/
import Derived.Test.YtmgppnepccmceaaHpI
namespace Go.Proofs.Ytmgppnepccmceaa
open Go.RowKit
set_option linter.unusedVariables false
section
variable {w : World} {h t nb ib : Nat} {A : List Int} {pl : Nat → Int} {L : List Nat}
theorem plc_push {L : List Nat} {x : Nat} (hx : x ∉ L) (y : Nat) : plc (L ++ [x]) y = if y = x then (L.length : Int) else plc L y := by
  unfold plc
  by_cases e : y = x
  · subst e
    rw [if_pos rfl, if_pos (by simp), List.idxOf_append, if_neg hx]
    simp
  · rw [if_neg e]
    by_cases hy : y ∈ L
    · rw [if_pos hy, if_pos (by simp [hy]), List.idxOf_append, if_pos hy]
    · rw [if_neg hy, if_neg (by simp [hy, e])]
/-- Behind an append of one. -/
theorem HX.push (H : HX w h t nb ib A pl L) {x : Nat} (hx : x < A.length) (hr : L.length < A.length) : HX ((w.setCell ⟨ib, L.length, none⟩ (.pointer (some ⟨nb, x * 3, none⟩))).setCell ⟨t, 1, none⟩ (.slice (some ⟨ib, 0, none⟩) (L.length + 1) A.length)) h t nb ib A pl (L ++ [x]) := by
  obtain ⟨n1, n2, n3, n4, n5, n6⟩ := H.ne
  obtain ⟨sp, e, e2⟩ := H.row
  have f1 : ∀ k, k ≠ ib → (w.setCell ⟨ib, L.length, none⟩ (.pointer (some ⟨nb, x * 3, none⟩))).heap[k]? = w.heap[k]? := fun k hk => Below.heap_setCell _ _ _ _ hk
  refine ⟨(Below.heap_setCell _ _ _ _ n1).trans ((f1 _ n3).trans H.hd), (heap_setCell_same _ t _ _ _ _ ((f1 _ n5).trans H.tr)).trans ?_, (Below.heap_setCell _ _ _ _ (Ne.symm n4)).trans ((f1 _ n6).trans H.nd), ⟨sp.drop 1, (Below.heap_setCell _ _ _ _ (Ne.symm n5)).trans ((heap_setCell_same w ib _ _ _ _ e).trans ?_), ?_⟩, H.le, fun y hy => ?_, H.act⟩
  · rw [List.length_append]; rfl
  · obtain ⟨z, r, rfl⟩ : ∃ z r, sp = z :: r := by
      cases sp with
      | nil => simp at e2; omega
      | cons z r => exact ⟨z, r, rfl⟩
    rw [List.setIfInBounds_toArray, List.set_append_right _ _ (by rw [List.length_map]; exact Nat.le_refl _), List.length_map, Nat.sub_self, List.map_append, List.append_assoc]
    rfl
  · rw [List.length_append, List.length_drop]
    simp
    omega
  · rcases List.mem_append.1 hy with hy | hy
    · exact H.lt y hy
    · simp at hy
      subst hy
      exact hx
theorem HX.spare (H : HX w h t nb ib A pl L) (hr : L.length < A.length) : (∃ z, w.cell? ⟨ib, L.length, none⟩ = some z) ∧ w.frozen? ⟨ib, L.length, none⟩ = false := by
  obtain ⟨sp, e, e2⟩ := H.row
  refine ⟨?_, by simp [World.frozen?, e]⟩
  rw [cell_of_row w ib _ _ _ _ e, ← Array.getElem?_toList]
  show ∃ z, (L.map (ptrE nb) ++ sp)[L.length]? = some z
  exact ⟨_, List.getElem?_eq_getElem (by rw [List.length_append, List.length_map]; omega)⟩
theorem full_le : ∀ (n : Nat) (L : List Nat), L.Nodup → (∀ y ∈ L, y < n) → L.length ≤ n
  | 0, L, _, h => by
    cases L with
    | nil => exact Nat.le_refl _
    | cons y r => exact absurd (h y (List.mem_cons_self ..)) (by omega)
  | n + 1, L, hn, h => by
    by_cases e : n ∈ L
    · have h1 := full_le n (L.erase n) (hn.erase n) (fun y hy => by
        have := h y (List.mem_of_mem_erase hy)
        have : y ≠ n := fun e => by subst e; exact ((List.Nodup.mem_erase_iff hn).1 hy).1 rfl
        omega)
      have := List.length_erase_of_mem e
      have := List.length_pos_of_mem e
      omega
    · have h1 := full_le n L hn (fun y hy => by
        have := h y hy
        have : y ≠ n := fun e' => e (by rw [← e']; exact hy)
        omega)
      omega
theorem full_len {n : Nat} {L : List Nat} (hn : L.Nodup) (hl : ∀ y ∈ L, y < n) {x : Nat} (hx : x < n) (hxL : x ∉ L) : L.length < n := by
  have h := full_le n (x :: L) (List.nodup_cons.2 ⟨hxL, hn⟩) (fun y hy => by
    rcases List.mem_cons.1 hy with rfl | hy
    · exact hx
    · exact hl y hy)
  rw [List.length_cons] at h
  omega
set_option maxRecDepth 100000 in
set_option maxHeartbeats 1000000 in
theorem Put_new (H : HX w h t nb ib A (plc L) L) (hn : L.Nodup) (hH : HeapN (L.map (keyA A)) L.length) {x : Nat} (hx : x < A.length) (hxL : x ∉ L) :
    Calls Try.prog 11 #[.pointer (some ⟨h, 0, none⟩), .int .i64 x] w fun e w' => e = .returned (.int .i64 0) ∧ HpP w h t nb ib A (L ++ [x]) w' := by
  have hlen := full_len hn H.lt hx hxL
  have hle := H.le
  have c := H.head
  obtain ⟨c0, c1, _⟩ := H.tree
  obtain ⟨n1, n2, n3, n4, n5, n6⟩ := H.ne
  have c2 := (H.cell (j := 2) hx (by omega) rfl)
  have hf := Lib.hid (fault_any H (x : Int) (r := 0) (by unfold faultV; rw [if_pos (by omega)]))
  have e2 : w.cell? ⟨nb, x * 3 + 2, none⟩ = some (.int .i32 (-1)) := by rw [← plc_out hxL]; exact H.pc hx
  have f2 := c2.2
  have hxi : (x : Int) < (A.length : Int) := by omega
  have hl3 : (L.length : Int) ≤ 300 := by omega
  have H1 := H.setP hx (L.length : Int)
  have HW : Hid (HX (w.setCell ⟨nb, x * 3 + 2, none⟩ (.int .i32 L.length)) h t nb ib A (fun y => if y = x then (L.length : Int) else plc L y) L ∧ Gr (Oth t nb ib) w (w.setCell ⟨nb, x * 3 + 2, none⟩ (.int .i32 L.length))) := ⟨H1, (Gr.refl _ w).set (fun _ e => e.2.1 rfl) _⟩
  clear c2
  go_enter Try.func11, Try.ntmps11
  go_wp2_with (first | (go_at_call 29; with_reducible refine hf.out.mono ?_; rintro e w1 ⟨rfl, rfl⟩))
  obtain ⟨W, hW⟩ : ∃ W, w.setCell ⟨nb, x * 3 + 2, none⟩ (.int .i32 L.length) = W := ⟨_, rfl⟩
  rw [hW] at HW ⊢
  clear H H1
  obtain ⟨⟨z, hz⟩, fz⟩ := HW.out.1.spare hlen
  have cW := HW.out.1.head
  obtain ⟨t0, t1, ft⟩ := HW.out.1.tree
  obtain ⟨b1, b2, b3, b4⟩ := HW.out.1.blk
  clear c c0 c1 e2 f2 hW
  have hroom : L.length + 1 ≤ A.length := by omega
  go_region
  obtain ⟨W2, hW2⟩ : ∃ W2, (((W.setCell ⟨ib, L.length, none⟩ (.pointer (some ⟨nb, x * 3, none⟩))).setCell ⟨t, 1, none⟩ (.slice (some ⟨ib, 0, none⟩) (L.length + 1) A.length)).alloc (.cells #[.pointer (some ⟨nb, x * 3, none⟩)] 60)).drew = W2 := ⟨_, rfl⟩
  have HX2 : Hid (HX W2 h t nb ib A (plc (L ++ [x])) (L ++ [x]) ∧ Gr (Oth t nb ib) w W2) := by
    rw [← hW2]
    refine ⟨(((HW.out.1.push hx hlen).gr (P := fun _ => True) ((Gr.refl _ _).alloc _) trivial trivial trivial trivial).drew).congr (fun y _ => (plc_push hxL y).symm), ((((HW.out.2.set (fun _ e => e.2.2 rfl) _).set (fun _ e => e.1 rfl) _).alloc _).drew)⟩
  rw [hW2]
  have c2 := HX2.out.1.head
  have HU : Hid (Calls Try.prog 30 #[.pointer (some ⟨t, 0, none⟩), .pointer (some ⟨nb, x * 3, none⟩)] W2 fun e w' => e = .returned (.tuple #[]) ∧ HpP W2 h t nb ib A (L ++ [x]) w') := by
    refine up_any HX2.out.1 (by rw [List.nodup_append]; exact ⟨hn, by simp, fun a ha b hb e => by simp at hb; subst hb; subst e; exact hxL ha⟩) (j := L.length) (by simp) (nodeAt_of (by rw [List.getElem?_append_right (Nat.le_refl _)]; simp)) ?_
    rw [← List.length_map (f := keyA A)] at hH
    have := hH.push (x := keyA A x)
    rw [List.length_map] at this
    rw [List.map_append, List.length_append]
    exact this
  clear hW2 t0 t1 ft hz fz cW hroom b1 b2 b3 b4
  go_wp2_with (first | (go_at_call 30; with_reducible refine HU.out.mono ?_; rintro e w3 ⟨rfl, HP⟩; have HP2 := Lib.hid HP; clear HP))
  go_ret
  obtain ⟨L', a1, a2, a3, a4⟩ := HP2.out
  exact ⟨rfl, L', a1, a2, a3, HX2.out.2.trans a4⟩
theorem Put_old (H : HX w h t nb ib A (plc L) L) {x : Nat} (hxL : x ∈ L) :
    Calls Try.prog 11 #[.pointer (some ⟨h, 0, none⟩), .int .i64 x] w fun e w' => e = .returned (.int .i64 0) ∧ w = w' := by
  have hx := H.lt x hxL
  have c := H.head
  obtain ⟨c0, c1, _⟩ := H.tree
  have hf := Lib.hid (fault_any H (x : Int) (r := 0) (by unfold faultV; rw [if_pos (by omega)]))
  obtain ⟨k, hk⟩ : ∃ k : Nat, plc L x = k := ⟨L.idxOf x, by unfold plc; rw [if_pos hxL]⟩
  have e2 : w.cell? ⟨nb, x * 3 + 2, none⟩ = some (.int .i32 k) := by rw [← hk]; exact H.pc hx
  have hxi : (x : Int) < (A.length : Int) := by omega
  have d : ((k : Int) == -1) = false := by simp
  clear H hk
  go_enter Try.func11, Try.ntmps11
  go_wp2_with (first | (go_at_call 29; with_reducible refine hf.out.mono ?_; rintro e w1 ⟨rfl, rfl⟩))
  go_ret
  exact ⟨rfl, rfl⟩
theorem Put_bad (H : HX w h t nb ib A pl L) {x : Int} (hx : ¬ (0 ≤ x ∧ x < A.length)) :
    Calls Try.prog 11 #[.pointer (some ⟨h, 0, none⟩), .int .i64 x] w fun e w' => e = .returned (.int .i64 2) ∧ w = w' := by
  have hf := Lib.hid (fault_any H x (r := 2) (by unfold faultV; rw [if_neg hx]))
  clear H hx
  go_enter Try.func11, Try.ntmps11
  go_wp2_with (first | (go_at_call 29; with_reducible refine hf.out.mono ?_; rintro e w1 ⟨rfl, rfl⟩))
  go_ret
  exact ⟨rfl, rfl⟩
end
theorem Put_nil (x : Int) (w : World) : Calls Try.prog 11 #[.pointer none, .int .i64 x] w fun e w' => e = .returned (.int .i64 3) ∧ w = w' := by
  have hf := Lib.hid (fault_nil x w)
  go_enter Try.func11, Try.ntmps11
  go_wp2_with (first | (go_at_call 29; with_reducible refine hf.out.mono ?_; rintro e w1 ⟨rfl, rfl⟩))
  go_ret
  exact ⟨rfl, rfl⟩
end Go.Proofs.Ytmgppnepccmceaa
