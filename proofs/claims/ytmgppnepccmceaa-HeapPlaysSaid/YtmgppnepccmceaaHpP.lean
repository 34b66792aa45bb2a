/- Sorted. -/
import Derived.Test.YtmgppnepccmceaaHpO
namespace Go.Proofs.Ytmgppnepccmceaa
open Go.RowKit
set_option linter.unusedVariables false
def nodeF (A : List Int) (x : Nat) : Int × Int := ((x : Int), A.getD x 0)
theorem unmap {A : List Int} {L : List Nat} {D : List (Int × Int)} (h : D.Perm (L.map (nodeF A))) : ∃ M : List Nat, M.Perm L ∧ D = M.map (nodeF A) := by
  refine ⟨D.map (fun d => d.1.toNat), ?_, ?_⟩
  · have := h.map (fun d : Int × Int => d.1.toNat)
    rw [List.map_map] at this
    have e : (L.map ((fun d : Int × Int => d.1.toNat) ∘ nodeF A)) = L := by
      rw [List.map_congr_left (g := id) (fun x _ => by simp [nodeF])]
      exact List.map_id _
    rw [e] at this
    exact this
  · rw [List.map_map]
    have e : D.map (nodeF A ∘ fun d => d.1.toNat) = D.map id := List.map_congr_left (fun d hd => by
      obtain ⟨x, _, hx⟩ := List.mem_map.1 (h.mem_iff.1 hd)
      subst hx
      simp [nodeF])
    rw [e, List.map_id]
/-- Sorted: the first ahead. -/
def SortedM (A : List Int) (L M : List Nat) : Prop := M.Perm L ∧ M.Pairwise (fun x y => keyA A x < keyA A y)
theorem sortedM_of {A : List Int} {L M : List Nat} (hn : L.Nodup) (hl : ∀ x ∈ L, x < 1000) (hp : M.Perm L) (hs : (M.map (nodeF A)).Pairwise (fun x y => ltOf cmpN y x = false)) : SortedM A L M := by
  refine ⟨hp, ?_⟩
  rw [List.pairwise_map] at hs
  have hn' : M.Pairwise (· ≠ ·) := hp.nodup_iff.2 hn
  have h3 := hs.and hn'
  refine List.Pairwise.imp_of_mem (fun {x y} hx hy h => ?_) h3
  obtain ⟨h1, h2⟩ := h
  have lx := hl x (hp.mem_iff.1 hx)
  have ly := hl y (hp.mem_iff.1 hy)
  have h4 : decide (cmpN ((y : Int), A.getD y 0) ((x : Int), A.getD x 0) < 0) = false := h1
  rw [cmp_key ly lx] at h4
  have h5 := of_decide_eq_false h4
  have h6 : keyA A x ≠ keyA A y := fun e => h2 (key_inj lx ly e)
  omega
theorem pair_nth {A : List Int} {M : List Nat} {i : Nat} {x : Nat} (h : M[i]? = some x) : (M.map (nodeF A))[i]? = some (nodeF A x) := by rw [List.getElem?_map, h]; rfl
/-- The first i of a row, z behind. -/
def fillTo {α : Type} (z : α) (D : List α) (i : Nat) : List α := D.take i ++ List.replicate (D.length - i) z
theorem fillTo_len {α : Type} (z : α) (D : List α) {i : Nat} (hi : i ≤ D.length) : (fillTo z D i).length = D.length := by
  unfold fillTo
  rw [List.length_append, List.length_take, List.length_replicate]
  omega
theorem fillTo_zero {α : Type} (z : α) (D : List α) : fillTo z D 0 = List.replicate D.length z := by unfold fillTo; simp
theorem fillTo_end {α : Type} (z : α) (D : List α) : fillTo z D D.length = D := by unfold fillTo; simp
theorem fillTo_set {α : Type} (z : α) {D : List α} {i : Nat} {x : α} (hx : D[i]? = some x) : (fillTo z D i).set i x = fillTo z D (i + 1) := by
  have hi := (List.getElem?_eq_some_iff.1 hx).1
  unfold fillTo
  rw [List.set_append_right _ _ (by rw [List.length_take]; omega), List.length_take, show i - min i D.length = 0 by omega, show D.length - i = (D.length - (i + 1)) + 1 by omega, List.replicate_succ, List.set_cons_zero, List.take_add_one, hx]
  simp
theorem info_node : (Try.prog.info? 51).map (fun i => (i.zero, i.size, i.bytes)) = some (some (.agg #[.int .i32 0, .int .i64 0]), 2, 16) := by kernel_rfl
theorem info_int : (Try.prog.info? 3).map (fun i => (i.zero, i.size, i.bytes)) = some (some (.int .i64 0), 1, 8) := by kernel_rfl
theorem made_node (n : Nat) : madeCells (Value.agg #[.int .i32 0, .int .i64 0]).cells (n * 2) = ⟨rowN (List.replicate n (0, 0))⟩ := by
  apply Array.ext'
  apply List.ext_getElem?
  intro k
  show _ = (rowN (List.replicate n (0, 0)))[k]?
  rw [Array.getElem?_toList]
  by_cases hk : k < n * 2
  · have hg := rowN_get (D := List.replicate n (0, 0)) (i := k / 2) (j := k % 2) (x := (0, 0)) (by rw [List.getElem?_replicate, if_pos (by omega)]) (by omega)
    rw [show k / 2 * 2 + k % 2 = k by omega] at hg
    rw [hg]
    unfold madeCells
    rw [Array.getElem?_map, Array.getElem?_range, if_pos hk]
    show some ((#[Value.int .i32 0, .int .i64 0] : Array Value)[k % 2]!) = _
    rcases (show k % 2 = 0 ∨ k % 2 = 1 by omega) with e | e <;> rw [e] <;> rfl
  · rw [List.getElem?_eq_none (by rw [rowN_len, List.length_replicate]; omega), Array.getElem?_eq_none (by rw [size_madeCells]; omega)]
theorem make_node (n : Nat) (hn : n ≤ 300) (w : World) : (Instr.makeSlice 64 (.int .i64 n) (.int .i64 n)).run Try.prog w = .ok (.slice (some ⟨w.heap.size, 0, none⟩) n n) (w.alloc (.cells ⟨rowN (List.replicate n (0, 0))⟩ 51)) := by
  obtain ⟨i0, hi, hz0, hz1, hz2⟩ := info_parts info_node
  have := run_make (P := Try.prog) w 64 51 i0 _ Try.underlying64 hi hz0 .i64 .i64 n n (by omega) (by omega) (by rw [hz2]; omega) (by omega)
  rw [hz1] at this
  rw [Int.toNat_natCast, made_node] at this
  exact this
def rowI (xs : List Int) : List Value := xs.map (.int .i64)
theorem make_int (n : Nat) (hn : n ≤ 300) (w : World) : (Instr.makeSlice 39 (.int .i64 n) (.int .i64 n)).run Try.prog w = .ok (.slice (some ⟨w.heap.size, 0, none⟩) n n) (w.alloc (.cells ⟨rowI (List.replicate n 0)⟩ 3)) := by
  obtain ⟨i0, hi, hz0, hz1, hz2⟩ := info_parts info_int
  have := run_make (P := Try.prog) w 39 3 i0 _ Try.underlying39 hi hz0 .i64 .i64 n n (by omega) (by omega) (by rw [hz2]; omega) (by omega)
  have e : madeCells (Value.int .i64 0).cells (n * 1) = ⟨rowI (List.replicate n 0)⟩ := by
    apply Array.ext'
    apply List.ext_getElem?
    intro k
    show _ = (rowI (List.replicate n 0))[k]?
    unfold rowI
    rw [Array.getElem?_toList, List.getElem?_map, List.getElem?_replicate]
    by_cases hk : k < n
    · rw [if_pos hk]
      unfold madeCells
      rw [Array.getElem?_map, Array.getElem?_range, if_pos (by omega)]
      show some ((#[Value.int .i64 0] : Array Value)[k % 1]!) = _
      rw [Nat.mod_one]
      rfl
    · rw [if_neg hk, Array.getElem?_eq_none (by rw [size_madeCells]; omega)]
      rfl
  rw [hz1] at this
  rw [Int.toNat_natCast, e] at this
  exact this
theorem Sorted_nil (w : World) : Calls Try.prog 26 #[.pointer none] w fun e w' => e = .returned (.slice none 0 0) ∧ w = w' := by
  have HM := Lib.hid (made_nil w)
  go_enter Try.func26, Try.ntmps26
  go_wp2_with (first | (go_at_call 34; with_reducible refine HM.out.mono ?_; rintro e w1 ⟨rfl, rfl⟩))
  go_ret
  exact ⟨rfl, rfl⟩
/-- What Sorted answers. -/
def SortedP (A : List Int) (L : List Nat) (w : World) (e : Ending) (w' : World) : Prop := ∃ b M, e = .returned (.slice (some ⟨b, 0, none⟩) L.length L.length) ∧ SortedM A L M ∧ w.heap.size ≤ b ∧ w'.heap[b]? = some (.cells ⟨rowI (M.map (fun x : Nat => (x : Int)))⟩ 3 (0, 0)) ∧ Below w.heap.size w w'
theorem rowI_set {xs : List Int} {i : Nat} (x : Int) : (rowI xs).set i (.int .i64 x) = rowI (xs.set i x) := by unfold rowI; rw [List.map_set]
theorem node_set {w : World} {b i : Nat} {D : List (Int × Int)} (h : w.heap[b]? = some (.cells ⟨rowN D⟩ 51 (0, 0))) (hi : i < D.length) (x : Int × Int) : ((w.setCell ⟨b, i * 2, none⟩ (.int .i32 x.1)).setCell ⟨b, i * 2 + 1, none⟩ (.int .i64 x.2)).heap[b]? = some (.cells ⟨rowN (D.set i x)⟩ 51 (0, 0)) := by
  have e := heap_setCell_same _ b (i * 2 + 1) _ _ (.int .i64 x.2) (heap_setCell_same w b (i * 2) _ _ (.int .i32 x.1) h)
  rw [List.setIfInBounds_toArray, List.setIfInBounds_toArray, rowN_set hi] at e
  exact e
section
variable {w : World} {h t nb ib : Nat} {A : List Int} {pl : Nat → Int} {L : List Nat}
set_option maxRecDepth 100000 in
set_option maxHeartbeats 1000000 in
theorem Sorted_any (H : HX w h t nb ib A (plc L) L) (hn : L.Nodup) :
    Calls Try.prog 26 #[.pointer (some ⟨h, 0, none⟩)] w fun e w' => SortedP A L w e w' := by
  have hle := H.le
  have hll := H.lens
  have c := H.head
  obtain ⟨c0, c1, _⟩ := H.tree
  obtain ⟨b1, b2, b3, b4⟩ := H.blk
  have HM := Lib.hid (made_any H)
  have hm1 := fun W => make_node L.length (by omega) W
  have hm2 := fun W => make_int L.length (by omega) W
  have hL3 : (L.length : Int) ≤ 300 := by omega
  have HH := Lib.hid H
  obtain ⟨D, hD⟩ : ∃ D, L.map (nodeF A) = D := ⟨_, rfl⟩
  have hDl : D.length = L.length := by rw [← hD, List.length_map]
  have HDL := Lib.hid hDl
  have HD := Lib.hid hD
  have HS : Hid (∀ W, W.heap[w.heap.size]? = some (.cells ⟨rowN D⟩ 51 (0, 0)) → Calls Try.prog 35 #[.slice (some ⟨w.heap.size, 0, none⟩) L.length L.length, .func (.func 36) #[] #[]] W fun e w' => e = .returned (.tuple #[]) ∧ Hid (∃ M : List Nat, SortedM A L M ∧ (∀ i x, (M.map (nodeF A))[i]? = some x → w'.cell? ⟨w.heap.size, i * 2, none⟩ = some (.int .i32 x.1) ∧ w'.cell? ⟨w.heap.size, i * 2 + 1, none⟩ = some (.int .i64 x.2)) ∧ Gr (fun k => k ≠ w.heap.size) W w')) := fun W hW => by
    have := sort_any D L.length w.heap.size W hW (by omega)
    rw [hDl] at this
    refine this.mono fun e w' ⟨e1, D', p1, p2, p3, p4⟩ => ⟨e1, ?_⟩
    rw [← hD] at p1
    obtain ⟨M, q1, q2⟩ := unmap p1
    subst q2
    exact ⟨M, sortedM_of hn (fun x hx => by have := H.lt x hx; omega) q1 p2, p3, p4⟩
  clear H hD hDl
  go_enter Try.func26, Try.ntmps26
  go_wp2_with (first | (go_at_call 34; with_reducible refine HM.out.mono ?_; rintro e w1 ⟨rfl, rfl⟩))
  have HR0 : Hid ((w.alloc (.cells ⟨rowN (List.replicate L.length (0, 0))⟩ 51)).heap[w.heap.size]? = some (.cells ⟨rowN (fillTo (0, 0) D 0)⟩ 51 (0, 0)) ∧ Below w.heap.size w (w.alloc (.cells ⟨rowN (List.replicate L.length (0, 0))⟩ 51))) := ⟨by rw [fillTo_zero, HDL.out]; exact heap_alloc_new _ _, (Below.refl _ w).alloc (Nat.le_refl _) _⟩
  go_loopw [29] (fun iv wr => ∃ i : Nat, iv = .int .i64 i ∧ i ≤ L.length ∧ Hid (wr.heap[w.heap.size]? = some (.cells ⟨rowN (fillTo (0, 0) D i)⟩ 51 (0, 0)) ∧ Below w.heap.size w wr)) (fun iv _ => L.length - (intOf iv).toNat)
  case atStart => exact ⟨0, rfl, by omega, HR0⟩
  case round =>
    clear HR0 c c0 c1 HM
    obtain ⟨i, rfl, hi, HR⟩ := hrel
    by_cases hin : i < L.length
    · have HW := HH.out.below HR.out.2
      have e1 := (HW.inc hin).1
      have hx := HW.lt _ (nodeAt_mem hin)
      obtain ⟨x, hxe⟩ : ∃ x, nodeAt L i = x := ⟨_, rfl⟩
      rw [hxe] at e1 hx
      have f0 := HW.id hx
      have f1 := HW.ac hx
      have hDi : D[i]? = some (nodeF A x) := by rw [← HD.out, List.getElem?_map, nodeAt_get hin, hxe]; rfl
      have hlb := fillTo_len ((0, 0) : Int × Int) D (i := i) (by rw [HDL.out]; omega)
      have e2 : ∀ j, j < 2 → ∃ v, wr.cell? ⟨w.heap.size, i * 2 + j, none⟩ = some v := fun j hj => by
        rw [cell_of_row wr _ _ _ _ _ HR.out.1, ← Array.getElem?_toList]
        exact ⟨_, List.getElem?_eq_getElem (by show i * 2 + j < (rowN (fillTo (0, 0) D i)).length; rw [rowN_len, hlb, HDL.out]; omega)⟩
      have f : ∀ j, wr.frozen? ⟨w.heap.size, j, none⟩ = false := fun j => by simp [World.frozen?, HR.out.1]
      obtain ⟨v0, d0⟩ := e2 0 (by omega)
      obtain ⟨v1, d1⟩ := e2 1 (by omega)
      rw [Nat.add_zero] at d0
      have g0 := f (i * 2)
      have g1 := f (i * 2 + 1)
      have hb := (Array.getElem?_eq_some_iff.1 HR.out.1).1
      have hini : (i : Int) < (L.length : Int) := by omega
      obtain ⟨a, ha⟩ : ∃ a, A.getD x 0 = a := ⟨_, rfl⟩
      rw [ha] at f1
      have HN : Hid (((wr.setCell ⟨w.heap.size, i * 2, none⟩ (.int .i32 x)).setCell ⟨w.heap.size, i * 2 + 1, none⟩ (.int .i64 a)).heap[w.heap.size]? = some (.cells ⟨rowN (fillTo (0, 0) D (i + 1))⟩ 51 (0, 0)) ∧ Below w.heap.size w ((wr.setCell ⟨w.heap.size, i * 2, none⟩ (.int .i32 x)).setCell ⟨w.heap.size, i * 2 + 1, none⟩ (.int .i64 a))) := by
        have := node_set HR.out.1 (by rw [hlb, HDL.out]; exact hin) (nodeF A x)
        rw [fillTo_set _ hDi] at this
        rw [← ha]
        exact ⟨this, (HR.out.2.setCell (Nat.le_refl _) _).setCell (Nat.le_refl _) _⟩
      have hne : nb ≠ w.heap.size := by omega
      clear HR e2 f HW hDi hlb ha hxe hx
      go_wp2
      go_roundw
      case rel => exact ⟨i + 1, by go_num, by omega, HN⟩
      case measure => simp [intOf]; omega
    · have hni : ¬ (i : Int) < (L.length : Int) := by omega
      have hie : i = L.length := by omega
      have HE : Hid (wr.heap[w.heap.size]? = some (.cells ⟨rowN D⟩ 51 (0, 0)) ∧ Below w.heap.size w wr) := by
        have := HR.out
        rw [hie, ← HDL.out, fillTo_end] at this
        exact this
      have HS1 := Lib.hid (HS.out wr HE.out.1)
      obtain ⟨U0, hU0⟩ : ∃ U, wr = U := ⟨_, rfl⟩
      have hsz := HE.out.2.size
      have hsz1 := (Array.getElem?_eq_some_iff.1 HE.out.1).1
      rw [hU0] at HE HS1 hsz hsz1 ⊢
      clear HR HS hie hU0
      go_wp2_with (first | (go_at_call 35; with_reducible refine HS1.out.mono ?_; rintro e w2 ⟨rfl, HM⟩))
      obtain ⟨M, hM1, hM2, hM3⟩ := HM.out
      have hMl : M.length = L.length := hM1.1.length_eq
      have hw2 := hM3.size
      obtain ⟨Z, hZ⟩ : ∃ Z : List Int, M.map (fun x : Nat => (x : Int)) = Z := ⟨_, rfl⟩
      have HZl : Hid (Z.length = L.length) := by show _ = _; rw [← hZ, List.length_map, hMl]
      have HZ := Lib.hid hZ
      have HR0 : Hid ((w2.alloc (.cells ⟨rowI (List.replicate L.length 0)⟩ 3)).heap[w2.heap.size]? = some (.cells ⟨rowI (fillTo 0 Z 0)⟩ 3 (0, 0)) ∧ Gr (fun k => k ≠ w2.heap.size) w2 (w2.alloc (.cells ⟨rowI (List.replicate L.length 0)⟩ 3))) := ⟨by rw [fillTo_zero, HZl.out]; exact heap_alloc_new _ _, (Gr.refl _ w2).alloc _⟩
      have HMM := Lib.hid (show SortedM A L M ∧ (∀ i x, (M.map (nodeF A))[i]? = some x → w2.cell? ⟨w.heap.size, i * 2, none⟩ = some (.int .i32 x.1) ∧ w2.cell? ⟨w.heap.size, i * 2 + 1, none⟩ = some (.int .i64 x.2)) ∧ Gr (fun k => k ≠ w.heap.size) U0 w2 ∧ M.length = L.length from ⟨hM1, hM2, hM3, hMl⟩)
      have hs2 : w.heap.size < w2.heap.size := by omega
      clear hM1 hM2 hM3 hMl hZ HM
      go_loopw [49] (fun iv wr => ∃ i : Nat, iv = .int .i64 i ∧ i ≤ L.length ∧ Hid (wr.heap[w2.heap.size]? = some (.cells ⟨rowI (fillTo 0 Z i)⟩ 3 (0, 0)) ∧ Gr (fun k => k ≠ w2.heap.size) w2 wr)) (fun iv _ => L.length - (intOf iv).toNat)
      case atStart => exact ⟨0, rfl, by omega, HR0⟩
      case round =>
        clear HR0 hni hin
        obtain ⟨i, rfl, hi, HR⟩ := hrel
        by_cases hin : i < L.length
        · have hiM : i < M.length := by rw [HMM.out.2.2.2]; exact hin
          obtain ⟨x, hxe⟩ : ∃ x, nodeAt M i = x := ⟨_, rfl⟩
          have hMi : M[i]? = some x := by rw [← hxe]; exact nodeAt_get hiM
          obtain ⟨q1, q2⟩ := HMM.out.2.1 i _ (pair_nth hMi)
          have hk := HR.out.2.keep w.heap.size (by omega) (by show w.heap.size ≠ w2.heap.size; omega)
          have e0 : wr.cell? ⟨w.heap.size, i * 2, none⟩ = some (.int .i32 x) := (World.cell?_of_block (a := ⟨w.heap.size, i * 2, none⟩) hk).trans q1
          have e1 : wr.cell? ⟨w.heap.size, i * 2 + 1, none⟩ = some (.int .i64 (A.getD x 0)) := (World.cell?_of_block (a := ⟨w.heap.size, i * 2 + 1, none⟩) hk).trans q2
          obtain ⟨a, ha⟩ : ∃ a, A.getD x 0 = a := ⟨_, rfl⟩
          rw [ha] at e1
          have hlz := fillTo_len (0 : Int) Z (i := i) (by rw [HZl.out]; omega)
          obtain ⟨v0, d0⟩ : ∃ v, wr.cell? ⟨w2.heap.size, i, none⟩ = some v := by
            rw [cell_of_row wr _ _ _ _ _ HR.out.1, ← Array.getElem?_toList]
            exact ⟨_, List.getElem?_eq_getElem (by show i < (rowI (fillTo 0 Z i)).length; unfold rowI; rw [List.length_map, hlz, HZl.out]; exact hin)⟩
          have g0 : wr.frozen? ⟨w2.heap.size, i, none⟩ = false := by simp [World.frozen?, HR.out.1]
          have hb := (Array.getElem?_eq_some_iff.1 HR.out.1).1
          have hini : (i : Int) < (L.length : Int) := by omega
          have hx3 : (x : Int) ≤ 300 := by
            have := HH.out.lt x (HMM.out.1.1.mem_iff.1 (List.mem_of_getElem? hMi))
            omega
          have HN : Hid (((wr.setCell ⟨w2.heap.size, i, none⟩ (.int .i64 x)).alloc (.cells #[.int .i32 x, .int .i64 a] 51)).heap[w2.heap.size]? = some (.cells ⟨rowI (fillTo 0 Z (i + 1))⟩ 3 (0, 0)) ∧ Gr (fun k => k ≠ w2.heap.size) w2 ((wr.setCell ⟨w2.heap.size, i, none⟩ (.int .i64 x)).alloc (.cells #[.int .i32 x, .int .i64 a] 51))) := by
            have h1 := heap_setCell_same wr w2.heap.size i _ _ (.int .i64 x) HR.out.1
            have hZi : Z[i]? = some (x : Int) := by rw [← HZ.out, List.getElem?_map, hMi]; rfl
            rw [List.setIfInBounds_toArray, rowI_set, fillTo_set _ hZi] at h1
            exact ⟨(Below.heap_alloc _ _ _ (by simpa using hb)).trans h1, (HR.out.2.set (fun _ e => e rfl) _).alloc _⟩
          have hne : w.heap.size ≠ w2.heap.size := by omega
          clear HR hk q1 q2 hMi hxe ha hlz
          go_wp2
          go_roundw
          case rel => exact ⟨i + 1, by go_num, by omega, HN⟩
          case measure => simp [intOf]; omega
        · have hni : ¬ (i : Int) < (L.length : Int) := by omega
          have hie : i = L.length := by omega
          have HF : Hid (SortedP A L w (.returned (.slice (some ⟨w2.heap.size, 0, none⟩) L.length L.length)) wr) := by
            refine ⟨w2.heap.size, M, rfl, HMM.out.1, by omega, ?_, ?_⟩
            · have := HR.out.1
              rw [hie, ← HZl.out, fillTo_end, ← HZ.out] at this
              exact this
            · have h1 : Gr (fun k => k < w.heap.size) U0 w2 := HMM.out.2.2.1.mono (fun k _ hk => by show k ≠ w.heap.size; omega)
              have h2 : Gr (fun k => k < w.heap.size) w2 wr := HR.out.2.mono (fun k _ hk => by show k ≠ w2.heap.size; omega)
              have h3 := (h1.trans h2)
              exact ⟨h3.os.trans HE.out.2.os, h3.tape.trans HE.out.2.tape, h3.output.trans HE.out.2.output, Nat.le_trans HE.out.2.size h3.size, fun k hk => (h3.keep k (by omega) hk).trans (HE.out.2.block k hk)⟩
          clear HR
          go_wp2
          go_ret
          exact HF.out
end
end Go.Proofs.Ytmgppnepccmceaa
