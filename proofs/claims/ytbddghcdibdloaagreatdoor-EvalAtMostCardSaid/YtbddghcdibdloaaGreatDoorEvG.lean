/- Package eval's of, at a node of each kind that wakes has. -/
import Derived.Test.YtbddghcdibdloaaGreatDoorEvF
namespace Go.Proofs.YtbddghcdibdloaaGreatDoor
open Go.RowKit
set_option linter.unusedVariables false
theorem found_size : (Tryz.prog.info? 68).map (·.size) = some 2 := by kernel_rfl
theorem set2 {w : World} {b : Nat} {t : TypeId} {a0 a1 v0 v1 : Value} (h : w.heap[b]? = some (.cells #[a0, a1] t (0, 0))) :
    ((w.setCell ⟨b, 0, none⟩ v0).setCell ⟨b, 1, none⟩ v1).heap[b]? = some (.cells #[v0, v1] t (0, 0)) := by
  simp [World.setCell, Array.getElem?_modify, h]
theorem heap_push (w : World) (o : Obj) (k : Nat) : (w.alloc o).heap[k]? = if k = w.heap.size then some o else w.heap[k]? := by
  show (w.heap.push o)[k]? = _
  rw [Array.getElem?_push]
def OfPost (w : World) (v : Int) (e : Ending) (w' : World) : Prop := e = .returned (.agg #[.int .i64 v, .bool false]) ∧ Below w.heap.size w w'
set_option maxRecDepth 100000 in
set_option maxHeartbeats 4000000 in
theorem of_true (p0 p1 p2 p3 p4 p5 p6 p7 p8 p9 p10 p12 bg bw : Nat) (lv : Value) (w : World) (hC : ∀ V, Below w.heap.size w V → Calls Tryz.prog 44 #[.agg #[.int .i8 0, .int .i8 0, .int .i64 0, .int .i64 0, .int .i64 0, .int .i64 0, .int .i64 0, .int .i64 0], .agg #[.int .i64 0, .int .i64 0, .int .i64 0], .pointer (some ⟨p0, 0, none⟩)] V (ApPost V 1)) :
    Calls Tryz.prog 38 #[.agg #[.func (.func 44) #[] #[.pointer (some ⟨p0, 0, none⟩)], .func (.func 44) #[] #[.pointer (some ⟨p1, 0, none⟩)], .func (.func 44) #[] #[.pointer (some ⟨p2, 0, none⟩)], .func (.func 44) #[] #[.pointer (some ⟨p3, 0, none⟩)], .func (.func 44) #[] #[.pointer (some ⟨p4, 0, none⟩)], .func (.func 44) #[] #[.pointer (some ⟨p5, 0, none⟩)], .func (.func 44) #[] #[.pointer (some ⟨p6, 0, none⟩)], .func (.func 44) #[] #[.pointer (some ⟨p7, 0, none⟩)], .func (.func 44) #[] #[.pointer (some ⟨p8, 0, none⟩)], .func (.func 44) #[] #[.pointer (some ⟨p9, 0, none⟩)], .func (.func 44) #[] #[.pointer (some ⟨p10, 0, none⟩)], .func (.func 32) #[] #[], .func (.func 44) #[] #[.pointer (some ⟨p12, 0, none⟩)], .func (.func 35) #[] #[.pointer (some ⟨bg, 0, none⟩), .pointer (some ⟨bw, 0, none⟩)]], .agg #[.int .i8 0, .int .i8 0, .int .i64 0, .int .i64 0, .int .i64 0, .int .i64 0, .int .i64 0, .int .i64 0], lv] w (OfPost w 1) := by
  obtain ⟨W0, hW0⟩ : ∃ W0, W0 = ((((w.alloc (.cells #[.func (.func 44) #[] #[.pointer (some ⟨p0, 0, none⟩)], .func (.func 44) #[] #[.pointer (some ⟨p1, 0, none⟩)], .func (.func 44) #[] #[.pointer (some ⟨p2, 0, none⟩)], .func (.func 44) #[] #[.pointer (some ⟨p3, 0, none⟩)], .func (.func 44) #[] #[.pointer (some ⟨p4, 0, none⟩)], .func (.func 44) #[] #[.pointer (some ⟨p5, 0, none⟩)], .func (.func 44) #[] #[.pointer (some ⟨p6, 0, none⟩)], .func (.func 44) #[] #[.pointer (some ⟨p7, 0, none⟩)], .func (.func 44) #[] #[.pointer (some ⟨p8, 0, none⟩)], .func (.func 44) #[] #[.pointer (some ⟨p9, 0, none⟩)], .func (.func 44) #[] #[.pointer (some ⟨p10, 0, none⟩)], .func (.func 32) #[] #[], .func (.func 44) #[] #[.pointer (some ⟨p12, 0, none⟩)], .func (.func 35) #[] #[.pointer (some ⟨bg, 0, none⟩), .pointer (some ⟨bw, 0, none⟩)]] 64)).alloc (.cells #[.int .i8 0, .int .i8 0, .int .i64 0, .int .i64 0, .int .i64 0, .int .i64 0, .int .i64 0, .int .i64 0] 41)).alloc (.cells #[.int .i64 0, .bool false] 68)).alloc (.cells #[.int .i64 0, .int .i64 0, .int .i64 0] 72)) := ⟨_, rfl⟩
  have hB0 : Below w.heap.size w W0 := by rw [hW0]; exact ((((Below.refl _ _).alloc (Nat.le_refl _) _).alloc (by simp) _).alloc (by simp; omega) _).alloc (by simp; omega) _
  have hz0 : W0.heap.size = w.heap.size + 4 := by rw [hW0]; simp
  have hK : W0.heap[w.heap.size]? = some (.cells #[.func (.func 44) #[] #[.pointer (some ⟨p0, 0, none⟩)], .func (.func 44) #[] #[.pointer (some ⟨p1, 0, none⟩)], .func (.func 44) #[] #[.pointer (some ⟨p2, 0, none⟩)], .func (.func 44) #[] #[.pointer (some ⟨p3, 0, none⟩)], .func (.func 44) #[] #[.pointer (some ⟨p4, 0, none⟩)], .func (.func 44) #[] #[.pointer (some ⟨p5, 0, none⟩)], .func (.func 44) #[] #[.pointer (some ⟨p6, 0, none⟩)], .func (.func 44) #[] #[.pointer (some ⟨p7, 0, none⟩)], .func (.func 44) #[] #[.pointer (some ⟨p8, 0, none⟩)], .func (.func 44) #[] #[.pointer (some ⟨p9, 0, none⟩)], .func (.func 44) #[] #[.pointer (some ⟨p10, 0, none⟩)], .func (.func 32) #[] #[], .func (.func 44) #[] #[.pointer (some ⟨p12, 0, none⟩)], .func (.func 35) #[] #[.pointer (some ⟨bg, 0, none⟩), .pointer (some ⟨bw, 0, none⟩)]] 64 (0, 0)) := by rw [hW0, heap_push, if_neg (by simp <;> omega), heap_push, if_neg (by simp <;> omega), heap_push, if_neg (by simp), heap_push, if_pos rfl]
  have hN : W0.heap[w.heap.size + 1]? = some (.cells #[.int .i8 0, .int .i8 0, .int .i64 0, .int .i64 0, .int .i64 0, .int .i64 0, .int .i64 0, .int .i64 0] 41 (0, 0)) := by rw [hW0, heap_push, if_neg (by simp <;> omega), heap_push, if_neg (by simp), heap_push, if_pos (by simp)]
  have hF : W0.heap[w.heap.size + 1 + 1]? = some (.cells #[.int .i64 0, .bool false] 68 (0, 0)) := by rw [hW0, heap_push, if_neg (by simp), heap_push, if_pos (by simp)]
  have hA : W0.heap[w.heap.size + 1 + 1 + 1]? = some (.cells #[.int .i64 0, .int .i64 0, .int .i64 0] 72 (0, 0)) := by rw [hW0, heap_push, if_pos (by simp)]
  have HK : Hid (∀ V, Below W0.heap.size W0 V → V.cell? ⟨w.heap.size, 0, none⟩ = some (.func (.func 44) #[] #[.pointer (some ⟨p0, 0, none⟩)]) ∧ V.cell? ⟨w.heap.size + 1, 0, none⟩ = some (.int .i8 0) ∧ V.cell? ⟨w.heap.size + 1, 1, none⟩ = some (.int .i8 0) ∧ V.cell? ⟨w.heap.size + 1, 2, none⟩ = some (.int .i64 0) ∧ V.cell? ⟨w.heap.size + 1, 3, none⟩ = some (.int .i64 0) ∧ V.cell? ⟨w.heap.size + 1, 4, none⟩ = some (.int .i64 0) ∧ V.cell? ⟨w.heap.size + 1, 5, none⟩ = some (.int .i64 0) ∧ V.cell? ⟨w.heap.size + 1, 6, none⟩ = some (.int .i64 0) ∧ V.cell? ⟨w.heap.size + 1, 7, none⟩ = some (.int .i64 0) ∧ V.cell? ⟨w.heap.size + 1 + 1 + 1, 0, none⟩ = some (.int .i64 0) ∧ V.cell? ⟨w.heap.size + 1 + 1 + 1, 1, none⟩ = some (.int .i64 0) ∧ V.cell? ⟨w.heap.size + 1 + 1 + 1, 2, none⟩ = some (.int .i64 0)) := fun V hV => by
    have hx := (hV.block _ (by omega)).trans hK
    have hy := (hV.block _ (by omega)).trans hN
    have hz := (hV.block _ (by omega)).trans hA
    have k0 := cell_of_row _ _ 0 _ _ _ hx
    have n0 := cell_of_row _ _ 0 _ _ _ hy
    have n1 := cell_of_row _ _ 1 _ _ _ hy
    have n2 := cell_of_row _ _ 2 _ _ _ hy
    have n3 := cell_of_row _ _ 3 _ _ _ hy
    have n4 := cell_of_row _ _ 4 _ _ _ hy
    have n5 := cell_of_row _ _ 5 _ _ _ hy
    have n6 := cell_of_row _ _ 6 _ _ _ hy
    have n7 := cell_of_row _ _ 7 _ _ _ hy
    have a0 := cell_of_row _ _ 0 _ _ _ hz
    have a1 := cell_of_row _ _ 1 _ _ _ hz
    have a2 := cell_of_row _ _ 2 _ _ _ hz
    simp only [List.getElem?_toArray, List.getElem?_cons_zero, List.getElem?_cons_succ] at k0 n0 n1 n2 n3 n4 n5 n6 n7 a0 a1 a2
    exact ⟨k0, n0, n1, n2, n3, n4, n5, n6, n7, a0, a1, a2⟩
  have HF := Lib.hid hF
  have HB0 := Lib.hid hB0
  have HC := Lib.hid hC
  clear hB0 hK hN hF hA hC
  go_enter Tryz.func38, Tryz.ntmps38
  go_wp2_with fail
  rw [← hW0]
  clear hW0
  go_loopw [17] (fun i wr => i = .int .i64 0 ∧ W0 = wr) (fun _ _ => 0)
  case atStart => exact ⟨rfl, rfl⟩
  case round =>
    obtain ⟨rfl, rfl⟩ := hrel
    obtain ⟨k0, n0, n1, n2, n3, n4, n5, n6, n7, a0, a1, a2⟩ := HK.out W0 (Below.refl _ _)
    have hlt0 : w.heap.size + 1 + 1 + 1 < W0.heap.size := by omega
    go_wp2_with fail
    go_region_held3 (fun V => V.cell? ⟨w.heap.size, 0, none⟩ = some (.func (.func 44) #[] #[.pointer (some ⟨p0, 0, none⟩)]) ∧ V.cell? ⟨w.heap.size + 1, 0, none⟩ = some (.int .i8 0) ∧ V.cell? ⟨w.heap.size + 1, 1, none⟩ = some (.int .i8 0) ∧ V.cell? ⟨w.heap.size + 1, 2, none⟩ = some (.int .i64 0) ∧ V.cell? ⟨w.heap.size + 1, 3, none⟩ = some (.int .i64 0) ∧ V.cell? ⟨w.heap.size + 1, 4, none⟩ = some (.int .i64 0) ∧ V.cell? ⟨w.heap.size + 1, 5, none⟩ = some (.int .i64 0) ∧ V.cell? ⟨w.heap.size + 1, 6, none⟩ = some (.int .i64 0) ∧ V.cell? ⟨w.heap.size + 1, 7, none⟩ = some (.int .i64 0) ∧ V.cell? ⟨w.heap.size + 1 + 1 + 1, 0, none⟩ = some (.int .i64 0) ∧ V.cell? ⟨w.heap.size + 1 + 1 + 1, 1, none⟩ = some (.int .i64 0) ∧ V.cell? ⟨w.heap.size + 1 + 1 + 1, 2, none⟩ = some (.int .i64 0))
      (first | with_reducible exact HK.out _ (by assumption) | exact HK.out _ (Below.refl _ _) | exact HK.out _ (Below.refl _ _).drew)
      (first | (go_at_call 44; refine (HC.out _ HB0.out.drew).mono ?_; rintro e w2 ⟨rfl, hb2⟩; have hb3 : Below W0.heap.size W0 w2 := (Below.refl W0.heap.size W0).drew.trans hb2; clear hb2))
    have hf2 := (hb3.block _ (by omega)).trans HF.out
    have hz2 := hb3.size
    have f0 := cell_of_row _ _ 0 _ _ _ hf2
    have f1 := cell_of_row _ _ 1 _ _ _ hf2
    simp only [List.getElem?_toArray, List.getElem?_cons_zero, List.getElem?_cons_succ] at f0 f1
    have ff : ∀ i, w2.frozen? ⟨w.heap.size + 1 + 1, i, none⟩ = false := fun i => by simp [World.frozen?, hf2]
    have HF2 := Lib.hid hf2
    have hlt2 : w.heap.size + 1 + 1 + 1 < w2.heap.size := by omega
    clear hf2 k0 n0 n1 n2 n3 n4 n5 n6 n7 a0 a1 a2
    go_wp2
    refine bodyPost_ret (results_cell_row rfl _ _ (w.heap.size + 1 + 1) _ _ _ _ rfl (set2 HF2.out) Tryz.underlying68 rfl found_size) rfl ?_
    exact ⟨rfl, (((HB0.out.trans (hb3.mono (by omega))).setCell (p := ⟨w.heap.size + 1 + 1, 0, none⟩) (by simp; omega) _).setCell (p := ⟨w.heap.size + 1 + 1, 1, none⟩) (by simp; omega) _)⟩
set_option maxRecDepth 100000 in
set_option maxHeartbeats 4000000 in
theorem of_zero (p0 p1 p2 p3 p4 p5 p6 p7 p8 p9 p10 p12 bg bw : Nat) (lv : Value) (w : World) (hC : ∀ V, Below w.heap.size w V → Calls Tryz.prog 44 #[.agg #[.int .i8 10, .int .i8 0, .int .i64 0, .int .i64 0, .int .i64 0, .int .i64 1, .int .i64 0, .int .i64 0], .agg #[.int .i64 0, .int .i64 0, .int .i64 0], .pointer (some ⟨p10, 0, none⟩)] V (ApPost V 0)) :
    Calls Tryz.prog 38 #[.agg #[.func (.func 44) #[] #[.pointer (some ⟨p0, 0, none⟩)], .func (.func 44) #[] #[.pointer (some ⟨p1, 0, none⟩)], .func (.func 44) #[] #[.pointer (some ⟨p2, 0, none⟩)], .func (.func 44) #[] #[.pointer (some ⟨p3, 0, none⟩)], .func (.func 44) #[] #[.pointer (some ⟨p4, 0, none⟩)], .func (.func 44) #[] #[.pointer (some ⟨p5, 0, none⟩)], .func (.func 44) #[] #[.pointer (some ⟨p6, 0, none⟩)], .func (.func 44) #[] #[.pointer (some ⟨p7, 0, none⟩)], .func (.func 44) #[] #[.pointer (some ⟨p8, 0, none⟩)], .func (.func 44) #[] #[.pointer (some ⟨p9, 0, none⟩)], .func (.func 44) #[] #[.pointer (some ⟨p10, 0, none⟩)], .func (.func 32) #[] #[], .func (.func 44) #[] #[.pointer (some ⟨p12, 0, none⟩)], .func (.func 35) #[] #[.pointer (some ⟨bg, 0, none⟩), .pointer (some ⟨bw, 0, none⟩)]], .agg #[.int .i8 10, .int .i8 0, .int .i64 0, .int .i64 0, .int .i64 0, .int .i64 1, .int .i64 0, .int .i64 0], lv] w (OfPost w 0) := by
  obtain ⟨W0, hW0⟩ : ∃ W0, W0 = ((((w.alloc (.cells #[.func (.func 44) #[] #[.pointer (some ⟨p0, 0, none⟩)], .func (.func 44) #[] #[.pointer (some ⟨p1, 0, none⟩)], .func (.func 44) #[] #[.pointer (some ⟨p2, 0, none⟩)], .func (.func 44) #[] #[.pointer (some ⟨p3, 0, none⟩)], .func (.func 44) #[] #[.pointer (some ⟨p4, 0, none⟩)], .func (.func 44) #[] #[.pointer (some ⟨p5, 0, none⟩)], .func (.func 44) #[] #[.pointer (some ⟨p6, 0, none⟩)], .func (.func 44) #[] #[.pointer (some ⟨p7, 0, none⟩)], .func (.func 44) #[] #[.pointer (some ⟨p8, 0, none⟩)], .func (.func 44) #[] #[.pointer (some ⟨p9, 0, none⟩)], .func (.func 44) #[] #[.pointer (some ⟨p10, 0, none⟩)], .func (.func 32) #[] #[], .func (.func 44) #[] #[.pointer (some ⟨p12, 0, none⟩)], .func (.func 35) #[] #[.pointer (some ⟨bg, 0, none⟩), .pointer (some ⟨bw, 0, none⟩)]] 64)).alloc (.cells #[.int .i8 10, .int .i8 0, .int .i64 0, .int .i64 0, .int .i64 0, .int .i64 1, .int .i64 0, .int .i64 0] 41)).alloc (.cells #[.int .i64 0, .bool false] 68)).alloc (.cells #[.int .i64 0, .int .i64 0, .int .i64 0] 72)) := ⟨_, rfl⟩
  have hB0 : Below w.heap.size w W0 := by rw [hW0]; exact ((((Below.refl _ _).alloc (Nat.le_refl _) _).alloc (by simp) _).alloc (by simp; omega) _).alloc (by simp; omega) _
  have hz0 : W0.heap.size = w.heap.size + 4 := by rw [hW0]; simp
  have hK : W0.heap[w.heap.size]? = some (.cells #[.func (.func 44) #[] #[.pointer (some ⟨p0, 0, none⟩)], .func (.func 44) #[] #[.pointer (some ⟨p1, 0, none⟩)], .func (.func 44) #[] #[.pointer (some ⟨p2, 0, none⟩)], .func (.func 44) #[] #[.pointer (some ⟨p3, 0, none⟩)], .func (.func 44) #[] #[.pointer (some ⟨p4, 0, none⟩)], .func (.func 44) #[] #[.pointer (some ⟨p5, 0, none⟩)], .func (.func 44) #[] #[.pointer (some ⟨p6, 0, none⟩)], .func (.func 44) #[] #[.pointer (some ⟨p7, 0, none⟩)], .func (.func 44) #[] #[.pointer (some ⟨p8, 0, none⟩)], .func (.func 44) #[] #[.pointer (some ⟨p9, 0, none⟩)], .func (.func 44) #[] #[.pointer (some ⟨p10, 0, none⟩)], .func (.func 32) #[] #[], .func (.func 44) #[] #[.pointer (some ⟨p12, 0, none⟩)], .func (.func 35) #[] #[.pointer (some ⟨bg, 0, none⟩), .pointer (some ⟨bw, 0, none⟩)]] 64 (0, 0)) := by rw [hW0, heap_push, if_neg (by simp <;> omega), heap_push, if_neg (by simp <;> omega), heap_push, if_neg (by simp), heap_push, if_pos rfl]
  have hN : W0.heap[w.heap.size + 1]? = some (.cells #[.int .i8 10, .int .i8 0, .int .i64 0, .int .i64 0, .int .i64 0, .int .i64 1, .int .i64 0, .int .i64 0] 41 (0, 0)) := by rw [hW0, heap_push, if_neg (by simp <;> omega), heap_push, if_neg (by simp), heap_push, if_pos (by simp)]
  have hF : W0.heap[w.heap.size + 1 + 1]? = some (.cells #[.int .i64 0, .bool false] 68 (0, 0)) := by rw [hW0, heap_push, if_neg (by simp), heap_push, if_pos (by simp)]
  have hA : W0.heap[w.heap.size + 1 + 1 + 1]? = some (.cells #[.int .i64 0, .int .i64 0, .int .i64 0] 72 (0, 0)) := by rw [hW0, heap_push, if_pos (by simp)]
  have HK : Hid (∀ V, Below W0.heap.size W0 V → V.cell? ⟨w.heap.size, 10, none⟩ = some (.func (.func 44) #[] #[.pointer (some ⟨p10, 0, none⟩)]) ∧ V.cell? ⟨w.heap.size + 1, 0, none⟩ = some (.int .i8 10) ∧ V.cell? ⟨w.heap.size + 1, 1, none⟩ = some (.int .i8 0) ∧ V.cell? ⟨w.heap.size + 1, 2, none⟩ = some (.int .i64 0) ∧ V.cell? ⟨w.heap.size + 1, 3, none⟩ = some (.int .i64 0) ∧ V.cell? ⟨w.heap.size + 1, 4, none⟩ = some (.int .i64 0) ∧ V.cell? ⟨w.heap.size + 1, 5, none⟩ = some (.int .i64 1) ∧ V.cell? ⟨w.heap.size + 1, 6, none⟩ = some (.int .i64 0) ∧ V.cell? ⟨w.heap.size + 1, 7, none⟩ = some (.int .i64 0) ∧ V.cell? ⟨w.heap.size + 1 + 1 + 1, 0, none⟩ = some (.int .i64 0) ∧ V.cell? ⟨w.heap.size + 1 + 1 + 1, 1, none⟩ = some (.int .i64 0) ∧ V.cell? ⟨w.heap.size + 1 + 1 + 1, 2, none⟩ = some (.int .i64 0)) := fun V hV => by
    have hx := (hV.block _ (by omega)).trans hK
    have hy := (hV.block _ (by omega)).trans hN
    have hz := (hV.block _ (by omega)).trans hA
    have k0 := cell_of_row _ _ 10 _ _ _ hx
    have n0 := cell_of_row _ _ 0 _ _ _ hy
    have n1 := cell_of_row _ _ 1 _ _ _ hy
    have n2 := cell_of_row _ _ 2 _ _ _ hy
    have n3 := cell_of_row _ _ 3 _ _ _ hy
    have n4 := cell_of_row _ _ 4 _ _ _ hy
    have n5 := cell_of_row _ _ 5 _ _ _ hy
    have n6 := cell_of_row _ _ 6 _ _ _ hy
    have n7 := cell_of_row _ _ 7 _ _ _ hy
    have a0 := cell_of_row _ _ 0 _ _ _ hz
    have a1 := cell_of_row _ _ 1 _ _ _ hz
    have a2 := cell_of_row _ _ 2 _ _ _ hz
    simp only [List.getElem?_toArray, List.getElem?_cons_zero, List.getElem?_cons_succ] at k0 n0 n1 n2 n3 n4 n5 n6 n7 a0 a1 a2
    exact ⟨k0, n0, n1, n2, n3, n4, n5, n6, n7, a0, a1, a2⟩
  have HF := Lib.hid hF
  have HB0 := Lib.hid hB0
  have HC := Lib.hid hC
  clear hB0 hK hN hF hA hC
  go_enter Tryz.func38, Tryz.ntmps38
  go_wp2_with fail
  rw [← hW0]
  clear hW0
  go_loopw [17] (fun i wr => i = .int .i64 0 ∧ W0 = wr) (fun _ _ => 0)
  case atStart => exact ⟨rfl, rfl⟩
  case round =>
    obtain ⟨rfl, rfl⟩ := hrel
    obtain ⟨k0, n0, n1, n2, n3, n4, n5, n6, n7, a0, a1, a2⟩ := HK.out W0 (Below.refl _ _)
    have hlt0 : w.heap.size + 1 + 1 + 1 < W0.heap.size := by omega
    go_wp2_with fail
    go_region_held3 (fun V => V.cell? ⟨w.heap.size, 10, none⟩ = some (.func (.func 44) #[] #[.pointer (some ⟨p10, 0, none⟩)]) ∧ V.cell? ⟨w.heap.size + 1, 0, none⟩ = some (.int .i8 10) ∧ V.cell? ⟨w.heap.size + 1, 1, none⟩ = some (.int .i8 0) ∧ V.cell? ⟨w.heap.size + 1, 2, none⟩ = some (.int .i64 0) ∧ V.cell? ⟨w.heap.size + 1, 3, none⟩ = some (.int .i64 0) ∧ V.cell? ⟨w.heap.size + 1, 4, none⟩ = some (.int .i64 0) ∧ V.cell? ⟨w.heap.size + 1, 5, none⟩ = some (.int .i64 1) ∧ V.cell? ⟨w.heap.size + 1, 6, none⟩ = some (.int .i64 0) ∧ V.cell? ⟨w.heap.size + 1, 7, none⟩ = some (.int .i64 0) ∧ V.cell? ⟨w.heap.size + 1 + 1 + 1, 0, none⟩ = some (.int .i64 0) ∧ V.cell? ⟨w.heap.size + 1 + 1 + 1, 1, none⟩ = some (.int .i64 0) ∧ V.cell? ⟨w.heap.size + 1 + 1 + 1, 2, none⟩ = some (.int .i64 0))
      (first | with_reducible exact HK.out _ (by assumption) | exact HK.out _ (Below.refl _ _) | exact HK.out _ (Below.refl _ _).drew)
      (first | (go_at_call 44; refine (HC.out _ HB0.out.drew).mono ?_; rintro e w2 ⟨rfl, hb2⟩; have hb3 : Below W0.heap.size W0 w2 := (Below.refl W0.heap.size W0).drew.trans hb2; clear hb2))
    have hf2 := (hb3.block _ (by omega)).trans HF.out
    have hz2 := hb3.size
    have f0 := cell_of_row _ _ 0 _ _ _ hf2
    have f1 := cell_of_row _ _ 1 _ _ _ hf2
    simp only [List.getElem?_toArray, List.getElem?_cons_zero, List.getElem?_cons_succ] at f0 f1
    have ff : ∀ i, w2.frozen? ⟨w.heap.size + 1 + 1, i, none⟩ = false := fun i => by simp [World.frozen?, hf2]
    have HF2 := Lib.hid hf2
    have hlt2 : w.heap.size + 1 + 1 + 1 < w2.heap.size := by omega
    clear hf2 k0 n0 n1 n2 n3 n4 n5 n6 n7 a0 a1 a2
    go_wp2
    refine bodyPost_ret (results_cell_row rfl _ _ (w.heap.size + 1 + 1) _ _ _ _ rfl (set2 HF2.out) Tryz.underlying68 rfl found_size) rfl ?_
    exact ⟨rfl, (((HB0.out.trans (hb3.mono (by omega))).setCell (p := ⟨w.heap.size + 1 + 1, 0, none⟩) (by simp; omega) _).setCell (p := ⟨w.heap.size + 1 + 1, 1, none⟩) (by simp; omega) _)⟩
set_option maxRecDepth 100000 in
set_option maxHeartbeats 4000000 in
theorem of_app (p0 p1 p2 p3 p4 p5 p6 p7 p8 p9 p10 p12 bg bw : Nat) (lv : Value) (w : World) (hC : ∀ V, Below w.heap.size w V → Calls Tryz.prog 35 #[.agg #[.int .i8 13, .int .i8 0, .int .i64 0, .int .i64 0, .int .i64 0, .int .i64 1, .int .i64 0, .int .i64 0], .agg #[.int .i64 0, .int .i64 0, .int .i64 0], .pointer (some ⟨bg, 0, none⟩), .pointer (some ⟨bw, 0, none⟩)] V (ApPost V 3)) :
    Calls Tryz.prog 38 #[.agg #[.func (.func 44) #[] #[.pointer (some ⟨p0, 0, none⟩)], .func (.func 44) #[] #[.pointer (some ⟨p1, 0, none⟩)], .func (.func 44) #[] #[.pointer (some ⟨p2, 0, none⟩)], .func (.func 44) #[] #[.pointer (some ⟨p3, 0, none⟩)], .func (.func 44) #[] #[.pointer (some ⟨p4, 0, none⟩)], .func (.func 44) #[] #[.pointer (some ⟨p5, 0, none⟩)], .func (.func 44) #[] #[.pointer (some ⟨p6, 0, none⟩)], .func (.func 44) #[] #[.pointer (some ⟨p7, 0, none⟩)], .func (.func 44) #[] #[.pointer (some ⟨p8, 0, none⟩)], .func (.func 44) #[] #[.pointer (some ⟨p9, 0, none⟩)], .func (.func 44) #[] #[.pointer (some ⟨p10, 0, none⟩)], .func (.func 32) #[] #[], .func (.func 44) #[] #[.pointer (some ⟨p12, 0, none⟩)], .func (.func 35) #[] #[.pointer (some ⟨bg, 0, none⟩), .pointer (some ⟨bw, 0, none⟩)]], .agg #[.int .i8 13, .int .i8 0, .int .i64 0, .int .i64 0, .int .i64 0, .int .i64 1, .int .i64 0, .int .i64 0], lv] w (OfPost w 3) := by
  obtain ⟨W0, hW0⟩ : ∃ W0, W0 = ((((w.alloc (.cells #[.func (.func 44) #[] #[.pointer (some ⟨p0, 0, none⟩)], .func (.func 44) #[] #[.pointer (some ⟨p1, 0, none⟩)], .func (.func 44) #[] #[.pointer (some ⟨p2, 0, none⟩)], .func (.func 44) #[] #[.pointer (some ⟨p3, 0, none⟩)], .func (.func 44) #[] #[.pointer (some ⟨p4, 0, none⟩)], .func (.func 44) #[] #[.pointer (some ⟨p5, 0, none⟩)], .func (.func 44) #[] #[.pointer (some ⟨p6, 0, none⟩)], .func (.func 44) #[] #[.pointer (some ⟨p7, 0, none⟩)], .func (.func 44) #[] #[.pointer (some ⟨p8, 0, none⟩)], .func (.func 44) #[] #[.pointer (some ⟨p9, 0, none⟩)], .func (.func 44) #[] #[.pointer (some ⟨p10, 0, none⟩)], .func (.func 32) #[] #[], .func (.func 44) #[] #[.pointer (some ⟨p12, 0, none⟩)], .func (.func 35) #[] #[.pointer (some ⟨bg, 0, none⟩), .pointer (some ⟨bw, 0, none⟩)]] 64)).alloc (.cells #[.int .i8 13, .int .i8 0, .int .i64 0, .int .i64 0, .int .i64 0, .int .i64 1, .int .i64 0, .int .i64 0] 41)).alloc (.cells #[.int .i64 0, .bool false] 68)).alloc (.cells #[.int .i64 0, .int .i64 0, .int .i64 0] 72)) := ⟨_, rfl⟩
  have hB0 : Below w.heap.size w W0 := by rw [hW0]; exact ((((Below.refl _ _).alloc (Nat.le_refl _) _).alloc (by simp) _).alloc (by simp; omega) _).alloc (by simp; omega) _
  have hz0 : W0.heap.size = w.heap.size + 4 := by rw [hW0]; simp
  have hK : W0.heap[w.heap.size]? = some (.cells #[.func (.func 44) #[] #[.pointer (some ⟨p0, 0, none⟩)], .func (.func 44) #[] #[.pointer (some ⟨p1, 0, none⟩)], .func (.func 44) #[] #[.pointer (some ⟨p2, 0, none⟩)], .func (.func 44) #[] #[.pointer (some ⟨p3, 0, none⟩)], .func (.func 44) #[] #[.pointer (some ⟨p4, 0, none⟩)], .func (.func 44) #[] #[.pointer (some ⟨p5, 0, none⟩)], .func (.func 44) #[] #[.pointer (some ⟨p6, 0, none⟩)], .func (.func 44) #[] #[.pointer (some ⟨p7, 0, none⟩)], .func (.func 44) #[] #[.pointer (some ⟨p8, 0, none⟩)], .func (.func 44) #[] #[.pointer (some ⟨p9, 0, none⟩)], .func (.func 44) #[] #[.pointer (some ⟨p10, 0, none⟩)], .func (.func 32) #[] #[], .func (.func 44) #[] #[.pointer (some ⟨p12, 0, none⟩)], .func (.func 35) #[] #[.pointer (some ⟨bg, 0, none⟩), .pointer (some ⟨bw, 0, none⟩)]] 64 (0, 0)) := by rw [hW0, heap_push, if_neg (by simp <;> omega), heap_push, if_neg (by simp <;> omega), heap_push, if_neg (by simp), heap_push, if_pos rfl]
  have hN : W0.heap[w.heap.size + 1]? = some (.cells #[.int .i8 13, .int .i8 0, .int .i64 0, .int .i64 0, .int .i64 0, .int .i64 1, .int .i64 0, .int .i64 0] 41 (0, 0)) := by rw [hW0, heap_push, if_neg (by simp <;> omega), heap_push, if_neg (by simp), heap_push, if_pos (by simp)]
  have hF : W0.heap[w.heap.size + 1 + 1]? = some (.cells #[.int .i64 0, .bool false] 68 (0, 0)) := by rw [hW0, heap_push, if_neg (by simp), heap_push, if_pos (by simp)]
  have hA : W0.heap[w.heap.size + 1 + 1 + 1]? = some (.cells #[.int .i64 0, .int .i64 0, .int .i64 0] 72 (0, 0)) := by rw [hW0, heap_push, if_pos (by simp)]
  have HK : Hid (∀ V, Below W0.heap.size W0 V → V.cell? ⟨w.heap.size, 13, none⟩ = some (.func (.func 35) #[] #[.pointer (some ⟨bg, 0, none⟩), .pointer (some ⟨bw, 0, none⟩)]) ∧ V.cell? ⟨w.heap.size + 1, 0, none⟩ = some (.int .i8 13) ∧ V.cell? ⟨w.heap.size + 1, 1, none⟩ = some (.int .i8 0) ∧ V.cell? ⟨w.heap.size + 1, 2, none⟩ = some (.int .i64 0) ∧ V.cell? ⟨w.heap.size + 1, 3, none⟩ = some (.int .i64 0) ∧ V.cell? ⟨w.heap.size + 1, 4, none⟩ = some (.int .i64 0) ∧ V.cell? ⟨w.heap.size + 1, 5, none⟩ = some (.int .i64 1) ∧ V.cell? ⟨w.heap.size + 1, 6, none⟩ = some (.int .i64 0) ∧ V.cell? ⟨w.heap.size + 1, 7, none⟩ = some (.int .i64 0) ∧ V.cell? ⟨w.heap.size + 1 + 1 + 1, 0, none⟩ = some (.int .i64 0) ∧ V.cell? ⟨w.heap.size + 1 + 1 + 1, 1, none⟩ = some (.int .i64 0) ∧ V.cell? ⟨w.heap.size + 1 + 1 + 1, 2, none⟩ = some (.int .i64 0)) := fun V hV => by
    have hx := (hV.block _ (by omega)).trans hK
    have hy := (hV.block _ (by omega)).trans hN
    have hz := (hV.block _ (by omega)).trans hA
    have k0 := cell_of_row _ _ 13 _ _ _ hx
    have n0 := cell_of_row _ _ 0 _ _ _ hy
    have n1 := cell_of_row _ _ 1 _ _ _ hy
    have n2 := cell_of_row _ _ 2 _ _ _ hy
    have n3 := cell_of_row _ _ 3 _ _ _ hy
    have n4 := cell_of_row _ _ 4 _ _ _ hy
    have n5 := cell_of_row _ _ 5 _ _ _ hy
    have n6 := cell_of_row _ _ 6 _ _ _ hy
    have n7 := cell_of_row _ _ 7 _ _ _ hy
    have a0 := cell_of_row _ _ 0 _ _ _ hz
    have a1 := cell_of_row _ _ 1 _ _ _ hz
    have a2 := cell_of_row _ _ 2 _ _ _ hz
    simp only [List.getElem?_toArray, List.getElem?_cons_zero, List.getElem?_cons_succ] at k0 n0 n1 n2 n3 n4 n5 n6 n7 a0 a1 a2
    exact ⟨k0, n0, n1, n2, n3, n4, n5, n6, n7, a0, a1, a2⟩
  have HF := Lib.hid hF
  have HB0 := Lib.hid hB0
  have HC := Lib.hid hC
  clear hB0 hK hN hF hA hC
  go_enter Tryz.func38, Tryz.ntmps38
  go_wp2_with fail
  rw [← hW0]
  clear hW0
  go_loopw [17] (fun i wr => i = .int .i64 0 ∧ W0 = wr) (fun _ _ => 0)
  case atStart => exact ⟨rfl, rfl⟩
  case round =>
    obtain ⟨rfl, rfl⟩ := hrel
    obtain ⟨k0, n0, n1, n2, n3, n4, n5, n6, n7, a0, a1, a2⟩ := HK.out W0 (Below.refl _ _)
    have hlt0 : w.heap.size + 1 + 1 + 1 < W0.heap.size := by omega
    go_wp2_with fail
    go_region_held3 (fun V => V.cell? ⟨w.heap.size, 13, none⟩ = some (.func (.func 35) #[] #[.pointer (some ⟨bg, 0, none⟩), .pointer (some ⟨bw, 0, none⟩)]) ∧ V.cell? ⟨w.heap.size + 1, 0, none⟩ = some (.int .i8 13) ∧ V.cell? ⟨w.heap.size + 1, 1, none⟩ = some (.int .i8 0) ∧ V.cell? ⟨w.heap.size + 1, 2, none⟩ = some (.int .i64 0) ∧ V.cell? ⟨w.heap.size + 1, 3, none⟩ = some (.int .i64 0) ∧ V.cell? ⟨w.heap.size + 1, 4, none⟩ = some (.int .i64 0) ∧ V.cell? ⟨w.heap.size + 1, 5, none⟩ = some (.int .i64 1) ∧ V.cell? ⟨w.heap.size + 1, 6, none⟩ = some (.int .i64 0) ∧ V.cell? ⟨w.heap.size + 1, 7, none⟩ = some (.int .i64 0) ∧ V.cell? ⟨w.heap.size + 1 + 1 + 1, 0, none⟩ = some (.int .i64 0) ∧ V.cell? ⟨w.heap.size + 1 + 1 + 1, 1, none⟩ = some (.int .i64 0) ∧ V.cell? ⟨w.heap.size + 1 + 1 + 1, 2, none⟩ = some (.int .i64 0))
      (first | with_reducible exact HK.out _ (by assumption) | exact HK.out _ (Below.refl _ _) | exact HK.out _ (Below.refl _ _).drew)
      (first | (go_at_call 35; refine (HC.out _ HB0.out.drew).mono ?_; rintro e w2 ⟨rfl, hb2⟩; have hb3 : Below W0.heap.size W0 w2 := (Below.refl W0.heap.size W0).drew.trans hb2; clear hb2))
    have hf2 := (hb3.block _ (by omega)).trans HF.out
    have hz2 := hb3.size
    have f0 := cell_of_row _ _ 0 _ _ _ hf2
    have f1 := cell_of_row _ _ 1 _ _ _ hf2
    simp only [List.getElem?_toArray, List.getElem?_cons_zero, List.getElem?_cons_succ] at f0 f1
    have ff : ∀ i, w2.frozen? ⟨w.heap.size + 1 + 1, i, none⟩ = false := fun i => by simp [World.frozen?, hf2]
    have HF2 := Lib.hid hf2
    have hlt2 : w.heap.size + 1 + 1 + 1 < w2.heap.size := by omega
    clear hf2 k0 n0 n1 n2 n3 n4 n5 n6 n7 a0 a1 a2
    go_wp2
    refine bodyPost_ret (results_cell_row rfl _ _ (w.heap.size + 1 + 1) _ _ _ _ rfl (set2 HF2.out) Tryz.underlying68 rfl found_size) rfl ?_
    exact ⟨rfl, (((HB0.out.trans (hb3.mono (by omega))).setCell (p := ⟨w.heap.size + 1 + 1, 0, none⟩) (by simp; omega) _).setCell (p := ⟨w.heap.size + 1 + 1, 1, none⟩) (by simp; omega) _)⟩
set_option maxRecDepth 100000 in
set_option maxHeartbeats 4000000 in
theorem of_add (p0 p1 p2 p3 p4 p5 p6 p7 p8 p9 p10 p12 bg bw : Nat) (L c : Nat) (w : World) (hlt : L < w.heap.size) (hv : w.cell? ⟨L, 4, none⟩ = some (.int .i64 3)) (ho : w.cell? ⟨L, 5, none⟩ = some (.bool false)) (hC : ∀ V, Below w.heap.size w V → Calls Tryz.prog 32 #[.agg #[.int .i8 11, .int .i8 1, .int .i64 2, .int .i64 0, .int .i64 0, .int .i64 1, .int .i64 0, .int .i64 1], .agg #[.int .i64 3, .int .i64 0, .int .i64 0]] V (ApPost V 4)) :
    Calls Tryz.prog 38 #[.agg #[.func (.func 44) #[] #[.pointer (some ⟨p0, 0, none⟩)], .func (.func 44) #[] #[.pointer (some ⟨p1, 0, none⟩)], .func (.func 44) #[] #[.pointer (some ⟨p2, 0, none⟩)], .func (.func 44) #[] #[.pointer (some ⟨p3, 0, none⟩)], .func (.func 44) #[] #[.pointer (some ⟨p4, 0, none⟩)], .func (.func 44) #[] #[.pointer (some ⟨p5, 0, none⟩)], .func (.func 44) #[] #[.pointer (some ⟨p6, 0, none⟩)], .func (.func 44) #[] #[.pointer (some ⟨p7, 0, none⟩)], .func (.func 44) #[] #[.pointer (some ⟨p8, 0, none⟩)], .func (.func 44) #[] #[.pointer (some ⟨p9, 0, none⟩)], .func (.func 44) #[] #[.pointer (some ⟨p10, 0, none⟩)], .func (.func 32) #[] #[], .func (.func 44) #[] #[.pointer (some ⟨p12, 0, none⟩)], .func (.func 35) #[] #[.pointer (some ⟨bg, 0, none⟩), .pointer (some ⟨bw, 0, none⟩)]], .agg #[.int .i8 11, .int .i8 1, .int .i64 2, .int .i64 0, .int .i64 0, .int .i64 1, .int .i64 0, .int .i64 1], .slice (some ⟨L, 0, none⟩) 3 c] w (OfPost w 4) := by
  obtain ⟨W0, hW0⟩ : ∃ W0, W0 = ((((w.alloc (.cells #[.func (.func 44) #[] #[.pointer (some ⟨p0, 0, none⟩)], .func (.func 44) #[] #[.pointer (some ⟨p1, 0, none⟩)], .func (.func 44) #[] #[.pointer (some ⟨p2, 0, none⟩)], .func (.func 44) #[] #[.pointer (some ⟨p3, 0, none⟩)], .func (.func 44) #[] #[.pointer (some ⟨p4, 0, none⟩)], .func (.func 44) #[] #[.pointer (some ⟨p5, 0, none⟩)], .func (.func 44) #[] #[.pointer (some ⟨p6, 0, none⟩)], .func (.func 44) #[] #[.pointer (some ⟨p7, 0, none⟩)], .func (.func 44) #[] #[.pointer (some ⟨p8, 0, none⟩)], .func (.func 44) #[] #[.pointer (some ⟨p9, 0, none⟩)], .func (.func 44) #[] #[.pointer (some ⟨p10, 0, none⟩)], .func (.func 32) #[] #[], .func (.func 44) #[] #[.pointer (some ⟨p12, 0, none⟩)], .func (.func 35) #[] #[.pointer (some ⟨bg, 0, none⟩), .pointer (some ⟨bw, 0, none⟩)]] 64)).alloc (.cells #[.int .i8 11, .int .i8 1, .int .i64 2, .int .i64 0, .int .i64 0, .int .i64 1, .int .i64 0, .int .i64 1] 41)).alloc (.cells #[.int .i64 0, .bool false] 68)).alloc (.cells #[.int .i64 0, .int .i64 0, .int .i64 0] 72)) := ⟨_, rfl⟩
  have hB0 : Below w.heap.size w W0 := by rw [hW0]; exact ((((Below.refl _ _).alloc (Nat.le_refl _) _).alloc (by simp) _).alloc (by simp; omega) _).alloc (by simp; omega) _
  have hz0 : W0.heap.size = w.heap.size + 4 := by rw [hW0]; simp
  have hK : W0.heap[w.heap.size]? = some (.cells #[.func (.func 44) #[] #[.pointer (some ⟨p0, 0, none⟩)], .func (.func 44) #[] #[.pointer (some ⟨p1, 0, none⟩)], .func (.func 44) #[] #[.pointer (some ⟨p2, 0, none⟩)], .func (.func 44) #[] #[.pointer (some ⟨p3, 0, none⟩)], .func (.func 44) #[] #[.pointer (some ⟨p4, 0, none⟩)], .func (.func 44) #[] #[.pointer (some ⟨p5, 0, none⟩)], .func (.func 44) #[] #[.pointer (some ⟨p6, 0, none⟩)], .func (.func 44) #[] #[.pointer (some ⟨p7, 0, none⟩)], .func (.func 44) #[] #[.pointer (some ⟨p8, 0, none⟩)], .func (.func 44) #[] #[.pointer (some ⟨p9, 0, none⟩)], .func (.func 44) #[] #[.pointer (some ⟨p10, 0, none⟩)], .func (.func 32) #[] #[], .func (.func 44) #[] #[.pointer (some ⟨p12, 0, none⟩)], .func (.func 35) #[] #[.pointer (some ⟨bg, 0, none⟩), .pointer (some ⟨bw, 0, none⟩)]] 64 (0, 0)) := by rw [hW0, heap_push, if_neg (by simp <;> omega), heap_push, if_neg (by simp <;> omega), heap_push, if_neg (by simp), heap_push, if_pos rfl]
  have hN : W0.heap[w.heap.size + 1]? = some (.cells #[.int .i8 11, .int .i8 1, .int .i64 2, .int .i64 0, .int .i64 0, .int .i64 1, .int .i64 0, .int .i64 1] 41 (0, 0)) := by rw [hW0, heap_push, if_neg (by simp <;> omega), heap_push, if_neg (by simp), heap_push, if_pos (by simp)]
  have hF : W0.heap[w.heap.size + 1 + 1]? = some (.cells #[.int .i64 0, .bool false] 68 (0, 0)) := by rw [hW0, heap_push, if_neg (by simp), heap_push, if_pos (by simp)]
  have hA : W0.heap[w.heap.size + 1 + 1 + 1]? = some (.cells #[.int .i64 0, .int .i64 0, .int .i64 0] 72 (0, 0)) := by rw [hW0, heap_push, if_pos (by simp)]
  obtain ⟨W1, hW1⟩ : ∃ W1, W1 = W0.setCell ⟨w.heap.size + 1 + 1 + 1, 0, none⟩ (.int .i64 3) := ⟨_, rfl⟩
  have hz1 : W1.heap.size = w.heap.size + 4 := by rw [hW1]; simp [World.setCell, hz0]
  have hB1 : Below w.heap.size w W1 := by rw [hW1]; exact hB0.setCell (p := ⟨w.heap.size + 1 + 1 + 1, 0, none⟩) (by simp; omega) _
  have hA1 : W1.heap[w.heap.size + 1 + 1 + 1]? = some (.cells #[.int .i64 3, .int .i64 0, .int .i64 0] 72 (0, 0)) := by rw [hW1]; simp [World.setCell, Array.getElem?_modify, hA]
  have hK1 : W1.heap[w.heap.size]? = some (.cells #[.func (.func 44) #[] #[.pointer (some ⟨p0, 0, none⟩)], .func (.func 44) #[] #[.pointer (some ⟨p1, 0, none⟩)], .func (.func 44) #[] #[.pointer (some ⟨p2, 0, none⟩)], .func (.func 44) #[] #[.pointer (some ⟨p3, 0, none⟩)], .func (.func 44) #[] #[.pointer (some ⟨p4, 0, none⟩)], .func (.func 44) #[] #[.pointer (some ⟨p5, 0, none⟩)], .func (.func 44) #[] #[.pointer (some ⟨p6, 0, none⟩)], .func (.func 44) #[] #[.pointer (some ⟨p7, 0, none⟩)], .func (.func 44) #[] #[.pointer (some ⟨p8, 0, none⟩)], .func (.func 44) #[] #[.pointer (some ⟨p9, 0, none⟩)], .func (.func 44) #[] #[.pointer (some ⟨p10, 0, none⟩)], .func (.func 32) #[] #[], .func (.func 44) #[] #[.pointer (some ⟨p12, 0, none⟩)], .func (.func 35) #[] #[.pointer (some ⟨bg, 0, none⟩), .pointer (some ⟨bw, 0, none⟩)]] 64 (0, 0)) := by rw [hW1]; exact (Below.heap_setCell _ _ _ _ (by simp; omega)).trans hK
  have hN1 : W1.heap[w.heap.size + 1]? = some (.cells #[.int .i8 11, .int .i8 1, .int .i64 2, .int .i64 0, .int .i64 0, .int .i64 1, .int .i64 0, .int .i64 1] 41 (0, 0)) := by rw [hW1]; exact (Below.heap_setCell _ _ _ _ (by simp)).trans hN
  have hF1 : W1.heap[w.heap.size + 1 + 1]? = some (.cells #[.int .i64 0, .bool false] 68 (0, 0)) := by rw [hW1]; exact (Below.heap_setCell _ _ _ _ (by simp)).trans hF
  have v0 := (hB0.cell (p := ⟨L, 4, none⟩) hlt).trans hv
  have v1 := (hB0.cell (p := ⟨L, 5, none⟩) hlt).trans ho
  have HK : Hid (∀ V, Below W1.heap.size W1 V → V.cell? ⟨w.heap.size, 11, none⟩ = some (.func (.func 32) #[] #[]) ∧ V.cell? ⟨w.heap.size + 1, 0, none⟩ = some (.int .i8 11) ∧ V.cell? ⟨w.heap.size + 1, 1, none⟩ = some (.int .i8 1) ∧ V.cell? ⟨w.heap.size + 1, 2, none⟩ = some (.int .i64 2) ∧ V.cell? ⟨w.heap.size + 1, 3, none⟩ = some (.int .i64 0) ∧ V.cell? ⟨w.heap.size + 1, 4, none⟩ = some (.int .i64 0) ∧ V.cell? ⟨w.heap.size + 1, 5, none⟩ = some (.int .i64 1) ∧ V.cell? ⟨w.heap.size + 1, 6, none⟩ = some (.int .i64 0) ∧ V.cell? ⟨w.heap.size + 1, 7, none⟩ = some (.int .i64 1) ∧ V.cell? ⟨w.heap.size + 1 + 1 + 1, 0, none⟩ = some (.int .i64 3) ∧ V.cell? ⟨w.heap.size + 1 + 1 + 1, 1, none⟩ = some (.int .i64 0) ∧ V.cell? ⟨w.heap.size + 1 + 1 + 1, 2, none⟩ = some (.int .i64 0)) := fun V hV => by
    have hx := (hV.block _ (by omega)).trans hK1
    have hy := (hV.block _ (by omega)).trans hN1
    have hz := (hV.block _ (by omega)).trans hA1
    have k0 := cell_of_row _ _ 11 _ _ _ hx
    have n0 := cell_of_row _ _ 0 _ _ _ hy
    have n1 := cell_of_row _ _ 1 _ _ _ hy
    have n2 := cell_of_row _ _ 2 _ _ _ hy
    have n3 := cell_of_row _ _ 3 _ _ _ hy
    have n4 := cell_of_row _ _ 4 _ _ _ hy
    have n5 := cell_of_row _ _ 5 _ _ _ hy
    have n6 := cell_of_row _ _ 6 _ _ _ hy
    have n7 := cell_of_row _ _ 7 _ _ _ hy
    have a0 := cell_of_row _ _ 0 _ _ _ hz
    have a1 := cell_of_row _ _ 1 _ _ _ hz
    have a2 := cell_of_row _ _ 2 _ _ _ hz
    simp only [List.getElem?_toArray, List.getElem?_cons_zero, List.getElem?_cons_succ] at k0 n0 n1 n2 n3 n4 n5 n6 n7 a0 a1 a2
    exact ⟨k0, n0, n1, n2, n3, n4, n5, n6, n7, a0, a1, a2⟩
  have HF := Lib.hid hF1
  have HB0 := Lib.hid hB1
  have HC := Lib.hid hC
  have hn : ∀ V : World, Below W0.heap.size W0 V → V.cell? ⟨w.heap.size + 1, 2, none⟩ = some (.int .i64 2) := fun V hV => by
    have e := cell_of_row _ _ 2 _ _ _ ((hV.block _ (by omega)).trans hN)
    simpa only [List.getElem?_toArray, List.getElem?_cons_zero, List.getElem?_cons_succ] using e
  have n2 := hn W0 (Below.refl _ _)
  have n1 : W0.cell? ⟨w.heap.size + 1, 1, none⟩ = some (.int .i8 1) := by
    have e := cell_of_row _ _ 1 _ _ _ hN
    simpa only [List.getElem?_toArray, List.getElem?_cons_zero, List.getElem?_cons_succ] using e
  have z0 : W0.cell? ⟨w.heap.size + 1 + 1 + 1, 0, none⟩ = some (.int .i64 0) := by
    have e := cell_of_row _ _ 0 _ _ _ hA
    simpa only [List.getElem?_toArray, List.getElem?_cons_zero, List.getElem?_cons_succ] using e
  have zf : W0.frozen? ⟨w.heap.size + 1 + 1 + 1, 0, none⟩ = false := by simp [World.frozen?, hA]
  have HW1 := Lib.hid hW1
  clear hW1 hB0 hB1 hK hN hF hA hK1 hN1 hF1 hA1 hC hn hv ho
  go_enter Tryz.func38, Tryz.ntmps38
  go_wp2_with fail
  rw [← hW0]
  clear hW0
  go_loopw [17] (fun i wr => (i = .int .i64 0 ∧ W0 = wr) ∨ (i = .int .i64 1 ∧ W1 = wr)) (fun i _ => 1 - (intOf i).toNat)
  case atStart => exact .inl ⟨rfl, rfl⟩
  case round =>
    rcases hrel with ⟨rfl, rfl⟩ | ⟨rfl, rfl⟩
    · go_wp2
      go_roundw
      case rel => exact .inr ⟨rfl, HW1.out⟩
      case measure => simp [intOf]
    · clear n1 n2 z0 zf v0 v1
      obtain ⟨k0, n0, n1, n2, n3, n4, n5, n6, n7, a0, a1, a2⟩ := HK.out W1 (Below.refl _ _)
      have hlt0 : w.heap.size + 1 + 1 + 1 < W1.heap.size := by omega
      go_wp2_with fail
      go_region_held3 (fun V => V.cell? ⟨w.heap.size, 11, none⟩ = some (.func (.func 32) #[] #[]) ∧ V.cell? ⟨w.heap.size + 1, 0, none⟩ = some (.int .i8 11) ∧ V.cell? ⟨w.heap.size + 1, 1, none⟩ = some (.int .i8 1) ∧ V.cell? ⟨w.heap.size + 1, 2, none⟩ = some (.int .i64 2) ∧ V.cell? ⟨w.heap.size + 1, 3, none⟩ = some (.int .i64 0) ∧ V.cell? ⟨w.heap.size + 1, 4, none⟩ = some (.int .i64 0) ∧ V.cell? ⟨w.heap.size + 1, 5, none⟩ = some (.int .i64 1) ∧ V.cell? ⟨w.heap.size + 1, 6, none⟩ = some (.int .i64 0) ∧ V.cell? ⟨w.heap.size + 1, 7, none⟩ = some (.int .i64 1) ∧ V.cell? ⟨w.heap.size + 1 + 1 + 1, 0, none⟩ = some (.int .i64 3) ∧ V.cell? ⟨w.heap.size + 1 + 1 + 1, 1, none⟩ = some (.int .i64 0) ∧ V.cell? ⟨w.heap.size + 1 + 1 + 1, 2, none⟩ = some (.int .i64 0))
        (first | with_reducible exact HK.out _ (by assumption) | exact HK.out _ (Below.refl _ _) | exact HK.out _ (Below.refl _ _).drew)
        (first | (go_at_call 32; refine (HC.out _ HB0.out.drew).mono ?_; rintro e w2 ⟨rfl, hb2⟩; have hb3 : Below W1.heap.size W1 w2 := (Below.refl W1.heap.size W1).drew.trans hb2; clear hb2))
      have hf2 := (hb3.block _ (by omega)).trans HF.out
      have hz2 := hb3.size
      have f0 := cell_of_row _ _ 0 _ _ _ hf2
      have f1 := cell_of_row _ _ 1 _ _ _ hf2
      simp only [List.getElem?_toArray, List.getElem?_cons_zero, List.getElem?_cons_succ] at f0 f1
      have ff : ∀ i, w2.frozen? ⟨w.heap.size + 1 + 1, i, none⟩ = false := fun i => by simp [World.frozen?, hf2]
      have HF2 := Lib.hid hf2
      have hlt2 : w.heap.size + 1 + 1 + 1 < w2.heap.size := by omega
      clear hf2 k0 n0 n1 n2 n3 n4 n5 n6 n7 a0 a1 a2
      go_wp2
      refine bodyPost_ret (results_cell_row rfl _ _ (w.heap.size + 1 + 1) _ _ _ _ rfl (set2 HF2.out) Tryz.underlying68 rfl found_size) rfl ?_
      exact ⟨rfl, (((HB0.out.trans (hb3.mono (by omega))).setCell (p := ⟨w.heap.size + 1 + 1, 0, none⟩) (by simp; omega) _).setCell (p := ⟨w.heap.size + 1 + 1, 1, none⟩) (by simp; omega) _)⟩
end Go.Proofs.YtbddghcdibdloaaGreatDoor
