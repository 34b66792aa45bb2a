/- Package eval's Value, at what wakes asks; AtMost. -/
import Derived.Test.YtbddghcdibdloaaGreatDoorEvU
namespace Go.Proofs.YtbddghcdibdloaaGreatDoor
open Go.RowKit Go.Shelf
set_option linter.unusedVariables false
attribute [local go_sem] Oper.semAt_some
def VlPost (w : World) (e : Ending) (w' : World) : Prop := ∃ bl bo cl co : Nat, e = .returned (.tuple #[.slice (some ⟨bl, 0, none⟩) 4 cl, .slice (some ⟨bo, 0, none⟩) 4 co, .int .i64 0]) ∧ w'.cell? ⟨bl, 3, none⟩ = some (.int .i64 4) ∧ w'.cell? ⟨bo, 3, none⟩ = some (.bool false) ∧ bl < w'.heap.size ∧ bo < w'.heap.size ∧ Below w.heap.size w w'
theorem infoBool : (Tryz.prog.info? 4).map (fun i => (i.zero, i.size, i.bytes)) = some (some (.bool false), 1, 1) := by kernel_rfl
theorem GS.heap {A B : World} (h : GS A) (e : B.heap = A.heap) : GS B := by
  cases A
  cases B
  subst e
  obtain ⟨⟨h1, h2⟩, h3, h4, h5⟩ := h
  exact ⟨⟨h1, h2⟩, h3, h4, h5⟩
/-- What lay below n lies on. -/
theorem GS.same {A B : World} (h : GS A) (hs : A.heap.size ≤ B.heap.size) (hb : ∀ b, b < A.heap.size → B.heap[b]? = A.heap[b]?) : GS B :=
  GS.heap (A := { B with os := A.os, tape := A.tape, output := A.output }) (h.below ⟨rfl, rfl, rfl, hs, fun b h => hb b h⟩) rfl
theorem ofs_any (m fb p0 p1 p2 p3 p4 p5 p6 p7 p8 p9 p10 p12 bg bw N : Nat) (keep : Nat → Prop) (w W : World) (hG : GS w) (hS : OneR w m) (hW : WrR w fb) (hb : Below w.heap.size w W) (hlow : ∀ b, b < w.heap.size → keep b)
    (h0 : BxF W p0 20) (h10 : BxF W p10 31) (hK : BxK W bg bw m fb) (k0 : keep p0) (k10 : keep p10) (kg : keep bg) (kw : keep bw) :
    ∀ (k : Nat) (y : Tm.NodeA) (v : Int), nds[k]? = some y → [(1 : Int), 0, 3, 4][k]? = some v → ∀ (V : World) (lv : Value), W.heap.size ≤ V.heap.size → (∀ b, keep b → V.heap[b]? = W.heap[b]?) → V.ownsRow W.heap.size 68 2 lv k (([(1 : Int), 0, 3, 4].take k).flatMap fC) →
      Calls Tryz.prog 38 #[.agg #[.func (.func 44) #[] #[.pointer (some ⟨p0, 0, none⟩)], .func (.func 44) #[] #[.pointer (some ⟨p1, 0, none⟩)], .func (.func 44) #[] #[.pointer (some ⟨p2, 0, none⟩)], .func (.func 44) #[] #[.pointer (some ⟨p3, 0, none⟩)], .func (.func 44) #[] #[.pointer (some ⟨p4, 0, none⟩)], .func (.func 44) #[] #[.pointer (some ⟨p5, 0, none⟩)], .func (.func 44) #[] #[.pointer (some ⟨p6, 0, none⟩)], .func (.func 44) #[] #[.pointer (some ⟨p7, 0, none⟩)], .func (.func 44) #[] #[.pointer (some ⟨p8, 0, none⟩)], .func (.func 44) #[] #[.pointer (some ⟨p9, 0, none⟩)], .func (.func 44) #[] #[.pointer (some ⟨p10, 0, none⟩)], .func (.func 32) #[] #[], .func (.func 44) #[] #[.pointer (some ⟨p12, 0, none⟩)], .func (.func 35) #[] #[.pointer (some ⟨bg, 0, none⟩), .pointer (some ⟨bw, 0, none⟩)]], .agg #[.int .i8 y.op, .int .i8 y.len, .int .i64 y.a0, .int .i64 y.a1, .int .i64 y.a2, .int .i64 y.sort, .int .i64 y.fn, .int .i64 y.num], lv] V (OfPost V v) := by
  intro k y v hy hv V lv hz hkp hown
  have hlt : w.heap.size ≤ W.heap.size := hb.size
  have sm : ∀ b, b < w.heap.size → V.heap[b]? = w.heap[b]? := fun b h => (hkp b (hlow b h)).trans (hb.block b h)
  have gG : GS V := hG.same (by omega) sm
  have gS : OneR V m := (sm m hS.lt).trans hS
  have gW : WrR V fb := by
    obtain ⟨cs, h1, h2⟩ := hW
    exact ⟨cs, (sm fb (Array.getElem?_eq_some_iff.1 h1).1).trans h1, h2⟩
  have g0 : BxF V p0 20 := (hkp p0 k0).trans h0
  have g10 : BxF V p10 31 := (hkp p10 k10).trans h10
  have gK : BxK V bg bw m fb := ⟨(hkp bg kg).trans hK.g, (hkp bw kw).trans hK.u⟩
  match k, hy, hv, hown with
  | 0, hy, hv, _ =>
    cases hy; cases hv
    exact of_true p0 p1 p2 p3 p4 p5 p6 p7 p8 p9 p10 p12 bg bw lv V (fun V' hV' => nev1 p0 _ _ _ _ _ _ _ _ _ _ 0 V' (g0.below hV'))
  | 1, hy, hv, _ =>
    cases hy; cases hv
    exact of_zero p0 p1 p2 p3 p4 p5 p6 p7 p8 p9 p10 p12 bg bw lv V (fun V' hV' => nev11 p10 _ _ _ _ _ _ _ _ _ _ 0 V' (g10.below hV'))
  | 2, hy, hv, _ =>
    cases hy; cases hv
    exact of_app p0 p1 p2 p3 p4 p5 p6 p7 p8 p9 p10 p12 bg bw lv V (fun V' hV' => k14_nil bg bw m fb _ _ _ _ _ _ _ _ _ V' (gG.below hV') (gS.below hV') (gW.below hV') (gK.below hV'))
  | 3, hy, hv, hown =>
    cases hy; cases hv
    obtain ⟨g, cap, rfl⟩ := ownsRow_succ hown
    exact of_add p0 p1 p2 p3 p4 p5 p6 p7 p8 p9 p10 p12 bg bw g cap V (hown.lt g rfl).2 ((hown.cellAt 4 (by omega)).trans rfl) ((hown.cellAt 5 (by omega)).trans rfl) (fun V' _ => k12_31 _ _ _ _ _ _ _ _ _ V')
  | k + 4, hy, _, _ => exact absurd hy (by simp [nds])
set_option maxRecDepth 100000 in
set_option maxHeartbeats 4000000 in
theorem Values_in (m fb tb c : Nat) (w : World) (hG : GA w) (hS : OneR w m) (hW : WrR w fb) (hT : Tm.TabR w nds (some ⟨tb, 0, none⟩) c) :
    CallsIn Fence.wide 8 Tryz.prog 12 #[.agg #[.slice none 0 0, .slice (some ⟨m, 0, none⟩) 1 1, .slice none 0 0], .agg #[.slice none 0 0, .slice (some ⟨fb, 0, none⟩) 1 1], .agg #[.slice (some ⟨tb, 0, none⟩) 4 c]] w (VlPost w) := by
  obtain ⟨W0, hW0⟩ : ∃ W0, W0 = (((((w.alloc (.cells #[.slice none 0 0, .slice (some ⟨m, 0, none⟩) 1 1, .slice none 0 0] 34)).alloc (.cells #[.slice none 0 0, .slice (some ⟨fb, 0, none⟩) 1 1] 51)).alloc (.cells #[.slice (some ⟨tb, 0, none⟩) 4 c] 37)).alloc (.cells #[.slice none 0 0] 49)).alloc (.cells #[.slice none 0 0] 53)) := ⟨_, rfl⟩
  have hB0 : Below w.heap.size w W0 := by rw [hW0]; exact (((((Below.refl _ _).alloc (Nat.le_refl _) _).alloc (by simp) _).alloc (by simp; omega) _).alloc (by simp; omega) _).alloc (by simp; omega) _
  have hz0 : W0.heap.size = w.heap.size + 5 := by rw [hW0]; simp
  have hg : W0.heap[w.heap.size]? = some (.cells #[.slice none 0 0, .slice (some ⟨m, 0, none⟩) 1 1, .slice none 0 0] 34 (0, 0)) := by rw [hW0, heap_push, if_neg (by simp <;> omega), heap_push, if_neg (by simp <;> omega), heap_push, if_neg (by simp <;> omega), heap_push, if_neg (by simp <;> omega), heap_push, if_pos rfl]
  have hu : W0.heap[w.heap.size + 1]? = some (.cells #[.slice none 0 0, .slice (some ⟨fb, 0, none⟩) 1 1] 51 (0, 0)) := by rw [hW0, heap_push, if_neg (by simp <;> omega), heap_push, if_neg (by simp <;> omega), heap_push, if_neg (by simp <;> omega), heap_push, if_pos (by simp)]
  have hx : W0.heap[w.heap.size + 1 + 1]? = some (.cells #[.slice (some ⟨tb, 0, none⟩) 4 c] 37 (0, 0)) := by rw [hW0, heap_push, if_neg (by simp <;> omega), heap_push, if_neg (by simp <;> omega), heap_push, if_pos (by simp)]
  have hl : W0.heap[w.heap.size + 1 + 1 + 1]? = some (.cells #[.slice none 0 0] 49 (0, 0)) := by rw [hW0, heap_push, if_neg (by simp <;> omega), heap_push, if_pos (by simp)]
  have ho : W0.heap[w.heap.size + 1 + 1 + 1 + 1]? = some (.cells #[.slice none 0 0] 53 (0, 0)) := by rw [hW0, heap_push, if_pos (by simp)]
  have HCk : Hid (Calls Tryz.prog 14 #[.agg #[.slice none 0 0, .slice (some ⟨m, 0, none⟩) 1 1, .slice none 0 0], .agg #[.slice none 0 0, .slice (some ⟨fb, 0, none⟩) 1 1], .agg #[.slice (some ⟨tb, 0, none⟩) 4 c]] W0 fun e w' => e = .returned (.int .i64 0) ∧ Below W0.heap.size W0 w') := check_nil m fb c _ W0 (hG.below hB0) (hS.below hB0) (hW.below hB0) (hT.below hB0)
  have HKi : Hid (∀ V, Calls Tryz.prog 15 #[.agg #[.slice none 0 0, .slice (some ⟨m, 0, none⟩) 1 1, .slice none 0 0], .agg #[.slice none 0 0, .slice (some ⟨fb, 0, none⟩) 1 1]] V (KdPost V #[.slice none 0 0, .slice (some ⟨m, 0, none⟩) 1 1, .slice none 0 0] #[.slice none 0 0, .slice (some ⟨fb, 0, none⟩) 1 1])) := fun V => kindsIn_any _ _ _ _ _ V
  have HG : Hid (∀ V, Below w.heap.size w V → GA V ∧ OneR V m ∧ WrR V fb ∧ Tm.TabR V nds (some ⟨tb, 0, none⟩) c) := fun V hV => ⟨hG.below hV, hS.below hV, hW.below hV, hT.below hV⟩
  have HB0 := Lib.hid hB0
  have HK : Hid (∀ V, Below W0.heap.size W0 V → V.cell? ⟨w.heap.size, 0, none⟩ = some (.slice none 0 0) ∧ V.cell? ⟨w.heap.size, 1, none⟩ = some (.slice (some ⟨m, 0, none⟩) 1 1) ∧ V.cell? ⟨w.heap.size, 2, none⟩ = some (.slice none 0 0) ∧ V.cell? ⟨w.heap.size + 1, 0, none⟩ = some (.slice none 0 0) ∧ V.cell? ⟨w.heap.size + 1, 1, none⟩ = some (.slice (some ⟨fb, 0, none⟩) 1 1) ∧ V.cell? ⟨w.heap.size + 1 + 1, 0, none⟩ = some (.slice (some ⟨tb, 0, none⟩) 4 c)) := fun V hV => by
    have h1 := (hV.block _ (by omega)).trans hg
    have h2 := (hV.block _ (by omega)).trans hu
    have h3 := (hV.block _ (by omega)).trans hx
    have e0 := cell_of_row _ _ 0 _ _ _ h1
    have e1 := cell_of_row _ _ 1 _ _ _ h1
    have e2 := cell_of_row _ _ 2 _ _ _ h1
    have e3 := cell_of_row _ _ 0 _ _ _ h2
    have e4 := cell_of_row _ _ 1 _ _ _ h2
    have e5 := cell_of_row _ _ 0 _ _ _ h3
    simp only [List.getElem?_toArray, List.getElem?_cons_zero, List.getElem?_cons_succ] at e0 e1 e2 e3 e4 e5
    exact ⟨e0, e1, e2, e3, e4, e5⟩
  have Hl := Lib.hid hl
  have Ho := Lib.hid ho
  have hd : 1 ≤ 8 := by omega
  have hmo : Tryz.prog.follows .mixedOrders = true := by kernel_rfl
  clear hG hS hW hT hB0 hg hu hx hl ho
  refine callsIn_of_wp_marks Tryz.func12 rfl trivial ?_ rfl
  simp only [Tryz.ntmps12, List.size_toArray, List.length_cons, List.length_nil, Nat.reduceAdd, Nat.reduceSub, Array.replicate_succ, Array.replicate_zero, List.push_toArray, List.append_toArray, List.nil_append, List.cons_append]
  gi_wp2_with fail
  rw [← hW0]
  clear hW0
  refine ⟨trivial, (callsIn_wide.2 HCk.out).mono ?_⟩
  rintro e w1 ⟨rfl, hb1⟩
  have HB1 := Lib.hid hb1
  have HKw : Hid (∀ V, Below w1.heap.size w1 V → V.cell? ⟨w.heap.size, 0, none⟩ = some (.slice none 0 0) ∧ V.cell? ⟨w.heap.size, 1, none⟩ = some (.slice (some ⟨m, 0, none⟩) 1 1) ∧ V.cell? ⟨w.heap.size, 2, none⟩ = some (.slice none 0 0) ∧ V.cell? ⟨w.heap.size + 1, 0, none⟩ = some (.slice none 0 0) ∧ V.cell? ⟨w.heap.size + 1, 1, none⟩ = some (.slice (some ⟨fb, 0, none⟩) 1 1) ∧ V.cell? ⟨w.heap.size + 1 + 1, 0, none⟩ = some (.slice (some ⟨tb, 0, none⟩) 4 c)) := fun V hV => HK.out V (ball' hb1 hV)
  obtain ⟨c0, c1, c2, c3, c4, c5⟩ := HKw.out w1 (Below.refl _ _)
  have hz1 : W0.heap.size ≤ w1.heap.size := hb1.size
  have Hl1 := Lib.hid ((hb1.block _ (by omega)).trans Hl.out)
  have Ho1 := Lib.hid ((hb1.block _ (by omega)).trans Ho.out)
  clear hb1 HCk HK Hl Ho
  gi_wp2
  refine wpIn_region_heldN (S := fun V => V.cell? ⟨w.heap.size, 0, none⟩ = some (.slice none 0 0) ∧ V.cell? ⟨w.heap.size, 1, none⟩ = some (.slice (some ⟨m, 0, none⟩) 1 1) ∧ V.cell? ⟨w.heap.size, 2, none⟩ = some (.slice none 0 0) ∧ V.cell? ⟨w.heap.size + 1, 0, none⟩ = some (.slice none 0 0) ∧ V.cell? ⟨w.heap.size + 1, 1, none⟩ = some (.slice (some ⟨fb, 0, none⟩) 1 1) ∧ V.cell? ⟨w.heap.size + 1 + 1, 0, none⟩ = some (.slice (some ⟨tb, 0, none⟩) 4 c)) hmo (by kernel_rfl) ⟨c0, c1, c2, c3, c4, c5⟩ (fun hHeld => ?_)
  refine wpAnyH_take (i := 0) (v := .agg #[.slice none 0 0, .slice (some ⟨m, 0, none⟩) 1 1, .slice none 0 0]) rfl (by kernel_rfl) (by kernel_rfl) (by kernel_rfl) (fun _ _ _ h => by cases (And.left h)) (Or.inl ⟨by rfl, ?_⟩) (by assumption) ?_
  · (intro w' hSw; (try dsimp only at hSw); go_simp)
  refine wpAnyH_take (i := 1) (v := .agg #[.slice none 0 0, .slice (some ⟨fb, 0, none⟩) 1 1]) rfl (by kernel_rfl) (by kernel_rfl) (by kernel_rfl) (fun _ _ _ h => by cases (And.left h)) (Or.inl ⟨by rfl, ?_⟩) (by assumption) ?_
  · (intro w' hSw; (try dsimp only at hSw); go_simp)
  refine wpAnyH_take (i := 3) (v := .agg #[.slice (some ⟨tb, 0, none⟩) 4 c]) rfl (by kernel_rfl) (by kernel_rfl) (by kernel_rfl) (fun _ _ _ h => by cases (And.left h)) (Or.inl ⟨by rfl, ?_⟩) (by assumption) ?_
  · (intro w' hSw; (try dsimp only at hSw); go_simp)
  refine wpAnyH_ready (rs := [2]) (by kernel_rfl) (by simp) ?_
  refine AllReadyH.cons rfl (fun K hK => ?_) AllReadyH.nil
  go_simp
  refine (HKi.out _).mono ?_
  rintro e w4 ⟨p0, p1, p2, p3, p4, p5, p6, p7, p8, p9, p10, p12, bg, bw, rfl, hp0, hp10, hbg, hbw, hb4⟩
  have HB4 : Hid (Below w1.heap.size w1 w4) := (Below.refl w1.heap.size w1).drew.trans hb4
  have HP := Lib.hid (And.intro hp0 (And.intro hp10 (And.intro hbg hbw)))
  clear hp0 hp10 hbg hbw hb4
  unfold kdV
  refine hK _ _ (HKw.out _ HB4.out) (fun hHeld => ?_)
  clear hK K
  refine wpAnyH_ready (rs := [4]) (by kernel_rfl) (by simp) ?_
  refine AllReadyH.cons rfl (fun K hK => ?_) AllReadyH.nil
  go_simp
  refine (kall_any _ _ _ _ _ _ _ _ _ _ _ _ _ _ _ _).mono ?_
  rintro e w5 ⟨rfl, rfl⟩
  refine hK _ _ (HKw.out _ ((HB4.out.alloc HB4.out.size _).alloc (by have := HB4.out.size; simp; omega) _)) (fun hHeld => ?_)
  clear hK K
  refine wpAnyH_done (by kernel_rfl) ?_ _
  refine ⟨rfl, ?_⟩
  gi_wp2
  obtain ⟨w6, hw6⟩ : ∃ w6, w6 = (w4.alloc (.cells #[.func (.func 44) #[] #[.pointer (some ⟨p0, 0, none⟩)], .func (.func 44) #[] #[.pointer (some ⟨p1, 0, none⟩)], .func (.func 44) #[] #[.pointer (some ⟨p2, 0, none⟩)], .func (.func 44) #[] #[.pointer (some ⟨p3, 0, none⟩)], .func (.func 44) #[] #[.pointer (some ⟨p4, 0, none⟩)], .func (.func 44) #[] #[.pointer (some ⟨p5, 0, none⟩)], .func (.func 44) #[] #[.pointer (some ⟨p6, 0, none⟩)], .func (.func 44) #[] #[.pointer (some ⟨p7, 0, none⟩)], .func (.func 44) #[] #[.pointer (some ⟨p8, 0, none⟩)], .func (.func 44) #[] #[.pointer (some ⟨p9, 0, none⟩)], .func (.func 44) #[] #[.pointer (some ⟨p10, 0, none⟩)], .func (.func 32) #[] #[], .func (.func 44) #[] #[.pointer (some ⟨p12, 0, none⟩)], .func (.func 35) #[] #[.pointer (some ⟨bg, 0, none⟩), .pointer (some ⟨bw, 0, none⟩)]] 64)).alloc (.cells #[.slice (some ⟨tb, 0, none⟩) 4 c] 37) := ⟨_, rfl⟩
  have hz4 : w1.heap.size ≤ w4.heap.size := HB4.out.size
  have hz6 : w6.heap.size = w4.heap.size + 2 := by rw [hw6]; simp
  have hb46 : Below w4.heap.size w4 w6 := by rw [hw6]; exact ((Below.refl _ _).alloc (Nat.le_refl _) _).alloc (by simp) _
  have hbk : w6.heap[w4.heap.size]? = some (.cells #[.func (.func 44) #[] #[.pointer (some ⟨p0, 0, none⟩)], .func (.func 44) #[] #[.pointer (some ⟨p1, 0, none⟩)], .func (.func 44) #[] #[.pointer (some ⟨p2, 0, none⟩)], .func (.func 44) #[] #[.pointer (some ⟨p3, 0, none⟩)], .func (.func 44) #[] #[.pointer (some ⟨p4, 0, none⟩)], .func (.func 44) #[] #[.pointer (some ⟨p5, 0, none⟩)], .func (.func 44) #[] #[.pointer (some ⟨p6, 0, none⟩)], .func (.func 44) #[] #[.pointer (some ⟨p7, 0, none⟩)], .func (.func 44) #[] #[.pointer (some ⟨p8, 0, none⟩)], .func (.func 44) #[] #[.pointer (some ⟨p9, 0, none⟩)], .func (.func 44) #[] #[.pointer (some ⟨p10, 0, none⟩)], .func (.func 32) #[] #[], .func (.func 44) #[] #[.pointer (some ⟨p12, 0, none⟩)], .func (.func 35) #[] #[.pointer (some ⟨bg, 0, none⟩), .pointer (some ⟨bw, 0, none⟩)]] 64 (0, 0)) := by rw [hw6]; exact mid_new' w4 _ _
  have hbt : w6.heap[w4.heap.size + 1]? = some (.cells #[.slice (some ⟨tb, 0, none⟩) 4 c] 37 (0, 0)) := by rw [hw6, heap_push, if_pos (by simp)]
  have hb6 : Below w.heap.size w w6 := ball' (ball' (ball' HB0.out HB1.out) HB4.out) hb46
  have hl6 : w6.heap[w.heap.size + 1 + 1 + 1]? = some (.cells #[.slice none 0 0] 49 (0, 0)) := (hb46.block _ (by omega)).trans ((HB4.out.block _ (by omega)).trans Hl1.out)
  have ho6 : w6.heap[w.heap.size + 1 + 1 + 1 + 1]? = some (.cells #[.slice none 0 0] 53 (0, 0)) := (hb46.block _ (by omega)).trans ((HB4.out.block _ (by omega)).trans Ho1.out)
  obtain ⟨hp0, hp10, hbg, hbw⟩ := HP.out
  have q0 := hp0.below hb46
  have q10 := hp10.below hb46
  have qK : BxK w6 bg bw m fb := (BxK.mk (w := w4) (bg := bg) (bw := bw) (m := m) (fb := fb) hbg hbw).below hb46
  have nel : ∀ b cs t, w6.heap[b]? = some (.cells cs t (0, 0)) → t ≠ 49 → t ≠ 53 → b < w6.heap.size ∧ b ≠ w.heap.size + 1 + 1 + 1 ∧ b ≠ w.heap.size + 1 + 1 + 1 + 1 := fun b cs t h h1 h2 => by
    refine ⟨(Array.getElem?_eq_some_iff.1 h).1, fun e => ?_, fun e => ?_⟩
    · subst e; rw [hl6] at h; simp at h; exact h1 h.2.symm
    · subst e; rw [ho6] at h; simp at h; exact h2 h.2.symm
  have k0 := nel _ _ _ q0 (by decide) (by decide)
  have k10 := nel _ _ _ q10 (by decide) (by decide)
  have kg := nel _ _ _ qK.g (by decide) (by decide)
  have kw := nel _ _ _ qK.u (by decide) (by decide)
  have kk := nel _ _ _ hbk (by decide) (by decide)
  have kt := nel _ _ _ hbt (by decide) (by decide)
  have hTw := (HG.out w (Below.refl _ _)).2.2.2
  have htbw : tb < w.heap.size := by
    obtain ⟨g, o, e, hg, _⟩ := hTw.node (k := 0) rfl
    cases e
    exact hg
  have HQ := Lib.hid (And.intro q0 (And.intro q10 (And.intro qK (And.intro k0 (And.intro k10 (And.intro kg (And.intro kw (And.intro kk (And.intro kt (And.intro hbk (And.intro hbt (And.intro htbw (And.intro hb6 (And.intro hl6 ho6))))))))))))))
  rw [← hw6]
  clear hw6 hb46 hbk hbt hb6 hl6 ho6 hp0 hp10 hbg hbw q0 q10 qK nel k0 k10 kg kw kk kt hTw htbw hHeld c0 c1 c2 c3 c4 c5
  obtain ⟨ii, hii, hi0, hi1, hi2⟩ := info_parts Tm.info_int
  obtain ⟨ib, hib, hb0, hb1, hb2⟩ := info_parts infoBool
  have HII := Lib.hid (And.intro hii (And.intro hi0 (And.intro hi1 hi2)))
  have HIB := Lib.hid (And.intro hib (And.intro hb0 (And.intro hb1 hb2)))
  clear hii hi0 hi1 hi2 hib hb0 hb1 hb2
  refine wpIn_rangeFunc_R rfl hd (gf := 37) (lb := #[.pointer (some ⟨w4.heap.size + 1, 0, none⟩), .pointer (some ⟨w4.heap.size, 0, none⟩)]) rfl trivial (enters_of Tryz.func37 (by kernel_rfl) rfl)
    (encs := encF) (S := fun ys => ys = [1, 0, 3, 4]) (Sp := fun pre => pre <+: [1, 0, 3, 4]) (keep := fun b => b < w6.heap.size ∧ b ≠ w.heap.size + 1 + 1 + 1 ∧ b ≠ w.heap.size + 1 + 1 + 1 + 1) (go := fun _ => True)
    (fun W hW => by
      obtain ⟨q0, q10, qK, k0, k10, kg, kw, kk, kt, hbk, hbt, htbw, hb6, _, _⟩ := HQ.out
      have hWw : Below w.heap.size w W := ball' hb6 hW
      obtain ⟨gA, gS, gW, _⟩ := HG.out w (Below.refl _ _)
      exact all1_seq (8 - 1) (by omega) (w4.heap.size + 1) w4.heap.size tb 0 c (.func (.func 44) #[] #[.pointer (some ⟨p0, 0, none⟩)]) (.func (.func 44) #[] #[.pointer (some ⟨p1, 0, none⟩)]) (.func (.func 44) #[] #[.pointer (some ⟨p2, 0, none⟩)]) (.func (.func 44) #[] #[.pointer (some ⟨p3, 0, none⟩)]) (.func (.func 44) #[] #[.pointer (some ⟨p4, 0, none⟩)]) (.func (.func 44) #[] #[.pointer (some ⟨p5, 0, none⟩)]) (.func (.func 44) #[] #[.pointer (some ⟨p6, 0, none⟩)]) (.func (.func 44) #[] #[.pointer (some ⟨p7, 0, none⟩)]) (.func (.func 44) #[] #[.pointer (some ⟨p8, 0, none⟩)]) (.func (.func 44) #[] #[.pointer (some ⟨p9, 0, none⟩)]) (.func (.func 44) #[] #[.pointer (some ⟨p10, 0, none⟩)]) (.func (.func 32) #[] #[]) (.func (.func 44) #[] #[.pointer (some ⟨p12, 0, none⟩)]) (.func (.func 35) #[] #[.pointer (some ⟨bg, 0, none⟩), .pointer (some ⟨bw, 0, none⟩)]) nds [1, 0, 3, 4] _ W rfl rfl ((hW.block _ kt.1).trans hbt) ((hW.block _ kk.1).trans hbk) (HG.out W hWw).2.2.2 kt kk ⟨by have := hb6.size; omega, by omega, by omega⟩ (fun b hb => by have := hW.size; have := hb.1; omega)
        (ofs_any m fb p0 p1 p2 p3 p4 p5 p6 p7 p8 p9 p10 p12 bg bw 0 _ w W gA.gs gS gW hWw (fun b hb => ⟨by have := hb6.size; omega, by omega, by omega⟩) (q0.below hW) (q10.below hW) (qK.below hW) k0 k10 kg kw))
    (fun b hb => hb.1) (fun _ => rfl)
    (fun R pre A => ∃ lv ov, VlJ w w6.heap.size R (pre.map (Value.int .i64)) (pre.map (fun _ => Value.bool false)) A lv ov) (fun _ _ _ _ => False)
    (fun R R' pre A B hR hI hT => by obtain ⟨lv, ov, h⟩ := hI; exact ⟨lv, ov, h.turn (by omega) hR hT⟩)
    (fun R pre A l o o' hI hD hl' ho => by obtain ⟨lv, ov, h⟩ := hI; exact ⟨lv, ov, h.put (by omega) hD hl' ho⟩)
    (fun R R' c pre A B hR hI hT => hI.elim)
    (fun R c pre A l o o' hI hD hl' ho => hI.elim)
    ?_ (fun _ x q W => ∃ Bx, w6.heap.size ≤ Bx ∧ W.heap[Bx]? = some (.cells #[.int .i64 x, .bool false] 68 (0, 0)) ∧ q = { tmps := #[.agg #[.slice none 0 0, .slice (some ⟨m, 0, none⟩) 1 1, .slice none 0 0], .agg #[.slice none 0 0, .slice (some ⟨fb, 0, none⟩) 1 1], .agg #[.slice (some ⟨tb, 0, none⟩) 4 c], .pointer (some ⟨w.heap.size, 0, none⟩), .pointer (some ⟨w.heap.size + 1, 0, none⟩), .pointer (some ⟨w.heap.size + 1 + 1, 0, none⟩), .pointer (some ⟨w.heap.size + 1 + 1 + 1, 0, none⟩), .pointer (some ⟨w.heap.size + 1 + 1 + 1 + 1, 0, none⟩), .int .i64 0, .int .i64 0, .pointer (some ⟨Bx, 0, none⟩), .agg #[.slice none 0 0, .slice (some ⟨m, 0, none⟩) 1 1, .slice none 0 0], .agg #[.slice none 0 0, .slice (some ⟨fb, 0, none⟩) 1 1], .agg #[.slice (some ⟨tb, 0, none⟩) 4 c], .int .i64 0, .int .i64 0, .bool false, undef, .agg #[.slice none 0 0, .slice (some ⟨m, 0, none⟩) 1 1, .slice none 0 0], .agg #[.slice none 0 0, .slice (some ⟨fb, 0, none⟩) 1 1], .agg #[.func (.func 44) #[] #[.pointer (some ⟨p0, 0, none⟩)], .func (.func 44) #[] #[.pointer (some ⟨p1, 0, none⟩)], .func (.func 44) #[] #[.pointer (some ⟨p2, 0, none⟩)], .func (.func 44) #[] #[.pointer (some ⟨p3, 0, none⟩)], .func (.func 44) #[] #[.pointer (some ⟨p4, 0, none⟩)], .func (.func 44) #[] #[.pointer (some ⟨p5, 0, none⟩)], .func (.func 44) #[] #[.pointer (some ⟨p6, 0, none⟩)], .func (.func 44) #[] #[.pointer (some ⟨p7, 0, none⟩)], .func (.func 44) #[] #[.pointer (some ⟨p8, 0, none⟩)], .func (.func 44) #[] #[.pointer (some ⟨p9, 0, none⟩)], .func (.func 44) #[] #[.pointer (some ⟨p10, 0, none⟩)], .func (.func 32) #[] #[], .func (.func 44) #[] #[.pointer (some ⟨p12, 0, none⟩)], .func (.func 35) #[] #[.pointer (some ⟨bg, 0, none⟩), .pointer (some ⟨bw, 0, none⟩)]], .agg #[.slice (some ⟨tb, 0, none⟩) 4 c], .func (.func 37) #[] #[.pointer (some ⟨w4.heap.size + 1, 0, none⟩), .pointer (some ⟨w4.heap.size, 0, none⟩)], .agg #[.int .i64 x, .bool false], undef, undef, undef, undef, undef, undef, undef, undef, undef, undef, undef, undef], defers := [] }) ?_ ?assign ?body ?done ?stop
  · intro B hB
    obtain ⟨q0, q10, qK, k0, k10, kg, kw, kk, kt, hbk, hbt, htbw, hb6, hl6, ho6⟩ := HQ.out
    exact ⟨.slice none 0 0, .slice none 0 0, (hB.block _ (by omega)).trans hl6, (hB.block _ (by omega)).trans ho6, World.ownsRow_nil _ _ _ _, World.ownsRow_nil _ _ _ _, fun g hg => (by cases hg), fun g hg => (by cases hg), ball' hb6 hB, hB.size⟩
  · rintro R x a' A l o o' ⟨Bx, hN, hBx, ha⟩ hD hl' ho
    exact ⟨Bx, hN, (World.putObj_heap_other (fun e => by subst e; rw [hBx] at hl'; cases hl'; cases ho)).trans hBx, ha⟩
  case assign =>
    rintro l R pre x W K hR hWs hSp ⟨lv, ov, hI⟩ hK
    simp only [encF]
    have HI := Lib.hid hI
    clear hI hSp
    gi_wp2
    refine hK _ _ ((KeepsOthers.alloc _ _).from _) ⟨by simp, fun b hb => Below.heap_alloc _ _ _ ?_⟩ ⟨lv, ov, HI.out.alloc _⟩ ⟨W.heap.size, hWs, heap_alloc_new W _, rfl⟩
    rcases hb with hb | hb
    · exact (hR b hb).2
    · have := hb.1; omega
  case body =>
    rintro l R pre x a' W hR hWs hSp ⟨lv, ov, hI⟩ ⟨Bx, hBN, hBx, rfl⟩
    have hpl : pre.length ≤ 3 := by
      have h1 := hSp.length_le
      simp at h1
      omega
    have x0 := cell_of_row _ _ 0 _ _ _ hBx
    have x1 := cell_of_row _ _ 1 _ _ _ hBx
    simp only [List.getElem?_toArray, List.getElem?_cons_zero, List.getElem?_cons_succ] at x0 x1
    have hBl := (Array.getElem?_eq_some_iff.1 hBx).1
    have y0 := (cell_of_row _ _ 0 _ _ _ hI.l).trans rfl
    have yl := (Array.getElem?_eq_some_iff.1 hI.l).1
    have HI := Lib.hid hI
    have HBx := Lib.hid hBx
    have hlr := hI.lr
    rw [List.length_map] at hlr
    have HLr := Lib.hid hlr
    clear hlr
    clear hI hBx hSp
    have hz50 : w.heap.size + 5 ≤ w6.heap.size := by omega
    have hkq : ∀ b, (b < w6.heap.size ∧ b ≠ w.heap.size + 1 + 1 + 1 ∧ b ≠ w.heap.size + 1 + 1 + 1 + 1) → b < w6.heap.size ∧ b ≠ w.heap.size + 1 + 1 + 1 ∧ b ≠ w.heap.size + 1 + 1 + 1 + 1 := fun b hb => hb
    have HR := Lib.hid hR
    gi_wp2_with (first
      | (gi_at_builtin; refine wpListIn_append_own_at _ rfl _ _ 49 rfl w6.heap.size 3 ii _ 1 8 Tryz.underlying49 HII.out.1 HII.out.2.1 HII.out.2.2.1 HII.out.2.2.2 rfl (by decide) lv pre.length (pre.map (Value.int .i64)) rfl (HLr.out.alloc _) ⟨W.heap.size, 0, none⟩ 1 1 [.int .i64 x] rfl rfl (Tm.one_news (heap_alloc_new W (.cells #[.int .i64 x] 3))) (fun u hu => by simp at hu; subst hu; rfl) (by simp only [maxLen]; omega) (by omega) (by simp; omega) ?_; intro v1 w10 hown1 hgrow1 hnil1 hs1; clear hnil1; obtain ⟨av1, cv1, rfl, _⟩ := Tm.own_at hown1; have hJ1 := HI.out.int (keep := fun b => b < w6.heap.size ∧ b ≠ w.heap.size + 1 + 1 + 1 ∧ b ≠ w.heap.size + 1 + 1 + 1 + 1) hz50 HR.out hkq (by rw [List.length_map]; exact hown1) hgrow1 hs1
         have h10 : W.heap.size + 1 ≤ w10.heap.size := (by have := hgrow1.size; simpa using this)
         have hsame : ∀ b, b < W.heap.size → (∀ g, lv.ownBlock = some g → b ≠ g) → w10.heap[b]? = W.heap[b]? := fun b hb hne => (hgrow1.block b (by simp; omega) (fun e => hne b e.symm rfl)).trans (Below.heap_alloc _ _ _ hb)
         have hl10 : w10.heap[w.heap.size + 1 + 1 + 1]? = some (.cells #[lv] 49 (0, 0)) := (hsame _ (by omega) (fun g hg => (by have := (HI.out.lr.lt g hg).1; omega))).trans HI.out.l
         have ho10 : w10.heap[w.heap.size + 1 + 1 + 1 + 1]? = some (.cells #[ov] 53 (0, 0)) := (hsame _ (by omega) (fun g hg => (by have := (HI.out.lr.lt g hg).1; omega))).trans HI.out.o
         have hx10 : w10.heap[Bx]? = some (.cells #[.int .i64 x, .bool false] 68 (0, 0)) := (hsame _ (by omega) (fun g hg e => (by obtain ⟨cur, hc⟩ := own_cells HI.out.lr hg; subst e; rw [HBx.out] at hc; simp at hc))).trans HBx.out
         have d0 := (cell_of_row _ _ 0 _ _ _ hl10).trans rfl
         have d1 : ∀ i, w10.frozen? ⟨w.heap.size + 1 + 1 + 1, i, none⟩ = false := fun i => by simp [World.frozen?, hl10]
         have d2 := (cell_of_row _ _ 0 _ _ _ ho10).trans rfl
         have d3 := (cell_of_row _ _ 1 _ _ _ hx10).trans rfl
         have hszs : (w10.setCell ⟨w.heap.size + 1 + 1 + 1, 0, none⟩ (.slice av1 (pre.length + 1) cv1)).heap.size = w10.heap.size := by simp [World.setCell]
         have hnew := heap_alloc_new (w10.setCell ⟨w.heap.size + 1 + 1 + 1, 0, none⟩ (.slice av1 (pre.length + 1) cv1)) (.cells #[.bool false] 4)
         rw [hszs] at hnew
         have HNew := Lib.hid hnew
         have hor := hJ1.1.orr
         rw [List.length_map] at hor
         have HOr := Lib.hid hor
         have HJ1 := Lib.hid hJ1
         clear hor
         have Ho10 := Lib.hid ho10
         clear hJ1 hown1 hgrow1 hs1 hsame hl10 ho10 hx10 hnew)
      | (gi_at_builtin; refine wpListIn_append_own_at _ rfl _ _ 53 rfl w6.heap.size 4 ib _ 1 1 Tryz.underlying53 HIB.out.1 HIB.out.2.1 HIB.out.2.2.1 HIB.out.2.2.2 rfl (by decide) ov pre.length (pre.map (fun _ => Value.bool false)) rfl (HOr.out.alloc _) ⟨w10.heap.size, 0, none⟩ 1 1 [.bool false] rfl rfl (Tm.one_news HNew.out) (fun u hu => by simp at hu; subst hu; rfl) (by simp only [maxLen]; omega) (by omega) (by simp; omega) ?_; intro v2 w20 hown2 hgrow2 hnil2 hs2; clear hnil2; obtain ⟨av2, cv2, rfl, _⟩ := Tm.own_at hown2
         have hJ2 := HJ1.out.1.bool (keep := fun b => b < w6.heap.size ∧ b ≠ w.heap.size + 1 + 1 + 1 ∧ b ≠ w.heap.size + 1 + 1 + 1 + 1) hz50 (fun b hb => ⟨(HR.out b hb).1, by have := (HR.out b hb).2; omega⟩) hkq (by rw [List.length_map]; exact hown2) hgrow2 hs2
         have h20 : w10.heap.size + 1 ≤ w20.heap.size := (by have := hgrow2.size; simpa [World.setCell] using this)
         have ho20 : w20.heap[w.heap.size + 1 + 1 + 1 + 1]? = some (.cells #[ov] 53 (0, 0)) := (hgrow2.block _ (by simp; omega) (fun e => by have := (HJ1.out.1.orr.lt _ e.symm).1; omega)).trans ((Below.heap_alloc _ _ _ (by omega)).trans HJ1.out.1.o)
         have d4 := (cell_of_row _ _ 0 _ _ _ ho20).trans rfl
         have d5 : ∀ i, w20.frozen? ⟨w.heap.size + 1 + 1 + 1 + 1, i, none⟩ = false := fun i => by simp [World.frozen?, ho20]
         have HJ2 := Lib.hid hJ2
         clear hJ2 hown2 hgrow2 hs2 ho20))
    refine ⟨(HJ1.out.2.1.trans HJ2.out.2.1).from _, HJ1.out.2.2.1.trans HJ2.out.2.2.1, trivial, .slice av1 (pre.length + 1) cv1, .slice av2 (pre.length + 1) cv2, ?_⟩
    simp only [List.map_append, List.map_cons, List.map_nil]
    exact HJ2.out.1
  case done =>
    rintro D R ys W hD hR rfl ⟨lv, ov, hI⟩ hK
    obtain ⟨bl, cl, hlv⟩ := ownsRow_succ (k := 3) hI.lr
    obtain ⟨bo, co, hov⟩ := ownsRow_succ (k := 3) hI.orr
    have hlv4 : lv = .slice (some ⟨bl, 0, none⟩) 4 cl := hlv
    have hov4 : ov = .slice (some ⟨bo, 0, none⟩) 4 co := hov
    subst hlv4 hov4
    clear hlv hov
    have v3 : W.cell? ⟨bl, 3, none⟩ = some (.int .i64 4) := (hI.lr.cellAt (g := bl) 3 (by simp)).trans rfl
    have o3 : W.cell? ⟨bo, 3, none⟩ = some (.bool false) := (hI.orr.cellAt (g := bo) 3 (by simp)).trans rfl
    have gl := hI.lr.lt bl rfl
    have go := hI.orr.lt bo rfl
    have d0 := (cell_of_row _ _ 0 _ _ _ hI.l).trans rfl
    have d1 : ∀ i, W.frozen? ⟨w.heap.size + 1 + 1 + 1, i, none⟩ = false := fun i => by simp [World.frozen?, hI.l]
    have d2 := (cell_of_row _ _ 0 _ _ _ hI.o).trans rfl
    have d3 : ∀ i, W.frozen? ⟨w.heap.size + 1 + 1 + 1 + 1, i, none⟩ = false := fun i => by simp [World.frozen?, hI.o]
    have hlt := (Array.getElem?_eq_some_iff.1 hI.o).1
    have HI := Lib.hid (And.intro hI (And.intro hK (And.intro v3 o3)))
    clear hI hK v3 o3
    gi_wp2
    gi_region
    gi_wp2
    obtain ⟨hI, hK, v3, o3⟩ := HI.out
    obtain ⟨V, hV⟩ : ∃ V, V = ((W.setCell ⟨w.heap.size + 1 + 1 + 1, 0, none⟩ (.slice (some ⟨bl, 0, none⟩) 4 cl)).setCell ⟨w.heap.size + 1 + 1 + 1 + 1, 0, none⟩ (.slice (some ⟨bo, 0, none⟩) 4 co)).drew := ⟨_, rfl⟩
    have hVo : ∀ b, b ≠ w.heap.size + 1 + 1 + 1 → b ≠ w.heap.size + 1 + 1 + 1 + 1 → V.heap[b]? = W.heap[b]? := fun b h1 h2 => by rw [hV]; exact (Below.heap_setCell _ _ _ b h2).trans (Below.heap_setCell _ _ _ b h1)
    have hVl : V.heap[w.heap.size + 1 + 1 + 1]? = some (.cells #[.slice (some ⟨bl, 0, none⟩) 4 cl] 49 (0, 0)) := by rw [hV]; exact (Below.heap_setCell _ _ _ _ (by show w.heap.size + 1 + 1 + 1 ≠ w.heap.size + 1 + 1 + 1 + 1; omega)).trans (set1 hI.l)
    have hVm : V.heap[w.heap.size + 1 + 1 + 1 + 1]? = some (.cells #[.slice (some ⟨bo, 0, none⟩) 4 co] 53 (0, 0)) := by rw [hV]; exact set1 ((Below.heap_setCell _ _ _ _ (by show w.heap.size + 1 + 1 + 1 + 1 ≠ w.heap.size + 1 + 1 + 1; omega)).trans hI.o)
    have hVz : V.heap.size = W.heap.size := by rw [hV]; simp [World.setCell]
    have hVb : Below w.heap.size w V := by rw [hV]; exact ((hI.bel.setCell (p := ⟨w.heap.size + 1 + 1 + 1, 0, none⟩) (by simp; omega) _).setCell (p := ⟨w.heap.size + 1 + 1 + 1 + 1, 0, none⟩) (by simp; omega) _).drew
    have hVK : V.heap[D]? = some (.deferred (some [])) := (hVo D (by omega) (by omega)).trans hK
    have dbl : bl ≠ D := fun e => by subst e; obtain ⟨cur, hc⟩ := own_cells hI.lr (g := bl) rfl; rw [hK] at hc; cases hc
    have dbo : bo ≠ D := fun e => by subst e; obtain ⟨cur, hc⟩ := own_cells hI.orr (g := bo) rfl; rw [hK] at hc; cases hc
    rw [← hV]
    clear hV
    have hX : ∀ b, b ≠ D → (V.putObj D (.deferred none)).heap[b]? = V.heap[b]? := fun b hb => World.putObj_heap_other hb
    have e0 := (cell_of_row _ _ 0 _ _ _ ((hX _ (by omega)).trans hVl)).trans rfl
    have e1 := (cell_of_row _ _ 0 _ _ _ ((hX _ (by omega)).trans hVm)).trans rfl
    refine ⟨by simp, .inl ⟨_, _, rfl, run_takeDeferred hVK, ?_⟩⟩
    refine ⟨.tuple #[.slice (some ⟨bl, 0, none⟩) 4 cl, .slice (some ⟨bo, 0, none⟩) 4 co, .int .i64 0], by simp [results, Tryz.results12, go_sem, e0, e1], bl, bo, cl, co, rfl, ?_, ?_, by simp; omega, by simp; omega, ?_⟩
    · exact (World.cell?_of_block (a := ⟨bl, 3, none⟩) ((hX bl dbl).trans (hVo bl (by omega) (by omega)))).trans v3
    · exact (World.cell?_of_block (a := ⟨bo, 3, none⟩) ((hX bo dbo).trans (hVo bo (by omega) (by omega)))).trans o3
    · exact hVb.trans (belowK_b (w := w) (Nat.le_refl _) _ D _ _ (by omega) hVK rfl rfl)
  case stop =>
    rintro D R c pre x W hD hR hSp hX hK
    exact hX.elim
theorem Values_nil (m fb tb c : Nat) (w : World) (hG : GA w) (hS : OneR w m) (hW : WrR w fb) (hT : Tm.TabR w nds (some ⟨tb, 0, none⟩) c) :
    Calls Tryz.prog 12 #[.agg #[.slice none 0 0, .slice (some ⟨m, 0, none⟩) 1 1, .slice none 0 0], .agg #[.slice none 0 0, .slice (some ⟨fb, 0, none⟩) 1 1], .agg #[.slice (some ⟨tb, 0, none⟩) 4 c]] w (VlPost w) := callsIn_wide.1 (Values_in m fb tb c w hG hS hW hT)
end Go.Proofs.YtbddghcdibdloaaGreatDoor
namespace Go.Proofs.YtbddghcdibdloaaGreatDoor
open Go.RowKit
set_option linter.unusedVariables false
set_option maxHeartbeats 2000000 in
theorem Value_nil (m fb tb c : Nat) (w : World) (hG : GA w) (hS : OneR w m) (hW : WrR w fb) (hT : Tm.TabR w nds (some ⟨tb, 0, none⟩) c) :
    Calls Tryz.prog 10 #[.agg #[.slice none 0 0, .slice (some ⟨m, 0, none⟩) 1 1, .slice none 0 0], .agg #[.slice none 0 0, .slice (some ⟨fb, 0, none⟩) 1 1], .agg #[.slice (some ⟨tb, 0, none⟩) 4 c], .int .i64 3] w fun e w' => e = .returned (.tuple #[.int .i64 4, .int .i64 0]) ∧ Below w.heap.size w w' := by
  obtain ⟨W0, hW0⟩ : ∃ W0, W0 = (((w.alloc (.cells #[.slice none 0 0, .slice (some ⟨m, 0, none⟩) 1 1, .slice none 0 0] 34)).alloc (.cells #[.slice none 0 0, .slice (some ⟨fb, 0, none⟩) 1 1] 51)).alloc (.cells #[.slice (some ⟨tb, 0, none⟩) 4 c] 37)) := ⟨_, rfl⟩
  have hB0 : Below w.heap.size w W0 := by rw [hW0]; exact (((Below.refl _ _).alloc (Nat.le_refl _) _).alloc (by simp) _).alloc (by simp; omega) _
  have HV : Hid (Calls Tryz.prog 12 #[.agg #[.slice none 0 0, .slice (some ⟨m, 0, none⟩) 1 1, .slice none 0 0], .agg #[.slice none 0 0, .slice (some ⟨fb, 0, none⟩) 1 1], .agg #[.slice (some ⟨tb, 0, none⟩) 4 c]] W0 (VlPost W0)) := Values_nil m fb tb c W0 (hG.below hB0) (hS.below hB0) (hW.below hB0) (hT.below hB0)
  have HB0 := Lib.hid hB0
  clear hG hS hW hT hB0
  go_enter Tryz.func10, Tryz.ntmps10
  go_wp2_with fail
  rw [← hW0]
  clear hW0
  refine HV.out.mono ?_
  rintro e w1 ⟨bl, bo, cl, co, rfl, v3, o3, l1, l2, hb1⟩
  have HA : Hid (Calls Tryz.prog 13 #[.slice (some ⟨bl, 0, none⟩) 4 cl, .slice (some ⟨bo, 0, none⟩) 4 co, .int .i64 3] w1 fun e w' => e = .returned (.tuple #[.int .i64 4, .int .i64 0]) ∧ Below w1.heap.size w1 w') := valueAt_3 bl bo cl co w1 l1 l2 v3 o3
  have HB1 : Hid (Below w.heap.size w w1) := ball' HB0.out hb1
  clear v3 o3 l1 l2 hb1 HV
  go_wp2_with fail
  refine HA.out.mono ?_
  rintro e w2 ⟨rfl, hb2⟩
  go_wp2
  go_ret2
  exact ⟨rfl, ball' HB1.out hb2⟩
/-- Whether a less b is at most n, of numbers that may be. -/
def atM (a b n : Int) : Bool := (mayB a && (mayB b && mayB n)) && decide (a - b ≤ n)
theorem i64_m {x : Int} (h : mayB x = true) : -4611686018427387904 ≤ x ∧ x ≤ 4611686018427387904 := mayB_true.1 h
theorem sub_u64 {a b : Int} (h : 0 ≤ a - b) (h2 : a - b ≤ 9223372036854775808) : IntKind.u64.wrap (IntKind.u64.wrap a - IntKind.u64.wrap b) = a - b := by
  simp [IntKind.wrap, IntKind.signed, IntKind.bits]
  omega
set_option maxHeartbeats 2000000 in
theorem AtMost_any (a b n : Int) (r : Bool) (w : World) (ha : I64 a) (hb : I64 b) (hn : I64 n) (hr : atM a b n = r) :
    Calls Tryz.prog 4 #[.int .i64 a, .int .i64 b, .int .i64 n] w fun e w' => e = .returned (.bool r) ∧ Below w.heap.size w w' := by
  have HM : Hid (∀ x q V, I64 x → mayB x = q → Calls Tryz.prog 7 #[.int .i64 x] V fun e w' => e = .returned (.bool q) ∧ Below V.heap.size V w') := fun x q V hx hq => by
    refine (Tm.May_any x V hx).mono ?_
    rintro e w' ⟨rfl, h⟩
    exact ⟨by rw [hq], h⟩
  have HA := Lib.hid ha
  have HB := Lib.hid hb
  have HN := Lib.hid hn
  clear ha hb hn
  cases h1 : mayB a with
  | false =>
    have e : r = false := by rw [← hr]; unfold atM; rw [h1]; rfl
    subst e
    have H1 := Lib.hid h1
    clear hr h1
    go_enter Tryz.func4, Tryz.ntmps4
    go_wp2_with (go_at_call 7; refine (HM.out a false _ HA.out H1.out).mono ?_; rintro e w1 ⟨rfl, hb1⟩)
    go_ret
    exact ⟨rfl, hb1⟩
  | true =>
    cases h2 : mayB b with
    | false =>
      have e : r = false := by rw [← hr]; unfold atM; rw [h1, h2]; rfl
      subst e
      have H1 := Lib.hid h1
      have H2 := Lib.hid h2
      clear hr h1 h2
      go_enter Tryz.func4, Tryz.ntmps4
      go_wp2_with fail
      refine (HM.out a true _ HA.out H1.out).mono ?_
      rintro e w1 ⟨rfl, hb1⟩
      go_wp2_with fail
      refine (HM.out b false _ HB.out H2.out).mono ?_
      rintro e w2 ⟨rfl, hb2⟩
      go_wp2
      go_ret
      exact ⟨rfl, ball' hb1 hb2⟩
    | true =>
      cases h3 : mayB n with
      | false =>
        have e : r = false := by rw [← hr]; unfold atM; rw [h1, h2, h3]; rfl
        subst e
        have H1 := Lib.hid h1
        have H2 := Lib.hid h2
        have H3 := Lib.hid h3
        clear hr h1 h2 h3
        go_enter Tryz.func4, Tryz.ntmps4
        go_wp2_with fail
        refine (HM.out a true _ HA.out H1.out).mono ?_
        rintro e w1 ⟨rfl, hb1⟩
        have HB1 := Lib.hid hb1
        clear hb1
        go_wp2_with fail
        refine (HM.out b true _ HB.out H2.out).mono ?_
        rintro e w2 ⟨rfl, hb2⟩
        have HB2 := Lib.hid hb2
        clear hb2
        go_wp2_with fail
        refine (HM.out n false _ HN.out H3.out).mono ?_
        rintro e w3 ⟨rfl, hb3⟩
        go_wp2
        go_ret
        exact ⟨rfl, ball' (ball' HB1.out HB2.out) hb3⟩
      | true =>
        have e : r = decide (a - b ≤ n) := by rw [← hr]; unfold atM; rw [h1, h2, h3]; rfl
        obtain ⟨p1, p2⟩ := i64_m h1
        obtain ⟨p3, p4⟩ := i64_m h2
        obtain ⟨p5, p6⟩ := i64_m h3
        have H1 := Lib.hid h1
        have H2 := Lib.hid h2
        have H3 := Lib.hid h3
        have HR := Lib.hid e
        clear hr h1 h2 h3 e
        by_cases hab : a ≤ b
        · go_enter Tryz.func4, Tryz.ntmps4
          go_wp2_with fail
          refine (HM.out a true _ HA.out H1.out).mono ?_
          rintro e w1 ⟨rfl, hb1⟩
          have HB1 := Lib.hid hb1
          clear hb1
          go_wp2_with fail
          refine (HM.out b true _ HB.out H2.out).mono ?_
          rintro e w2 ⟨rfl, hb2⟩
          have HB2 := Lib.hid hb2
          clear hb2
          go_wp2_with fail
          refine (HM.out n true _ HN.out H3.out).mono ?_
          rintro e w3 ⟨rfl, hb3⟩
          have HB3 := Lib.hid (ball' (ball' HB1.out HB2.out) hb3)
          clear hb3
          go_wp2
          go_ret
          exact ⟨by rw [HR.out]; rfl, HB3.out⟩
        · go_enter Tryz.func4, Tryz.ntmps4
          go_wp2_with fail
          refine (HM.out a true _ HA.out H1.out).mono ?_
          rintro e w1 ⟨rfl, hb1⟩
          have HB1 := Lib.hid hb1
          clear hb1
          go_wp2_with fail
          refine (HM.out b true _ HB.out H2.out).mono ?_
          rintro e w2 ⟨rfl, hb2⟩
          have HB2 := Lib.hid hb2
          clear hb2
          go_wp2_with fail
          refine (HM.out n true _ HN.out H3.out).mono ?_
          rintro e w3 ⟨rfl, hb3⟩
          have HB3 := Lib.hid (ball' (ball' HB1.out HB2.out) hb3)
          clear hb3
          go_wp2
          · go_ret
            exact ⟨by rw [HR.out, sub_u64 (by omega) (by omega)]; rfl, HB3.out⟩
          · go_ret
            have e : decide (a - b ≤ n) = false := decide_eq_false (by omega)
            exact ⟨by rw [HR.out, e]; rfl, HB3.out⟩
end Go.Proofs.YtbddghcdibdloaaGreatDoor
