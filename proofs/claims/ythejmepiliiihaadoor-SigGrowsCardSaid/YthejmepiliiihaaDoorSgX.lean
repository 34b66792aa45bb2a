/- Package sig's Cut. -/
import Derived.Test.YthejmepiliiihaaDoorSgW
import Derived.Deep.CutRange
namespace Go.Proofs.YthejmepiliiihaaDoor
open Go.RowKit
set_option linter.unusedVariables false
/-- The first so many of each. -/
def cutA (x : SigA) (a b c : Nat) : SigA := ⟨x.sorts.take a, x.funs.take b, x.macros.take c⟩
theorem part_a (x : SigV) (a b c : Nat) : (partV x a b c).a = cutA x.a a b c := by simp [partV, cutA, SigV.a, List.map_take]
theorem may_fewV {x : SigV} (h : mayA x.a = true) (ht : Rows_ok x.a) : FewV x := by
  unfold mayA at h
  rw [Bool.and_eq_true, Bool.and_eq_true] at h
  exact few_of rfl h.2.2 h.1 ht
theorem rows_cut {x : SigA} (h : Rows_ok x) (a b c : Nat) : Rows_ok (cutA x a b c) := fun m hm => h m (List.mem_of_mem_take hm)
def CutPost (w : World) (x : SigA) (a b c : Nat) (e : Ending) (w' : World) : Prop := ∃ z : SigV, e = .returned (.tuple #[.agg #[.slice z.sa z.sorts.length z.sc, .slice z.fa z.funs.length z.fc, .slice z.ma z.macs.length z.mc], .int .i64 0]) ∧ z.a = cutA x a b c ∧ SigR w' z ∧ SigK w' z ∧ Below w.heap.size w w'
set_option maxRecDepth 100000 in
set_option maxHeartbeats 4000000 in
theorem Cut_any (x : SigV) (a b c : Nat) (w : World) (hG : GS w) (hR : SigR w x) (hK : SigK w x) (hT : Rows_ok x.a) (hm : mayA x.a = true) (hm2 : mayA (cutA x.a a b c) = true) (ha : a ≤ x.sorts.length) (hb : b ≤ x.funs.length) (hc : c ≤ x.macs.length) :
    Calls Tryd.prog 9 #[.agg #[.slice x.sa x.sorts.length x.sc, .slice x.fa x.funs.length x.fc, .slice x.ma x.macs.length x.mc], .int .i64 a, .int .i64 b, .int .i64 c] w (CutPost w x.a a b c) := by
  have hfew := may_few hm
  obtain ⟨W0, hW0⟩ : ∃ W0, W0 = (w.alloc (.cells #[.slice x.sa x.sorts.length x.sc, .slice x.fa x.funs.length x.fc, .slice x.ma x.macs.length x.mc] 26)).alloc (.cells #[.slice none 0 0, .slice none 0 0, .slice none 0 0] 26) := ⟨_, rfl⟩
  have hB0 : Below w.heap.size w W0 := by rw [hW0]; exact ((Below.refl _ _).alloc (Nat.le_refl _) _).alloc (by simp) _
  have hX0 : W0.heap[w.heap.size]? = some (.cells #[.slice x.sa x.sorts.length x.sc, .slice x.fa x.funs.length x.fc, .slice x.ma x.macs.length x.mc] 26 (0, 0)) := by rw [hW0]; exact (Below.heap_alloc _ _ _ (by simp)).trans (heap_alloc_new w _)
  have hY0 : W0.heap[w.heap.size + 1]? = some (.cells #[.slice none 0 0, .slice none 0 0, .slice none 0 0] 26 (0, 0)) := by
    rw [hW0]
    have := heap_alloc_new (w.alloc (.cells #[.slice x.sa x.sorts.length x.sc, .slice x.fa x.funs.length x.fc, .slice x.ma x.macs.length x.mc] 26)) (.cells #[.slice none 0 0, .slice none 0 0, .slice none 0 0] 26)
    rwa [World.size_alloc] at this
  have hsz0 : W0.heap.size = w.heap.size + 2 := by rw [hW0]; simp
  have HMay : Hid (∀ V, Below w.heap.size w V → Calls Tryd.prog 20 #[.agg #[.slice x.sa x.sorts.length x.sc, .slice x.fa x.funs.length x.fc, .slice x.ma x.macs.length x.mc]] V fun e w' => e = .returned (.bool true) ∧ Below V.heap.size V w') := fun V hV => by
    refine (may_any x V (hG.below hV) (hR.below hV)).mono ?_
    rintro e w' ⟨r, rfl, h1, h2, h3⟩
    rw [h2 (hK.below hV), hm]
    exact ⟨rfl, h3⟩
  have HUp : ∀ n m : Nat, n ≤ m → Hid (∀ V, Calls Tryd.prog 21 #[.int .i64 n, .int .i64 m] V fun e w' => e = .returned (.bool true) ∧ V = w') := fun n m h V => upTo_any n m true V (by rw [decide_eq_true (by omega), decide_eq_true (by omega)]; rfl)
  have HU1 := HUp a x.sorts.length ha
  have HU2 := HUp b x.funs.length hb
  have HU3 := HUp c x.macs.length hc
  have HPart : Hid (∀ V, Calls Tryd.prog 22 #[.agg #[.slice x.sa x.sorts.length x.sc, .slice x.fa x.funs.length x.fc, .slice x.ma x.macs.length x.mc], .int .i64 a, .int .i64 b, .int .i64 c] V fun e w' => e = .returned (.agg #[.slice x.sa a a, .slice x.fa b b, .slice x.ma c c]) ∧ Below V.heap.size V w') := fun V => part_aux x.sa x.fa x.ma x.sorts.length x.funs.length x.macs.length x.sc x.fc x.mc a b c V (Nat.le_trans ha hR.sl) (Nat.le_trans hb hR.fl) (Nat.le_trans hc hR.ml)
  have hla : (partV x a b c).sorts.length = a := by simp [partV]; omega
  have hlb : (partV x a b c).funs.length = b := by simp [partV]; omega
  have hlc : (partV x a b c).macs.length = c := by simp [partV]; omega
  have HMay2 : Hid (∀ V, Below w.heap.size w V → Calls Tryd.prog 20 #[.agg #[.slice x.sa a a, .slice x.fa b b, .slice x.ma c c]] V fun e w' => e = .returned (.bool true) ∧ Below V.heap.size V w') := fun V hV => by
    have := may_any (partV x a b c) V (hG.below hV) (part_R (hR.below hV) ha hb hc)
    rw [hla, hlb, hlc] at this
    refine this.mono ?_
    rintro e w' ⟨r, rfl, h1, h2, h3⟩
    rw [h2 (part_K (hK.below hV)), part_a, hm2]
    exact ⟨rfl, h3⟩
  have HAn : Hid (∀ V, Below w.heap.size w V → Calls Tryd.prog 23 #[.agg #[.slice x.sa a a, .slice x.fa b b, .slice x.ma c c]] V (SigPost V (cutA x.a a b c))) := fun V hV => by
    have := anew_any (partV x a b c) V (part_R (hR.below hV) ha hb hc) (may_fewV (by rw [part_a]; exact hm2) (by rw [part_a]; exact rows_cut hT a b c))
    rw [hla, hlb, hlc, part_a] at this
    exact this
  have HSK : Hid (∀ V, Below W0.heap.size W0 V → V.cell? ⟨w.heap.size, 0, none⟩ = some (.slice x.sa x.sorts.length x.sc) ∧ V.cell? ⟨w.heap.size, 1, none⟩ = some (.slice x.fa x.funs.length x.fc) ∧ V.cell? ⟨w.heap.size, 2, none⟩ = some (.slice x.ma x.macs.length x.mc) ∧ (∀ i, V.frozen? ⟨w.heap.size, i, none⟩ = false) ∧ w.heap.size < V.heap.size) := fun V hV => by
    have e0 := (hV.block _ (by omega)).trans hX0
    have a0 := cell_of_row _ _ 0 _ _ _ e0
    have a1 := cell_of_row _ _ 1 _ _ _ e0
    have a2 := cell_of_row _ _ 2 _ _ _ e0
    simp only [List.getElem?_toArray, List.getElem?_cons_zero, List.getElem?_cons_succ] at a0 a1 a2
    exact ⟨a0, a1, a2, fun i => by simp [World.frozen?, e0], (Array.getElem?_eq_some_iff.1 e0).1⟩
  have HX0 := Lib.hid hX0
  have HY0 := Lib.hid hY0
  have HB0 := Lib.hid hB0
  obtain ⟨a0, a1, a2, af, az⟩ := HSK.out _ (Below.refl _ _)
  clear HUp hG hR hK hT hm hm2 hla hlb hlc hX0 hY0 hB0 hfew
  go_enter Tryd.func9, Tryd.ntmps9
  go_wp2_with (first | (go_at_call 20; rw [← hW0]; clear hW0; refine (HMay.out _ HB0.out).mono ?_; rintro e w1 ⟨rfl, hb1⟩; clear a0 a1 a2 af az; obtain ⟨a0, a1, a2, af, az⟩ := HSK.out _ hb1) | (go_at_call 21; with_reducible refine (HU1.out _).mono ?_; rintro e w2 ⟨rfl, rfl⟩) | (go_at_call 21; with_reducible refine (HU2.out _).mono ?_; rintro e w2 ⟨rfl, rfl⟩) | (go_at_call 21; with_reducible refine (HU3.out _).mono ?_; rintro e w2 ⟨rfl, rfl⟩) | (go_at_call 22; refine (HPart.out _).mono ?_; rintro e w3 ⟨rfl, hb3⟩; have hB3 : Below W0.heap.size W0 w3 := hb1.trans (hb3.mono hb1.size); clear a0 a1 a2 af az; obtain ⟨a0, a1, a2, af, az⟩ := HSK.out _ hB3))
  have hx3 : w3.heap[w.heap.size]? = some (.cells #[.slice x.sa x.sorts.length x.sc, .slice x.fa x.funs.length x.fc, .slice x.ma x.macs.length x.mc] 26 (0, 0)) := (hB3.block _ (by omega)).trans HX0.out
  have hx4 := set3 (v0 := .slice x.sa a a) (v1 := .slice x.fa b b) (v2 := .slice x.ma c c) hx3
  have hy4 : (((w3.setCell ⟨w.heap.size, 0, none⟩ (.slice x.sa a a)).setCell ⟨w.heap.size, 1, none⟩ (.slice x.fa b b)).setCell ⟨w.heap.size, 2, none⟩ (.slice x.ma c c)).heap[w.heap.size + 1]? = _ := (three_oth (by omega)).trans ((hB3.block _ (by omega)).trans HY0.out)
  have hb4 : Below w.heap.size w (((w3.setCell ⟨w.heap.size, 0, none⟩ (.slice x.sa a a)).setCell ⟨w.heap.size, 1, none⟩ (.slice x.fa b b)).setCell ⟨w.heap.size, 2, none⟩ (.slice x.ma c c)) := (((HB0.out.trans (hB3.mono HB0.out.size)).setCell (p := ⟨w.heap.size, 0, none⟩) (by simp) _).setCell (p := ⟨w.heap.size, 1, none⟩) (by simp) _).setCell (p := ⟨w.heap.size, 2, none⟩) (by simp) _
  generalize (((w3.setCell ⟨w.heap.size, 0, none⟩ (.slice x.sa a a)).setCell ⟨w.heap.size, 1, none⟩ (.slice x.fa b b)).setCell ⟨w.heap.size, 2, none⟩ (.slice x.ma c c)) = w4 at hx4 hy4 hb4 ⊢
  have hs4 : w.heap.size + 1 < w4.heap.size := (Array.getElem?_eq_some_iff.1 hy4).1
  clear a0 a1 a2 af az hx3 hb1 hb3 hB3 HSK
  refine (HMay2.out _ hb4).mono ?_
  rintro e w5 ⟨rfl, hb5⟩
  have hx5 := (hb5.block _ (by omega)).trans hx4
  have hy5 := (hb5.block _ hs4).trans hy4
  have hB5 : Below w.heap.size w w5 := hb4.trans (hb5.mono hb4.size)
  have p0 := cell_of_row _ _ 0 _ _ _ hx5
  have p1 := cell_of_row _ _ 1 _ _ _ hx5
  have p2 := cell_of_row _ _ 2 _ _ _ hx5
  simp only [List.getElem?_toArray, List.getElem?_cons_zero, List.getElem?_cons_succ] at p0 p1 p2
  have hs5 : w.heap.size + 1 < w5.heap.size := (Array.getElem?_eq_some_iff.1 hy5).1
  have HY5 := Lib.hid hy5
  have HB5 := Lib.hid hB5
  clear hx4 hy4 hb4 hb5 hx5 hy5 hB5
  go_wp2_with (go_at_call 23; refine (HAn.out _ HB5.out).mono ?_; rintro e w6 ⟨z, rfl, hza, hzR, hzK, hb6⟩; have HZ := Lib.hid (And.intro hza (And.intro hzR hzK)); clear hza hzR hzK; have hy := (hb6.block _ hs5).trans HY5.out; have d0 := cell_of_row _ _ 0 _ _ _ hy; have d1 := cell_of_row _ _ 1 _ _ _ hy; have d2 := cell_of_row _ _ 2 _ _ _ hy; have df : ∀ i, w6.frozen? ⟨w.heap.size + 1, i, none⟩ = false := (fun i => by simp [World.frozen?, hy]); simp only [List.getElem?_toArray, List.getElem?_cons_zero, List.getElem?_cons_succ] at d0 d1 d2; have HY := Lib.hid hy; clear hy)
  have hc := set3 (v0 := .slice z.sa z.sorts.length z.sc) (v1 := .slice z.fa z.funs.length z.fc) (v2 := .slice z.ma z.macs.length z.mc) HY.out
  have hbf := (((HB5.out.trans (hb6.mono HB5.out.size)).setCell (p := ⟨w.heap.size + 1, 0, none⟩) (by simp <;> omega) (.slice z.sa z.sorts.length z.sc)).setCell (p := ⟨w.heap.size + 1, 1, none⟩) (by simp <;> omega) (.slice z.fa z.funs.length z.fc)).setCell (p := ⟨w.heap.size + 1, 2, none⟩) (by simp <;> omega) (.slice z.ma z.macs.length z.mc)
  have hof : ∀ c, c ≠ w.heap.size + 1 → (((w6.setCell ⟨w.heap.size + 1, 0, none⟩ (.slice z.sa z.sorts.length z.sc)).setCell ⟨w.heap.size + 1, 1, none⟩ (.slice z.fa z.funs.length z.fc)).setCell ⟨w.heap.size + 1, 2, none⟩ (.slice z.ma z.macs.length z.mc)).heap[c]? = w6.heap[c]? := fun c hc => three_oth hc
  have hsf : (((w6.setCell ⟨w.heap.size + 1, 0, none⟩ (.slice z.sa z.sorts.length z.sc)).setCell ⟨w.heap.size + 1, 1, none⟩ (.slice z.fa z.funs.length z.fc)).setCell ⟨w.heap.size + 1, 2, none⟩ (.slice z.ma z.macs.length z.mc)).heap.size = w6.heap.size := by simp [World.setCell]
  have k0 := cell_of_row _ _ 0 _ _ _ hc
  have k1 := cell_of_row _ _ 1 _ _ _ hc
  have k2 := cell_of_row _ _ 2 _ _ _ hc
  simp only [List.getElem?_toArray, List.getElem?_cons_zero, List.getElem?_cons_succ] at k0 k1 k2
  generalize (((w6.setCell ⟨w.heap.size + 1, 0, none⟩ (.slice z.sa z.sorts.length z.sc)).setCell ⟨w.heap.size + 1, 1, none⟩ (.slice z.fa z.funs.length z.fc)).setCell ⟨w.heap.size + 1, 2, none⟩ (.slice z.ma z.macs.length z.mc)) = Wf at k0 k1 k2 hc hbf hof hsf ⊢
  refine bodyPost_ret (v := .tuple #[.agg #[.slice z.sa z.sorts.length z.sc, .slice z.fa z.funs.length z.fc, .slice z.ma z.macs.length z.mc], .int .i64 0]) (by simp [results, Tryd.results9, go_sem, k0, k1, k2]) rfl ?_
  obtain ⟨s1, s2⟩ := sig_off HZ.out.2.1 HZ.out.2.2 (slices_zero HY.out) hof hsf
  exact ⟨z, rfl, HZ.out.1, s1, s2, hbf⟩
end Go.Proofs.YthejmepiliiihaaDoor
