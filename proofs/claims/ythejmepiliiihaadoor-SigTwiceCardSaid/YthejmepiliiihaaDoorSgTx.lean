/- SigTwice's walk. -/
import Derived.Test.YthejmepiliiihaaDoorSgTw
namespace Go.Proofs.YthejmepiliiihaaDoor
open Go.RowKit
set_option linter.unusedVariables false
set_option maxRecDepth 100000 in
set_option maxHeartbeats 4000000 in
theorem SigTwice_w (x : SigV) (f : FunA) (s : ByteArray) (w : World) (hG : GS w) (hR : SigR w x) (hT : Rows_ok x.a) (hF : FunOk f) (hs : s.size ≤ maxLen) :
    Calls Tryd.prog 4 #[.agg #[.slice x.sa x.sorts.length x.sc, .slice x.fa x.funs.length x.fc, .slice x.ma x.macs.length x.mc], .agg #[.string f.name, .int .i64 f.len, .int .i64 f.a0, .int .i64 f.a1, .int .i64 f.a2, .int .i64 f.res], .string s] w fun e w' => e = .returned (.bool true) ∧ Below w.heap.size w w' := by
  obtain ⟨W0, hW0⟩ : ∃ W0, W0 = (w.alloc (.cells #[.slice x.sa x.sorts.length x.sc, .slice x.fa x.funs.length x.fc, .slice x.ma x.macs.length x.mc] 26)).alloc (.cells #[.string f.name, .int .i64 f.len, .int .i64 f.a0, .int .i64 f.a1, .int .i64 f.a2, .int .i64 f.res] 29) := ⟨_, rfl⟩
  have hB0 : Below w.heap.size w W0 := by rw [hW0]; exact ((Below.refl _ _).alloc (Nat.le_refl _) _).alloc (by simp) _
  have hX0 : W0.heap[w.heap.size]? = some (.cells #[.slice x.sa x.sorts.length x.sc, .slice x.fa x.funs.length x.fc, .slice x.ma x.macs.length x.mc] 26 (0, 0)) := by rw [hW0]; exact (Below.heap_alloc _ _ _ (by simp)).trans (heap_alloc_new w _)
  have hY0 : W0.heap[w.heap.size + 1]? = some (.cells #[.string f.name, .int .i64 f.len, .int .i64 f.a0, .int .i64 f.a1, .int .i64 f.a2, .int .i64 f.res] 29 (0, 0)) := by
    rw [hW0]
    have := heap_alloc_new (w.alloc (.cells #[.slice x.sa x.sorts.length x.sc, .slice x.fa x.funs.length x.fc, .slice x.ma x.macs.length x.mc] 26)) (.cells #[.string f.name, .int .i64 f.len, .int .i64 f.a0, .int .i64 f.a1, .int .i64 f.a2, .int .i64 f.res] 29)
    rwa [World.size_alloc] at this
  have hsz0 : W0.heap.size = w.heap.size + 2 := by rw [hW0]; simp
  have HSZ := Lib.hid hsz0
  have HGr : Hid (∀ V, Below w.heap.size w V → Calls Tryd.prog 5 #[.agg #[.slice x.sa x.sorts.length x.sc, .slice x.fa x.funs.length x.fc, .slice x.ma x.macs.length x.mc]] V (BoolPost V)) := fun V hV => Great_any x V (hR.below hV)
  have HW : Hid (∀ V, Below w.heap.size w V → Calls Tryd.prog 6 #[] V fun e w' => e = .returned (.bool true) ∧ Below V.heap.size V w') := fun V hV => wakes_any V (hG.below hV)
  have HAS : Hid (∀ V, Below w.heap.size w V → Calls Tryd.prog 7 #[.agg #[.slice x.sa x.sorts.length x.sc, .slice x.fa x.funs.length x.fc, .slice x.ma x.macs.length x.mc], .string s] V (SoPost V x s)) := fun V hV => sort_so x s V (hG.below hV) (hR.below hV) hs hT
  have HAF : Hid (∀ V, Below w.heap.size w V → Calls Tryd.prog 12 #[.agg #[.slice x.sa x.sorts.length x.sc, .slice x.fa x.funs.length x.fc, .slice x.ma x.macs.length x.mc], .agg #[.string f.name, .int .i64 f.len, .int .i64 f.a0, .int .i64 f.a1, .int .i64 f.a2, .int .i64 f.res]] V (FoPost V x f)) := fun V hV => fun_fo x f V (hG.below hV) (hR.below hV) hF hT
  have HKX : Hid (∀ V, Below W0.heap.size W0 V → V.heap[w.heap.size]? = some (.cells #[.slice x.sa x.sorts.length x.sc, .slice x.fa x.funs.length x.fc, .slice x.ma x.macs.length x.mc] 26 (0, 0)) ∧ V.heap[w.heap.size + 1]? = some (.cells #[.string f.name, .int .i64 f.len, .int .i64 f.a0, .int .i64 f.a1, .int .i64 f.a2, .int .i64 f.res] 29 (0, 0))) := fun V hV => ⟨(hV.block _ (by omega)).trans hX0, (hV.block _ (by omega)).trans hY0⟩
  have HB0 := Lib.hid hB0
  have HG := Lib.hid hG
  have HR := Lib.hid hR
  have HF := Lib.hid hF
  have HS := Lib.hid hs
  have HT := Lib.hid hT
  obtain ⟨a0, a1, a2⟩ := sig_cells hX0
  obtain ⟨b0, b1, b2, b3, b4, b5⟩ := fun_cells hY0
  have hn0 : f.name.size ≤ 9223372036854775807 := by have := hF.name; simp only [maxLen] at this; omega
  have hn1 : s.size ≤ 9223372036854775807 := by simp only [maxLen] at hs; omega
  clear hG hR hT hF hs hB0 hX0 hY0 hsz0
  go_enter Tryd.func4, Tryd.ntmps4
  go_wp2_with (first | (go_at_call 5; rw [← hW0]; clear hW0; refine (HGr.out _ HB0.out).mono ?_; rintro e w1 ⟨⟨r, rfl⟩, hb1⟩; clear a0 a1 a2 b0 b1 b2 b3 b4 b5; obtain ⟨a0, a1, a2⟩ := sig_cells (HKX.out _ hb1).1; obtain ⟨b0, b1, b2, b3, b4, b5⟩ := fun_cells (HKX.out _ hb1).2; have HB1 := Lib.hid (HB0.out.trans (hb1.mono HB0.out.size)); have HQ1 := Lib.hid hb1; clear hb1; cases r) | (go_at_call 6; refine (HW.out _ HB1.out).mono ?_; rintro e wz ⟨rfl, hbz⟩; have hfin := HB1.out.trans (hbz.mono HB1.out.size)))
  · go_ret
    exact ⟨rfl, hfin⟩
  · refine (HAS.out _ HB1.out).mono ?_
    rintro e w2 ⟨z1, r1, rfl, hb2, h2⟩
    have hq2 : Below W0.heap.size W0 w2 := HQ1.out.trans (hb2.mono HQ1.out.size)
    have HB2 := Lib.hid (HB1.out.trans (hb2.mono HB1.out.size))
    clear a0 a1 a2 b0 b1 b2 b3 b4 b5
    have HX2 := Lib.hid (HKX.out _ hq2)
    have hw2 : w.heap.size + 1 < w2.heap.size := by have := hq2.size; have := HSZ.out; omega
    have HKZ : Hid (∀ V, Below (w2.heap.size + 1) (w2.alloc (.cells #[.slice z1.sa z1.sorts.length z1.sc, .slice z1.fa z1.funs.length z1.fc, .slice z1.ma z1.macs.length z1.mc] 26)) V → V.heap[w2.heap.size]? = some (.cells #[.slice z1.sa z1.sorts.length z1.sc, .slice z1.fa z1.funs.length z1.fc, .slice z1.ma z1.macs.length z1.mc] 26 (0, 0)) ∧ V.heap[w.heap.size]? = some (.cells #[.slice x.sa x.sorts.length x.sc, .slice x.fa x.funs.length x.fc, .slice x.ma x.macs.length x.mc] 26 (0, 0)) ∧ V.heap[w.heap.size + 1]? = some (.cells #[.string f.name, .int .i64 f.len, .int .i64 f.a0, .int .i64 f.a1, .int .i64 f.a2, .int .i64 f.res] 29 (0, 0))) := fun V hV => ⟨(hV.block _ (by omega)).trans (heap_alloc_new w2 _), ((hV.block _ (by omega)).trans (Below.heap_alloc _ _ _ (by omega))).trans HX2.out.1, ((hV.block _ (by omega)).trans (Below.heap_alloc _ _ _ (by omega))).trans HX2.out.2⟩
    have HAZ : Hid (Below w2.heap.size w2 (w2.alloc (.cells #[.slice z1.sa z1.sorts.length z1.sc, .slice z1.fa z1.funs.length z1.fc, .slice z1.ma z1.macs.length z1.mc] 26))) := (Below.refl _ _).alloc (Nat.le_refl _) _
    have HZ := Lib.hid h2
    have HQ2 := Lib.hid hq2
    clear hb2 h2 hq2
    by_cases hr : r1 = 0
    case' pos =>
      subst hr
      obtain ⟨hz, hzR, hzK, hmx, hmz, hfz⟩ := HZ.out rfl
      have HN : Hid (∀ V, Below w2.heap.size w2 V → Calls Tryd.prog 7 #[.agg #[.slice z1.sa z1.sorts.length z1.sc, .slice z1.fa z1.funs.length z1.fc, .slice z1.ma z1.macs.length z1.mc], .string s] V (NoPost V 32)) := fun V hV => sort_no x z1 s V (HG.out.below (HB2.out.trans (hV.mono HB2.out.size))) (hzR.below hV) (hzK.below hV) HS.out HT.out hz hmz hfz
      obtain ⟨q, hq⟩ : ∃ q, q = freeA (memB (s, false) (namesA x.a)) s false := ⟨_, rfl⟩
      have HF1 : Hid (∀ V, Below w2.heap.size w2 V → Calls Tryd.prog 14 #[.agg #[.slice z1.sa z1.sorts.length z1.sc, .slice z1.fa z1.funs.length z1.fc, .slice z1.ma z1.macs.length z1.mc], .string s, .bool false] V fun e w' => e = .returned (.int .i64 q) ∧ Below V.heap.size V w') := fun V hV => Free_any z1 s false q V (HG.out.below (HB2.out.trans (hV.mono HB2.out.size))) (hzR.below hV) HS.out (names_few hmz) ((twice_sort' hz).trans hq.symm)
      have HF2 : Hid (∀ V, Below w2.heap.size w2 V → Calls Tryd.prog 14 #[.agg #[.slice x.sa x.sorts.length x.sc, .slice x.fa x.funs.length x.fc, .slice x.ma x.macs.length x.mc], .string s, .bool false] V fun e w' => e = .returned (.int .i64 q) ∧ Below V.heap.size V w') := fun V hV => Free_any x s false q V (HG.out.below (HB2.out.trans (hV.mono HB2.out.size))) (HR.out.below (HB2.out.trans (hV.mono HB2.out.size))) HS.out (names_few hmx) hq.symm
      clear hq hz hzR hzK hmx hmz hfz HZ
      go_wp2_with fail
      refine (HN.out _ HAZ.out).mono ?_
      rintro e w3 ⟨z', rfl, hb3⟩
      rw [World.size_alloc] at hb3
      have hk3 := HKZ.out _ hb3
      have hx3 : (w3.alloc (.cells #[.slice z'.sa z'.sorts.length z'.sc, .slice z'.fa z'.funs.length z'.fc, .slice z'.ma z'.macs.length z'.mc] 26)).heap[w2.heap.size]? = some (.cells #[.slice z1.sa z1.sorts.length z1.sc, .slice z1.fa z1.funs.length z1.fc, .slice z1.ma z1.macs.length z1.mc] 26 (0, 0)) := (Below.heap_alloc _ _ _ (by have := hb3.size; simp at this; omega)).trans hk3.1
      have hy3 : (w3.alloc (.cells #[.slice z'.sa z'.sorts.length z'.sc, .slice z'.fa z'.funs.length z'.fc, .slice z'.ma z'.macs.length z'.mc] 26)).heap[w.heap.size]? = some (.cells #[.slice x.sa x.sorts.length x.sc, .slice x.fa x.funs.length x.fc, .slice x.ma x.macs.length x.mc] 26 (0, 0)) := (Below.heap_alloc _ _ _ (by have := hb3.size; simp at this; omega)).trans hk3.2.1
      have HQ3 : Hid (Below (w2.heap.size + 1) (w2.alloc (.cells #[.slice z1.sa z1.sorts.length z1.sc, .slice z1.fa z1.funs.length z1.fc, .slice z1.ma z1.macs.length z1.mc] 26)) (w3.alloc (.cells #[.slice z'.sa z'.sorts.length z'.sc, .slice z'.fa z'.funs.length z'.fc, .slice z'.ma z'.macs.length z'.mc] 26))) := hb3.alloc (by have := hb3.size; simp at this; omega) _
      have H0 : Hid (_ ∧ _ ∧ _ ∧ _ ∧ _ ∧ _) := ⟨(sig_cells hx3).1, (sig_cells hx3).2.1, (sig_cells hx3).2.2, (sig_cells hy3).1, (sig_cells hy3).2.1, (sig_cells hy3).2.2⟩
      have HX3 := Lib.hid hx3
      have HY3 := Lib.hid hy3
      have hqq : (q != q) = false := by simp
      clear hb3 hk3 hx3 hy3
      go_wp2_with fail
      have hs3 : w2.heap.size + 1 ≤ (w3.alloc (.cells #[.slice z'.sa z'.sorts.length z'.sc, .slice z'.fa z'.funs.length z'.fc, .slice z'.ma z'.macs.length z'.mc] 26)).heap.size := by have := HQ3.out.size; rwa [World.size_alloc] at this
      generalize (w3.alloc (.cells #[.slice z'.sa z'.sorts.length z'.sc, .slice z'.fa z'.funs.length z'.fc, .slice z'.ma z'.macs.length z'.mc] 26)) = W3 at H0 HX3 HY3 HQ3 hs3 ⊢
      have hi1 : w2.heap.size < W3.heap.size := by omega
      have hi2 : w.heap.size < W3.heap.size := by omega
      have HP3 : Hid (Below w2.heap.size w2 W3) := HAZ.out.trans (HQ3.out.mono (by omega))
      go_region_held3 (fun V => V.cell? ⟨w2.heap.size, 0, none⟩ = some (.slice z1.sa z1.sorts.length z1.sc) ∧ V.cell? ⟨w2.heap.size, 1, none⟩ = some (.slice z1.fa z1.funs.length z1.fc) ∧ V.cell? ⟨w2.heap.size, 2, none⟩ = some (.slice z1.ma z1.macs.length z1.mc) ∧ V.cell? ⟨w.heap.size, 0, none⟩ = some (.slice x.sa x.sorts.length x.sc) ∧ V.cell? ⟨w.heap.size, 1, none⟩ = some (.slice x.fa x.funs.length x.fc) ∧ V.cell? ⟨w.heap.size, 2, none⟩ = some (.slice x.ma x.macs.length x.mc))
        (first | exact H0.out | exact ⟨(hc4 _ _ hi1).trans H0.out.1, (hc4 _ _ hi1).trans H0.out.2.1, (hc4 _ _ hi1).trans H0.out.2.2.1, (hc4 _ _ hi2).trans H0.out.2.2.2.1, (hc4 _ _ hi2).trans H0.out.2.2.2.2.1, (hc4 _ _ hi2).trans H0.out.2.2.2.2.2⟩ | exact ⟨(hc5 _ _ hj1).trans ((hc4 _ _ hi1).trans H0.out.1), (hc5 _ _ hj1).trans ((hc4 _ _ hi1).trans H0.out.2.1), (hc5 _ _ hj1).trans ((hc4 _ _ hi1).trans H0.out.2.2.1), (hc5 _ _ hj2).trans ((hc4 _ _ hi2).trans H0.out.2.2.2.1), (hc5 _ _ hj2).trans ((hc4 _ _ hi2).trans H0.out.2.2.2.2.1), (hc5 _ _ hj2).trans ((hc4 _ _ hi2).trans H0.out.2.2.2.2.2)⟩ | go_keep)
        (first | (go_at_call 14; have HP4' := HP4.out; refine (HF2.out _ (by first | exact HP4.out.drew | exact HP4.out)).mono ?_; rintro e w5 ⟨rfl, hb5⟩; obtain ⟨hc5, hf5⟩ := bcell hb5) | (go_at_call 14; refine (HF1.out _ (by first | exact HP3.out.drew | exact HP3.out)).mono ?_; rintro e w4 ⟨rfl, hb4⟩; obtain ⟨hc4, hf4⟩ := bcell hb4; have hj1 : w2.heap.size < w4.heap.size := Nat.lt_of_lt_of_le hi1 hb4.size; have hj2 : w.heap.size < w4.heap.size := Nat.lt_of_lt_of_le hi2 hb4.size; have HP4 : Hid (Below w2.heap.size w2 w4) := HP3.out.drew.trans (hb4.mono (by show w2.heap.size ≤ W3.heap.size; omega))))
      have hq5 : Below (w2.heap.size + 1) (w2.alloc (.cells #[.slice z1.sa z1.sorts.length z1.sc, .slice z1.fa z1.funs.length z1.fc, .slice z1.ma z1.macs.length z1.mc] 26)) w5 := (HQ3.out.drew.trans (hb4.mono (by show w2.heap.size + 1 ≤ W3.heap.size; omega))).trans (hb5.mono (by have := hb4.size; show w2.heap.size + 1 ≤ w4.heap.size; exact Nat.le_trans hs3 this)) 
      have HXq := Lib.hid (HKZ.out _ hq5).2
      have HBq := Lib.hid (HB2.out.trans ((HAZ.out.trans (hq5.mono (by omega))).mono HB2.out.size))
      obtain ⟨a0, a1, a2⟩ := sig_cells HXq.out.1
      obtain ⟨b0, b1, b2, b3, b4, b5⟩ := fun_cells HXq.out.2
      clear hc4 hf4 hb4 hc5 hf5 hb5 hq5 HP4 HP3 hj1 hj2 hs3 HQ3 H0 HX3 HY3 hi1 hi2 hqq
      go_wp2_with fail
    case' neg =>
      have e1 : (r1 == 0) = false := by simp [hr]
      have HXq : Hid (∀ o, (w2.alloc o).heap[w.heap.size]? = some (.cells #[.slice x.sa x.sorts.length x.sc, .slice x.fa x.funs.length x.fc, .slice x.ma x.macs.length x.mc] 26 (0, 0)) ∧ (w2.alloc o).heap[w.heap.size + 1]? = some (.cells #[.string f.name, .int .i64 f.len, .int .i64 f.a0, .int .i64 f.a1, .int .i64 f.a2, .int .i64 f.res] 29 (0, 0))) := fun o => ⟨(Below.heap_alloc _ _ _ (by omega)).trans HX2.out.1, (Below.heap_alloc _ _ _ (by omega)).trans HX2.out.2⟩
      have HBq := Lib.hid (HB2.out.trans (HAZ.out.mono HB2.out.size))
      have a0 := fun o => (sig_cells (HXq.out o).1).1
      have a1 := fun o => (sig_cells (HXq.out o).1).2.1
      have a2 := fun o => (sig_cells (HXq.out o).1).2.2
      have b0 := fun o => (fun_cells (HXq.out o).2).1
      have b1 := fun o => (fun_cells (HXq.out o).2).2.1
      have b2 := fun o => (fun_cells (HXq.out o).2).2.2.1
      have b3 := fun o => (fun_cells (HXq.out o).2).2.2.2.1
      have b4 := fun o => (fun_cells (HXq.out o).2).2.2.2.2.1
      have b5 := fun o => (fun_cells (HXq.out o).2).2.2.2.2.2
      have HXq := Lib.hid (HXq.out (.cells #[.slice z1.sa z1.sorts.length z1.sc, .slice z1.fa z1.funs.length z1.fc, .slice z1.ma z1.macs.length z1.mc] 26))
      go_wp2_with fail
    all_goals clear a0 a1 a2 b0 b1 b2 b3 b4 b5
    all_goals
      refine (HAF.out _ (by first | exact HBq.out | exact HBq.out.drew)).mono ?_
      rintro e w6 ⟨z2, r2, rfl, hb6, h6⟩
      have HX6 : Hid (w6.heap[w.heap.size]? = some (.cells #[.slice x.sa x.sorts.length x.sc, .slice x.fa x.funs.length x.fc, .slice x.ma x.macs.length x.mc] 26 (0, 0)) ∧ w6.heap[w.heap.size + 1]? = some (.cells #[.string f.name, .int .i64 f.len, .int .i64 f.a0, .int .i64 f.a1, .int .i64 f.a2, .int .i64 f.res] 29 (0, 0))) := ⟨(hb6.block _ (Array.getElem?_eq_some_iff.1 HXq.out.1).1).trans HXq.out.1, (hb6.block _ (Array.getElem?_eq_some_iff.1 HXq.out.2).1).trans HXq.out.2⟩
      have hw6 : w.heap.size + 1 < w6.heap.size := (Array.getElem?_eq_some_iff.1 HX6.out.2).1
      have HB6 : Hid (Below w.heap.size w w6) := HBq.out.trans (hb6.mono HBq.out.size)
      have HKP : Hid (∀ V, Below (w6.heap.size + 1) (w6.alloc (.cells #[.slice z2.sa z2.sorts.length z2.sc, .slice z2.fa z2.funs.length z2.fc, .slice z2.ma z2.macs.length z2.mc] 26)) V → V.heap[w6.heap.size]? = some (.cells #[.slice z2.sa z2.sorts.length z2.sc, .slice z2.fa z2.funs.length z2.fc, .slice z2.ma z2.macs.length z2.mc] 26 (0, 0)) ∧ V.heap[w.heap.size]? = some (.cells #[.slice x.sa x.sorts.length x.sc, .slice x.fa x.funs.length x.fc, .slice x.ma x.macs.length x.mc] 26 (0, 0)) ∧ V.heap[w.heap.size + 1]? = some (.cells #[.string f.name, .int .i64 f.len, .int .i64 f.a0, .int .i64 f.a1, .int .i64 f.a2, .int .i64 f.res] 29 (0, 0))) := fun V hV => ⟨(hV.block _ (by omega)).trans (heap_alloc_new w6 _), ((hV.block _ (by omega)).trans (Below.heap_alloc _ _ _ (by omega))).trans HX6.out.1, ((hV.block _ (by omega)).trans (Below.heap_alloc _ _ _ (by omega))).trans HX6.out.2⟩
      have HAP : Hid (Below w6.heap.size w6 (w6.alloc (.cells #[.slice z2.sa z2.sorts.length z2.sc, .slice z2.fa z2.funs.length z2.fc, .slice z2.ma z2.macs.length z2.mc] 26))) := (Below.refl _ _).alloc (Nat.le_refl _) _
      have HP := Lib.hid h6
      clear hb6 h6 HXq HBq
      by_cases hr2 : r2 = 0
    all_goals first
      | (have e2 : (r2 != 0) = true := by simp [hr2]
         go_wp2_with (go_at_call 6; refine (HW.out _ (HB6.out.trans (HAP.out.mono HB6.out.size))).mono ?_; rintro e wz ⟨rfl, hbz⟩; have hfin := (HB6.out.trans (HAP.out.mono HB6.out.size)).trans (hbz.mono (HB6.out.trans (HAP.out.mono HB6.out.size)).size))
         go_ret
         exact ⟨rfl, hfin⟩)
      | skip
    all_goals
      subst hr2
      obtain ⟨hz, hzR, hzK, hmx, hmz, hfz⟩ := HP.out rfl
      have HNF : Hid (∀ V, Below w6.heap.size w6 V → Calls Tryd.prog 12 #[.agg #[.slice z2.sa z2.sorts.length z2.sc, .slice z2.fa z2.funs.length z2.fc, .slice z2.ma z2.macs.length z2.mc], .agg #[.string f.name, .int .i64 f.len, .int .i64 f.a0, .int .i64 f.a1, .int .i64 f.a2, .int .i64 f.res]] V (NoPost V 32)) := fun V hV => fun_no x z2 f V (HG.out.below (HB6.out.trans (hV.mono HB6.out.size))) (hzR.below hV) (hzK.below hV) HF.out HT.out hz hmz hfz
      have HNM : Hid (∀ V, Below w6.heap.size w6 V → Calls Tryd.prog 15 #[.agg #[.slice z2.sa z2.sorts.length z2.sc, .slice z2.fa z2.funs.length z2.fc, .slice z2.ma z2.macs.length z2.mc], .agg #[.string f.name, .slice none 0 0, .int .i64 0, .int .i8 0, .string ⟨#[116, 114, 117, 101]⟩, .slice none 0 0]] V (NoPost V 32)) := fun V hV => mac_no x z2 f V (HG.out.below (HB6.out.trans (hV.mono HB6.out.size))) (hzR.below hV) (hzK.below hV) HF.out HT.out hz hmz hfz
      obtain ⟨q2, hq2⟩ : ∃ q2, q2 = freeA (memB (f.name, true) (namesA x.a)) f.name true := ⟨_, rfl⟩
      have HF3 : Hid (∀ V, Below w6.heap.size w6 V → Calls Tryd.prog 14 #[.agg #[.slice z2.sa z2.sorts.length z2.sc, .slice z2.fa z2.funs.length z2.fc, .slice z2.ma z2.macs.length z2.mc], .string f.name, .bool true] V fun e w' => e = .returned (.int .i64 q2) ∧ Below V.heap.size V w') := fun V hV => Free_any z2 f.name true q2 V (HG.out.below (HB6.out.trans (hV.mono HB6.out.size))) (hzR.below hV) HF.out.name (names_few hmz) ((twice_fun' hz).trans hq2.symm)
      have HF4 : Hid (∀ V, Below w6.heap.size w6 V → Calls Tryd.prog 14 #[.agg #[.slice x.sa x.sorts.length x.sc, .slice x.fa x.funs.length x.fc, .slice x.ma x.macs.length x.mc], .string f.name, .bool true] V fun e w' => e = .returned (.int .i64 q2) ∧ Below V.heap.size V w') := fun V hV => Free_any x f.name true q2 V (HG.out.below (HB6.out.trans (hV.mono HB6.out.size))) (HR.out.below (HB6.out.trans (hV.mono HB6.out.size))) HF.out.name (names_few hmx) hq2.symm
      clear hq2 hz hzR hzK hmx hmz hfz HP
      have HO : Hid (∀ o, (w6.alloc o).heap[w.heap.size + 1]? = some (.cells #[.string f.name, .int .i64 f.len, .int .i64 f.a0, .int .i64 f.a1, .int .i64 f.a2, .int .i64 f.res] 29 (0, 0))) := fun o => (Below.heap_alloc _ _ _ (by omega)).trans HX6.out.2
      have b0 := fun o => (fun_cells (HO.out o)).1
      have b1 := fun o => (fun_cells (HO.out o)).2.1
      have b2 := fun o => (fun_cells (HO.out o)).2.2.1
      have b3 := fun o => (fun_cells (HO.out o)).2.2.2.1
      have b4 := fun o => (fun_cells (HO.out o)).2.2.2.2.1
      have b5 := fun o => (fun_cells (HO.out o)).2.2.2.2.2
      go_wp2_with fail
      refine (HNF.out _ HAP.out).mono ?_
      rintro e w7 ⟨z3, rfl, hb7⟩
      rw [World.size_alloc] at hb7
      have hs7 : w6.heap.size + 1 ≤ w7.heap.size := by have := hb7.size; rwa [World.size_alloc] at this
      have HQ7 : Hid (∀ o, Below (w6.heap.size + 1) (w6.alloc (.cells #[.slice z2.sa z2.sorts.length z2.sc, .slice z2.fa z2.funs.length z2.fc, .slice z2.ma z2.macs.length z2.mc] 26)) (w7.alloc o)) := fun o => hb7.alloc hs7 _
      clear b0 b1 b2 b3 b4 b5 hb7
      have a0 := fun o => (sig_cells (HKP.out _ (HQ7.out o)).1).1
      have a1 := fun o => (sig_cells (HKP.out _ (HQ7.out o)).1).2.1
      have a2 := fun o => (sig_cells (HKP.out _ (HQ7.out o)).1).2.2
      have b0 := fun o => (fun_cells (HKP.out _ (HQ7.out o)).2.2).1
      have HQ8 := Lib.hid (HQ7.out (.cells #[.slice z3.sa z3.sorts.length z3.sc, .slice z3.fa z3.funs.length z3.fc, .slice z3.ma z3.macs.length z3.mc] 26))
      have HA8 := Lib.hid (HAP.out.trans (HQ8.out.mono (by omega)))
      clear HQ7
      go_wp2_with fail
      refine (HNM.out _ HA8.out).mono ?_
      rintro e w8 ⟨z4, rfl, hb8⟩
      clear a0 a1 a2 b0
      have hs8 : w6.heap.size + 1 ≤ w8.heap.size := by have := hb8.size; rw [World.size_alloc] at this; omega
      have HQ9 : Hid (Below (w6.heap.size + 1) (w6.alloc (.cells #[.slice z2.sa z2.sorts.length z2.sc, .slice z2.fa z2.funs.length z2.fc, .slice z2.ma z2.macs.length z2.mc] 26)) (w8.alloc (.cells #[.slice z4.sa z4.sorts.length z4.sc, .slice z4.fa z4.funs.length z4.fc, .slice z4.ma z4.macs.length z4.mc] 26))) := (HQ8.out.trans (hb8.mono (by rw [World.size_alloc]; omega))).alloc hs8 _
      have HS9 : Hid (∀ V, Below (w6.heap.size + 1) (w6.alloc (.cells #[.slice z2.sa z2.sorts.length z2.sc, .slice z2.fa z2.funs.length z2.fc, .slice z2.ma z2.macs.length z2.mc] 26)) V → V.cell? ⟨w6.heap.size, 0, none⟩ = some (.slice z2.sa z2.sorts.length z2.sc) ∧ V.cell? ⟨w6.heap.size, 1, none⟩ = some (.slice z2.fa z2.funs.length z2.fc) ∧ V.cell? ⟨w6.heap.size, 2, none⟩ = some (.slice z2.ma z2.macs.length z2.mc) ∧ V.cell? ⟨w.heap.size, 0, none⟩ = some (.slice x.sa x.sorts.length x.sc) ∧ V.cell? ⟨w.heap.size, 1, none⟩ = some (.slice x.fa x.funs.length x.fc) ∧ V.cell? ⟨w.heap.size, 2, none⟩ = some (.slice x.ma x.macs.length x.mc) ∧ V.cell? ⟨w.heap.size + 1, 0, none⟩ = some (.string f.name)) := fun V hV => ⟨(sig_cells (HKP.out _ hV).1).1, (sig_cells (HKP.out _ hV).1).2.1, (sig_cells (HKP.out _ hV).1).2.2, (sig_cells (HKP.out _ hV).2.1).1, (sig_cells (HKP.out _ hV).2.1).2.1, (sig_cells (HKP.out _ hV).2.1).2.2, (fun_cells (HKP.out _ hV).2.2).1⟩
      have hqq : (q2 == q2) = true := by simp
      clear hb8
      go_wp2_with fail
      have hs9 : w6.heap.size + 1 ≤ (w8.alloc (.cells #[.slice z4.sa z4.sorts.length z4.sc, .slice z4.fa z4.funs.length z4.fc, .slice z4.ma z4.macs.length z4.mc] 26)).heap.size := by rw [World.size_alloc]; omega
      generalize (w8.alloc (.cells #[.slice z4.sa z4.sorts.length z4.sc, .slice z4.fa z4.funs.length z4.fc, .slice z4.ma z4.macs.length z4.mc] 26)) = W9 at HQ9 hs9 ⊢
      go_region_held3 (fun V => V.cell? ⟨w6.heap.size, 0, none⟩ = some (.slice z2.sa z2.sorts.length z2.sc) ∧ V.cell? ⟨w6.heap.size, 1, none⟩ = some (.slice z2.fa z2.funs.length z2.fc) ∧ V.cell? ⟨w6.heap.size, 2, none⟩ = some (.slice z2.ma z2.macs.length z2.mc) ∧ V.cell? ⟨w.heap.size, 0, none⟩ = some (.slice x.sa x.sorts.length x.sc) ∧ V.cell? ⟨w.heap.size, 1, none⟩ = some (.slice x.fa x.funs.length x.fc) ∧ V.cell? ⟨w.heap.size, 2, none⟩ = some (.slice x.ma x.macs.length x.mc) ∧ V.cell? ⟨w.heap.size + 1, 0, none⟩ = some (.string f.name))
        (first | exact HS9.out W9 HQ9.out | exact HS9.out w10 hq10 | exact HS9.out w11 hq11 | exact HS9.out w12 hq12 | go_keep)
        (first | (go_at_call 6; refine (HW.out _ (by first | exact HB11.out.drew | exact HB11.out)).mono ?_; rintro e w12 ⟨rfl, hb12⟩; have hq12 : Below (w6.heap.size + 1) (w6.alloc (.cells #[.slice z2.sa z2.sorts.length z2.sc, .slice z2.fa z2.funs.length z2.fc, .slice z2.ma z2.macs.length z2.mc] 26)) w12 := hq11.trans (hb12.mono hq11s)) | (go_at_call 14; have HB10' := HB10.out; refine (HF4.out _ (by first | exact HB10.out.drew | exact HB10.out)).mono ?_; rintro e w11 ⟨rfl, hb11⟩; have hq11 : Below (w6.heap.size + 1) (w6.alloc (.cells #[.slice z2.sa z2.sorts.length z2.sc, .slice z2.fa z2.funs.length z2.fc, .slice z2.ma z2.macs.length z2.mc] 26)) w11 := hq10.trans (hb11.mono hq10s); have hq11s : w6.heap.size + 1 ≤ w11.heap.size := Nat.le_trans hq10s hb11.size; have HB11 : Hid (Below w.heap.size w w11) := HB6.out.trans ((HAP.out.trans (hq11.mono (by omega))).mono HB6.out.size)) | (go_at_call 14; refine (HF3.out _ (by first | exact (HAP.out.trans (HQ9.out.mono (by omega))).drew | exact HAP.out.trans (HQ9.out.mono (by omega)))).mono ?_; rintro e w10 ⟨rfl, hb10⟩; have hq10 : Below (w6.heap.size + 1) (w6.alloc (.cells #[.slice z2.sa z2.sorts.length z2.sc, .slice z2.fa z2.funs.length z2.fc, .slice z2.ma z2.macs.length z2.mc] 26)) w10 := HQ9.out.drew.trans (hb10.mono (by show w6.heap.size + 1 ≤ W9.heap.size; omega)); have hq10s : w6.heap.size + 1 ≤ w10.heap.size := Nat.le_trans hs9 hb10.size; have HB10 : Hid (Below w6.heap.size w6 w10) := HAP.out.trans (hq10.mono (by omega))))
      have hfin : Below w.heap.size w w12 := HB6.out.trans ((HAP.out.trans (hq12.mono (by omega))).mono HB6.out.size)
      go_wp2
      go_ret
      exact ⟨rfl, hfin⟩
  · go_ret
    exact ⟨rfl, hfin⟩
theorem SigTwice_c (w : World) (x : SigV) (hx : SigR w x ∧ Rows_ok x.a) (f : FunA) (hF : FunOk f) (s : ByteArray) (hs : s.size ≤ maxLen) (hG : GS w) :
    Calls Tryd.prog 4 #[.agg #[.slice x.sa x.sorts.length x.sc, .slice x.fa x.funs.length x.fc, .slice x.ma x.macs.length x.mc], .agg #[.string f.name, .int .i64 f.len, .int .i64 f.a0, .int .i64 f.a1, .int .i64 f.a2, .int .i64 f.res], .string s] w fun e w' => e = .returned (.bool true) ∧ Below w.heap.size w w' := SigTwice_w x f s w hG hx.1 hx.2 hF hs
end Go.Proofs.YthejmepiliiihaaDoor
