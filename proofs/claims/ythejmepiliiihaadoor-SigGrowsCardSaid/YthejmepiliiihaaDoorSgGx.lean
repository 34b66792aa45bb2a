/- SigGrows' walk. -/
import Derived.Test.YthejmepiliiihaaDoorSgGr
namespace Go.Proofs.YthejmepiliiihaaDoor
open Go.RowKit
set_option linter.unusedVariables false
set_option maxRecDepth 100000 in
set_option maxHeartbeats 4000000 in
theorem SigGrows_w (x : SigV) (s : ByteArray) (f : FunA) (o : ByteArray) (w : World) (hG : GS w) (hR : SigR w x) (hT : Rows_ok x.a) (hF : FunOk f) (hs : s.size ≤ maxLen) (ho : o.size ≤ maxLen) :
    Calls Tryd.prog 3 #[.agg #[.slice x.sa x.sorts.length x.sc, .slice x.fa x.funs.length x.fc, .slice x.ma x.macs.length x.mc], .string s, .agg #[.string f.name, .int .i64 f.len, .int .i64 f.a0, .int .i64 f.a1, .int .i64 f.a2, .int .i64 f.res], .string o] w fun e w' => e = .returned (.bool true) ∧ Below w.heap.size w w' := by
  obtain ⟨W0, hW0⟩ : ∃ W0, W0 = (w.alloc (.cells #[.slice x.sa x.sorts.length x.sc, .slice x.fa x.funs.length x.fc, .slice x.ma x.macs.length x.mc] 26)).alloc (.cells #[.string f.name, .int .i64 f.len, .int .i64 f.a0, .int .i64 f.a1, .int .i64 f.a2, .int .i64 f.res] 29) := ⟨_, rfl⟩
  have hB0 : Below w.heap.size w W0 := by rw [hW0]; exact ((Below.refl _ _).alloc (Nat.le_refl _) _).alloc (by simp) _
  have hX0 : W0.heap[w.heap.size]? = some (.cells #[.slice x.sa x.sorts.length x.sc, .slice x.fa x.funs.length x.fc, .slice x.ma x.macs.length x.mc] 26 (0, 0)) := by rw [hW0]; exact (Below.heap_alloc _ _ _ (by simp)).trans (heap_alloc_new w _)
  have hY0 : W0.heap[w.heap.size + 1]? = some (.cells #[.string f.name, .int .i64 f.len, .int .i64 f.a0, .int .i64 f.a1, .int .i64 f.a2, .int .i64 f.res] 29 (0, 0)) := by
    rw [hW0]
    have := heap_alloc_new (w.alloc (.cells #[.slice x.sa x.sorts.length x.sc, .slice x.fa x.funs.length x.fc, .slice x.ma x.macs.length x.mc] 26)) (.cells #[.string f.name, .int .i64 f.len, .int .i64 f.a0, .int .i64 f.a1, .int .i64 f.a2, .int .i64 f.res] 29)
    rwa [World.size_alloc] at this
  have hsz0 : W0.heap.size = w.heap.size + 2 := by rw [hW0]; simp
  have HSZ := Lib.hid hsz0
  have HGr : Hid (∀ V, Below w.heap.size w V → Calls Tryd.prog 5 #[.agg #[.slice x.sa x.sorts.length x.sc, .slice x.fa x.funs.length x.fc, .slice x.ma x.macs.length x.mc]] V (BoolPost V)) := fun V hV => Great_any x V (hR.below hV)
  have HW : Hid (∀ V, Below w.heap.size w V → Calls Tryd.prog 6 #[] V fun e w' => e = .returned (.bool true) ∧ Below V.heap.size V w') := fun V hV => wakes_any V (hG.below hV)
  have HAS : Hid (∀ V, Below w.heap.size w V → Calls Tryd.prog 7 #[.agg #[.slice x.sa x.sorts.length x.sc, .slice x.fa x.funs.length x.fc, .slice x.ma x.macs.length x.mc], .string s] V (SoPost V x s)) := fun V hV => sort_so x s V (hG.below hV) (hR.below hV) hs hT
  have HAF : Hid (∀ V, Below w.heap.size w V → Calls Tryd.prog 12 #[.agg #[.slice x.sa x.sorts.length x.sc, .slice x.fa x.funs.length x.fc, .slice x.ma x.macs.length x.mc], .agg #[.string f.name, .int .i64 f.len, .int .i64 f.a0, .int .i64 f.a1, .int .i64 f.a2, .int .i64 f.res]] V (FoPost V x f)) := fun V hV => fun_fo x f V (hG.below hV) (hR.below hV) hF hT
  have HKX : Hid (∀ V, Below W0.heap.size W0 V → V.heap[w.heap.size]? = some (.cells #[.slice x.sa x.sorts.length x.sc, .slice x.fa x.funs.length x.fc, .slice x.ma x.macs.length x.mc] 26 (0, 0)) ∧ V.heap[w.heap.size + 1]? = some (.cells #[.string f.name, .int .i64 f.len, .int .i64 f.a0, .int .i64 f.a1, .int .i64 f.a2, .int .i64 f.res] 29 (0, 0))) := fun V hV => ⟨(hV.block _ (by omega)).trans hX0, (hV.block _ (by omega)).trans hY0⟩
  have HB0 := Lib.hid hB0
  have HG := Lib.hid hG
  have HR := Lib.hid hR
  have HF := Lib.hid hF
  have HS := Lib.hid hs
  have HT := Lib.hid hT
  obtain ⟨a0, a1, a2⟩ := sig_cells hX0
  obtain ⟨b0, b1, b2, b3, b4, b5⟩ := fun_cells hY0
  have hn0 : f.name.size ≤ 9223372036854775807 := by have := hF.name; simp only [maxLen] at this; omega
  have hn2 : o.size ≤ 9223372036854775807 := by simp only [maxLen] at ho; omega
  have hn1 : s.size ≤ 9223372036854775807 := by simp only [maxLen] at hs; omega
  clear hG hR hT hF hs ho hB0 hX0 hY0 hsz0
  go_enter Tryd.func3, Tryd.ntmps3
  go_wp2_with (first | (go_at_call 5; rw [← hW0]; clear hW0; refine (HGr.out _ HB0.out).mono ?_; rintro e w1 ⟨⟨r, rfl⟩, hb1⟩; clear a0 a1 a2 b0 b1 b2 b3 b4 b5; obtain ⟨a0, a1, a2⟩ := sig_cells (HKX.out _ hb1).1; obtain ⟨b0, b1, b2, b3, b4, b5⟩ := fun_cells (HKX.out _ hb1).2; have HB1 := Lib.hid (HB0.out.trans (hb1.mono HB0.out.size)); have HQ1 := Lib.hid hb1; clear hb1; cases r) | (go_at_call 6; refine (HW.out _ HB1.out).mono ?_; rintro e wz ⟨rfl, hbz⟩; have hfin := HB1.out.trans (hbz.mono HB1.out.size)))
  · go_ret
    exact ⟨rfl, hfin⟩
  · go_quiet (fail)
    have HBN := Lib.hid (below_drewN HB1.out nq)
    have HQN := Lib.hid (below_drewN HQ1.out nq)
    go_wp2_with fail
    generalize w1.drewN nq = W1 at HBN HQN ⊢
    refine (HAS.out _ HBN.out).mono ?_
    rintro e w2 ⟨z1, r1, rfl, hb2, h2⟩
    have hq2 : Below W0.heap.size W0 w2 := HQN.out.trans (hb2.mono HQN.out.size)
    have HB2 := Lib.hid (HBN.out.trans (hb2.mono HBN.out.size))
    clear a0 a1 a2 b0 b1 b2 b3 b4 b5
    have HX2 := Lib.hid (HKX.out _ hq2)
    have hw2 : w.heap.size + 1 < w2.heap.size := by have := hq2.size; have := HSZ.out; omega
    have HKZ : Hid (∀ V, Below (w2.heap.size + 1) (w2.alloc (.cells #[.slice z1.sa z1.sorts.length z1.sc, .slice z1.fa z1.funs.length z1.fc, .slice z1.ma z1.macs.length z1.mc] 26)) V → V.heap[w2.heap.size]? = some (.cells #[.slice z1.sa z1.sorts.length z1.sc, .slice z1.fa z1.funs.length z1.fc, .slice z1.ma z1.macs.length z1.mc] 26 (0, 0)) ∧ V.heap[w.heap.size]? = some (.cells #[.slice x.sa x.sorts.length x.sc, .slice x.fa x.funs.length x.fc, .slice x.ma x.macs.length x.mc] 26 (0, 0)) ∧ V.heap[w.heap.size + 1]? = some (.cells #[.string f.name, .int .i64 f.len, .int .i64 f.a0, .int .i64 f.a1, .int .i64 f.a2, .int .i64 f.res] 29 (0, 0))) := fun V hV => ⟨(hV.block _ (by omega)).trans (heap_alloc_new w2 _), ((hV.block _ (by omega)).trans (Below.heap_alloc _ _ _ (by omega))).trans HX2.out.1, ((hV.block _ (by omega)).trans (Below.heap_alloc _ _ _ (by omega))).trans HX2.out.2⟩
    have HAZ : Hid (Below w2.heap.size w2 (w2.alloc (.cells #[.slice z1.sa z1.sorts.length z1.sc, .slice z1.fa z1.funs.length z1.fc, .slice z1.ma z1.macs.length z1.mc] 26))) := (Below.refl _ _).alloc (Nat.le_refl _) _
    have HZ := Lib.hid h2
    clear hb2 h2 hq2 HBN HQN HQ1 HB1
    by_cases hr : r1 = 0
    case' pos =>
      subst hr
      obtain ⟨hz, hzR, hzK, hmx, hmz, hfz⟩ := HZ.out rfl
      have hGV : ∀ V, Below w2.heap.size w2 V → GS V := fun V hV => HG.out.below (HB2.out.trans (hV.mono HB2.out.size))
      have hRV : ∀ V, Below w2.heap.size w2 V → SigR V x := fun V hV => HR.out.below (HB2.out.trans (hV.mono HB2.out.size))
      have HS1 : Hid (∀ V, Below w2.heap.size w2 V → Calls Tryd.prog 8 #[.agg #[.slice z1.sa z1.sorts.length z1.sc, .slice z1.fa z1.funs.length z1.fc, .slice z1.ma z1.macs.length z1.mc], .string s] V fun e w' => e = .returned (.tuple #[.int .i64 (2 + (x.sorts.length : Int)), .bool true]) ∧ Below V.heap.size V w') := fun V hV => sort_added V (hGV V hV) (hzR.below hV) hz hmz hfz
      have HSo : ∃ (d : Bool) (i1 i2 : Int) (t1 t2 : Bool), (o.toList == s.toList) = d ∧ (d = false → i1 = i2 ∧ t1 = t2) ∧ Hid (∀ V, Below w2.heap.size w2 V → Calls Tryd.prog 8 #[.agg #[.slice z1.sa z1.sorts.length z1.sc, .slice z1.fa z1.funs.length z1.fc, .slice z1.ma z1.macs.length z1.mc], .string o] V fun e w' => e = .returned (.tuple #[.int .i64 i1, .bool t1]) ∧ Below V.heap.size V w') ∧ Hid (∀ V, Below w2.heap.size w2 V → Calls Tryd.prog 8 #[.agg #[.slice x.sa x.sorts.length x.sc, .slice x.fa x.funs.length x.fc, .slice x.ma x.macs.length x.mc], .string o] V fun e w' => e = .returned (.tuple #[.int .i64 i2, .bool t2]) ∧ Below V.heap.size V w') := by
        refine ⟨_, sortI (x.sorts ++ [s]) o, sortI x.sorts o, sortB (x.sorts ++ [s]) o, sortB x.sorts o, rfl, fun hd => ?_, fun V hV => sort_other V (hGV V hV) (hzR.below hV) hz hmz, fun V hV => Sort_any x o V (hGV V hV) (hRV V hV) (by have := may_few hmx; omega)⟩
        have hne : ¬ o = s := fun e => by rw [e, tl_yes] at hd; cases hd
        exact ⟨(sort_old hne).2, (sort_old hne).1⟩
      have HCu : Hid (∀ V, Below w2.heap.size w2 V → Calls Tryd.prog 9 #[.agg #[.slice z1.sa z1.sorts.length z1.sc, .slice z1.fa z1.funs.length z1.fc, .slice z1.ma z1.macs.length z1.mc], .int .i64 x.sorts.length, .int .i64 x.funs.length, .int .i64 x.macs.length] V (CbPost V x)) := fun V hV => cut_back x z1 V (hGV V hV) (hzR.below hV) (hzK.below hV) (by rw [hz]; exact HT.out) hmx hmz (back_sort hz) (len_sort hz).2.1 (len_sort hz).2.2.1 (len_sort hz).2.2.2
      have HCk : Hid (∀ V, Below w2.heap.size w2 V → Calls Tryd.prog 11 #[.agg #[.slice z1.sa z1.sorts.length z1.sc, .slice z1.fa z1.funs.length z1.fc, .slice z1.ma z1.macs.length z1.mc]] V fun e w' => e = .returned (.int .i64 0) ∧ Below V.heap.size V w') := fun V hV => check_ok z1 V (hGV V hV) (hzR.below hV) (hzK.below hV) hmz
      have HRV := Lib.hid hRV
      obtain ⟨d, i1, i2, t1, t2, hd, hii, HS2, HS3⟩ := HSo
      have hl4 : x.sorts.length ≤ 4 := (may_few hmx).1
      clear hz hzR hzK hmx hmz hfz HZ hGV hRV
      go_wp2_with fail
      refine (HS1.out _ HAZ.out).mono ?_
      rintro e w3 ⟨rfl, hb3⟩
      rw [World.size_alloc] at hb3
      have HQ3 := Lib.hid hb3
      have HP3 := Lib.hid (HAZ.out.trans (hb3.mono (by omega)))
      clear hb3
      obtain ⟨c0, c1, c2⟩ := sig_cells (HKZ.out _ HQ3.out).1
      go_wp2_with fail
      refine (HS2.out _ HP3.out).mono ?_
      rintro e w4 ⟨rfl, hb4⟩
      have HQ4 := Lib.hid (HQ3.out.trans (hb4.mono (by have := HQ3.out.size; rwa [World.size_alloc] at this)))
      have HP4 := Lib.hid (HAZ.out.trans (HQ4.out.mono (by omega)))
      clear c0 c1 c2 hb4
      obtain ⟨a0, a1, a2⟩ := sig_cells (HKZ.out _ HQ4.out).2.1
      go_wp2_with fail
      refine (HS3.out _ HP4.out).mono ?_
      rintro e w5 ⟨rfl, hb5⟩
      have HQ5 := Lib.hid (HQ4.out.trans (hb5.mono (by have := HQ4.out.size; rwa [World.size_alloc] at this)))
      have HP5 := Lib.hid (HAZ.out.trans (HQ5.out.mono (by omega)))
      clear a0 a1 a2 hb5
      obtain ⟨c0, c1, c2⟩ := sig_cells (HKZ.out _ HQ5.out).1
      go_wp2_with fail
      refine (HCu.out _ HP5.out).mono ?_
      rintro e w6 ⟨zc, rfl, hca, hcR, hb6⟩
      have hs5 : w2.heap.size + 1 ≤ w5.heap.size := by have := HQ5.out.size; rwa [World.size_alloc] at this
      have hs6 : w2.heap.size + 1 ≤ w6.heap.size := Nat.le_trans hs5 hb6.size
      have HQ6 : Hid (Below (w2.heap.size + 1) (w2.alloc (.cells #[.slice z1.sa z1.sorts.length z1.sc, .slice z1.fa z1.funs.length z1.fc, .slice z1.ma z1.macs.length z1.mc] 26)) (w6.alloc (.cells #[.slice zc.sa zc.sorts.length zc.sc, .slice zc.fa zc.funs.length zc.fc, .slice zc.ma zc.macs.length zc.mc] 26))) := (HQ5.out.trans (hb6.mono hs5)).alloc hs6 _
      have HAC : Hid (Below w6.heap.size w6 (w6.alloc (.cells #[.slice zc.sa zc.sorts.length zc.sc, .slice zc.fa zc.funs.length zc.fc, .slice zc.ma zc.macs.length zc.mc] 26))) := (Below.refl _ _).alloc (Nat.le_refl _) _
      have HSm : Hid (∀ V, Below w6.heap.size w6 V → Calls Tryd.prog 10 #[.agg #[.slice zc.sa zc.sorts.length zc.sc, .slice zc.fa zc.funs.length zc.fc, .slice zc.ma zc.macs.length zc.mc], .agg #[.slice x.sa x.sorts.length x.sc, .slice x.fa x.funs.length x.fc, .slice x.ma x.macs.length x.mc]] V fun e w' => e = .returned (.bool true) ∧ Below V.heap.size V w') := fun V hV => RSig_same zc x V (hcR.below hV) (HRV.out _ ((HP5.out.trans (hb6.mono (by omega))).trans (hV.mono (by omega)))) hca
      clear c0 c1 c2 hb6 hca hcR
      have a0 := (sig_cells (HKZ.out _ HQ6.out).2.1).1
      have a1 := (sig_cells (HKZ.out _ HQ6.out).2.1).2.1
      have a2 := (sig_cells (HKZ.out _ HQ6.out).2.1).2.2
      have l1 : ((2 + (x.sorts.length : Int)) != 2 + (x.sorts.length : Int)) = false := by simp
      have l2 : (i2 != i2) = false := by simp
      have l3 : (t2 != t2) = false := by simp
      have hs7 : w2.heap.size + 1 ≤ (w6.alloc (.cells #[.slice zc.sa zc.sorts.length zc.sc, .slice zc.fa zc.funs.length zc.fc, .slice zc.ma zc.macs.length zc.mc] 26)).heap.size := by rw [World.size_alloc]; omega
      cases d
      case' false => obtain ⟨rfl, rfl⟩ := hii rfl
      all_goals
        clear hii
        go_wp2_with fail
        refine (HSm.out _ HAC.out).mono ?_
        rintro e w7 ⟨rfl, hb7⟩
        have HQ7 := Lib.hid (HQ6.out.trans (hb7.mono hs7))
        clear a0 a1 a2 hb7
        obtain ⟨c0, c1, c2⟩ := sig_cells (HKZ.out _ HQ7.out).1
        go_wp2_with fail
        refine (HCk.out _ (HAZ.out.trans (HQ7.out.mono (by omega)))).mono ?_
        rintro e w8 ⟨rfl, hb8⟩
        have hq8 := HQ7.out.trans (hb8.mono (by have := HQ7.out.size; rwa [World.size_alloc] at this))
        have HXq := Lib.hid (HKZ.out _ hq8).2
        have HBq := Lib.hid (HB2.out.trans ((HAZ.out.trans (hq8.mono (by omega))).mono HB2.out.size))
        clear c0 c1 c2 hb8 hq8 hs7 HQ7 HQ6 HSm HAC HQ5 HP5 HQ4 HP4 HQ3 HP3 HS1 HS2 HS3 HCu HCk HRV l1 l2 l3 hs5 hs6
        obtain ⟨a0, a1, a2⟩ := sig_cells HXq.out.1
        obtain ⟨b0, b1, b2, b3, b4, b5⟩ := fun_cells HXq.out.2
        go_wp2_with fail
    case' neg =>
      have e1 : (r1 == 0) = false := by simp [hr]
      have HXq : Hid (∀ o, (w2.alloc o).heap[w.heap.size]? = some (.cells #[.slice x.sa x.sorts.length x.sc, .slice x.fa x.funs.length x.fc, .slice x.ma x.macs.length x.mc] 26 (0, 0)) ∧ (w2.alloc o).heap[w.heap.size + 1]? = some (.cells #[.string f.name, .int .i64 f.len, .int .i64 f.a0, .int .i64 f.a1, .int .i64 f.a2, .int .i64 f.res] 29 (0, 0))) := fun o => ⟨(Below.heap_alloc _ _ _ (by omega)).trans HX2.out.1, (Below.heap_alloc _ _ _ (by omega)).trans HX2.out.2⟩
      have HBq := Lib.hid (HB2.out.trans (HAZ.out.mono HB2.out.size))
      have a0 := fun o => (sig_cells (HXq.out o).1).1
      have a1 := fun o => (sig_cells (HXq.out o).1).2.1
      have a2 := fun o => (sig_cells (HXq.out o).1).2.2
      have b0 := fun o => (fun_cells (HXq.out o).2).1
      have b1 := fun o => (fun_cells (HXq.out o).2).2.1
      have b2 := fun o => (fun_cells (HXq.out o).2).2.2.1
      have b3 := fun o => (fun_cells (HXq.out o).2).2.2.2.1
      have b4 := fun o => (fun_cells (HXq.out o).2).2.2.2.2.1
      have b5 := fun o => (fun_cells (HXq.out o).2).2.2.2.2.2
      have HXq := Lib.hid (HXq.out (.cells #[.slice z1.sa z1.sorts.length z1.sc, .slice z1.fa z1.funs.length z1.fc, .slice z1.ma z1.macs.length z1.mc] 26))
      go_wp2_with fail
    all_goals clear a0 a1 a2 b0 b1 b2 b3 b4 b5
    all_goals
      refine (HAF.out _ (by first | exact HBq.out | exact HBq.out.drew)).mono ?_
      rintro e w9 ⟨z2, r2, rfl, hb9, h9⟩
      have HX9 : Hid (w9.heap[w.heap.size]? = some (.cells #[.slice x.sa x.sorts.length x.sc, .slice x.fa x.funs.length x.fc, .slice x.ma x.macs.length x.mc] 26 (0, 0)) ∧ w9.heap[w.heap.size + 1]? = some (.cells #[.string f.name, .int .i64 f.len, .int .i64 f.a0, .int .i64 f.a1, .int .i64 f.a2, .int .i64 f.res] 29 (0, 0))) := ⟨(hb9.block _ (Array.getElem?_eq_some_iff.1 HXq.out.1).1).trans HXq.out.1, (hb9.block _ (Array.getElem?_eq_some_iff.1 HXq.out.2).1).trans HXq.out.2⟩
      have hw9 : w.heap.size + 1 < w9.heap.size := (Array.getElem?_eq_some_iff.1 HX9.out.2).1
      have HB9 : Hid (Below w.heap.size w w9) := HBq.out.trans (hb9.mono HBq.out.size)
      have HKP : Hid (∀ V, Below (w9.heap.size + 1) (w9.alloc (.cells #[.slice z2.sa z2.sorts.length z2.sc, .slice z2.fa z2.funs.length z2.fc, .slice z2.ma z2.macs.length z2.mc] 26)) V → V.heap[w9.heap.size]? = some (.cells #[.slice z2.sa z2.sorts.length z2.sc, .slice z2.fa z2.funs.length z2.fc, .slice z2.ma z2.macs.length z2.mc] 26 (0, 0)) ∧ V.heap[w.heap.size]? = some (.cells #[.slice x.sa x.sorts.length x.sc, .slice x.fa x.funs.length x.fc, .slice x.ma x.macs.length x.mc] 26 (0, 0)) ∧ V.heap[w.heap.size + 1]? = some (.cells #[.string f.name, .int .i64 f.len, .int .i64 f.a0, .int .i64 f.a1, .int .i64 f.a2, .int .i64 f.res] 29 (0, 0))) := fun V hV => ⟨(hV.block _ (by omega)).trans (heap_alloc_new w9 _), ((hV.block _ (by omega)).trans (Below.heap_alloc _ _ _ (by omega))).trans HX9.out.1, ((hV.block _ (by omega)).trans (Below.heap_alloc _ _ _ (by omega))).trans HX9.out.2⟩
      have HAP : Hid (Below w9.heap.size w9 (w9.alloc (.cells #[.slice z2.sa z2.sorts.length z2.sc, .slice z2.fa z2.funs.length z2.fc, .slice z2.ma z2.macs.length z2.mc] 26))) := (Below.refl _ _).alloc (Nat.le_refl _) _
      have HP := Lib.hid h9
      have HO : Hid (∀ o, (w9.alloc o).heap[w.heap.size]? = some (.cells #[.slice x.sa x.sorts.length x.sc, .slice x.fa x.funs.length x.fc, .slice x.ma x.macs.length x.mc] 26 (0, 0)) ∧ (w9.alloc o).heap[w.heap.size + 1]? = some (.cells #[.string f.name, .int .i64 f.len, .int .i64 f.a0, .int .i64 f.a1, .int .i64 f.a2, .int .i64 f.res] 29 (0, 0))) := fun o => ⟨(Below.heap_alloc _ _ _ (by omega)).trans HX9.out.1, (Below.heap_alloc _ _ _ (by omega)).trans HX9.out.2⟩
      clear hb9 h9 HXq HBq
      by_cases hr2 : r2 = 0
    all_goals first
      | (have e2 : (r2 != 0) = true := by simp [hr2]
         have a0 := fun o => (sig_cells (HO.out o).1).1
         have a1 := fun o => (sig_cells (HO.out o).1).2.1
         go_wp2_with (go_at_call 6; refine (HW.out _ (HB9.out.trans (HAP.out.mono HB9.out.size))).mono ?_; rintro e wz ⟨rfl, hbz⟩; have hfin := (HB9.out.trans (HAP.out.mono HB9.out.size)).trans (hbz.mono (HB9.out.trans (HAP.out.mono HB9.out.size)).size))
         go_ret
         exact ⟨rfl, hfin⟩)
      | skip
    all_goals
      subst hr2
      obtain ⟨hz, hzR, hzK, hmx, hmz, hfz⟩ := HP.out rfl
      have hGV : ∀ V, Below w9.heap.size w9 V → GS V := fun V hV => HG.out.below (HB9.out.trans (hV.mono HB9.out.size))
      have hRV : ∀ V, Below w9.heap.size w9 V → SigR V x := fun V hV => HR.out.below (HB9.out.trans (hV.mono HB9.out.size))
      have HU1 : Hid (∀ V, Below w9.heap.size w9 V → Calls Tryd.prog 13 #[.agg #[.slice z2.sa z2.sorts.length z2.sc, .slice z2.fa z2.funs.length z2.fc, .slice z2.ma z2.macs.length z2.mc], .string f.name] V fun e w' => e = .returned (.tuple #[.int .i64 (x.funs.length : Int), .bool true]) ∧ Below V.heap.size V w') := fun V hV => fun_added V (hzR.below hV) hz hfz
      have HUo : ∃ (d : Bool) (i1 i2 : Int) (t1 t2 : Bool), (o.toList == f.name.toList) = d ∧ (d = false → i1 = i2 ∧ t1 = t2) ∧ Hid (∀ V, Below w9.heap.size w9 V → Calls Tryd.prog 13 #[.agg #[.slice z2.sa z2.sorts.length z2.sc, .slice z2.fa z2.funs.length z2.fc, .slice z2.ma z2.macs.length z2.mc], .string o] V fun e w' => e = .returned (.tuple #[.int .i64 i1, .bool t1]) ∧ Below V.heap.size V w') ∧ Hid (∀ V, Below w9.heap.size w9 V → Calls Tryd.prog 13 #[.agg #[.slice x.sa x.sorts.length x.sc, .slice x.fa x.funs.length x.fc, .slice x.ma x.macs.length x.mc], .string o] V fun e w' => e = .returned (.tuple #[.int .i64 i2, .bool t2]) ∧ Below V.heap.size V w') := by
        refine ⟨_, fndI (x.funs.map (·.name) ++ [f.name]) o, fndI (x.funs.map (·.name)) o, fndB (x.funs.map (·.name) ++ [f.name]) o, fndB (x.funs.map (·.name)) o, rfl, fun hd => ?_, fun V hV => fun_other V (hzR.below hV) hz, fun V hV => Fun_any x o V (hRV V hV)⟩
        have hne : ¬ o = f.name := fun e => by rw [e, tl_yes] at hd; cases hd
        exact ⟨(fnd_old hne).2, (fnd_old hne).1⟩
      have HCu : Hid (∀ V, Below w9.heap.size w9 V → Calls Tryd.prog 9 #[.agg #[.slice z2.sa z2.sorts.length z2.sc, .slice z2.fa z2.funs.length z2.fc, .slice z2.ma z2.macs.length z2.mc], .int .i64 x.sorts.length, .int .i64 x.funs.length, .int .i64 x.macs.length] V (CbPost V x)) := fun V hV => cut_back x z2 V (hGV V hV) (hzR.below hV) (hzK.below hV) (by rw [hz]; exact HT.out) hmx hmz (back_fun hz) (len_fun hz).2.1 (len_fun hz).2.2.1 (len_fun hz).2.2.2
      have HCk : Hid (∀ V, Below w9.heap.size w9 V → Calls Tryd.prog 11 #[.agg #[.slice z2.sa z2.sorts.length z2.sc, .slice z2.fa z2.funs.length z2.fc, .slice z2.ma z2.macs.length z2.mc]] V fun e w' => e = .returned (.int .i64 0) ∧ Below V.heap.size V w') := fun V hV => check_ok z2 V (hGV V hV) (hzR.below hV) (hzK.below hV) hmz
      have HFr : Hid (∀ V, Below w9.heap.size w9 V → Calls Tryd.prog 14 #[.agg #[.slice z2.sa z2.sorts.length z2.sc, .slice z2.fa z2.funs.length z2.fc, .slice z2.ma z2.macs.length z2.mc], .string f.name, .bool false] V fun e w' => e = .returned (.int .i64 32) ∧ Below V.heap.size V w') := fun V hV => Free_any z2 f.name false 32 V (hGV V hV) (hzR.below hV) HF.out.name (names_few hmz) (twice_fun hz hfz)
      have HRV := Lib.hid hRV
      obtain ⟨d2, j1, j2, u1, u2, hd2, hjj, HU2, HU3⟩ := HUo
      clear hz hzR hzK hmx hmz hfz HP hGV hRV
      have b0 := fun o => (fun_cells (HO.out o).2).1
      go_wp2_with fail
      refine (HU1.out _ HAP.out).mono ?_
      rintro e w10 ⟨rfl, hb10⟩
      rw [World.size_alloc] at hb10
      have HQ10 := Lib.hid hb10
      have HP10 := Lib.hid (HAP.out.trans (hb10.mono (by omega)))
      clear hb10 b0
      obtain ⟨c0, c1, c2⟩ := sig_cells (HKP.out _ HQ10.out).1
      go_wp2_with fail
      refine (HU2.out _ HP10.out).mono ?_
      rintro e w11 ⟨rfl, hb11⟩
      have HQ11 := Lib.hid (HQ10.out.trans (hb11.mono (by have := HQ10.out.size; rwa [World.size_alloc] at this)))
      have HP11 := Lib.hid (HAP.out.trans (HQ11.out.mono (by omega)))
      clear c0 c1 c2 hb11
      obtain ⟨a0, a1, a2⟩ := sig_cells (HKP.out _ HQ11.out).2.1
      go_wp2_with fail
      refine (HU3.out _ HP11.out).mono ?_
      rintro e w12 ⟨rfl, hb12⟩
      have HQ12 := Lib.hid (HQ11.out.trans (hb12.mono (by have := HQ11.out.size; rwa [World.size_alloc] at this)))
      have HP12 := Lib.hid (HAP.out.trans (HQ12.out.mono (by omega)))
      clear a0 a1 a2 hb12
      obtain ⟨c0, c1, c2⟩ := sig_cells (HKP.out _ HQ12.out).1
      go_wp2_with fail
      refine (HCu.out _ HP12.out).mono ?_
      rintro e w13 ⟨zd, rfl, hda, hdR, hb13⟩
      have hs12 : w9.heap.size + 1 ≤ w12.heap.size := by have := HQ12.out.size; rwa [World.size_alloc] at this
      have hs13 : w9.heap.size + 1 ≤ w13.heap.size := Nat.le_trans hs12 hb13.size
      have HQ13 : Hid (Below (w9.heap.size + 1) (w9.alloc (.cells #[.slice z2.sa z2.sorts.length z2.sc, .slice z2.fa z2.funs.length z2.fc, .slice z2.ma z2.macs.length z2.mc] 26)) (w13.alloc (.cells #[.slice zd.sa zd.sorts.length zd.sc, .slice zd.fa zd.funs.length zd.fc, .slice zd.ma zd.macs.length zd.mc] 26))) := (HQ12.out.trans (hb13.mono hs12)).alloc hs13 _
      have HAC : Hid (Below w13.heap.size w13 (w13.alloc (.cells #[.slice zd.sa zd.sorts.length zd.sc, .slice zd.fa zd.funs.length zd.fc, .slice zd.ma zd.macs.length zd.mc] 26))) := (Below.refl _ _).alloc (Nat.le_refl _) _
      have HSm : Hid (∀ V, Below w13.heap.size w13 V → Calls Tryd.prog 10 #[.agg #[.slice zd.sa zd.sorts.length zd.sc, .slice zd.fa zd.funs.length zd.fc, .slice zd.ma zd.macs.length zd.mc], .agg #[.slice x.sa x.sorts.length x.sc, .slice x.fa x.funs.length x.fc, .slice x.ma x.macs.length x.mc]] V fun e w' => e = .returned (.bool true) ∧ Below V.heap.size V w') := fun V hV => RSig_same zd x V (hdR.below hV) (HRV.out _ ((HP12.out.trans (hb13.mono (by omega))).trans (hV.mono (by omega)))) hda
      clear c0 c1 c2 hb13 hda hdR
      have a0 := (sig_cells (HKP.out _ HQ13.out).2.1).1
      have a1 := (sig_cells (HKP.out _ HQ13.out).2.1).2.1
      have a2 := (sig_cells (HKP.out _ HQ13.out).2.1).2.2
      have b0 := (fun_cells (HKP.out _ HQ13.out).2.2).1
      have hs14 : w9.heap.size + 1 ≤ (w13.alloc (.cells #[.slice zd.sa zd.sorts.length zd.sc, .slice zd.fa zd.funs.length zd.fc, .slice zd.ma zd.macs.length zd.mc] 26)).heap.size := by rw [World.size_alloc]; omega
      cases d2
      case' false => obtain ⟨rfl, rfl⟩ := hjj rfl
      all_goals
        clear hjj
        go_wp2_with fail
        refine (HSm.out _ HAC.out).mono ?_
        rintro e w14 ⟨rfl, hb14⟩
        have HQ14 := Lib.hid (HQ13.out.trans (hb14.mono hs14))
        clear a0 a1 a2 b0 hb14
        obtain ⟨c0, c1, c2⟩ := sig_cells (HKP.out _ HQ14.out).1
        go_wp2_with fail
        refine (HCk.out _ (HAP.out.trans (HQ14.out.mono (by omega)))).mono ?_
        rintro e w15 ⟨rfl, hb15⟩
        have HQ15 := Lib.hid (HQ14.out.trans (hb15.mono (by have := HQ14.out.size; rwa [World.size_alloc] at this)))
        clear c0 c1 c2 hb15
        obtain ⟨c0, c1, c2⟩ := sig_cells (HKP.out _ HQ15.out).1
        have b0 := (fun_cells (HKP.out _ HQ15.out).2.2).1
        go_wp2_with fail
        refine (HFr.out _ (HAP.out.trans (HQ15.out.mono (by omega)))).mono ?_
        rintro e w16 ⟨rfl, hb16⟩
        have HQ16 := Lib.hid (HQ15.out.trans (hb16.mono (by have := HQ15.out.size; rwa [World.size_alloc] at this)))
        have HB16 := Lib.hid (HB9.out.trans ((HAP.out.trans (HQ16.out.mono (by omega))).mono HB9.out.size))
        clear c0 c1 c2 b0 hb16
        go_wp2_with fail
        refine (HW.out _ HB16.out).mono ?_
        rintro e w17 ⟨rfl, hb17⟩
        have hfin := HB16.out.trans (hb17.mono HB16.out.size)
        go_wp2
        go_ret
        exact ⟨rfl, hfin⟩
  · go_ret
    exact ⟨rfl, hfin⟩
theorem SigGrows_c (w : World) (x : SigV) (hx : SigR w x ∧ Rows_ok x.a) (s : ByteArray) (hs : s.size ≤ maxLen) (f : FunA) (hF : FunOk f) (o : ByteArray) (ho : o.size ≤ maxLen) (hG : GS w) :
    Calls Tryd.prog 3 #[.agg #[.slice x.sa x.sorts.length x.sc, .slice x.fa x.funs.length x.fc, .slice x.ma x.macs.length x.mc], .string s, .agg #[.string f.name, .int .i64 f.len, .int .i64 f.a0, .int .i64 f.a1, .int .i64 f.a2, .int .i64 f.res], .string o] w fun e w' => e = .returned (.bool true) ∧ Below w.heap.size w w' := SigGrows_w x s f o w hG hx.1 hx.2 hF hs ho
end Go.Proofs.YthejmepiliiihaaDoor
