/- Whether a node has the Sort that the rules say; package typing's Table. -/
import Derived.Test.YtbddghcdibdloaaGreatDoorTyE
import Derived.Test.YtbddghcdibdloaaGreatDoorTmL
namespace Go.Proofs.YtbddghcdibdloaaGreatDoor
open Go.RowKit
set_option linter.unusedVariables false
theorem mayA_rest {x : SigA} (h : mayA x = true) : restA x = true := by
  unfold mayA at h
  rw [Bool.and_eq_true, Bool.and_eq_true] at h
  exact h.2.2
theorem nd_ok {w : World} {x : SigV} {n : Tm.NodeA} (hR : SigR w x) (hm : mayA x.a = true) (h : ndB x.a n = true) : Tm.RuleOk (ndR x.a n) ∧ (ndR x.a n).many ≤ 3 ∧ ((ndR x.a n).sort = -1 → ∃ i : Nat, (i : Int) < (ndR x.a n).many ∧ Tm.rArg (ndR x.a n) i = -1) := by
  unfold ndR
  split
  · rename_i h13
    unfold ndB at h
    rw [if_pos h13] at h
    unfold fnB at h
    rw [Bool.and_eq_true, decide_eq_true_eq, decide_eq_true_eq] at h
    have hxa : x.a.funs = x.funs := rfl
    rw [hxa] at h
    obtain ⟨f, hf⟩ : ∃ f, x.funs[n.fn.toNat]? = some f := ⟨_, List.getElem?_eq_getElem (by omega)⟩
    have e : fnR x.a n.fn = funRl f := by unfold fnR; rw [if_pos h.1, hxa, hf]; rfl
    rw [e]
    have hmem := List.mem_of_getElem? hf
    have ho := hR.fok f hmem
    have hb := mayA_rest hm
    unfold restA at hb
    rw [Bool.and_eq_true] at hb
    have hfb := List.all_eq_true.1 hb.1 f hmem
    unfold funB at hfb
    simp only [Bool.and_eq_true, decide_eq_true_eq] at hfb
    have ht := hfb.2.2.1
    unfold thereA at ht
    simp only [Bool.and_eq_true, decide_eq_true_eq] at ht
    refine ⟨⟨ho.len, ho.a0, ho.a1, ho.a2, ho.res⟩, hfb.2.1, fun g => ?_⟩
    have : f.res = -1 := g
    omega
  · exact Tm.kindR_ok n.op
theorem stands_args {n : Tm.NodeA} {k : Nat} (h : Tm.standsB n k = true) : 0 ≤ n.len ∧ n.len ≤ 3 ∧ ∀ i : Nat, (i : Int) < n.len → 0 ≤ Tm.argA n i ∧ Tm.argA n i < k := by
  unfold Tm.standsB at h
  rw [decide_eq_true_eq] at h
  have hR := (Tm.stands_iff n k).1 h
  have h2 := hR.1.2.2.2
  exact ⟨hR.1.2.2.1, h2, fun i hi => (hR.2.1 i (by omega)).1 hi⟩
/-- The node has the Sort that the rules say. -/
def fitsN (x : SigA) (l : List Tm.NodeA) (n : Tm.NodeA) : Bool := (toldA x l n).2 && decide ((toldA x l n).1 = n.sort)
set_option maxHeartbeats 2000000 in
theorem tfits_any (x : SigV) (l : List Tm.NodeA) (a : Option Addr) (c k : Nat) (n : Tm.NodeA) (q : Bool) (w : World) (hG : Tm.GR w) (hR : SigR w x) (hA : Tm.TabR w l a c) (hl : l.length ≤ 1000) (ho : Tm.NodeOk n) (hm : mayA x.a = true) (hs : Tm.standsB n k = true) (hk : k ≤ l.length) (hq : fitsN x.a l n = q) :
    Calls Tryz.prog 43 #[.agg #[.slice x.sa x.sorts.length x.sc, .slice x.fa x.funs.length x.fc, .slice x.ma x.macs.length x.mc], .agg #[.slice a l.length c], .agg #[.int .i8 n.op, .int .i8 n.len, .int .i64 n.a0, .int .i64 n.a1, .int .i64 n.a2, .int .i64 n.sort, .int .i64 n.fn, .int .i64 n.num]] w fun e w' => e = .returned (.bool q) ∧ Below w.heap.size w w' := by
  obtain ⟨⟨p1, p2⟩, hp⟩ : ∃ p, toldA x.a l n = p := ⟨_, rfl⟩
  obtain ⟨s1, s2, s3⟩ := stands_args hs
  obtain ⟨W0, hW0⟩ : ∃ W0, W0 = ((w.alloc (.cells #[.slice x.sa x.sorts.length x.sc, .slice x.fa x.funs.length x.fc, .slice x.ma x.macs.length x.mc] 34)).alloc (.cells #[.slice a l.length c] 37)).alloc (.cells #[.int .i8 n.op, .int .i8 n.len, .int .i64 n.a0, .int .i64 n.a1, .int .i64 n.a2, .int .i64 n.sort, .int .i64 n.fn, .int .i64 n.num] 41) := ⟨_, rfl⟩
  have hB0 : Below w.heap.size w W0 := by rw [hW0]; exact (((Below.refl _ w).alloc (Nat.le_refl _) _).alloc (by simp) _).alloc (by simp; omega) _
  have hsz : W0.heap.size = w.heap.size + 1 + 1 + 1 := by rw [hW0]; simp
  have hxn : W0.heap[w.heap.size + 1 + 1]? = some (.cells #[.int .i8 n.op, .int .i8 n.len, .int .i64 n.a0, .int .i64 n.a1, .int .i64 n.a2, .int .i64 n.sort, .int .i64 n.fn, .int .i64 n.num] 41 (0, 0)) := by
    rw [hW0]
    have := heap_alloc_new ((w.alloc (.cells #[.slice x.sa x.sorts.length x.sc, .slice x.fa x.funs.length x.fc, .slice x.ma x.macs.length x.mc] 34)).alloc (.cells #[.slice a l.length c] 37)) (.cells #[.int .i8 n.op, .int .i8 n.len, .int .i64 n.a0, .int .i64 n.a1, .int .i64 n.a2, .int .i64 n.sort, .int .i64 n.fn, .int .i64 n.num] 41)
    rwa [World.size_alloc, World.size_alloc] at this
  have HX : Hid (∀ V, Below W0.heap.size W0 V → V.heap[w.heap.size + 1 + 1]? = some (.cells #[.int .i8 n.op, .int .i8 n.len, .int .i64 n.a0, .int .i64 n.a1, .int .i64 n.a2, .int .i64 n.sort, .int .i64 n.fn, .int .i64 n.num] 41 (0, 0))) := fun V hV => (hV.block _ (by omega)).trans hxn
  have HT : Hid (Calls Tryz.prog 52 #[.agg #[.slice x.sa x.sorts.length x.sc, .slice x.fa x.funs.length x.fc, .slice x.ma x.macs.length x.mc], .agg #[.slice a l.length c], .agg #[.int .i8 n.op, .int .i8 n.len, .int .i64 n.a0, .int .i64 n.a1, .int .i64 n.a2, .int .i64 n.sort, .int .i64 n.fn, .int .i64 n.num]] W0 fun e w' => e = .returned (.tuple #[.int .i64 p1, .bool p2]) ∧ Below W0.heap.size W0 w') :=
    told_any x l a c n (p1, p2) W0 (hG.below hB0) (hR.below hB0) (hA.below hB0) hl ho s1 s2 (fun i hi => ⟨(s3 i hi).1, by have := (s3 i hi).2; omega⟩) (fun h => nd_ok hR hm h) hp
  have HQ : Hid ((p2 && decide (p1 = n.sort)) = q) := by show _ = _; rw [← hq]; unfold fitsN; rw [hp]
  have HB0 := Lib.hid hB0
  clear hxn hG hR hA ho hm hs hk hq hp s1 s2 s3 hB0
  cases p2 with
  | false =>
    obtain rfl : false = q := HQ.out
    go_enter Tryz.func43, Tryz.ntmps43
    go_wp2_with (go_at_call 52; rw [← hW0]; clear hW0; refine HT.out.mono ?_; rintro e w1 ⟨rfl, hb1⟩; obtain ⟨n0, n1, n2, n3, n4, n5, n6, n7⟩ := node_blk (HX.out _ hb1))
    go_ret
    exact ⟨rfl, HB0.out.trans (hb1.mono HB0.out.size)⟩
  | true =>
    by_cases h : p1 = n.sort
    · have e0 := Tm.eq_t h
      obtain rfl : true = q := by have := HQ.out; rw [decide_eq_true h] at this; exact this
      clear h
      go_enter Tryz.func43, Tryz.ntmps43
      go_wp2_with (go_at_call 52; rw [← hW0]; clear hW0; refine HT.out.mono ?_; rintro e w1 ⟨rfl, hb1⟩; obtain ⟨n0, n1, n2, n3, n4, n5, n6, n7⟩ := node_blk (HX.out _ hb1))
      go_ret
      exact ⟨rfl, HB0.out.trans (hb1.mono HB0.out.size)⟩
    · have e0 := Tm.eq_f h
      obtain rfl : false = q := by have := HQ.out; rw [decide_eq_false h] at this; exact this
      clear h
      go_enter Tryz.func43, Tryz.ntmps43
      go_wp2_with (go_at_call 52; rw [← hW0]; clear hW0; refine HT.out.mono ?_; rintro e w1 ⟨rfl, hb1⟩; obtain ⟨n0, n1, n2, n3, n4, n5, n6, n7⟩ := node_blk (HX.out _ hb1))
      go_ret
      exact ⟨rfl, HB0.out.trans (hb1.mono HB0.out.size)⟩
/-- The answer for a table, of a signature that may be. -/
def tabI (x : SigA) (l : List Tm.NodeA) : Int := if Tm.mayT l = true then (if l.all (fitsN x l) = true then 0 else 33) else 2
def TabPost (w : World) (x : SigV) (l : List Tm.NodeA) (e : Ending) (w' : World) : Prop := ∃ q : Bool, e = .returned (.int .i64 (if q = true then tabI x.a l else 2)) ∧ (q = true → mayA x.a = true) ∧ (SigK w x → q = mayA x.a) ∧ Below w.heap.size w w'
theorem tab_no {w w' : World} {x : SigV} {l : List Tm.NodeA} (h : SigK w x → mayA x.a = false) (hb : Below w.heap.size w w') : TabPost w x l (.returned (.int .i64 2)) w' :=
  ⟨false, rfl, fun e => (by cases e), fun hk => (h hk).symm, hb⟩
theorem tab_yes {w w' : World} {x : SigV} {l : List Tm.NodeA} {t : Int} (ht : tabI x.a l = t) (hm : mayA x.a = true) (hb : Below w.heap.size w w') : TabPost w x l (.returned (.int .i64 t)) w' :=
  ⟨true, by rw [if_pos rfl, ht], fun _ => hm, fun _ => hm.symm, hb⟩
theorem sigCheck_q (x : SigV) (w : World) (hG : GS w) (hR : SigR w x) :
    Calls Tryz.prog 39 #[.agg #[.slice x.sa x.sorts.length x.sc, .slice x.fa x.funs.length x.fc, .slice x.ma x.macs.length x.mc]] w fun e w' => ∃ (q : Bool) (r : Int), e = .returned (.int .i64 r) ∧ (q = true → r = 0) ∧ (q = false → ¬ r = 0) ∧ (q = true → mayA x.a = true) ∧ (SigK w x → q = mayA x.a) ∧ Below w.heap.size w w' := by
  refine (Check_any x w hG hR).mono ?_
  rintro e w' ⟨r, rfl, h1, h2, h3⟩
  refine ⟨decide (r = 0), r, rfl, fun h => of_decide_eq_true h, fun h => of_decide_eq_false h, fun h => h1 (of_decide_eq_true h), fun hk => ?_, h3⟩
  cases hm : mayA x.a with
  | true => exact decide_eq_true (h2 hk hm)
  | false => exact decide_eq_false (fun e => by rw [h1 e] at hm; cases hm)
set_option maxRecDepth 100000 in
set_option maxHeartbeats 4000000 in
theorem Table_any (x : SigV) (l : List Tm.NodeA) (a : Option Addr) (c : Nat) (w : World) (hG : GS w) (hT : Tm.GT w) (hGR : Tm.GR w) (hR : SigR w x) (hA : Tm.TabR w l a c) (hl : l.length ≤ 1000) :
    Calls Tryz.prog 18 #[.agg #[.slice x.sa x.sorts.length x.sc, .slice x.fa x.funs.length x.fc, .slice x.ma x.macs.length x.mc], .agg #[.slice a l.length c]] w (TabPost w x l) := by
  obtain ⟨t, ht⟩ : ∃ t, tabI x.a l = t := ⟨_, rfl⟩
  have HT0 := Lib.hid ht
  obtain ⟨W0, hW0⟩ : ∃ W0, W0 = (w.alloc (.cells #[.slice x.sa x.sorts.length x.sc, .slice x.fa x.funs.length x.fc, .slice x.ma x.macs.length x.mc] 34)).alloc (.cells #[.slice a l.length c] 37) := ⟨_, rfl⟩
  have hB0 : Below w.heap.size w W0 := by rw [hW0]; exact ((Below.refl _ w).alloc (Nat.le_refl _) _).alloc (by simp) _
  have hsz : W0.heap.size = w.heap.size + 1 + 1 := by rw [hW0]; simp
  have hxt : W0.heap[w.heap.size + 1]? = some (.cells #[.slice a l.length c] 37 (0, 0)) := by
    rw [hW0]
    have := heap_alloc_new (w.alloc (.cells #[.slice x.sa x.sorts.length x.sc, .slice x.fa x.funs.length x.fc, .slice x.ma x.macs.length x.mc] 34)) (.cells #[.slice a l.length c] 37)
    rwa [World.size_alloc] at this
  have hxs : W0.heap[w.heap.size]? = some (.cells #[.slice x.sa x.sorts.length x.sc, .slice x.fa x.funs.length x.fc, .slice x.ma x.macs.length x.mc] 34 (0, 0)) := by
    rw [hW0]
    exact mid_new w (.cells #[.slice x.sa x.sorts.length x.sc, .slice x.fa x.funs.length x.fc, .slice x.ma x.macs.length x.mc] 34) (.cells #[.slice a l.length c] 37)
  have HX : Hid (∀ V, Below W0.heap.size W0 V → V.heap[w.heap.size + 1]? = some (.cells #[.slice a l.length c] 37 (0, 0)) ∧ V.heap[w.heap.size]? = some (.cells #[.slice x.sa x.sorts.length x.sc, .slice x.fa x.funs.length x.fc, .slice x.ma x.macs.length x.mc] 34 (0, 0))) := fun V hV => ⟨(hV.block _ (by omega)).trans hxt, (hV.block _ (by omega)).trans hxs⟩
  have HC : Hid (Calls Tryz.prog 39 #[.agg #[.slice x.sa x.sorts.length x.sc, .slice x.fa x.funs.length x.fc, .slice x.ma x.macs.length x.mc]] W0 fun e w' => ∃ (q : Bool) (r : Int), e = .returned (.int .i64 r) ∧ (q = true → r = 0) ∧ (q = false → ¬ r = 0) ∧ (q = true → mayA x.a = true) ∧ (SigK w x → q = mayA x.a) ∧ Below W0.heap.size W0 w') := by
    refine (sigCheck_q x W0 (hG.below hB0) (hR.below hB0)).mono ?_
    rintro e w' ⟨q, r, h1, h2, h3, h4, h5, h6⟩
    exact ⟨q, r, h1, h2, h3, h4, fun hk => h5 (hk.below hB0), h6⟩
  have HK : Hid (∀ V r, Below w.heap.size w V → Tm.errB (Tm.mayT l) = r → Calls Tryz.prog 42 #[.agg #[.slice a l.length c]] V fun e w' => e = .returned (.int .i64 r) ∧ Below V.heap.size V w') := fun V r hV hr => Tm.Check_any l a c r V (hT.below hV) (hA.below hV) hl hr
  have HF : Hid (∀ (V : World) (k : Nat) (n : Tm.NodeA), Below w.heap.size w V → mayA x.a = true → Tm.mayT l = true → l[k]? = some n → Calls Tryz.prog 43 #[.agg #[.slice x.sa x.sorts.length x.sc, .slice x.fa x.funs.length x.fc, .slice x.ma x.macs.length x.mc], .agg #[.slice a l.length c], .agg #[.int .i8 n.op, .int .i8 n.len, .int .i64 n.a0, .int .i64 n.a1, .int .i64 n.a2, .int .i64 n.sort, .int .i64 n.fn, .int .i64 n.num]] V fun e w' => e = .returned (.bool (fitsN x.a l n)) ∧ Below V.heap.size V w') := fun V k n hV hm hmt hk =>
    tfits_any x l a c k n _ V (hGR.below hV) (hR.below hV) (hA.below hV) hl (hA.ok n (List.mem_of_getElem? hk)) hm (Tm.ok_at (Tm.mayT_ok hmt).2 hk).1 (by have := (List.getElem?_eq_some_iff.1 hk).1; omega) rfl
  have HA := Lib.hid hA
  have HB0 := Lib.hid hB0
  have HTn : Hid (Tm.mayT l = false → t = 2) := fun h => by rw [← ht]; unfold tabI; rw [h]; rfl
  have HTy : Hid (Tm.mayT l = true → l.all (fitsN x.a l) = true → t = 0) := fun h g => by rw [← ht]; unfold tabI; rw [h, g]; rfl
  have HTf : Hid (Tm.mayT l = true → ∀ (k : Nat) (n : Tm.NodeA), l[k]? = some n → fitsN x.a l n = false → t = 33) := fun h k n hk hf => by rw [← ht]; unfold tabI; rw [h, all_no' hk hf]; rfl
  have hlc := hA.le
  have hcm : c ≤ 9223372036854775807 := by have := hA.cap; unfold maxLen at this; omega
  clear hG hT hGR hR hA hxt hxs hB0 ht
  go_enter Tryz.func18, Tryz.ntmps18
  go_wp2_with fail
  rw [← hW0]
  clear hW0
  refine HC.out.mono ?_
  rintro e w1 ⟨q, r, rfl, h1, h2, h3, h4, hb1⟩
  have HB1 : Hid (Below w.heap.size w w1) := HB0.out.trans (hb1.mono HB0.out.size)
  have HW1 := Lib.hid hb1
  have H3 := Lib.hid h3
  have H4 := Lib.hid h4
  obtain ⟨ht1, hs1⟩ := HX.out w1 hb1
  have c0 := (cell_of_row _ _ 0 _ _ _ ht1).trans (show _ = some (.slice a l.length c) from rfl)
  clear h3 h4 HC ht1 hs1
  have hw1 : W0.heap.size ≤ w1.heap.size := hb1.size
  clear hb1
  cases q with
  | false =>
    have e0 := Tm.ne_t (h2 rfl)
    have H5 : Hid (SigK w x → mayA x.a = false) := fun hk => (H4.out hk).symm
    clear h1 h2
    go_wp2
    go_ret
    exact tab_no H5.out HB1.out
  | true =>
    obtain rfl := h1 rfl
    have hmA := H3.out rfl
    have HMA := Lib.hid hmA
    clear h1 h2 hmA
    cases hmt : Tm.mayT l with
    | false =>
      obtain rfl := HTn.out hmt
      have HK2 : Hid (Calls Tryz.prog 42 #[.agg #[.slice a l.length c]] w1 fun e w' => e = .returned (.int .i64 2) ∧ Below w1.heap.size w1 w') := HK.out w1 2 HB1.out (by rw [hmt]; rfl)
      clear hmt
      go_wp2_with (go_at_call 42; refine HK2.out.mono ?_; rintro e w2 ⟨rfl, hb2⟩)
      go_ret
      exact tab_yes HT0.out HMA.out (HB1.out.trans (hb2.mono HB1.out.size))
    | true =>
      have HK2 : Hid (Calls Tryz.prog 42 #[.agg #[.slice a l.length c]] w1 fun e w' => e = .returned (.int .i64 0) ∧ Below w1.heap.size w1 w') := HK.out w1 0 HB1.out (by rw [hmt]; rfl)
      have HMT := Lib.hid hmt
      clear hmt HTn HK
      go_wp2_with (go_at_call 42; refine HK2.out.mono ?_; rintro e w2 ⟨rfl, hb2⟩; have HW2 : Hid (Below W0.heap.size W0 w2) := HW1.out.trans (hb2.mono HW1.out.size); have c0' := (cell_of_row _ _ 0 _ _ _ (HX.out w2 HW2.out).1).trans (show _ = some (.slice a l.length c) from rfl); have HB2 : Hid (Below w.heap.size w w2) := HB1.out.trans (hb2.mono HB1.out.size); clear hb2)
      clear c0'
      have hw2 : W0.heap.size ≤ w2.heap.size := HW2.out.size
      go_loopw [18] (fun i wr => ∃ k : Nat, k ≤ l.length ∧ i = .int .i64 k ∧ Hid (∀ j, j < k → ∀ y, l[j]? = some y → fitsN x.a l y = true) ∧ Hid (Below w2.heap.size w2 wr)) (fun i _ => l.length - (intOf i).toNat)
      case atStart => exact ⟨0, Nat.zero_le _, rfl, fun j hj => by omega, Below.refl _ _⟩
      case round =>
        obtain ⟨k, hk, rfl, HP, HW⟩ := hrel
        by_cases hlt : k < l.length
        · obtain ⟨n, hn⟩ : ∃ n, l[k]? = some n := ⟨_, List.getElem?_eq_getElem hlt⟩
          have HBr : Hid (Below w.heap.size w wr) := HB2.out.trans (HW.out.mono HB2.out.size)
          obtain ⟨g, o, rfl, _, y0, y1, y2, y3, y4, y5, y6, y7⟩ := (HA.out.below HBr.out).node hn
          obtain ⟨ht1, hs1⟩ := HX.out wr (HW2.out.trans (HW.out.mono hw2))
          have hzr : W0.heap.size ≤ wr.heap.size := by have := HW.out.size; omega
          have t0 : ∀ o2 : Obj, (wr.alloc o2).cell? ⟨w.heap.size + 1, 0, none⟩ = some (.slice (some ⟨g, o, none⟩) l.length c) := fun o2 => (World.cell?_alloc_past _ _ _ (by show w.heap.size + 1 < _; omega)).trans ((cell_of_row _ _ 0 _ _ _ ht1).trans rfl)
          obtain ⟨q0, q1, q2⟩ := sig_blk hs1
          have s0 : ∀ o2 : Obj, (wr.alloc o2).cell? ⟨w.heap.size, 0, none⟩ = some (.slice x.sa x.sorts.length x.sc) := fun o2 => (World.cell?_alloc_past _ _ _ (by show w.heap.size < _; omega)).trans q0
          have s1 : ∀ o2 : Obj, (wr.alloc o2).cell? ⟨w.heap.size, 1, none⟩ = some (.slice x.fa x.funs.length x.fc) := fun o2 => (World.cell?_alloc_past _ _ _ (by show w.heap.size < _; omega)).trans q1
          have s2 : ∀ o2 : Obj, (wr.alloc o2).cell? ⟨w.heap.size, 2, none⟩ = some (.slice x.ma x.macs.length x.mc) := fun o2 => (World.cell?_alloc_past _ _ _ (by show w.heap.size < _; omega)).trans q2
          obtain ⟨v, hv⟩ : ∃ v, fitsN x.a l n = v := ⟨_, rfl⟩
          have HFk : Hid (∀ o2 : Obj, Calls Tryz.prog 43 #[.agg #[.slice x.sa x.sorts.length x.sc, .slice x.fa x.funs.length x.fc, .slice x.ma x.macs.length x.mc], .agg #[.slice (some ⟨g, o, none⟩) l.length c], .agg #[.int .i8 n.op, .int .i8 n.len, .int .i64 n.a0, .int .i64 n.a1, .int .i64 n.a2, .int .i64 n.sort, .int .i64 n.fn, .int .i64 n.num]] (wr.alloc o2) fun e w' => e = .returned (.bool v) ∧ Below (wr.alloc o2).heap.size (wr.alloc o2) w') := fun o2 => by rw [← hv]; exact HF.out _ k n (HBr.out.alloc HBr.out.size _) HMA.out HMT.out hn
          have HV := Lib.hid hv
          have HNk := Lib.hid hn
          have hwr := HW.out.size
          clear ht1 hs1 q0 q1 q2 hv hn
          cases v with
          | true =>
            have HP2 : Hid (∀ j, j < k + 1 → ∀ y, l[j]? = some y → fitsN x.a l y = true) := fun j hj y hy => by
              by_cases h : j < k
              · exact HP.out j h y hy
              · obtain rfl : j = k := by omega
                rw [HNk.out] at hy; cases hy; exact HV.out
            go_wp2_with (go_at_call 43; refine (HFk.out _).mono ?_; rintro e w3 ⟨rfl, hb3⟩; have HW3 : Hid (Below w2.heap.size w2 w3) := (HW.out.alloc hwr _).trans (hb3.mono (by simp; omega)); clear hb3)
            go_roundw
            case rel => exact ⟨k + 1, by omega, by go_num, HP2, HW3⟩
            case measure => simp [intOf]; omega
          | false =>
            obtain rfl := HTf.out HMT.out k n HNk.out HV.out
            go_wp2_with (go_at_call 43; refine (HFk.out _).mono ?_; rintro e w3 ⟨rfl, hb3⟩)
            go_ret
            exact tab_yes HT0.out HMA.out ((HBr.out.alloc HBr.out.size _).trans (hb3.mono (by have := HBr.out.size; simp; omega)))
        · obtain rfl : k = l.length := by omega
          have hall : l.all (fitsN x.a l) = true := all_yes' (fun j hj y hy => HP.out j hj y hy)
          obtain rfl := HTy.out HMT.out hall
          clear hall
          go_wp2
          go_ret
          exact tab_yes HT0.out HMA.out (HB2.out.trans (HW.out.mono HB2.out.size))
end Go.Proofs.YtbddghcdibdloaaGreatDoor
