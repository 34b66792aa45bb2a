/- ValueTexts, walked. -/
import Derived.Test.YtfhcmhlbidjjgaaDoorVaW
import Derived.Test.YtfhcmhlbidjjgaaDoorSgY
namespace Go.Proofs.YtfhcmhlbidjjgaaDoor
open Go.RowKit
set_option linter.unusedVariables false
theorem dec_inj {m n : Nat} (h : dec m = dec n) : m = n := by
  have := congrArg valN h
  rwa [valN_dec, valN_dec] at this
theorem dec_ne40 {n : Nat} {r : List UInt8} (h : dec n = 40 :: r) : False := by
  have := dec_all n
  rw [h] at this
  simp [isD] at this
theorem textV_inj {a b : Int} (ha : mayB a = true) (hb : mayB b = true) (h : textV a = textV b) : a = b := by
  unfold textV at h
  rw [if_pos ha, if_pos hb] at h
  by_cases h1 : a < 0
  · by_cases h2 : b < 0
    · rw [if_pos h1, if_pos h2] at h
      have h3 := List.append_cancel_right h
      have h4 := dec_inj (List.append_cancel_left h3)
      omega
    · rw [if_pos h1, if_neg h2] at h
      exact (dec_ne40 h.symm).elim
  · by_cases h2 : b < 0
    · rw [if_neg h1, if_pos h2] at h
      exact (dec_ne40 h).elim
    · rw [if_neg h1, if_neg h2] at h
      have h4 := dec_inj h
      omega
theorem tx_ok {n : Nat} {so v : Int} (h : txE n so v = 0) : mayB v = true ∧ (so = 1 ∨ 0 ≤ v) ∧ (so ≠ 0 ∨ v < 2) := by
  unfold txE at h
  by_cases h1 : thereA n so = true
  · rw [if_pos h1] at h
    by_cases h2 : txB so v = true
    · unfold txB at h2
      simpa only [Bool.and_eq_true, Bool.or_eq_true, decide_eq_true_eq] using h2
    · rw [if_neg h2] at h
      exact absurd h (by decide)
  · rw [if_neg h1] at h
    exact absurd h (by decide)
theorem tx_inj {l : List ByteArray} {so a b : Int} (ha : txE l.length so a = 0) (hb : txE l.length so b = 0) (h : txA l so a = txA l so b) : a = b := by
  obtain ⟨a1, a2, a3⟩ := tx_ok ha
  obtain ⟨b1, b2, b3⟩ := tx_ok hb
  unfold txA at h
  rw [ha, hb, if_pos rfl, if_pos rfl] at h
  unfold txS at h
  by_cases h0 : so = 0
  · rw [if_pos h0, if_pos h0] at h
    have hne : falseS ≠ trueS := by decide
    by_cases p : a = 0
    · by_cases q : b = 0
      · omega
      · rw [if_pos p, if_neg q] at h
        exact (hne h).elim
    · by_cases q : b = 0
      · rw [if_neg p, if_pos q] at h
        exact (hne h.symm).elim
      · omega
  · rw [if_neg h0, if_neg h0] at h
    by_cases h1 : so = 1
    · rw [if_pos h1, if_pos h1] at h
      have h2 := congrArg (fun s : ByteArray => s.data.toList) h
      exact textV_inj a1 b1 (by simpa using h2)
    · rw [if_neg h1, if_neg h1] at h
      have h2 := congrArg (fun s : ByteArray => s.data.toList) h
      exact textV_inj a1 b1 (by simpa using h2)
set_option maxRecDepth 100000 in
set_option maxHeartbeats 4000000 in
theorem ValueTexts_w (x : SigV) (so a b : Int) (w : World) (hG : GV w) (hR : SigR w x) (hl : x.sorts.length ≤ 140737488355328) (hs : ∀ s ∈ x.sorts, s.size ≤ 140737488355328) (hso : I64 so) (ha : I64 a) (hb : I64 b) :
    Calls Tryd.prog 3 #[.agg #[.slice x.sa x.sorts.length x.sc, .slice x.fa x.funs.length x.fc, .slice x.ma x.macs.length x.mc], .int .i64 so, .int .i64 a, .int .i64 b] w fun e w' => e = .returned (.bool true) ∧ Below w.heap.size w w' := by
  obtain ⟨W0, hW0⟩ : ∃ W0, W0 = w.alloc (.cells #[.slice x.sa x.sorts.length x.sc, .slice x.fa x.funs.length x.fc, .slice x.ma x.macs.length x.mc] 26) := ⟨_, rfl⟩
  have hb0 : Below w.heap.size w W0 := by rw [hW0]; exact (Below.refl _ _).alloc (Nat.le_refl _) _
  have hx0 : W0.heap[w.heap.size]? = some (.cells #[.slice x.sa x.sorts.length x.sc, .slice x.fa x.funs.length x.fc, .slice x.ma x.macs.length x.mc] 26 (0, 0)) := by rw [hW0]; exact heap_alloc_new w _
  have hlt0 := (Array.getElem?_eq_some_iff.1 hx0).1
  have HK : Hid (∀ V, Below W0.heap.size W0 V → V.cell? ⟨w.heap.size, 0, none⟩ = some (.slice x.sa x.sorts.length x.sc) ∧ V.cell? ⟨w.heap.size, 1, none⟩ = some (.slice x.fa x.funs.length x.fc) ∧ V.cell? ⟨w.heap.size, 2, none⟩ = some (.slice x.ma x.macs.length x.mc)) := fun V hV => by
    have hx := (hV.block _ hlt0).trans hx0
    have e0 := cell_of_row _ _ 0 _ _ _ hx
    have e1 := cell_of_row _ _ 1 _ _ _ hx
    have e2 := cell_of_row _ _ 2 _ _ _ hx
    simp only [List.getElem?_toArray, List.getElem?_cons_zero, List.getElem?_cons_succ] at e0 e1 e2
    exact ⟨e0, e1, e2⟩
  have HGr : Hid (Calls Tryd.prog 4 #[.agg #[.slice x.sa x.sorts.length x.sc, .slice x.fa x.funs.length x.fc, .slice x.ma x.macs.length x.mc]] W0 (BoolPost W0)) := Great_any x W0 (hR.below hb0)
  have HWk : Hid (∀ V, Below w.heap.size w V → Calls Tryd.prog 5 #[] V fun e w' => e = .returned (.bool true) ∧ Below V.heap.size V w') := fun V hV => wakes_any V (hG.below hV)
  obtain ⟨S, hS⟩ : ∃ S, txA x.sorts so a = S := ⟨_, rfl⟩
  obtain ⟨T, hT⟩ : ∃ T, txA x.sorts so b = T := ⟨_, rfl⟩
  obtain ⟨e1, he1⟩ : ∃ e1, txE x.sorts.length so a = e1 := ⟨_, rfl⟩
  obtain ⟨e2, he2⟩ : ∃ e2, txE x.sorts.length so b = e2 := ⟨_, rfl⟩
  have HTa : Hid (∀ V, Below w.heap.size w V → Calls Tryd.prog 6 #[.agg #[.slice x.sa x.sorts.length x.sc, .slice x.fa x.funs.length x.fc, .slice x.ma x.macs.length x.mc], .int .i64 so, .int .i64 a] V fun e w' => e = .returned (.tuple #[.string S, .int .i64 e1]) ∧ Below V.heap.size V w') := fun V hV => by
    have := Text_any x so a V (hG.below hV) (hR.below hV) hso ha hl hs
    unfold TxPost at this
    rwa [hS, he1] at this
  have HTb : Hid (∀ V, Below w.heap.size w V → Calls Tryd.prog 6 #[.agg #[.slice x.sa x.sorts.length x.sc, .slice x.fa x.funs.length x.fc, .slice x.ma x.macs.length x.mc], .int .i64 so, .int .i64 b] V fun e w' => e = .returned (.tuple #[.string T, .int .i64 e2]) ∧ Below V.heap.size V w') := fun V hV => by
    have := Text_any x so b V (hG.below hV) (hR.below hV) hso hb hl hs
    unfold TxPost at this
    rwa [hT, he2] at this
  have HI : Hid (e1 = 0 → e2 = 0 → S = T → a = b) := fun h1 h2 h3 => tx_inj (he1.trans h1) (he2.trans h2) (hS.trans (h3.trans hT.symm))
  have HE : Hid (a = b → S = T) := fun h => by rw [← hS, ← hT, h]
  have HB0 := Lib.hid hb0
  clear hG hR hx0 hb0 hS hT he1 he2 hs hl hso ha hb
  go_enter Tryd.func3, Tryd.ntmps3
  go_wp2_with fail
  rw [← hW0]
  clear hW0
  refine HGr.out.mono ?_
  rintro e w1 ⟨⟨r, rfl⟩, hb1⟩
  have HB1 : Hid (Below w.heap.size w w1) := HB0.out.trans (hb1.mono HB0.out.size)
  have HK1 : Hid (∀ V, Below w1.heap.size w1 V → V.cell? ⟨w.heap.size, 0, none⟩ = some (.slice x.sa x.sorts.length x.sc) ∧ V.cell? ⟨w.heap.size, 1, none⟩ = some (.slice x.fa x.funs.length x.fc) ∧ V.cell? ⟨w.heap.size, 2, none⟩ = some (.slice x.ma x.macs.length x.mc)) := fun V hV => HK.out V (ball' hb1 hV)
  clear hb1 HGr HK
  cases r with
  | true =>
    go_wp2_with fail
    refine (HWk.out _ HB1.out).mono ?_
    rintro e w2 ⟨rfl, hb2⟩
    go_wp2
    go_ret
    exact ⟨rfl, HB1.out.trans (hb2.mono HB1.out.size)⟩
  | false =>
    obtain ⟨c0, c1, c2⟩ := HK1.out w1 (Below.refl _ _)
    go_wp2_with fail
    refine (HTa.out _ HB1.out).mono ?_
    rintro e w2 ⟨rfl, hb2⟩
    have HB2 : Hid (Below w.heap.size w w2) := HB1.out.trans (hb2.mono HB1.out.size)
    clear c0 c1 c2
    obtain ⟨c0, c1, c2⟩ := HK1.out w2 hb2
    clear hb2
    go_wp2_with fail
    refine (HTb.out _ HB2.out).mono ?_
    rintro e w3 ⟨rfl, hb3⟩
    have HB3 : Hid (Below w.heap.size w w3) := HB2.out.trans (hb3.mono HB2.out.size)
    clear hb3 c0 c1 c2 HTa HTb HK1
    by_cases h1 : e1 = 0
    · by_cases h2 : e2 = 0
      · by_cases hab : a = b
        · have hst := HE.out hab
          subst hab
          subst hst
          subst h1
          subst h2
          clear HI HE
          go_wp2_with fail
          refine (HWk.out _ HB3.out).mono ?_
          rintro e w4 ⟨rfl, hb4⟩
          go_wp2
          go_ret
          exact ⟨rfl, HB3.out.trans (hb4.mono HB3.out.size)⟩
        · have hst : (S.toList == T.toList) = false := by
            rw [beq_eq_false_iff_ne]
            intro h
            refine hab (HI.out h1 h2 (ByteArray.ext (Array.toList_inj.1 ?_)))
            rwa [ByteArray.toList_eq, ByteArray.toList_eq] at h
          have hab1 : (a == b) = false := by simpa using hab
          subst h1
          subst h2
          clear HI HE hab
          go_wp2_with fail
          refine (HWk.out _ HB3.out).mono ?_
          rintro e w4 ⟨rfl, hb4⟩
          go_wp2
          go_ret
          exact ⟨rfl, HB3.out.trans (hb4.mono HB3.out.size)⟩
      · have hn2 : (e2 != 0) = true := by simpa using h2
        have hn3 : (e2 == 0) = false := by simpa using h2
        subst h1
        clear HI HE h2
        go_wp2_with fail
        refine (HWk.out _ HB3.out).mono ?_
        rintro e w4 ⟨rfl, hb4⟩
        go_wp2
        go_ret
        exact ⟨rfl, HB3.out.trans (hb4.mono HB3.out.size)⟩
    · have hn2 : (e1 != 0) = true := by simpa using h1
      have hn3 : (e1 == 0) = false := by simpa using h1
      clear HI HE h1
      go_wp2_with fail
      refine (HWk.out _ HB3.out).mono ?_
      rintro e w4 ⟨rfl, hb4⟩
      go_wp2
      go_ret
      exact ⟨rfl, HB3.out.trans (hb4.mono HB3.out.size)⟩
theorem ValueTexts_c (w : World) (x : SigV) (hx : SigR w x ∧ (x.sorts.length ≤ 140737488355328 ∧ ∀ s ∈ x.sorts, s.size ≤ 140737488355328)) (so : Int) (hso : (Lit.int .i64 so).wf = true) (a : Int) (ha : (Lit.int .i64 a).wf = true) (b : Int) (hb : (Lit.int .i64 b).wf = true) (hG : GV w) :
    Calls Tryd.prog 3 #[.agg #[.slice x.sa x.sorts.length x.sc, .slice x.fa x.funs.length x.fc, .slice x.ma x.macs.length x.mc], .int .i64 so, .int .i64 a, .int .i64 b] w fun e w' => e = .returned (.bool true) ∧ Below w.heap.size w w' :=
  ValueTexts_w x so a b w hG hx.1 hx.2.1 hx.2.2 (i64_of_wf hso) (i64_of_wf ha) (i64_of_wf hb)
end Go.Proofs.YtfhcmhlbidjjgaaDoor
