/- Package value's Text. -/
import Derived.Test.YtfhcmhlbidjjgaaDoorVaQ
import Derived.Test.YtfhcmhlbidjjgaaDoorVaN
namespace Go.Proofs.YtfhcmhlbidjjgaaDoor
open Go.RowKit
set_option linter.unusedVariables false
/-- Whether a value of that sort has a text. -/
def txB (so v : Int) : Bool := mayB v && ((decide (so = 1) || decide (0 ≤ v)) && (decide (so ≠ 0) || decide (v < 2)))
def txE (n : Nat) (so v : Int) : Int := if thereA n so = true then (if txB so v = true then 0 else 33) else 2
def txS (l : List ByteArray) (so v : Int) : ByteArray :=
  if so = 0 then (if v = 0 then falseS else trueS) else if so = 1 then (ByteArray.mk (textV v).toArray) else
    (ByteArray.mk #[40, 97, 115, 32, 64]) ++ (ByteArray.mk (textV v).toArray) ++ (ByteArray.mk #[32]) ++ bytesL (quoteX (nameA l so).data.toList) ++ (ByteArray.mk #[41])
def txA (l : List ByteArray) (so v : Int) : ByteArray := if txE l.length so v = 0 then txS l so v else emptyS
theorem quoteX_len (s : ByteArray) : (bytesL (quoteX s.data.toList)).size ≤ s.size + 2 := by
  have h : (quoteX s.data.toList).length ≤ s.data.toList.length + 2 := by
    unfold quoteX quoteL
    split
    · split
      · omega
      · simp
    · simp
  have e1 : (bytesL (quoteX s.data.toList)).size = (quoteX s.data.toList).length := List.size_toArray
  have e2 : s.data.toList.length = s.size := Array.length_toList
  rw [e1]
  omega
theorem dec_len (n : Nat) (h : n ≤ 4611686018427387904) : (dec n).length ≤ 20 := dec_length 19 n (by omega)
theorem textV_len (v : Int) (h : mayB v = true) : (ByteArray.mk (textV v).toArray).size ≤ 30 := by
  show (textV v).toArray.size ≤ 30
  rw [mayB_true] at h
  unfold textV
  split
  · split
    · have := dec_len (-v).toNat (by omega)
      simp; omega
    · have := dec_len v.toNat (by omega)
      simp; omega
  · simp
def TxPost (w : World) (l : List ByteArray) (so v : Int) (e : Ending) (w' : World) : Prop := e = .returned (.tuple #[.string (txA l so v), .int .i64 (txE l.length so v)]) ∧ Below w.heap.size w w'
set_option maxRecDepth 100000 in
set_option maxHeartbeats 2000000 in
theorem Text_any (x : SigV) (so v : Int) (w : World) (hG : GV w) (hR : SigR w x) (hso : I64 so) (hv : I64 v) (hl : x.sorts.length ≤ 140737488355328) (hs : ∀ s ∈ x.sorts, s.size ≤ 140737488355328) :
    Calls Tryd.prog 6 #[.agg #[.slice x.sa x.sorts.length x.sc, .slice x.fa x.funs.length x.fc, .slice x.ma x.macs.length x.mc], .int .i64 so, .int .i64 v] w (TxPost w x.sorts so v) := by
  have hb0 : Below w.heap.size w (w.alloc (.cells #[.slice x.sa x.sorts.length x.sc, .slice x.fa x.funs.length x.fc, .slice x.ma x.macs.length x.mc] 26)) := (Below.refl _ _).alloc (Nat.le_refl _) _
  have HB0 := Lib.hid hb0
  obtain ⟨r, hr⟩ : ∃ r, thereA x.sorts.length so = r := ⟨_, rfl⟩
  obtain ⟨nm, hnm⟩ : ∃ nm, nameA x.sorts so = nm := ⟨_, rfl⟩
  have HN : Hid (∀ W, Below w.heap.size w W → Calls Tryd.prog 12 #[.agg #[.slice x.sa x.sorts.length x.sc, .slice x.fa x.funs.length x.fc, .slice x.ma x.macs.length x.mc], .int .i64 so] W fun e w' => e = .returned (.tuple #[.string nm, .bool r]) ∧ Below W.heap.size W w') := fun W hW => SortName_is x so r nm W (hG.s.below hW) (hR.below hW) hr hnm hso hl
  have HG := Lib.hid hG
  have hv1 := hv.1
  have hv2 := hv.2
  have hso1 := hso.1
  have hso2 := hso.2
  cases r with
  | false =>
    have HE : Hid (txE x.sorts.length so v = 2) := by show _ = _; unfold txE; rw [hr]; rfl
    clear hr hG hR hs hb0 hnm
    go_enter Tryd.func6, Tryd.ntmps6
    go_wp2_with fail
    refine (HN.out _ HB0.out).mono ?_
    rintro e w1 ⟨rfl, hb1⟩
    go_wp2
    go_ret2
    refine ⟨?_, HB0.out.trans (hb1.mono (by simp))⟩
    unfold txA
    rw [HE.out]; rfl
  | true =>
    have hth : 0 ≤ so ∧ so < 2 + (x.sorts.length : Int) := by unfold thereA at hr; simpa using hr
    have HT : Hid (∀ W, Calls Tryd.prog 13 #[.int .i64 v] W fun e w' => e = .returned (.tuple #[.string ⟨(textV v).toArray⟩, .int .i64 (textE v)]) ∧ Below W.heap.size W w') := fun W => NText_any v W hv
    cases hm : mayB v with
    | false =>
      have hE : textE v = 10 := by unfold textE; rw [hm]; rfl
      rw [hE] at HT
      have HE : Hid (txE x.sorts.length so v = 33) := by show _ = _; unfold txE txB; rw [hr, hm]; rfl
      clear hr hG hR hs hb0 hnm hm hE
      go_enter Tryd.func6, Tryd.ntmps6
      go_wp2_with fail
      refine (HN.out _ HB0.out).mono ?_
      rintro e w1 ⟨rfl, hb1⟩
      have HB1 := Lib.hid (HB0.out.trans (hb1.mono HB0.out.size))
      clear hb1
      go_wp2_with fail
      refine (HT.out _).mono ?_
      rintro e w2 ⟨rfl, hb2⟩
      go_wp2
      go_ret2
      refine ⟨?_, HB1.out.trans (hb2.mono HB1.out.size)⟩
      unfold txA
      rw [HE.out]; rfl
    | true =>
      have hE : textE v = 0 := by unfold textE; rw [hm]; rfl
      rw [hE] at HT
      have hvm := mayB_true.1 hm
      have hNl := textV_len v hm
      obtain ⟨N, hN⟩ : ∃ N, (ByteArray.mk (textV v).toArray) = N := ⟨_, rfl⟩
      rw [hN] at HT hNl
      by_cases h0 : so = 0
      · subst h0
        by_cases hvl : 0 ≤ v ∧ v < 2
        · have HE : Hid (txE x.sorts.length 0 v = 0) := by show _ = _; unfold txE txB; rw [hr, hm]; simp [hvl.1, hvl.2]
          have HA : Hid (txS x.sorts 0 v = if v = 0 then falseS else trueS) := rfl
          clear hr hG hR hs hb0 hnm hm hE hN
          obtain rfl | rfl : v = 0 ∨ v = 1 := by omega
          all_goals
            go_enter Tryd.func6, Tryd.ntmps6
            go_wp2_with fail
            refine (HN.out _ HB0.out).mono ?_
            rintro e w1 ⟨rfl, hb1⟩
            have HB1 := Lib.hid (HB0.out.trans (hb1.mono HB0.out.size))
            clear hb1
            go_wp2_with fail
            refine (HT.out _).mono ?_
            rintro e w2 ⟨rfl, hb2⟩
            have HB2 := HB1.out.trans (hb2.mono HB1.out.size)
            obtain ⟨_, glt, g0, g1⟩ := HG.out.below HB2
            have HB2 := Lib.hid HB2
            clear hb2
            go_wp2
            go_ret2
            refine ⟨?_, HB2.out⟩
            unfold txA
            rw [HE.out, HA.out]; rfl
        · have HE : Hid (txE x.sorts.length 0 v = 33) := by show _ = _; unfold txE txB; rw [hr, hm]; simp; omega
          have hvo : v < 0 ∨ 2 ≤ v := by omega
          clear hr hG hR hs hb0 hnm hm hE hN hvl
          rcases hvo with hvo | hvo
          all_goals
            go_enter Tryd.func6, Tryd.ntmps6
            go_wp2_with fail
            refine (HN.out _ HB0.out).mono ?_
            rintro e w1 ⟨rfl, hb1⟩
            have HB1 := Lib.hid (HB0.out.trans (hb1.mono HB0.out.size))
            clear hb1
            go_wp2_with fail
            refine (HT.out _).mono ?_
            rintro e w2 ⟨rfl, hb2⟩
            go_wp2
            go_ret2
            refine ⟨?_, HB1.out.trans (hb2.mono HB1.out.size)⟩
            unfold txA
            rw [HE.out]; rfl
      · by_cases h1 : so = 1
        · subst h1
          have HE : Hid (txE x.sorts.length 1 v = 0) := by show _ = _; unfold txE txB; rw [hr, hm]; simp
          have HA : Hid (txS x.sorts 1 v = N) := hN
          clear hr hG hR hs hb0 hnm hm hE hN
          go_enter Tryd.func6, Tryd.ntmps6
          go_wp2_with fail
          refine (HN.out _ HB0.out).mono ?_
          rintro e w1 ⟨rfl, hb1⟩
          have HB1 := Lib.hid (HB0.out.trans (hb1.mono HB0.out.size))
          clear hb1
          go_wp2_with fail
          refine (HT.out _).mono ?_
          rintro e w2 ⟨rfl, hb2⟩
          go_wp2
          go_ret2
          refine ⟨?_, HB1.out.trans (hb2.mono HB1.out.size)⟩
          unfold txA
          rw [HE.out, HA.out]; rfl
        · by_cases hvn : v < 0
          · have HE : Hid (txE x.sorts.length so v = 33) := by show _ = _; unfold txE txB; rw [hr, hm]; simp; omega
            clear hr hG hR hs hb0 hnm hm hE hN
            go_enter Tryd.func6, Tryd.ntmps6
            go_wp2_with fail
            refine (HN.out _ HB0.out).mono ?_
            rintro e w1 ⟨rfl, hb1⟩
            have HB1 := Lib.hid (HB0.out.trans (hb1.mono HB0.out.size))
            clear hb1
            go_wp2_with fail
            refine (HT.out _).mono ?_
            rintro e w2 ⟨rfl, hb2⟩
            go_wp2
            go_ret2
            refine ⟨?_, HB1.out.trans (hb2.mono HB1.out.size)⟩
            unfold txA
            rw [HE.out]; rfl
          · have HE : Hid (txE x.sorts.length so v = 0) := by show _ = _; unfold txE txB; rw [hr, hm]; simp; omega
            have hnl : nm.size ≤ 140737488355328 := by
              obtain ⟨y, hy⟩ : ∃ y, x.sorts[(so - 2).toNat]? = some y := ⟨_, List.getElem?_eq_getElem (by omega)⟩
              rw [← hnm, nameA_at (by omega) hy]
              exact hs y (List.mem_of_getElem? hy)
            have HQ : Hid (∀ W, Below w.heap.size w W → Calls Tryd.prog 14 #[.string nm] W fun e w' => e = .returned (.string (bytesL (quoteX nm.data.toList))) ∧ Below W.heap.size W w') := fun W hW => Quote_all nm W (hG.s.g.below hW) hnl
            have hQl := quoteX_len nm
            have HA : Hid (txS x.sorts so v = (ByteArray.mk #[40, 97, 115, 32, 64]) ++ N ++ (ByteArray.mk #[32]) ++ bytesL (quoteX nm.data.toList) ++ (ByteArray.mk #[41])) := by
              show _ = _
              unfold txS
              rw [if_neg h0, if_neg h1, hN, hnm]
            generalize bytesL (quoteX nm.data.toList) = Q at HQ hQl HA
            have hQ2 : Q.size ≤ 140737488355330 := by omega
            clear hr hG hR hs hb0 hnm hm hE hN hnl hQl
            go_enter Tryd.func6, Tryd.ntmps6
            go_wp2_with fail
            refine (HN.out _ HB0.out).mono ?_
            rintro e w1 ⟨rfl, hb1⟩
            have HB1 := Lib.hid (HB0.out.trans (hb1.mono HB0.out.size))
            clear hb1
            go_wp2_with fail
            refine (HT.out _).mono ?_
            rintro e w2 ⟨rfl, hb2⟩
            have HB2 := Lib.hid (HB1.out.trans (hb2.mono HB1.out.size))
            clear hb2
            go_wp2_with fail
            refine (HQ.out _ HB2.out).mono ?_
            rintro e w3 ⟨rfl, hb3⟩
            go_wp2
            go_ret2
            refine ⟨?_, HB2.out.trans (hb3.mono HB2.out.size)⟩
            unfold txA
            rw [HE.out, HA.out]; rfl
end Go.Proofs.YtfhcmhlbidjjgaaDoor
