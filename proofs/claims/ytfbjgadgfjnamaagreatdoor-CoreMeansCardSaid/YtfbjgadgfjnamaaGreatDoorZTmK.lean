/- Package term's index: where the nodes of a table stand, as a map. -/
import Derived.Test.YtfbjgadgfjnamaaGreatDoorZTmJ
import Derived.Test.YtfbjgadgfjnamaaGreatDoorZTmF
import Derived.Maps.Ext
import Derived.Carry
namespace Go.Proofs.YtfbjgadgfjnamaaGreatDoor.Tm
open Go.RowKit
set_option linter.unusedVariables false
theorem zeroI (w : World) : (zeroValue 3).run Tryz.prog w = .ok (.int .i64 0) w := by kernel_rfl
theorem underPl : Tryz.prog.underlying 130 = some (.map 47 3) := by rw [Tryz.underlying130]
theorem make_pl (n : Int) (w : World) : (Instr.makeMap 130 (some (.int .i64 n))).run Tryz.prog w = .ok (.map (some w.heap.size)) (w.alloc (.map #[] 0)) := by
  simp [Instr.makeMap, run_underlying underPl]
  rfl
/-- Block b is the map from l's nodes to their places. -/
def MapI (w : World) (b : Nat) (l : List NodeA) : Prop :=
  ∃ D : DataW Unit, w.ownsMap (H := Unit) Tryz.prog 47 (plainElem Tryz.prog 3) b l.length D ∧ (∀ y, NodeOk y → Maps.has D (kn y) = decide (y ∈ l)) ∧ ∀ (k : Nat) y, l[k]? = some y → ∀ z : DataW Unit, D.atKey (kn y) z = .lit (.int .i64 k)
theorem MapI.below {w w' : World} {b : Nat} {l : List NodeA} (h : MapI w b l) (hb : Below w.heap.size w w') : MapI w' b l := by
  obtain ⟨D, h1, h2, h3⟩ := h
  exact ⟨D, h1.kept (⟨hb.os, hb.tape, hb.output, hb.size, fun i hi _ => hb.block i hi⟩ : w.grownBy w' none) (by simp), h2, h3⟩
theorem kn_key (y : NodeA) : WideAt.IsKeyLit (kn y) := trivial
theorem MapI.put {w : World} {b : Nat} {l : List NodeA} {y : NodeA} {D : DataW Unit} (hl : ∀ n ∈ l, NodeOk n) (hy : NodeOk y) (hno : y ∉ l)
    (h2 : ∀ y, NodeOk y → Maps.has D (kn y) = decide (y ∈ l)) (h3 : ∀ (k : Nat) y, l[k]? = some y → ∀ z : DataW Unit, D.atKey (kn y) z = .lit (.int .i64 k)) (hm : Maps.IsMap D)
    (h : w.ownsMap (H := Unit) Tryz.prog 47 (plainElem Tryz.prog 3) b (l.length + 1) (D.put (kn y) (.lit (.int .i64 l.length)))) : MapI w b (l ++ [y]) := by
  refine ⟨_, by rw [List.length_append]; exact h, fun z hz => ?_, fun k z hk zz => ?_⟩
  · by_cases hzy : z = y
    · subst hzy
      rw [Maps.has_put_same hm (kn_key _)]; simp
    · rw [Maps.has_put_other (fun e => hzy (kn_inj hz hy e)), h2 z hz]
      simp [hzy]
  · by_cases hkl : k < l.length
    · rw [List.getElem?_append_left hkl] at hk
      have hzm : z ∈ l := List.mem_of_getElem? hk
      rw [Maps.atKey_put_other (fun e => hno ((kn_inj (hl z hzm) hy e) ▸ hzm)), h3 k z hk]
    · have hlt := (List.getElem?_eq_some_iff.1 hk).1
      simp at hlt
      obtain rfl : k = l.length := by omega
      rw [List.getElem?_append_right (Nat.le_refl _)] at hk
      simp at hk
      subst hk
      rw [Maps.atKey_put_same hm (kn_key _)]
def IdxPost (w : World) (l : List NodeA) (e : Ending) (w' : World) : Prop :=
  Below w.heap.size w w' ∧ ((mayT l = true ∧ ∃ b, e = .returned (.tuple #[.map (some b), .bool true]) ∧ MapI w' b l) ∨ (mayT l = false ∧ e = .returned (.tuple #[.map none, .bool false])))
set_option maxRecDepth 100000 in
set_option maxHeartbeats 4000000 in
theorem index_any (l : List NodeA) (a : Option Addr) (c : Nat) (w : World) (hG : GT w) (hA : TabR w l a c) (hl : l.length ≤ 3000) :
    Calls Tryz.prog 66 #[.agg #[.slice a l.length c]] w (IdxPost w l) := by
  have hmm := make_pl
  obtain ⟨W0, hW0⟩ : ∃ W0, W0 = w.alloc (.cells #[.slice a l.length c] 33) := ⟨_, rfl⟩
  have hB0 : Below w.heap.size w W0 := by rw [hW0]; exact (Below.refl _ w).alloc (Nat.le_refl _) _
  have hsz : W0.heap.size = w.heap.size + 1 := by rw [hW0]; simp
  have hX0 : W0.heap[w.heap.size]? = some (.cells #[.slice a l.length c] 33 (0, 0)) := by rw [hW0]; exact heap_alloc_new w _
  obtain ⟨q, hq⟩ : ∃ q, decide (l.take 2 = newL) = q := ⟨_, rfl⟩
  have HC : Hid (Calls Tryz.prog 94 #[.slice a l.length c] W0 fun e w' => e = .returned (.bool q) ∧ Below W0.heap.size W0 w') := by rw [← hq]; exact begins_any l a c W0 (hA.below hB0)
  have HS : Hid (∀ (n : NodeA) (k : Nat) (V : World), NodeOk n → (k : Int) ≤ 1000000 → Below w.heap.size w V → Calls Tryz.prog 95 #[.agg #[.int .i8 n.op, .int .i8 n.len, .int .i64 n.a0, .int .i64 n.a1, .int .i64 n.a2, .int .i64 n.sort, .int .i64 n.fn, .int .i64 n.num], .int .i64 k] V fun e w' => e = .returned (.bool (standsB n k)) ∧ Below V.heap.size V w') := fun n k V ho hk hV => Stands_any n k V (hG.below hV) ho hk
  have HA := Lib.hid hA
  have HB0 := Lib.hid hB0
  have HX0 := Lib.hid hX0
  have hcap := hA.le
  have HM : Hid (mayT l = (q && okFrom [] l)) := by show _ = _; unfold mayT; rw [hq]
  clear hG hA hB0 hX0 hq
  cases q with
  | false =>
    have hmf : mayT l = false := by rw [HM.out]; rfl
    go_enter Tryz.func66, Tryz.ntmps66
    go_wp2_with (go_at_call 94; rw [← hW0]; clear hW0; refine HC.out.mono ?_; rintro e w1 ⟨rfl, hb1⟩)
    go_ret2
    exact ⟨HB0.out.trans (hb1.mono HB0.out.size), .inr ⟨hmf, rfl⟩⟩
  | true =>
    go_enter Tryz.func66, Tryz.ntmps66
    go_wp2_with (go_at_call 94; rw [← hW0]; clear hW0; refine HC.out.mono ?_; rintro e w1 ⟨rfl, hb1⟩; have hx := (hb1.block _ (by omega)).trans HX0.out; have d0 := cell_of_row _ _ 0 _ _ _ hx; simp only [List.getElem?_toArray, List.getElem?_cons_zero] at d0; have hz1 := (Array.getElem?_eq_some_iff.1 hx).1; clear hx)
    obtain ⟨b, hb⟩ : ∃ b, b = w1.heap.size := ⟨_, rfl⟩
    rw [← hb]
    have HMp : Hid (MapI (w1.alloc (.map #[] 0)) b []) := ⟨.map [], by rw [hb]; exact World.ownsMap_made (H := Unit) w1 Tryz.prog 47 (plainElem Tryz.prog 3), fun y _ => rfl, fun k y hk => by simp at hk⟩
    have HB1 : Hid (Below w.heap.size w w1) := HB0.out.trans (hb1.mono HB0.out.size)
    have HQ := Lib.hid hb
    clear HC HX0 hb1 d0 hb
    go_loopw [20] (fun i wr => ∃ k : Nat, k ≤ l.length ∧ i = .int .i64 k ∧ Hid (Below b w1 wr) ∧ Hid (MapI wr b (l.take k)) ∧ Hid (okFrom [] (l.take k) = true)) (fun i _ => l.length - (intOf i).toNat)
    case atStart => exact ⟨0, Nat.zero_le _, rfl, by rw [HQ.out]; exact (Below.refl _ _).alloc (Nat.le_refl _) _, HMp, rfl⟩
    case round =>
      obtain ⟨k, hkl, rfl, HW, HMI, HOK⟩ := hrel
      have HBw : Hid (Below w.heap.size w wr) := HB1.out.trans (HW.out.mono (by rw [HQ.out]; exact HB1.out.size))
      by_cases hlt : k < l.length
      · obtain ⟨y, hy⟩ : ∃ y, l[k]? = some y := ⟨_, List.getElem?_eq_getElem hlt⟩
        obtain ⟨g, o, rfl, hg, q0, q1, q2, q3, q4, q5, q6, q7⟩ := (HA.out.below HBw.out).node hy
        have hyo : NodeOk y := HA.out.ok y (List.mem_of_getElem? hy)
        obtain ⟨D, hown, hhas, hat⟩ := HMI.out
        have hbw : b < wr.heap.size := hown.lt
        have HOw := Lib.hid hown
        have HO : Hid ((wr.alloc (.cells #[.int .i8 y.op, .int .i8 y.len, .int .i64 y.a0, .int .i64 y.a1, .int .i64 y.a2, .int .i64 y.sort, .int .i64 y.fn, .int .i64 y.num] 47)).ownsMap (H := Unit) Tryz.prog 47 (plainElem Tryz.prog 3) b (l.take k).length D) := hown.alloc _
        have HK := Lib.hid (key_is y hyo)
        have HY := Lib.hid (And.intro hy hyo)
        have HAt := Lib.hid (And.intro hhas hat)
        have hnx := ok_next hy HOK.out
        have HSt0 : Hid (Calls Tryz.prog 95 #[.agg #[.int .i8 y.op, .int .i8 y.len, .int .i64 y.a0, .int .i64 y.a1, .int .i64 y.a2, .int .i64 y.sort, .int .i64 y.fn, .int .i64 y.num], .int .i64 k] (wr.alloc (.cells #[.int .i8 y.op, .int .i8 y.len, .int .i64 y.a0, .int .i64 y.a1, .int .i64 y.a2, .int .i64 y.sort, .int .i64 y.fn, .int .i64 y.num] 47)) fun e w' => e = .returned (.bool (standsB y k)) ∧ Below (wr.alloc (.cells #[.int .i8 y.op, .int .i8 y.len, .int .i64 y.a0, .int .i64 y.a1, .int .i64 y.a2, .int .i64 y.sort, .int .i64 y.fn, .int .i64 y.num] 47)).heap.size (wr.alloc (.cells #[.int .i8 y.op, .int .i8 y.len, .int .i64 y.a0, .int .i64 y.a1, .int .i64 y.a2, .int .i64 y.sort, .int .i64 y.fn, .int .i64 y.num] 47)) w') := HS.out y k _ hyo (by omega) (HBw.out.alloc HBw.out.size _)
        have hlen : (l.take k).length = k := by rw [List.length_take]; omega
        have HW64 : Hid ((Lit.int .i64 k).wf = true) := wf64 ⟨by omega, by omega⟩
        have hx0 := hhas y hyo
        clear hown hhas hat hy hyo
        by_cases hin : y ∈ l.take k
        · rw [decide_eq_true hin] at hx0
          have HH := Lib.hid hx0
          have hmf : mayT l = false := by rw [HM.out, ok_no (k := k + 1) (by rw [hnx]; simp [hin])]; rfl
          clear hx0 hnx hin
          go_wp2_with (first | (at_lookup; refine wpList_lookup_own_ok_int _ rfl _ _ 130 rfl 47 3 .i64 lawNd underPl Tryz.underlying3 (zeroI _) b (l.take k).length D rfl HO.out _ _ rfl HK.out ?_; intro c0 hat hwc; clear hat hwc; rw [HH.out]))
          go_ret2
          exact ⟨HBw.out.alloc HBw.out.size _, .inr ⟨hmf, rfl⟩⟩
        · rw [decide_eq_false hin] at hx0
          have HH := Lib.hid hx0
          rw [decide_eq_false hin, Bool.not_false, Bool.and_true] at hnx
          cases hst : standsB y k with
          | false =>
            rw [hst] at HSt0
            have hmf : mayT l = false := by rw [HM.out, ok_no (k := k + 1) (by rw [hnx, hst])]; rfl
            have HSt := HSt0
            clear hx0 hnx hin hst
            go_wp2_with (first | (at_lookup; refine wpList_lookup_own_ok_int _ rfl _ _ 130 rfl 47 3 .i64 lawNd underPl Tryz.underlying3 (zeroI _) b (l.take k).length D rfl HO.out _ _ rfl HK.out ?_; intro c0 hat hwc; clear hat hwc; rw [HH.out]) | (go_at_call 95; refine HSt.out.mono ?_; rintro e w3 ⟨rfl, hb3⟩; obtain ⟨hc3, hf3⟩ := bcell hb3))
            go_ret2
            exact ⟨(HBw.out.alloc HBw.out.size _).trans (hb3.mono (by have := HBw.out.size; simp; omega)), .inr ⟨hmf, rfl⟩⟩
          | true =>
            rw [hst] at HSt0 hnx
            have HN := Lib.hid (And.intro hnx hin)
            have HSt := HSt0
            have HOb : Hid (∀ V, Below (wr.alloc (.cells #[.int .i8 y.op, .int .i8 y.len, .int .i64 y.a0, .int .i64 y.a1, .int .i64 y.a2, .int .i64 y.sort, .int .i64 y.fn, .int .i64 y.num] 47)).heap.size (wr.alloc (.cells #[.int .i8 y.op, .int .i8 y.len, .int .i64 y.a0, .int .i64 y.a1, .int .i64 y.a2, .int .i64 y.sort, .int .i64 y.fn, .int .i64 y.num] 47)) V → V.ownsMap (H := Unit) Tryz.prog 47 (plainElem Tryz.prog 3) b (l.take k).length D) := fun V hV => HO.out.kept (⟨hV.os, hV.tape, hV.output, hV.size, fun i hi _ => hV.block i hi⟩ : World.grownBy _ V none) (by simp)
            clear hx0 hnx hin hst
            go_wp2_with (first | (at_lookup; refine wpList_lookup_own_ok_int _ rfl _ _ 130 rfl 47 3 .i64 lawNd underPl Tryz.underlying3 (zeroI _) b (l.take k).length D rfl HO.out _ _ rfl HK.out ?_; intro c0 hat hwc; clear hat hwc; rw [HH.out]) | (go_at_call 95; refine HSt.out.mono ?_; rintro e w3 ⟨rfl, hb3⟩; obtain ⟨hc3, hf3⟩ := bcell hb3) | (at_mapUpdate; refine wpList_mapUpdate_own _ rfl _ _ _ 130 rfl 47 3 lawNd underPl _ b (l.take k).length D rfl (HOb.out _ hb3) (by simp only [maxLen]; omega) _ _ _ rfl rfl HK.out _ [] (plainElem_int Tryz.underlying3 HW64.out) ?_; intro w4 hown4 hgrow4))
            go_roundw
            case rel =>
              refine ⟨k + 1, by omega, by go_num, ?_, ?_, HN.out.1⟩
              · exact ((HW.out.alloc (by omega) _).trans (hb3.mono (by simp; omega))).grown hgrow4 (by have := hb3.size; simp at this; omega) (fun j e => by cases e; exact Nat.le_refl _)
              · rw [take_snoc HY.out.1]
                refine MapI.put (fun n hn => HA.out.ok n (List.mem_of_mem_take hn)) HY.out.2 HN.out.2 HAt.out.1 HAt.out.2 (HOw.out.isMap) ?_
                rw [hlen]
                rw [hlen] at hown4
                exact hown4
            case measure => simp [intOf]; omega
      · obtain rfl : k = l.length := by omega
        have hmt : mayT l = true := by rw [HM.out]; have := HOK.out; rw [List.take_length] at this; rw [this]; rfl
        have HMl : Hid (MapI wr b l) := by have := HMI.out; rw [List.take_length] at this; exact this
        go_wp2
        go_ret2
        exact ⟨HBw.out, .inl ⟨hmt, b, rfl, HMl.out⟩⟩
end Go.Proofs.YtfbjgadgfjnamaaGreatDoor.Tm
