/- What command is too great to be asked. -/
import Derived.Test.YtodonngnigbpaaaGreatDoorCmA
import Derived.Test.YtodonngnigbpaaaGreatDoorSexBa
import Derived.Test.YtodonngnigbpaaaGreatDoorCmS
import Derived.Test.YtodonngnigbpaaaGreatDoorCmG
import Derived.BigQuiet
namespace Go.Proofs.YtodonngnigbpaaaGreatDoor
open Go.RowKit
set_option linter.unusedVariables false
def IntPost (w : World) (e : Ending) (w' : World) : Prop := (∃ n : Int, e = .returned (.int .i64 n)) ∧ Below w.heap.size w w'
def BoolPost (w : World) (e : Ending) (w' : World) : Prop := (∃ r : Bool, e = .returned (.bool r)) ∧ Below w.heap.size w w'
set_option maxRecDepth 100000 in
set_option maxHeartbeats 2000000 in
theorem RSize_n : ∀ (n : Nat) (t : Tree) (v : Value) (most : Int) (w : World), szT t ≤ n → Sx w t v → Calls Tryz.prog 24 #[v, .int .i64 most] w (IntPost w) := by
  intro n
  induction n with
  | zero => intro t v most w hn; rw [szT_kids] at hn; omega
  | succ n ih =>
    intro t v most w hn hr
    obtain ⟨a, cap, rfl, hl, hc, hs, hk⟩ := hr.parts
    have HK := Lib.hid hk
    have HIH : Hid (∀ c ∈ t.kids, ∀ (v : Value) (m : Int) (W : World), Sx W c v → Calls Tryz.prog 24 #[v, .int .i64 m] W (IntPost W)) := fun c hcm v m W h1 => ih c v m W (by have := szL_mem hcm; rw [szT_kids] at hn; omega) h1
    have hkm : t.kids.length ≤ 9223372036854775807 := by simp only [maxLen] at hc; omega
    obtain ⟨W0, hW0⟩ : ∃ W0, W0 = w.alloc (.cells #[.int .i8 t.kind, .string (bytesL t.text), .slice a t.kids.length cap] 35) := ⟨_, rfl⟩
    have hB0 : Below w.heap.size w W0 := by rw [hW0]; exact (Below.refl _ _).alloc (Nat.le_refl _) _
    have hX0 : W0.heap[w.heap.size]? = some (.cells #[.int .i8 t.kind, .string (bytesL t.text), .slice a t.kids.length cap] 35 (0, 0)) := by rw [hW0]; exact heap_alloc_new w _
    have HB0 := Lib.hid hB0
    have HX0 := Lib.hid hX0
    clear hr hk ih hn hB0 hX0
    by_cases hmn : (bytesL t.text).size ≤ 5000
    · have hmi : ((bytesL t.text).size : Int) ≤ 5000 := by omega
      skip
      go_enter Tryz.func24, Tryz.ntmps24
      go_wp2
      rw [← hW0]
      clear hW0
      go_loopw [5, 6] (fun n i wr => ∃ (k : Nat) (nn : Int), k ≤ t.kids.length ∧ i = .int .i64 k ∧ n = .int .i64 nn ∧ Hid (Below w.heap.size w wr) ∧ Hid (wr.heap[w.heap.size]? = some (.cells #[.int .i8 t.kind, .string (bytesL t.text), .slice a t.kids.length cap] 35 (0, 0)))) (fun _ i _ => t.kids.length - (intOf i).toNat)
      case atStart => exact ⟨0, _, Nat.zero_le _, rfl, rfl, HB0, HX0⟩
      case round =>
        obtain ⟨k, nn, hkl, rfl, rfl, HB, HX⟩ := hrel
        have x2 := cell_of_row _ _ 2 _ _ _ HX.out
        simp only [List.getElem?_toArray, List.getElem?_cons_zero, List.getElem?_cons_succ] at x2
        have hz := (Array.getElem?_eq_some_iff.1 HX.out).1
        by_cases hlt : k < t.kids.length
        · by_cases hnm : nn < most
          · obtain ⟨c, hcc⟩ : ∃ c, t.kids[k]? = some c := ⟨_, List.getElem?_eq_getElem hlt⟩
            have hks : SxL wr t.kids a := SxL.below HK.out HB.out
            obtain ⟨g, o, rfl, _, hg, _, _⟩ := hks.addr (by omega)
            obtain ⟨_, v0, v1, v2, c0, c1, c2, hrt⟩ := hks.get t.kids g o k c hcc
            obtain ⟨ca, cc, hv, _, _, _, _⟩ := hrt.parts
            simp only [Value.agg.injEq, Array.mk.injEq, List.cons.injEq, and_true] at hv
            obtain ⟨rfl, rfl, rfl⟩ := hv
            have c2' : wr.cell? ⟨g, o + k * 3 + 2, none⟩ = some (.slice ca c.kids.length cc) := c2
            have HC : Hid (∀ (m : Int), Calls Tryz.prog 24 #[.agg #[.int .i8 c.kind, .string (bytesL c.text), .slice ca c.kids.length cc], .int .i64 m] wr (IntPost wr)) := fun m => HIH.out c (List.mem_of_getElem? hcc) _ m wr hrt.sx
            clear hks hrt hcc c2
            go_wp2_with (go_at_call 24; refine (HC.out _).mono ?_; rintro e w1 ⟨⟨m, rfl⟩, hb1⟩)
            exact ⟨⟨k + 1, _, by omega, by go_num, rfl, HB.out.trans (hb1.mono HB.out.size), (hb1.block _ hz).trans HX.out⟩, by simp [intOf]; omega⟩
          · go_wp2
            go_ret
            exact ⟨⟨_, rfl⟩, HB.out⟩
        · obtain rfl : k = t.kids.length := by omega
          go_wp2
          go_ret
          exact ⟨⟨_, rfl⟩, HB.out⟩
    · have hmi : ¬ ((bytesL t.text).size : Int) ≤ 5000 := by omega
      skip
      go_enter Tryz.func24, Tryz.ntmps24
      go_wp2
      rw [← hW0]
      clear hW0
      go_loopw [5, 6] (fun n i wr => ∃ (k : Nat) (nn : Int), k ≤ t.kids.length ∧ i = .int .i64 k ∧ n = .int .i64 nn ∧ Hid (Below w.heap.size w wr) ∧ Hid (wr.heap[w.heap.size]? = some (.cells #[.int .i8 t.kind, .string (bytesL t.text), .slice a t.kids.length cap] 35 (0, 0)))) (fun _ i _ => t.kids.length - (intOf i).toNat)
      case atStart => exact ⟨0, _, Nat.zero_le _, rfl, rfl, HB0, HX0⟩
      case round =>
        obtain ⟨k, nn, hkl, rfl, rfl, HB, HX⟩ := hrel
        have x2 := cell_of_row _ _ 2 _ _ _ HX.out
        simp only [List.getElem?_toArray, List.getElem?_cons_zero, List.getElem?_cons_succ] at x2
        have hz := (Array.getElem?_eq_some_iff.1 HX.out).1
        by_cases hlt : k < t.kids.length
        · by_cases hnm : nn < most
          · obtain ⟨c, hcc⟩ : ∃ c, t.kids[k]? = some c := ⟨_, List.getElem?_eq_getElem hlt⟩
            have hks : SxL wr t.kids a := SxL.below HK.out HB.out
            obtain ⟨g, o, rfl, _, hg, _, _⟩ := hks.addr (by omega)
            obtain ⟨_, v0, v1, v2, c0, c1, c2, hrt⟩ := hks.get t.kids g o k c hcc
            obtain ⟨ca, cc, hv, _, _, _, _⟩ := hrt.parts
            simp only [Value.agg.injEq, Array.mk.injEq, List.cons.injEq, and_true] at hv
            obtain ⟨rfl, rfl, rfl⟩ := hv
            have c2' : wr.cell? ⟨g, o + k * 3 + 2, none⟩ = some (.slice ca c.kids.length cc) := c2
            have HC : Hid (∀ (m : Int), Calls Tryz.prog 24 #[.agg #[.int .i8 c.kind, .string (bytesL c.text), .slice ca c.kids.length cc], .int .i64 m] wr (IntPost wr)) := fun m => HIH.out c (List.mem_of_getElem? hcc) _ m wr hrt.sx
            clear hks hrt hcc c2
            go_wp2_with (go_at_call 24; refine (HC.out _).mono ?_; rintro e w1 ⟨⟨m, rfl⟩, hb1⟩)
            exact ⟨⟨k + 1, _, by omega, by go_num, rfl, HB.out.trans (hb1.mono HB.out.size), (hb1.block _ hz).trans HX.out⟩, by simp [intOf]; omega⟩
          · go_wp2
            go_ret
            exact ⟨⟨_, rfl⟩, HB.out⟩
        · obtain rfl : k = t.kids.length := by omega
          go_wp2
          go_ret
          exact ⟨⟨_, rfl⟩, HB.out⟩
theorem RGreat_any (t : Tree) (v : Value) (w : World) (hr : Sx w t v) : Calls Tryz.prog 13 #[v] w (BoolPost w) := by
  obtain ⟨a, cap, rfl, hl, hc, hs, hk⟩ := hr.parts
  have hb0 : Below w.heap.size w (w.alloc (.cells #[.int .i8 t.kind, .string (bytesL t.text), .slice a t.kids.length cap] 35)) := (Below.refl _ _).alloc (Nat.le_refl _) _
  have HC : Hid (∀ (W : World) (m : Int), Below w.heap.size w W → Calls Tryz.prog 24 #[.agg #[.int .i8 t.kind, .string (bytesL t.text), .slice a t.kids.length cap], .int .i64 m] W fun e w' => (∃ n : Int, e = .returned (.int .i64 n)) ∧ Below w.heap.size w w') := fun W m hW => by
    refine (RSize_n _ t _ m W (Nat.le_refl _) (Sx.below hr hW)).mono ?_
    rintro e w' ⟨h, hb⟩
    exact ⟨h, hW.trans (hb.mono hW.size)⟩
  have HB0 := Lib.hid hb0
  clear hr hb0 hl hc hs hk
  go_enter Tryz.func13, Tryz.ntmps13
  go_wp2_with fail
  refine (HC.out _ _ HB0.out).mono ?_
  rintro e w5 ⟨⟨n, rfl⟩, hb5⟩
  by_cases h : (4000 : Int) ≤ n
  · go_wp2
    go_ret
    exact ⟨⟨_, rfl⟩, hb5⟩
  · go_wp2
    go_ret
    exact ⟨⟨_, rfl⟩, hb5⟩
end Go.Proofs.YtodonngnigbpaaaGreatDoor
namespace Go.Proofs.YtodonngnigbpaaaGreatDoor
open Go.RowKit
set_option linter.unusedVariables false
/-- What is known of every command that comes in. -/
structure Fine (c : CmdA) : Prop where
  name : c.name.length ≤ maxLen
  res : c.res.length ≤ maxLen
  n : I64 c.n
  li : ∀ n ∈ c.l, I64 n
  ai : ∀ s ∈ c.args, s.length ≤ maxLen
  pi : ∀ s ∈ c.params, s.1.length ≤ maxLen ∧ s.2.length ≤ maxLen
  ti : ∀ t ∈ c.terms, RowsT t
def Small (c : CmdA) : Prop := c.l.length ≤ 200 ∧ c.args.length ≤ 40 ∧ c.params.length ≤ 40 ∧ c.terms.length ≤ 40
theorem Fine.fair {c : CmdA} (h : Fine c) (hs : Small c) : Fair c := ⟨h.name, h.res, h.n, hs.1, h.li, hs.2.1, h.ai, hs.2.2.1, h.pi, hs.2.2.2⟩
def GreatP (c : CmdA) (w : World) (e : Ending) (w' : World) : Prop := (∃ r, e = .returned (.bool r) ∧ (r = false → Small c)) ∧ Below w.heap.size w w'
set_option maxRecDepth 100000 in
set_option maxHeartbeats 4000000 in
theorem great_any (x : CmdV) (w : World) (hx : CmdS w x) (hF : Fine x.c) : Calls Tryz.prog 5 #[.agg #[.int .i8 x.c.kind, .string (bytesL x.c.name), .int .i64 x.c.n, .slice x.la x.c.l.length x.lc, .slice x.aa x.c.args.length x.ac, .slice x.pa x.c.params.length x.pc, .string (bytesL x.c.res), .slice x.ta x.c.terms.length x.tc]] w (GreatP x.c w) := by
  obtain ⟨W1, hW1⟩ : ∃ W1, W1 = w.alloc (.cells #[.int .i8 x.c.kind, .string (bytesL x.c.name), .int .i64 x.c.n, .slice x.la x.c.l.length x.lc, .slice x.aa x.c.args.length x.ac, .slice x.pa x.c.params.length x.pc, .string (bytesL x.c.res), .slice x.ta x.c.terms.length x.tc] 28) := ⟨_, rfl⟩
  have hB1 : Below w.heap.size w W1 := by rw [hW1]; exact (Below.refl _ _).alloc (Nat.le_refl _) _
  have hX1 : Box8 W1 w.heap.size x := by rw [hW1]; exact heap_alloc_new w _
  have hsz : W1.heap.size = w.heap.size + 1 := by rw [hW1]; simp
  have HL := Lib.hid hW1
  have HX : Hid (∀ W, Below W1.heap.size W1 W → Box8 W w.heap.size x) := fun W hW => (hW.block _ (by omega)).trans hX1
  have HB1 := Lib.hid hB1
  have HXS := Lib.hid hx
  have HFine := Lib.hid hF
  have m0 : x.c.l.length ≤ 9223372036854775807 := by have h1 := hx.ll; have h2 := hx.lm; simp only [maxLen] at h2; omega
  have m1 : x.c.args.length ≤ 9223372036854775807 := by have h1 := hx.al; have h2 := hx.am; simp only [maxLen] at h2; omega
  have m2 : x.c.params.length ≤ 9223372036854775807 := by have h1 := hx.pl; have h2 := hx.pm; simp only [maxLen] at h2; omega
  have m3 : x.c.terms.length ≤ 9223372036854775807 := by have h1 := hx.tl; have h2 := hx.tm; simp only [maxLen] at h2; omega
  obtain ⟨a0, a1, a2, a3, a4, a5, a6, a7⟩ := hX1.cells
  clear hx hF hW1 hB1 hX1
  by_cases h0 : (200 : Int) < (x.c.l.length : Int)
  · go_enter Tryz.func5, Tryz.ntmps5
    go_wp2
    go_ret
    exact ⟨⟨true, rfl, fun h => (by cases h)⟩, by rw [← HL.out]; exact HB1.out⟩
  by_cases h1 : (40 : Int) < (x.c.args.length : Int)
  · go_enter Tryz.func5, Tryz.ntmps5
    go_wp2
    go_ret
    exact ⟨⟨true, rfl, fun h => (by cases h)⟩, by rw [← HL.out]; exact HB1.out⟩
  by_cases h2 : (40 : Int) < (x.c.params.length : Int)
  · go_enter Tryz.func5, Tryz.ntmps5
    go_wp2
    go_ret
    exact ⟨⟨true, rfl, fun h => (by cases h)⟩, by rw [← HL.out]; exact HB1.out⟩
  by_cases h3 : (40 : Int) < (x.c.terms.length : Int)
  · go_enter Tryz.func5, Tryz.ntmps5
    go_wp2
    go_ret
    exact ⟨⟨true, rfl, fun h => (by cases h)⟩, by rw [← HL.out]; exact HB1.out⟩
  have HSm : Hid (Small x.c) := ⟨by omega, by omega, by omega, by omega⟩
  obtain ⟨s, e1⟩ : ∃ s, IntKind.i64.wrap (((bytesL x.c.name).size : Int) + ((bytesL x.c.res).size : Int)) = s := ⟨_, rfl⟩
  by_cases h4 : (500 : Int) < s
  · go_enter Tryz.func5, Tryz.ntmps5
    go_wp2
    go_ret
    exact ⟨⟨true, rfl, fun h => (by cases h)⟩, by rw [← HL.out]; exact HB1.out⟩
  go_enter Tryz.func5, Tryz.ntmps5
  go_wp2
  rw [← HL.out]
  clear HL a0 a1 a2 a3 a4 a5 a6 a7 h0 h1 h2 h3 h4 e1
  go_loopw [3] (fun i wr => ∃ k : Nat, k ≤ x.c.args.length ∧ i = .int .i64 k ∧ Hid (Below W1.heap.size W1 wr)) (fun i _ => x.c.args.length - (intOf i).toNat)
  case atStart => exact ⟨0, Nat.zero_le _, rfl, Below.refl _ _⟩
  case round =>
    obtain ⟨k0, hkl0, rfl, HW0⟩ := hrel
    obtain ⟨a0, a1, a2, a3, a4, a5, a6, a7⟩ := (HX.out _ HW0.out).cells
    by_cases hlt : k0 < x.c.args.length
    · have hbw := HB1.out.trans (HW0.out.mono HB1.out.size)
      obtain ⟨p, hp⟩ : ∃ p, x.c.args[k0]? = some p := ⟨_, List.getElem?_eq_getElem hlt⟩
      obtain ⟨g, o, hxa, hg, hpp⟩ := (HXS.out.below hbw).aat.at.get strC_len (by decide) hp
      rw [hxa] at a4
      have p0 := hpp 0 _ rfl
      simp only [Nat.mul_one, Nat.add_zero] at p0
      clear hp hpp hbw hxa
      by_cases hb : (200 : Int) < ((bytesL p).size : Int)
      · go_wp2
        go_ret
        exact ⟨⟨true, rfl, fun h => (by cases h)⟩, HB1.out.trans (HW0.out.mono HB1.out.size)⟩
      · go_wp2
        exact ⟨⟨k0 + 1, by omega, by go_num, HW0⟩, by simp [intOf]; omega⟩
    · obtain rfl : k0 = x.c.args.length := by omega
      go_wp2
      clear a0 a1 a2 a3 a4 a5 a6 a7
      go_loopw [4] (fun i wr => ∃ k : Nat, k ≤ x.c.params.length ∧ i = .int .i64 k ∧ Hid (Below W1.heap.size W1 wr)) (fun i _ => x.c.params.length - (intOf i).toNat)
      case atStart => exact ⟨0, Nat.zero_le _, rfl, HW0.out⟩
      case round =>
        obtain ⟨k1, hkl1, rfl, HW1⟩ := hrel
        obtain ⟨a0, a1, a2, a3, a4, a5, a6, a7⟩ := (HX.out _ HW1.out).cells
        by_cases hlt : k1 < x.c.params.length
        · have hbw := HB1.out.trans (HW1.out.mono HB1.out.size)
          obtain ⟨p, hp⟩ : ∃ p, x.c.params[k1]? = some p := ⟨_, List.getElem?_eq_getElem hlt⟩
          obtain ⟨g, o, hxa, hg, hpp⟩ := (HXS.out.below hbw).pat.at.get parC_len (by decide) hp
          rw [hxa] at a5
          have p0 := hpp 0 _ rfl
          have p1 := hpp 1 _ rfl
          simp only [Nat.add_zero] at p0 p1
          clear hp hpp hbw hxa
          obtain ⟨s, e2⟩ : ∃ s, IntKind.i64.wrap (((bytesL p.1).size : Int) + ((bytesL p.2).size : Int)) = s := ⟨_, rfl⟩
          by_cases hb : (400 : Int) < s
          · go_wp2
            go_quiet (fail)
            go_wp2
            go_ret
            exact ⟨⟨true, rfl, fun h => (by cases h)⟩, HB1.out.trans ((below_drewN HW1.out _).mono HB1.out.size)⟩
          · go_wp2
            go_quiet (fail)
            go_wp2
            go_roundw
            case rel => exact ⟨k1 + 1, by omega, by go_num, below_drewN HW1.out _⟩
            case measure => simp [intOf]; omega
        · obtain rfl : k1 = x.c.params.length := by omega
          go_wp2
          clear a0 a1 a2 a3 a4 a5 a6 a7
          go_loopw [5] (fun i wr => ∃ k : Nat, k ≤ x.c.terms.length ∧ i = .int .i64 k ∧ Hid (Below W1.heap.size W1 wr)) (fun i _ => x.c.terms.length - (intOf i).toNat)
          case atStart => exact ⟨0, Nat.zero_le _, rfl, HW1.out⟩
          case round =>
            obtain ⟨k2, hkl2, rfl, HW2⟩ := hrel
            obtain ⟨a0, a1, a2, a3, a4, a5, a6, a7⟩ := (HX.out _ HW2.out).cells
            by_cases hlt : k2 < x.c.terms.length
            · have hbw := HB1.out.trans (HW2.out.mono HB1.out.size)
              obtain ⟨c, hcc⟩ : ∃ c, x.c.terms[k2]? = some c := ⟨_, List.getElem?_eq_getElem hlt⟩
              have hks : SxL wr x.c.terms x.ta := (HXS.out.below hbw).tat
              obtain ⟨g, o, hxa, _, hg, _, _⟩ := hks.addr (by omega)
              rw [hxa] at hks a7
              obtain ⟨_, v0, v1, v2, c0, c1, c2, hrt⟩ := hks.get x.c.terms g o k2 c hcc
              obtain ⟨ca, cc, hv, _, _, _, _⟩ := hrt.parts
              simp only [Value.agg.injEq, Array.mk.injEq, List.cons.injEq, and_true] at hv
              obtain ⟨rfl, rfl, rfl⟩ := hv
              have c2' : wr.cell? ⟨g, o + k2 * 3 + 2, none⟩ = some (.slice ca c.kids.length cc) := c2
              have HCells : Hid (∀ W, Below wr.heap.size wr W → W.cell? ⟨w.heap.size, 7, none⟩ = some (.slice (some ⟨g, o, none⟩) x.c.terms.length x.tc) ∧ W.cell? ⟨g, o + k2 * 3, none⟩ = some (.int .i8 c.kind) ∧ W.cell? ⟨g, o + k2 * 3 + 1, none⟩ = some (.string (bytesL c.text)) ∧ W.cell? ⟨g, o + k2 * 3 + 2, none⟩ = some (.slice ca c.kids.length cc)) := fun W hW => by
                have hz : w.heap.size < wr.heap.size := by have := HW2.out.size; omega
                exact ⟨(hW.cell (p := ⟨w.heap.size, 7, none⟩) hz).trans a7, (hW.cell (p := ⟨g, o + k2 * 3, none⟩) hg).trans c0, (hW.cell (p := ⟨g, o + k2 * 3 + 1, none⟩) hg).trans c1, (hW.cell (p := ⟨g, o + k2 * 3 + 2, none⟩) hg).trans c2'⟩
              have HG : Hid (Calls Tryz.prog 13 #[.agg #[.int .i8 c.kind, .string (bytesL c.text), .slice ca c.kids.length cc]] wr (BoolPost wr)) := RGreat_any c _ wr hrt.sx
              have HD : Hid (∀ W, Below wr.heap.size wr W → Calls Tryz.prog 14 #[.agg #[.int .i8 c.kind, .string (bytesL c.text), .slice ca c.kids.length cc]] W fun e w' => (∃ d : Int, e = .returned (.int .i64 d)) ∧ Below wr.heap.size wr w') := fun W hW => by
                refine (GDepth_n _ c _ W (Nat.le_refl _) (hrt.sx.below hW)).mono ?_
                rintro e w' ⟨h, hb⟩
                exact ⟨h, hW.trans (hb.mono hW.size)⟩
              clear hks hrt hcc c2 hbw hxa
              go_wp2_with fail
              refine HG.out.mono ?_
              rintro e w5 ⟨⟨r, rfl⟩, hb5⟩
              have HB5 := Lib.hid hb5
              clear a0 a1 a2 a3 a4 a5 a6 a7 c0 c1 c2' hb5
              obtain ⟨a7, c0, c1, c2⟩ := HCells.out w5 HB5.out
              cases r with
              | true =>
                go_wp2
                go_ret
                exact ⟨⟨true, rfl, fun h => (by cases h)⟩, HB1.out.trans ((HW2.out.trans (HB5.out.mono HW2.out.size)).mono HB1.out.size)⟩
              | false =>
                go_wp2_with fail
                refine (HD.out _ HB5.out).mono ?_
                rintro e w6 ⟨⟨d, rfl⟩, hb6⟩
                have HB6 := Lib.hid hb6
                clear hb6 a7 c0 c1 c2
                have HB7 : Hid (Below W1.heap.size W1 w6) := HW2.out.trans (HB6.out.mono HW2.out.size)
                by_cases hd : (90 : Int) < d
                · go_wp2
                  go_ret
                  exact ⟨⟨true, rfl, fun h => (by cases h)⟩, HB1.out.trans (HB7.out.mono HB1.out.size)⟩
                · go_wp2
                  go_roundw
                  case rel => exact ⟨k2 + 1, by omega, by go_num, HB7⟩
                  case measure => simp [intOf]; omega
            · obtain rfl : k2 = x.c.terms.length := by omega
              go_wp2
              go_ret
              exact ⟨⟨false, rfl, fun _ => HSm.out⟩, HB1.out.trans (HW2.out.mono HB1.out.size)⟩
end Go.Proofs.YtodonngnigbpaaaGreatDoor
