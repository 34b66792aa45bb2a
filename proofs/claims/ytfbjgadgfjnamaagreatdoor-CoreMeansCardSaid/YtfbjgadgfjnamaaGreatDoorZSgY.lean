/- The document's Great of signatures: it answers. -/
import Derived.Test.YtfbjgadgfjnamaaGreatDoorZSgA
namespace Go.Proofs.YtfbjgadgfjnamaaGreatDoor
open Go.RowKit
set_option linter.unusedVariables false
def IntPost (w : World) (e : Ending) (w' : World) : Prop := (∃ n : Int, e = .returned (.int .i64 n)) ∧ Below w.heap.size w w'
def BoolPost (w : World) (e : Ending) (w' : World) : Prop := (∃ r : Bool, e = .returned (.bool r)) ∧ Below w.heap.size w w'
set_option maxRecDepth 100000 in
set_option maxHeartbeats 2000000 in
theorem RSize_n : ∀ (n : Nat) (t : Tree) (v : Value) (most : Int) (w : World), szT t ≤ n → Sx w t v → Calls Tryz.prog 26 #[v, .int .i64 most] w (IntPost w) := by
  intro n
  induction n with
  | zero => intro t v most w hn; rw [szT_kids] at hn; omega
  | succ n ih =>
    intro t v most w hn hr
    obtain ⟨a, cap, rfl, hl, hc, hs, hk⟩ := hr.parts
    have HK := Lib.hid hk
    have HIH : Hid (∀ c ∈ t.kids, ∀ (v : Value) (m : Int) (W : World), Sx W c v → Calls Tryz.prog 26 #[v, .int .i64 m] W (IntPost W)) := fun c hcm v m W h1 => ih c v m W (by have := szL_mem hcm; rw [szT_kids] at hn; omega) h1
    have hkm : t.kids.length ≤ 9223372036854775807 := by simp only [maxLen] at hc; omega
    obtain ⟨W0, hW0⟩ : ∃ W0, W0 = w.alloc (.cells #[.int .i8 t.kind, .string (bytesL t.text), .slice a t.kids.length cap] 67) := ⟨_, rfl⟩
    have hB0 : Below w.heap.size w W0 := by rw [hW0]; exact (Below.refl _ _).alloc (Nat.le_refl _) _
    have hX0 : W0.heap[w.heap.size]? = some (.cells #[.int .i8 t.kind, .string (bytesL t.text), .slice a t.kids.length cap] 67 (0, 0)) := by rw [hW0]; exact heap_alloc_new w _
    have HB0 := Lib.hid hB0
    have HX0 := Lib.hid hX0
    clear hr hk ih hn hB0 hX0
    by_cases hmn : (bytesL t.text).size ≤ 5000
    · have hmi : ((bytesL t.text).size : Int) ≤ 5000 := by omega
      skip
      go_enter Tryz.func26, Tryz.ntmps26
      go_wp2
      rw [← hW0]
      clear hW0
      go_loopw [5, 6] (fun n i wr => ∃ (k : Nat) (nn : Int), k ≤ t.kids.length ∧ i = .int .i64 k ∧ n = .int .i64 nn ∧ Hid (Below w.heap.size w wr) ∧ Hid (wr.heap[w.heap.size]? = some (.cells #[.int .i8 t.kind, .string (bytesL t.text), .slice a t.kids.length cap] 67 (0, 0)))) (fun _ i _ => t.kids.length - (intOf i).toNat)
      case atStart => exact ⟨0, _, Nat.zero_le _, rfl, rfl, HB0, HX0⟩
      case round =>
        obtain ⟨k, nn, hkl, rfl, rfl, HB, HX⟩ := hrel
        have x2 := cell_of_row _ _ 2 _ _ _ HX.out
        simp only [List.getElem?_toArray, List.getElem?_cons_zero, List.getElem?_cons_succ] at x2
        have hz := (Array.getElem?_eq_some_iff.1 HX.out).1
        by_cases hlt : k < t.kids.length
        · by_cases hnm : nn < most
          · obtain ⟨c, hcc⟩ : ∃ c, t.kids[k]? = some c := ⟨_, List.getElem?_eq_getElem hlt⟩
            have hks : SxL wr t.kids a := SxL.below HK.out HB.out
            obtain ⟨g, o, rfl, _, hg, _, _⟩ := hks.addr (by omega)
            obtain ⟨_, v0, v1, v2, c0, c1, c2, hrt⟩ := hks.get t.kids g o k c hcc
            obtain ⟨ca, cc, hv, _, _, _, _⟩ := hrt.parts
            simp only [Value.agg.injEq, Array.mk.injEq, List.cons.injEq, and_true] at hv
            obtain ⟨rfl, rfl, rfl⟩ := hv
            have c2' : wr.cell? ⟨g, o + k * 3 + 2, none⟩ = some (.slice ca c.kids.length cc) := c2
            have HC : Hid (∀ (m : Int), Calls Tryz.prog 26 #[.agg #[.int .i8 c.kind, .string (bytesL c.text), .slice ca c.kids.length cc], .int .i64 m] wr (IntPost wr)) := fun m => HIH.out c (List.mem_of_getElem? hcc) _ m wr hrt.sx
            clear hks hrt hcc c2
            go_wp2_with (go_at_call 26; refine (HC.out _).mono ?_; rintro e w1 ⟨⟨m, rfl⟩, hb1⟩)
            exact ⟨⟨k + 1, _, by omega, by go_num, rfl, HB.out.trans (hb1.mono HB.out.size), (hb1.block _ hz).trans HX.out⟩, by simp [intOf]; omega⟩
          · go_wp2
            go_ret
            exact ⟨⟨_, rfl⟩, HB.out⟩
        · obtain rfl : k = t.kids.length := by omega
          go_wp2
          go_ret
          exact ⟨⟨_, rfl⟩, HB.out⟩
    · have hmi : ¬ ((bytesL t.text).size : Int) ≤ 5000 := by omega
      skip
      go_enter Tryz.func26, Tryz.ntmps26
      go_wp2
      rw [← hW0]
      clear hW0
      go_loopw [5, 6] (fun n i wr => ∃ (k : Nat) (nn : Int), k ≤ t.kids.length ∧ i = .int .i64 k ∧ n = .int .i64 nn ∧ Hid (Below w.heap.size w wr) ∧ Hid (wr.heap[w.heap.size]? = some (.cells #[.int .i8 t.kind, .string (bytesL t.text), .slice a t.kids.length cap] 67 (0, 0)))) (fun _ i _ => t.kids.length - (intOf i).toNat)
      case atStart => exact ⟨0, _, Nat.zero_le _, rfl, rfl, HB0, HX0⟩
      case round =>
        obtain ⟨k, nn, hkl, rfl, rfl, HB, HX⟩ := hrel
        have x2 := cell_of_row _ _ 2 _ _ _ HX.out
        simp only [List.getElem?_toArray, List.getElem?_cons_zero, List.getElem?_cons_succ] at x2
        have hz := (Array.getElem?_eq_some_iff.1 HX.out).1
        by_cases hlt : k < t.kids.length
        · by_cases hnm : nn < most
          · obtain ⟨c, hcc⟩ : ∃ c, t.kids[k]? = some c := ⟨_, List.getElem?_eq_getElem hlt⟩
            have hks : SxL wr t.kids a := SxL.below HK.out HB.out
            obtain ⟨g, o, rfl, _, hg, _, _⟩ := hks.addr (by omega)
            obtain ⟨_, v0, v1, v2, c0, c1, c2, hrt⟩ := hks.get t.kids g o k c hcc
            obtain ⟨ca, cc, hv, _, _, _, _⟩ := hrt.parts
            simp only [Value.agg.injEq, Array.mk.injEq, List.cons.injEq, and_true] at hv
            obtain ⟨rfl, rfl, rfl⟩ := hv
            have c2' : wr.cell? ⟨g, o + k * 3 + 2, none⟩ = some (.slice ca c.kids.length cc) := c2
            have HC : Hid (∀ (m : Int), Calls Tryz.prog 26 #[.agg #[.int .i8 c.kind, .string (bytesL c.text), .slice ca c.kids.length cc], .int .i64 m] wr (IntPost wr)) := fun m => HIH.out c (List.mem_of_getElem? hcc) _ m wr hrt.sx
            clear hks hrt hcc c2
            go_wp2_with (go_at_call 26; refine (HC.out _).mono ?_; rintro e w1 ⟨⟨m, rfl⟩, hb1⟩)
            exact ⟨⟨k + 1, _, by omega, by go_num, rfl, HB.out.trans (hb1.mono HB.out.size), (hb1.block _ hz).trans HX.out⟩, by simp [intOf]; omega⟩
          · go_wp2
            go_ret
            exact ⟨⟨_, rfl⟩, HB.out⟩
        · obtain rfl : k = t.kids.length := by omega
          go_wp2
          go_ret
          exact ⟨⟨_, rfl⟩, HB.out⟩
set_option maxRecDepth 100000 in
set_option maxHeartbeats 2000000 in
theorem Great_aux (x : SigV) (ma : Option Addr) (hma : x.ma = ma) (w : World) (hR : SigR w x) : Calls Tryz.prog 7 #[.agg #[.slice x.sa x.sorts.length x.sc, .slice x.fa x.funs.length x.fc, .slice ma x.macs.length x.mc]] w (BoolPost w) := by
  have hlm : x.macs.length ≤ 9223372036854775807 := by have := hR.ml; have := hR.mm; simp only [maxLen] at this; omega
  have HR := Lib.hid hR
  have HB0 : Hid (Below w.heap.size w (w.alloc (.cells #[.slice x.sa x.sorts.length x.sc, .slice x.fa x.funs.length x.fc, .slice ma x.macs.length x.mc] 26))) := (Below.refl _ _).alloc (Nat.le_refl _) _
  have HX0 := Lib.hid (heap_alloc_new w (.cells #[.slice x.sa x.sorts.length x.sc, .slice x.fa x.funs.length x.fc, .slice ma x.macs.length x.mc] 26))
  clear hR
  by_cases h0 : 20 < x.sorts.length
  · go_enter Tryz.func7, Tryz.ntmps7
    go_wp2
    go_ret
    exact ⟨⟨true, rfl⟩, HB0.out⟩
  by_cases h1 : 40 < x.funs.length
  · go_enter Tryz.func7, Tryz.ntmps7
    go_wp2
    go_ret
    exact ⟨⟨true, rfl⟩, HB0.out⟩
  by_cases h2 : 40 < x.macs.length
  · go_enter Tryz.func7, Tryz.ntmps7
    go_wp2
    go_ret
    exact ⟨⟨true, rfl⟩, HB0.out⟩
  go_enter Tryz.func7, Tryz.ntmps7
  go_wp2
  obtain ⟨W0, hW0⟩ : ∃ W0, W0 = w.alloc (.cells #[.slice x.sa x.sorts.length x.sc, .slice x.fa x.funs.length x.fc, .slice ma x.macs.length x.mc] 26) := ⟨_, rfl⟩
  rw [← hW0] at HB0 HX0 ⊢
  clear hW0
  go_loopw [3, 4] (fun n i wr => ∃ (k : Nat) (nn : Int), k ≤ x.macs.length ∧ i = .int .i64 k ∧ n = .int .i64 nn ∧ Hid (Below w.heap.size w wr) ∧ Hid (wr.heap[w.heap.size]? = some (.cells #[.slice x.sa x.sorts.length x.sc, .slice x.fa x.funs.length x.fc, .slice ma x.macs.length x.mc] 26 (0, 0)))) (fun _ i _ => x.macs.length - (intOf i).toNat)
  case atStart => exact ⟨0, 0, Nat.zero_le _, rfl, rfl, HB0, HX0⟩
  case round =>
    obtain ⟨k, nn, hkl, rfl, rfl, HB, HX⟩ := hrel
    have x2 := cell_of_row _ _ 2 _ _ _ HX.out
    simp only [List.getElem?_toArray, List.getElem?_cons_zero, List.getElem?_cons_succ] at x2
    have hz := (Array.getElem?_eq_some_iff.1 HX.out).1
    by_cases hlt : k < x.macs.length
    · obtain ⟨y, hy⟩ : ∃ y, x.macs[k]? = some y := ⟨_, List.getElem?_eq_getElem hlt⟩
      obtain ⟨g, o, ha, hg, hcell⟩ := (HR.out.mat.below HB.out) (by rw [len_flat macC_len]; omega)
      rw [hma] at ha
      have q1 := hcell _ _ ((get_flat macC_len x.macs k 1 y hy (by omega)).trans rfl)
      have q3 := hcell _ _ ((get_flat macC_len x.macs k 3 y hy (by omega)).trans rfl)
      have q4 := hcell _ _ ((get_flat macC_len x.macs k 4 y hy (by omega)).trans rfl)
      have q5 := hcell _ _ ((get_flat macC_len x.macs k 5 y hy (by omega)).trans rfl)
      simp only [← Nat.add_assoc] at q1 q3 q4 q5
      have hbd : Sx wr y.m.body (bodyV y) := (HR.out.mok y (List.mem_of_getElem? hy)).body.below HB.out
      have HC : Hid (Calls Tryz.prog 26 #[.agg #[.int .i8 y.m.body.kind, .string (bytesL y.m.body.text), .slice y.ba y.m.body.kids.length y.bc], .int .i64 4000] wr (IntPost wr)) := RSize_n _ y.m.body _ 4000 wr (Nat.le_refl _) hbd
      have hgw : g < wr.heap.size := Nat.lt_of_lt_of_le hg HB.out.size
      clear hcell hbd hy
      subst ha
      by_cases hp : 20 < y.m.params.length
      · go_wp2_with (go_at_call 26; refine HC.out.mono ?_; rintro e w1 ⟨⟨m, rfl⟩, hb1⟩; obtain ⟨hc1, hf1⟩ := bcell hb1)
        go_ret
        exact ⟨⟨true, rfl⟩, HB.out.trans (hb1.mono HB.out.size)⟩
      · go_wp2_with (go_at_call 26; refine HC.out.mono ?_; rintro e w1 ⟨⟨m, rfl⟩, hb1⟩; obtain ⟨hc1, hf1⟩ := bcell hb1)
        exact ⟨⟨k + 1, _, by omega, by go_num, rfl, HB.out.trans (hb1.mono HB.out.size), (hb1.block _ hz).trans HX.out⟩, by simp [intOf]; omega⟩
    · obtain rfl : k = x.macs.length := by omega
      go_wp2
      go_ret
      exact ⟨⟨_, rfl⟩, HB.out⟩
theorem Great_any (x : SigV) (w : World) (hR : SigR w x) : Calls Tryz.prog 7 #[.agg #[.slice x.sa x.sorts.length x.sc, .slice x.fa x.funs.length x.fc, .slice x.ma x.macs.length x.mc]] w (BoolPost w) := Great_aux x x.ma rfl w hR
end Go.Proofs.YtfbjgadgfjnamaaGreatDoor
