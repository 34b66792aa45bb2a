/- The document's Table: whether a table's nodes have the sorts that typing asks. -/
import Derived.Test.YtfbjgadgfjnamaaGreatDoorZHdR
import Derived.Test.YtfbjgadgfjnamaaGreatDoorZTmM
namespace Go.Proofs.YtfbjgadgfjnamaaGreatDoor
open Go.RowKit
open Tm (NodeA NodeOk TabR)
set_option linter.unusedVariables false
def argN (n : NodeA) (j : Nat) : Int := if j = 0 then n.a0 else if j = 1 then n.a1 else n.a2
def srtN (t : List NodeA) (i : Int) : Int := ((t[i.toNat]?).map (·.sort)).getD 0
/-- The sorts of a node's arguments. -/
def sortsN (t : List NodeA) (n : NodeA) : List Int := (List.range n.len.toNat).map (fun j => srtN t (argN n j))
def rulE (x : SigV) (t : List NodeA) (n : NodeA) : Int := if n.op = 13 then (if appE x n.fn (sortsN t n) = 0 then 0 else 33) else opE n.op (sortsN t n)
def rulV (x : SigV) (t : List NodeA) (n : NodeA) : Int := if n.op = 13 then appV x n.fn (sortsN t n) else opV n.op (sortsN t n)
theorem info_int : (Tryz.prog.info? 3).map (fun i => (i.zero, i.size, i.bytes)) = some (some (.int .i64 0), 1, 8) := by kernel_rfl
/-- The node is one whose arguments stand in the table. -/
structure InT (t : List NodeA) (n : NodeA) : Prop where
  lo : 0 ≤ n.len
  hi : n.len ≤ 3
  arg : ∀ j : Nat, (j : Int) < n.len → 0 ≤ argN n j ∧ argN n j < (t.length : Int)
theorem node_row {V : World} {B : Nat} {n : NodeA} {ty : TypeId} (h : V.heap[B]? = some (.cells #[.int .i8 n.op, .int .i8 n.len, .int .i64 n.a0, .int .i64 n.a1, .int .i64 n.a2, .int .i64 n.sort, .int .i64 n.fn, .int .i64 n.num] ty (0, 0))) : V.cell? ⟨B, 0, none⟩ = some (.int .i8 n.op) ∧ V.cell? ⟨B, 1, none⟩ = some (.int .i8 n.len) ∧ V.cell? ⟨B, 2, none⟩ = some (.int .i64 n.a0) ∧ V.cell? ⟨B, 3, none⟩ = some (.int .i64 n.a1) ∧ V.cell? ⟨B, 4, none⟩ = some (.int .i64 n.a2) ∧ V.cell? ⟨B, 6, none⟩ = some (.int .i64 n.fn) ∧ B < V.heap.size :=
  ⟨(cell_of_row _ _ 0 _ _ _ h).trans rfl, (cell_of_row _ _ 1 _ _ _ h).trans rfl, (cell_of_row _ _ 2 _ _ _ h).trans rfl, (cell_of_row _ _ 3 _ _ _ h).trans rfl, (cell_of_row _ _ 4 _ _ _ h).trans rfl, (cell_of_row _ _ 6 _ _ _ h).trans rfl, (Array.getElem?_eq_some_iff.1 h).1⟩
theorem below_push {W V V2 : World} {o : Obj} {e : TypeId} {size n : Nat} {v : Value} {xs : List Value} (h : Below W.heap.size W V) (hown : V.ownsRow W.heap.size e size v n xs) (hg : (V.alloc o).drew.grownBy V2 v.ownBlock) : Below W.heap.size W V2 := by
  have h2 : (V.alloc o).drew.heap.size = V.heap.size + 1 := by show (V.alloc o).heap.size = _; simp
  have h3 := hg.size
  have h4 := h.size
  exact ⟨hg.os.trans h.os, hg.tape.trans h.tape, hg.output.trans h.output, by omega, fun k hk => (hg.block k (by omega) (fun e' => by have := (own_ne hown e'.symm).1; omega)).trans ((Below.heap_alloc V o k (by omega)).trans (h.block k hk))⟩
set_option maxRecDepth 100000 in
set_option maxHeartbeats 4000000 in
theorem rule_any (x : SigV) (t : List NodeA) (ta : Option Addr) (tc : Nat) (n : NodeA) (V E : Int) (w : World) (hX : SigR w x) (hT : TabR w t ta tc) (hn : NodeOk n) (hI : InT t n) (hV : rulV x t n = V) (hE : rulE x t n = E) :
    Calls Tryz.prog 61 #[.agg #[.slice x.sa x.sorts.length x.sc, .slice x.fa x.funs.length x.fc, .slice x.ma x.macs.length x.mc], .agg #[.slice ta t.length tc], .agg #[.int .i8 n.op, .int .i8 n.len, .int .i64 n.a0, .int .i64 n.a1, .int .i64 n.a2, .int .i64 n.sort, .int .i64 n.fn, .int .i64 n.num]] w fun e w' => e = .returned (.tuple #[.int .i64 V, .int .i64 E]) ∧ Below w.heap.size w w' := by
  obtain ⟨W0, hW0⟩ : ∃ W0, W0 = ((w.alloc (.cells #[.slice x.sa x.sorts.length x.sc, .slice x.fa x.funs.length x.fc, .slice x.ma x.macs.length x.mc] 26)).alloc (.cells #[.slice ta t.length tc] 33)).alloc (.cells #[.int .i8 n.op, .int .i8 n.len, .int .i64 n.a0, .int .i64 n.a1, .int .i64 n.a2, .int .i64 n.sort, .int .i64 n.fn, .int .i64 n.num] 47) := ⟨_, rfl⟩
  have hB0 : Below w.heap.size w W0 := by rw [hW0]; exact (((Below.refl _ w).alloc (Nat.le_refl _) _).alloc (by simp) _).alloc (by simp; omega) _
  have hs0 : W0.heap.size = w.heap.size + 3 := by rw [hW0]; simp
  have HB0 := Lib.hid hB0
  have hX0 : W0.heap[w.heap.size]? = some (.cells #[.slice x.sa x.sorts.length x.sc, .slice x.fa x.funs.length x.fc, .slice x.ma x.macs.length x.mc] 26 (0, 0)) := by
    rw [hW0]
    exact ((Below.heap_alloc _ _ _ (by simp; omega)).trans (Below.heap_alloc _ _ _ (by simp))).trans (heap_alloc_new w _)
  have hT0 : W0.heap[w.heap.size + 1]? = some (.cells #[.slice ta t.length tc] 33 (0, 0)) := by
    have := heap_alloc_new (w.alloc (.cells #[.slice x.sa x.sorts.length x.sc, .slice x.fa x.funs.length x.fc, .slice x.ma x.macs.length x.mc] 26)) (.cells #[.slice ta t.length tc] 33)
    rw [World.size_alloc] at this
    rw [hW0]
    exact (Below.heap_alloc _ _ _ (by simp)).trans this
  have hN0 : W0.heap[w.heap.size + 1 + 1]? = some (.cells #[.int .i8 n.op, .int .i8 n.len, .int .i64 n.a0, .int .i64 n.a1, .int .i64 n.a2, .int .i64 n.sort, .int .i64 n.fn, .int .i64 n.num] 47 (0, 0)) := by
    have := heap_alloc_new ((w.alloc (.cells #[.slice x.sa x.sorts.length x.sc, .slice x.fa x.funs.length x.fc, .slice x.ma x.macs.length x.mc] 26)).alloc (.cells #[.slice ta t.length tc] 33)) (.cells #[.int .i8 n.op, .int .i8 n.len, .int .i64 n.a0, .int .i64 n.a1, .int .i64 n.a2, .int .i64 n.sort, .int .i64 n.fn, .int .i64 n.num] 47)
    rw [World.size_alloc, World.size_alloc] at this
    rw [hW0]
    exact this
  have HK : Hid (∀ V, Below W0.heap.size W0 V → V.cell? ⟨w.heap.size, 0, none⟩ = some (.slice x.sa x.sorts.length x.sc) ∧ V.cell? ⟨w.heap.size, 1, none⟩ = some (.slice x.fa x.funs.length x.fc) ∧ V.cell? ⟨w.heap.size, 2, none⟩ = some (.slice x.ma x.macs.length x.mc) ∧ V.cell? ⟨w.heap.size + 1, 0, none⟩ = some (.slice ta t.length tc) ∧ V.cell? ⟨w.heap.size + 1 + 1, 0, none⟩ = some (.int .i8 n.op) ∧ V.cell? ⟨w.heap.size + 1 + 1, 1, none⟩ = some (.int .i8 n.len) ∧ V.cell? ⟨w.heap.size + 1 + 1, 2, none⟩ = some (.int .i64 n.a0) ∧ V.cell? ⟨w.heap.size + 1 + 1, 3, none⟩ = some (.int .i64 n.a1) ∧ V.cell? ⟨w.heap.size + 1 + 1, 4, none⟩ = some (.int .i64 n.a2) ∧ V.cell? ⟨w.heap.size + 1 + 1, 6, none⟩ = some (.int .i64 n.fn) ∧ w.heap.size + 1 + 1 < V.heap.size) := fun V hV => by
    obtain ⟨c0, c1, c2, _⟩ := sig_cells ((hV.block _ (Array.getElem?_eq_some_iff.1 hX0).1).trans hX0)
    have t0 := (cell_of_row _ _ 0 _ _ _ ((hV.block _ (Array.getElem?_eq_some_iff.1 hT0).1).trans hT0)).trans rfl
    obtain ⟨n0, n1, n2, n3, n4, n6, z⟩ := node_row ((hV.block _ (Array.getElem?_eq_some_iff.1 hN0).1).trans hN0)
    exact ⟨c0, c1, c2, t0, n0, n1, n2, n3, n4, n6, z⟩
  have HX := Lib.hid hX
  have HT := Lib.hid hT
  have HI := Lib.hid hI
  have HNo := Lib.hid hn
  have HVv : Hid (rulV x t n = V) := hV
  have HEe : Hid (rulE x t n = E) := hE
  obtain ⟨lo, hi, _⟩ := hI
  obtain ⟨i0, hi_, hz0, hz1, hz2⟩ := info_parts info_int
  clear hX0 hT0 hN0 hX hT hn hB0 hV hE
  go_enter Tryz.func61, Tryz.ntmps61
  go_wp2_with fail
  rw [← hW0]
  clear hW0
  go_loopw [8, 9] (fun s i wr => ∃ (k : Nat) (a : Option Addr) (c : Nat), (k : Int) ≤ n.len ∧ i = .int .i64 k ∧ s = .slice a k c ∧ Hid (Below W0.heap.size W0 wr) ∧ Hid (wr.ownsRow W0.heap.size 3 1 (.slice a k c) k (((List.range k).map (fun j => srtN t (argN n j))).flatMap numL))) (fun _ i _ => n.len.toNat - (intOf i).toNat)
  case atStart => exact ⟨0, none, 0, by omega, rfl, rfl, Below.refl _ _, World.ownsRow_nil _ _ _ _⟩
  case round =>
    obtain ⟨k, a, c, hk, rfl, rfl, HB, HO⟩ := hrel
    obtain ⟨c0, c1, c2, t0, n0, n1, n2, n3, n4, n6, z0⟩ := HK.out _ HB.out
    by_cases hlt : (k : Int) < n.len
    · obtain ⟨al, ah⟩ := HI.out.arg k hlt
      obtain ⟨j, hj⟩ : ∃ j : Nat, argN n k = (j : Int) := ⟨(argN n k).toNat, by omega⟩
      have hjt : j < t.length := by omega
      obtain ⟨m, hm⟩ : ∃ m, t[j]? = some m := ⟨_, List.getElem?_eq_getElem hjt⟩
      have hsrt : srtN t (argN n k) = m.sort := by unfold srtN; rw [hj, Int.toNat_natCast, hm]; rfl
      obtain ⟨g, o, rfl, hg, _, _, _, _, _, m5, _, _⟩ := (HT.out.below (HB0.out.trans (HB.out.mono HB0.out.size))).node hm
      have hji : (j : Int) < (t.length : Int) := by omega
      have hj0 : (0 : Int) ≤ (j : Int) := by omega
      have hown : wr.ownsRow W0.heap.size 3 1 (.slice a k c) k (((List.range k).map (fun j => srtN t (argN n j))).flatMap numL) := HO.out
      have hc : k = 0 ∨ k = 1 ∨ k = 2 := by omega
      have hmo := (HT.out.ok m (List.mem_of_getElem? hm)).sort
      clear hm
      rcases hc with rfl | rfl | rfl
      · have ha0 : n.a0 = (j : Int) := hj
        rw [ha0] at n2
        clear ha0 hj
        try simp only [Nat.cast_ofNat_Int] at hlt
        go_wp2_with fail
        go_region_law (refine step_append_lies _ rfl (.tmp 19) (.tmp 29) 27 rfl W0.heap.size 3 i0 _ 1 8 Tryz.underlying27 hi_ hz0 hz1 hz2 rfl (by decide) (Value.slice a 0 c) 0 (((List.range 0).map (fun j => srtN t (argN n j))).flatMap numL) (by rfl) (hown.alloc _) ⟨wr.heap.size, 0, none⟩ 1 1 [.int .i64 m.sort] (by rfl) rfl (World.news_of_block (B := wr.heap.size) (cs := #[.int .i64 m.sort]) (t := 3) (fr := (0, 0)) (heap_alloc_new wr _)) (by simp [Value.oneCell']) (by omega) (by simp [maxLen]) (by omega) (by have := HB.out.size; simp; omega) _ rfl ?_; intro g9 c9 w9 hown9 hgrow9 hat9 hlt9; have HB9 := Lib.hid (below_push HB.out hown hgrow9); have HO9 := Lib.hid hown9; clear hown9 hgrow9 hat9)
        all_goals
          have HO3 : Hid (w9.ownsRow W0.heap.size 3 1 (.slice (some ⟨g9, 0, none⟩) (0 + 1) c9) (0 + 1) (((List.range (0 + 1)).map (fun j => srtN t (argN n j))).flatMap numL)) := by
            have h := HO9.out
            rw [← hsrt] at h
            exact h
          go_wp2_with fail
          go_roundw
          case rel => exact ⟨0 + 1, some ⟨g9, 0, none⟩, c9, by omega, by go_num, rfl, by first | exact HB9 | exact HB9.out.drew, by first | exact HO3 | exact HO3.out.drew⟩
          case measure => first | (simp [intOf]; done) | (simp [intOf]; omega)
      · have ha0 : n.a1 = (j : Int) := hj
        rw [ha0] at n3
        clear ha0 hj
        try simp only [Nat.cast_ofNat_Int] at hlt
        go_wp2_with fail
        go_region_law (refine step_append_lies _ rfl (.tmp 19) (.tmp 29) 27 rfl W0.heap.size 3 i0 _ 1 8 Tryz.underlying27 hi_ hz0 hz1 hz2 rfl (by decide) (Value.slice a 1 c) 1 (((List.range 1).map (fun j => srtN t (argN n j))).flatMap numL) (by rfl) (hown.alloc _) ⟨wr.heap.size, 0, none⟩ 1 1 [.int .i64 m.sort] (by rfl) rfl (World.news_of_block (B := wr.heap.size) (cs := #[.int .i64 m.sort]) (t := 3) (fr := (0, 0)) (heap_alloc_new wr _)) (by simp [Value.oneCell']) (by omega) (by simp [maxLen]) (by omega) (by have := HB.out.size; simp; omega) _ rfl ?_; intro g9 c9 w9 hown9 hgrow9 hat9 hlt9; have HB9 := Lib.hid (below_push HB.out hown hgrow9); have HO9 := Lib.hid hown9; clear hown9 hgrow9 hat9)
        all_goals
          have HO3 : Hid (w9.ownsRow W0.heap.size 3 1 (.slice (some ⟨g9, 0, none⟩) (1 + 1) c9) (1 + 1) (((List.range (1 + 1)).map (fun j => srtN t (argN n j))).flatMap numL)) := by
            have h := HO9.out
            rw [← hsrt] at h
            exact h
          go_wp2_with fail
          go_roundw
          case rel => exact ⟨1 + 1, some ⟨g9, 0, none⟩, c9, by omega, by go_num, rfl, by first | exact HB9 | exact HB9.out.drew, by first | exact HO3 | exact HO3.out.drew⟩
          case measure => first | (simp [intOf]; done) | (simp [intOf]; omega)
      · have ha0 : n.a2 = (j : Int) := hj
        rw [ha0] at n4
        clear ha0 hj
        try simp only [Nat.cast_ofNat_Int] at hlt
        go_wp2_with fail
        go_region_law (refine step_append_lies _ rfl (.tmp 19) (.tmp 29) 27 rfl W0.heap.size 3 i0 _ 1 8 Tryz.underlying27 hi_ hz0 hz1 hz2 rfl (by decide) (Value.slice a 2 c) 2 (((List.range 2).map (fun j => srtN t (argN n j))).flatMap numL) (by rfl) (hown.alloc _) ⟨wr.heap.size, 0, none⟩ 1 1 [.int .i64 m.sort] (by rfl) rfl (World.news_of_block (B := wr.heap.size) (cs := #[.int .i64 m.sort]) (t := 3) (fr := (0, 0)) (heap_alloc_new wr _)) (by simp [Value.oneCell']) (by omega) (by simp [maxLen]) (by omega) (by have := HB.out.size; simp; omega) _ rfl ?_; intro g9 c9 w9 hown9 hgrow9 hat9 hlt9; have HB9 := Lib.hid (below_push HB.out hown hgrow9); have HO9 := Lib.hid hown9; clear hown9 hgrow9 hat9)
        all_goals
          have HO3 : Hid (w9.ownsRow W0.heap.size 3 1 (.slice (some ⟨g9, 0, none⟩) (2 + 1) c9) (2 + 1) (((List.range (2 + 1)).map (fun j => srtN t (argN n j))).flatMap numL)) := by
            have h := HO9.out
            rw [← hsrt] at h
            exact h
          go_wp2_with fail
          go_roundw
          case rel => exact ⟨2 + 1, some ⟨g9, 0, none⟩, c9, by omega, by go_num, rfl, by first | exact HB9 | exact HB9.out.drew, by first | exact HO3 | exact HO3.out.drew⟩
          case measure => first | (simp [intOf]; done) | (simp [intOf]; omega)
    · have hkn : n.len = (k : Int) := by omega
      have hkt : n.len.toNat = k := by omega
      have hSl : (sortsN t n).length = k := by unfold sortsN; rw [List.length_map, List.length_range, hkt]
      have hown : wr.ownsRow W0.heap.size 3 1 (.slice a k c) k ((sortsN t n).flatMap numL) := by
        have h := HO.out
        unfold sortsN
        rw [hkt]
        exact h
      obtain ⟨_, _, hat⟩ := own_to hown
      have HBw : Hid (Below w.heap.size w wr) := HB0.out.trans (HB.out.mono HB0.out.size)
      by_cases h13 : n.op = 13
      · have e13 := eq_true_ h13
        by_cases h0 : appE x n.fn (sortsN t n) = 0
        · obtain rfl : E = 0 := by rw [← HEe.out]; unfold rulE; rw [if_pos h13, if_pos h0]
          have hv : appV x n.fn (sortsN t n) = V := by rw [← HVv.out]; unfold rulV; rw [if_pos h13]
          have h := App_any x n.fn (sortsN t n) a c V 0 wr (HX.out.below HBw.out) HNo.out.fn hat (by omega) hv h0
          rw [hSl] at h
          have HC := Lib.hid h
          clear h hv h0 h13 hat hown hSl hkt hkn
          go_wp2_with (go_at_call 92; refine HC.out.mono ?_; rintro e w5 ⟨rfl, hb5⟩; have HB5 := Lib.hid hb5; clear hb5)
          go_ret2
          exact ⟨rfl, HBw.out.trans (HB5.out.mono HBw.out.size)⟩
        · obtain rfl : E = 33 := by rw [← HEe.out]; unfold rulE; rw [if_pos h13, if_neg h0]
          obtain rfl : V = 0 := by rw [← HVv.out]; unfold rulV appV; rw [if_pos h13, if_neg h0]
          have h := App_any x n.fn (sortsN t n) a c _ _ wr (HX.out.below HBw.out) HNo.out.fn hat (by omega) rfl rfl
          rw [hSl] at h
          have HC := Lib.hid h
          have e0 := ne_true h0
          generalize appE x n.fn (sortsN t n) = E2 at *
          generalize appV x n.fn (sortsN t n) = V2 at *
          clear h h0 h13 hat hown hSl hkt hkn
          go_wp2_with (go_at_call 92; refine HC.out.mono ?_; rintro e w5 ⟨rfl, hb5⟩; have HB5 := Lib.hid hb5; clear hb5)
          go_ret2
          exact ⟨rfl, HBw.out.trans (HB5.out.mono HBw.out.size)⟩
      · have e13 := eq_false h13
        have hv : opV n.op (sortsN t n) = V := by rw [← HVv.out]; unfold rulV; rw [if_neg h13]
        have he : opE n.op (sortsN t n) = E := by rw [← HEe.out]; unfold rulE; rw [if_neg h13]
        have h := Op_any n.op (sortsN t n) a c V E wr hat (by omega) hv he
        rw [hSl] at h
        have HC := Lib.hid h
        clear h hv he h13 hat hown hSl hkt hkn
        go_wp2_with (go_at_call 77; refine HC.out.mono ?_; rintro e w5 ⟨rfl, hb5⟩; have HB5 := Lib.hid hb5; clear hb5)
        go_ret2
        exact ⟨rfl, HBw.out.trans (HB5.out.mono HBw.out.size)⟩
end Go.Proofs.YtfbjgadgfjnamaaGreatDoor
namespace Go.Proofs.YtfbjgadgfjnamaaGreatDoor
open Go.RowKit
open Tm (NodeA NodeOk TabR mayT)
set_option linter.unusedVariables false
def rowT (x : SigV) (t : List NodeA) (n : NodeA) : Bool := decide (rulE x t n = 0) && decide (rulV x t n = n.sort)
def tabE (x : SigV) (t : List NodeA) : Int := if checkQ x.a = true ∧ mayT t = true then (if t.all (rowT x t) = true then 0 else 33) else 2
theorem stands_in {t : List NodeA} {n : NodeA} {k : Nat} (h : Tm.standsB n k = true) (hk : k ≤ t.length) : InT t n := by
  unfold Tm.standsB at h
  rw [decide_eq_true_eq] at h
  obtain ⟨⟨h0, h1, h2⟩, _, ⟨a0, _⟩, ⟨a1, _⟩, ⟨a2, _⟩⟩ := h
  have hl : 0 ≤ n.len ∧ n.len ≤ 3 := by
    split at h2
    · exact ⟨h2.1, h2.2.1⟩
    · have h3 : n.len = Tm.arityA n.op := by
        split at h2
        · exact h2.1
        · exact h2.1
      rw [h3]
      unfold Tm.arityA
      repeat' split
      all_goals omega
  refine ⟨hl.1, hl.2, fun j hj => ?_⟩
  have hc : j = 0 ∨ j = 1 ∨ j = 2 := by omega
  rcases hc with rfl | rfl | rfl
  · have := a0 hj
    show 0 ≤ n.a0 ∧ n.a0 < _
    omega
  · have := a1 hj
    show 0 ≤ n.a1 ∧ n.a1 < _
    omega
  · have := a2 hj
    show 0 ≤ n.a2 ∧ n.a2 < _
    omega
set_option maxRecDepth 300000 in
set_option maxHeartbeats 4000000 in
theorem RTable_any (x : SigV) (t : List NodeA) (ta : Option Addr) (tc : Nat) (r : Int) (w : World) (hX : SigR w x) (hT : TabR w t ta tc) (htl : t.length ≤ 3000) (hr : tabE x t = r) :
    Calls Tryz.prog 31 #[.agg #[.slice x.sa x.sorts.length x.sc, .slice x.fa x.funs.length x.fc, .slice x.ma x.macs.length x.mc], .agg #[.slice ta t.length tc]] w fun e w' => e = .returned (.int .i64 r) ∧ Below w.heap.size w w' := by
  obtain ⟨W0, hW0⟩ : ∃ W0, W0 = (w.alloc (.cells #[.slice x.sa x.sorts.length x.sc, .slice x.fa x.funs.length x.fc, .slice x.ma x.macs.length x.mc] 26)).alloc (.cells #[.slice ta t.length tc] 33) := ⟨_, rfl⟩
  have hB0 : Below w.heap.size w W0 := by rw [hW0]; exact ((Below.refl _ w).alloc (Nat.le_refl _) _).alloc (by simp) _
  have HB0 := Lib.hid hB0
  have hX0 : W0.heap[w.heap.size]? = some (.cells #[.slice x.sa x.sorts.length x.sc, .slice x.fa x.funs.length x.fc, .slice x.ma x.macs.length x.mc] 26 (0, 0)) := by rw [hW0]; exact (Below.heap_alloc _ _ _ (by simp)).trans (heap_alloc_new w _)
  have hT0 : W0.heap[w.heap.size + 1]? = some (.cells #[.slice ta t.length tc] 33 (0, 0)) := by
    have := heap_alloc_new (w.alloc (.cells #[.slice x.sa x.sorts.length x.sc, .slice x.fa x.funs.length x.fc, .slice x.ma x.macs.length x.mc] 26)) (.cells #[.slice ta t.length tc] 33)
    rw [World.size_alloc] at this
    rw [hW0]; exact this
  have HK : Hid (∀ V, Below W0.heap.size W0 V → V.cell? ⟨w.heap.size, 0, none⟩ = some (.slice x.sa x.sorts.length x.sc) ∧ V.cell? ⟨w.heap.size, 1, none⟩ = some (.slice x.fa x.funs.length x.fc) ∧ V.cell? ⟨w.heap.size, 2, none⟩ = some (.slice x.ma x.macs.length x.mc) ∧ V.cell? ⟨w.heap.size + 1, 0, none⟩ = some (.slice ta t.length tc) ∧ w.heap.size + 1 < V.heap.size) := fun V hV => by
    obtain ⟨c0, c1, c2, _⟩ := sig_cells ((hV.block _ (Array.getElem?_eq_some_iff.1 hX0).1).trans hX0)
    have h := (hV.block _ (Array.getElem?_eq_some_iff.1 hT0).1).trans hT0
    exact ⟨c0, c1, c2, (cell_of_row _ _ 0 _ _ _ h).trans rfl, (Array.getElem?_eq_some_iff.1 h).1⟩
  have HX := Lib.hid hX
  have HT := Lib.hid hT
  have HCx : Hid (∀ q, checkQ x.a = q → ∀ V, Below W0.heap.size W0 V → Calls Tryz.prog 58 #[.agg #[.slice x.sa x.sorts.length x.sc, .slice x.fa x.funs.length x.fc, .slice x.ma x.macs.length x.mc]] V fun e w' => e = .returned (.int .i64 (if q = true then 0 else 2)) ∧ Below W0.heap.size W0 w') := fun q hq V hV => (RSigCheck_any x q V (hX.below (hB0.trans (hV.mono hB0.size))) hq).mono fun e w' ⟨h1, h2⟩ => ⟨h1, hV.trans (h2.mono hV.size)⟩
  have HCt : Hid (∀ q, mayT t = q → ∀ V, Below W0.heap.size W0 V → Calls Tryz.prog 29 #[.agg #[.slice ta t.length tc]] V fun e w' => e = .returned (.int .i64 (if q = true then 0 else 2)) ∧ Below W0.heap.size W0 w') := fun q hq V hV => by
    have h := (Tm.RCheck_any t ta tc _ V (hT.below (hB0.trans (hV.mono hB0.size))) htl rfl).mono fun e w' ⟨h1, h2⟩ => (⟨h1, hV.trans (h2.mono hV.size)⟩ : e = Ending.returned (.int .i64 (Tm.errB2 (mayT t))) ∧ Below W0.heap.size W0 w')
    rw [hq] at h
    cases q <;> exact h
  obtain ⟨c0, c1, c2, t0, z0⟩ := HK.out _ (Below.refl _ _)
  clear hX0 hT0 hX hT hB0
  cases hq : checkQ x.a with
  | false =>
    obtain rfl : r = 2 := by rw [← hr]; unfold tabE; rw [if_neg (fun h => by rw [hq] at h; cases h.1)]
    have HC := Lib.hid (HCx.out _ hq)
    clear hr hq
    go_enter Tryz.func31, Tryz.ntmps31
    go_wp2_with (go_at_call 58; rw [← hW0]; clear hW0; refine (HC.out _ (Below.refl _ _)).mono ?_; rintro e w3 ⟨rfl, hb1⟩; have HB1 := Lib.hid hb1; clear hb1 c0 c1 c2 t0 z0; obtain ⟨c0, c1, c2, t0, z0⟩ := HK.out _ HB1.out; simp only [reduceIte, Bool.false_eq_true])
    go_ret
    exact ⟨rfl, HB0.out.trans (HB1.out.mono HB0.out.size)⟩
  | true =>
  have HC := Lib.hid (HCx.out _ hq)
  cases hm : mayT t with
  | false =>
    obtain rfl : r = 2 := by rw [← hr]; unfold tabE; rw [if_neg (fun h => by rw [hm] at h; cases h.2)]
    have HC2 := Lib.hid (HCt.out _ hm)
    clear hr hq hm
    go_enter Tryz.func31, Tryz.ntmps31
    go_wp2_with (first | (go_at_call 58; rw [← hW0]; clear hW0; refine (HC.out _ (Below.refl _ _)).mono ?_; rintro e w3 ⟨rfl, hb1⟩; have HB1 := Lib.hid hb1; clear hb1 c0 c1 c2 t0 z0; obtain ⟨c0, c1, c2, t0, z0⟩ := HK.out _ HB1.out; simp only [reduceIte]) | (go_at_call 29; refine (HC2.out _ HB1.out).mono ?_; rintro e w4 ⟨rfl, hb2⟩; have HB2 := Lib.hid hb2; clear hb2 c0 c1 c2 t0 z0; obtain ⟨c0, c1, c2, t0, z0⟩ := HK.out _ HB2.out; simp only [reduceIte, Bool.false_eq_true]))
    go_ret
    exact ⟨rfl, HB0.out.trans (HB2.out.mono HB0.out.size)⟩
  | true =>
  have HC2 := Lib.hid (HCt.out _ hm)
  have hE : (if t.all (rowT x t) = true then (0 : Int) else 33) = r := by rw [← hr]; unfold tabE; exact (if_pos ⟨hq, hm⟩).symm
  have HNo : Hid (∀ (j : Nat) (n : NodeA), t[j]? = some n → rowT x t n = false → r = 33) := fun j n hn h => by rw [← hE, all_no hn h]; rfl
  have HYes : Hid ((∀ (j : Nat) (n : NodeA), t[j]? = some n → rowT x t n = true) → r = 0) := fun h => by rw [← hE, all_yes h]; rfl
  have HOk := Lib.hid (Tm.mayT_ok hm).2
  clear hr hE hq hm
  go_enter Tryz.func31, Tryz.ntmps31
  go_wp2_with (first | (go_at_call 58; rw [← hW0]; clear hW0; refine (HC.out _ (Below.refl _ _)).mono ?_; rintro e w3 ⟨rfl, hb1⟩; have HB1 := Lib.hid hb1; clear hb1 c0 c1 c2 t0 z0; obtain ⟨c0, c1, c2, t0, z0⟩ := HK.out _ HB1.out; simp only [reduceIte]) | (go_at_call 29; refine (HC2.out _ HB1.out).mono ?_; rintro e w4 ⟨rfl, hb2⟩; have HB2 := Lib.hid hb2; clear hb2 c0 c1 c2 t0 z0; obtain ⟨c0, c1, c2, t0, z0⟩ := HK.out _ HB2.out; simp only [reduceIte]))
  clear c0 c1 c2 t0 z0
  go_loopw [5] (fun i wr => ∃ k : Nat, k ≤ t.length ∧ i = .int .i64 k ∧ Hid (∀ (j : Nat) (n : NodeA), j < k → t[j]? = some n → rowT x t n = true) ∧ Hid (Below W0.heap.size W0 wr)) (fun i _ => t.length - (intOf i).toNat)
  case atStart => exact ⟨0, Nat.zero_le _, rfl, fun j _ hj => absurd hj (Nat.not_lt_zero _), HB2⟩
  case round =>
    obtain ⟨k, hk, rfl, HP, HB⟩ := hrel
    obtain ⟨c0, c1, c2, t0, z0⟩ := HK.out _ HB.out
    have HBw : Hid (Below w.heap.size w wr) := HB0.out.trans (HB.out.mono HB0.out.size)
    by_cases hlt : k < t.length
    rotate_left
    · obtain rfl : k = t.length := by omega
      obtain rfl : r = 0 := HYes.out (fun j n hj => HP.out j n (List.getElem?_eq_some_iff.1 hj).1 hj)
      go_wp2
      go_ret
      exact ⟨rfl, HBw.out⟩
    obtain ⟨n, hn⟩ : ∃ n, t[k]? = some n := ⟨_, List.getElem?_eq_getElem hlt⟩
    obtain ⟨g, o, rfl, hg, m0, m1, m2, m3, m4, m5, m6, m7⟩ := (HT.out.below HBw.out).node hn
    have HMk : Hid (∀ V, Below wr.heap.size wr V → V.cell? ⟨g, o + k * 8 + 5, none⟩ = some (.int .i64 n.sort) ∧ g < V.heap.size) := fun V hV => ⟨(hV.cell (p := ⟨g, o + k * 8 + 5, none⟩) hg).trans m5, Nat.lt_of_lt_of_le hg hV.size⟩
    have HSN : Hid (∀ V, Below wr.heap.size wr V → V.cell? ⟨w.heap.size, 0, none⟩ = some (.slice x.sa x.sorts.length x.sc) ∧ V.cell? ⟨w.heap.size, 1, none⟩ = some (.slice x.fa x.funs.length x.fc) ∧ V.cell? ⟨w.heap.size, 2, none⟩ = some (.slice x.ma x.macs.length x.mc) ∧ V.cell? ⟨w.heap.size + 1, 0, none⟩ = some (.slice (some ⟨g, o, none⟩) t.length tc) ∧ V.cell? ⟨g, o + k * 8, none⟩ = some (.int .i8 n.op) ∧ V.cell? ⟨g, o + k * 8 + 1, none⟩ = some (.int .i8 n.len) ∧ V.cell? ⟨g, o + k * 8 + 2, none⟩ = some (.int .i64 n.a0) ∧ V.cell? ⟨g, o + k * 8 + 3, none⟩ = some (.int .i64 n.a1) ∧ V.cell? ⟨g, o + k * 8 + 4, none⟩ = some (.int .i64 n.a2) ∧ V.cell? ⟨g, o + k * 8 + 5, none⟩ = some (.int .i64 n.sort) ∧ V.cell? ⟨g, o + k * 8 + 6, none⟩ = some (.int .i64 n.fn) ∧ V.cell? ⟨g, o + k * 8 + 7, none⟩ = some (.int .i64 n.num)) := fun V hV => by
      obtain ⟨c0, c1, c2, t0, _⟩ := HK.out _ (HB.out.trans (hV.mono HB.out.size))
      exact ⟨c0, c1, c2, t0, (hV.cell (p := ⟨g, o + k * 8, none⟩) hg).trans m0, (hV.cell (p := ⟨g, o + k * 8 + 1, none⟩) hg).trans m1, (hV.cell (p := ⟨g, o + k * 8 + 2, none⟩) hg).trans m2, (hV.cell (p := ⟨g, o + k * 8 + 3, none⟩) hg).trans m3, (hV.cell (p := ⟨g, o + k * 8 + 4, none⟩) hg).trans m4, (hV.cell (p := ⟨g, o + k * 8 + 5, none⟩) hg).trans m5, (hV.cell (p := ⟨g, o + k * 8 + 6, none⟩) hg).trans m6, (hV.cell (p := ⟨g, o + k * 8 + 7, none⟩) hg).trans m7⟩
    have hki : (k : Int) < (t.length : Int) := by omega
    have hk0 : (0 : Int) ≤ (k : Int) := by omega
    have hno := HT.out.ok n (List.mem_of_getElem? hn)
    have hin : InT t n := stands_in (Tm.ok_at HOk.out hn).1 (by omega)
    have HRu : Hid (∀ V E, rulV x t n = V → rulE x t n = E → ∀ U, Below wr.heap.size wr U → Calls Tryz.prog 61 #[.agg #[.slice x.sa x.sorts.length x.sc, .slice x.fa x.funs.length x.fc, .slice x.ma x.macs.length x.mc], .agg #[.slice (some ⟨g, o, none⟩) t.length tc], .agg #[.int .i8 n.op, .int .i8 n.len, .int .i64 n.a0, .int .i64 n.a1, .int .i64 n.a2, .int .i64 n.sort, .int .i64 n.fn, .int .i64 n.num]] U fun e w' => e = .returned (.tuple #[.int .i64 V, .int .i64 E]) ∧ Below wr.heap.size wr w') := fun V E hv he U hU =>
      (rule_any x t (some ⟨g, o, none⟩) tc n V E U (HX.out.below (HBw.out.trans (hU.mono HBw.out.size))) (HT.out.below (HBw.out.trans (hU.mono HBw.out.size))) hno hin hv he).mono fun e w' ⟨h1, h2⟩ => ⟨h1, hU.trans (h2.mono hU.size)⟩
    have hrow : (decide (rulE x t n = 0) && decide (rulV x t n = n.sort)) = rowT x t n := rfl
    have HNo2 : Hid (rowT x t n = false → r = 33) := HNo.out k n hn
    have HP2 : Hid (rowT x t n = true → ∀ (j : Nat) (z : NodeA), j < k + 1 → t[j]? = some z → rowT x t z = true) := fun h j z hj hz => by
      by_cases hjk : j < k
      · exact HP.out j z hjk hz
      · obtain rfl : j = k := by omega
        obtain rfl : n = z := by rw [hn] at hz; exact Option.some.inj hz
        exact h
    have hso := hno.sort
    clear hn hno hin
    by_cases h0 : rulE x t n = 0
    rotate_left
    · obtain rfl := HNo2.out (by rw [← hrow, decide_eq_false h0]; rfl)
      have HC3 := Lib.hid (HRu.out _ _ rfl rfl)
      have e0 := ne_true h0
      generalize rulE x t n = E at *
      generalize rulV x t n = V at *
      clear hrow h0
      go_wp2_with fail
      refine wp_region_held_drew (S := fun V => V.cell? ⟨w.heap.size, 0, none⟩ = some (.slice x.sa x.sorts.length x.sc) ∧ V.cell? ⟨w.heap.size, 1, none⟩ = some (.slice x.fa x.funs.length x.fc) ∧ V.cell? ⟨w.heap.size, 2, none⟩ = some (.slice x.ma x.macs.length x.mc) ∧ V.cell? ⟨w.heap.size + 1, 0, none⟩ = some (.slice (some ⟨g, o, none⟩) t.length tc) ∧ V.cell? ⟨g, o + k * 8, none⟩ = some (.int .i8 n.op) ∧ V.cell? ⟨g, o + k * 8 + 1, none⟩ = some (.int .i8 n.len) ∧ V.cell? ⟨g, o + k * 8 + 2, none⟩ = some (.int .i64 n.a0) ∧ V.cell? ⟨g, o + k * 8 + 3, none⟩ = some (.int .i64 n.a1) ∧ V.cell? ⟨g, o + k * 8 + 4, none⟩ = some (.int .i64 n.a2) ∧ V.cell? ⟨g, o + k * 8 + 5, none⟩ = some (.int .i64 n.sort) ∧ V.cell? ⟨g, o + k * 8 + 6, none⟩ = some (.int .i64 n.fn) ∧ V.cell? ⟨g, o + k * 8 + 7, none⟩ = some (.int .i64 n.num)) (by kernel_rfl) (HSN.out _ (Below.refl _ wr).drew) (fun hHeld => ?_)
      refine tkY 0 (.agg #[.slice x.sa x.sorts.length x.sc, .slice x.fa x.funs.length x.fc, .slice x.ma x.macs.length x.mc]) ?_
      try simp only [kP, kA, kZ, kS]
      refine tkY 1 (.agg #[.slice (some ⟨g, o, none⟩) t.length tc]) ?_
      try simp only [kP, kA, kZ, kS]
      refine tkY 2 (.pointer (some ⟨w.heap.size + 1, 0, none⟩)) ?_
      try simp only [kP, kA, kZ, kS]
      refine tkY 3 (.slice (some ⟨g, o, none⟩) t.length tc) ?_
      try simp only [kP, kA, kZ, kS]
      refine tkY 4 (.int .i64 k) ?_
      try simp only [kP, kA, kZ, kS]
      refine tkY 5 (.pointer (some ⟨g, o + k * 8, none⟩)) ?_
      try simp only [kP, kA, kZ, kS]
      refine tkY 6 (.agg #[.int .i8 n.op, .int .i8 n.len, .int .i64 n.a0, .int .i64 n.a1, .int .i64 n.a2, .int .i64 n.sort, .int .i64 n.fn, .int .i64 n.num]) ?_
      try simp only [kP, kA, kZ, kS]
      refine wpAnyH_ready (rs := [7]) (by kernel_rfl) (by simp) ?_
      refine AllReadyH.cons (o := { dst := some 31, op := Op.call { callee := Callee.value (Operand.func 61), args := #[Operand.tmp 24, Operand.tmp 25, Operand.tmp 30], argTypes := #[26, 33, 47] }, type := 86, pos := "ref.go:126", after := #[{ on := 0, ground := Ground.data }, { on := 1, ground := Ground.data }, { on := 6, ground := Ground.data }], guard := none }) rfl (fun K hK => ?_) AllReadyH.nil
      go_simp
      go_at_call 61
      refine (HC3.out _ (Below.refl _ wr).drew).mono ?_
      rintro e w5 ⟨rfl, hb5⟩
      have HB5 := Lib.hid hb5
      clear hb5
      go_wp2_with fail
      refine hK.out _ _ ?_ (fun hHeld => ?_)
      · exact HSN.out _ HB5.out
      clear hK K
      try simp only [Act.put, List.setIfInBounds_toArray, List.set_cons_zero, List.set_cons_succ]
      refine tkY 8 (.tuple #[.int .i64 (V), .int .i64 (E)]) ?_
      try simp only [kP, kA, kZ, kS]
      refine tkY 9 (.int .i64 (V)) ?_
      try simp only [kP, kA, kZ, kS]
      refine tkY 10 (.int .i64 (E)) ?_
      try simp only [kP, kA, kZ, kS]
      refine tkY 11 (.int .i64 (V)) ?_
      try simp only [kP, kA, kZ, kS]
      refine tkY 12 (.int .i64 (E)) ?_
      try simp only [kP, kA, kZ, kS]
      refine wpAnyH_done (by kernel_rfl) ?_ _
      clear c0 c1 c2 t0 z0 m0 m1 m2 m3 m4 m5 m6 m7
      obtain ⟨c0, c1, c2, t0, z0⟩ := HK.out _ (HB.out.trans (HB5.out.mono HB.out.size))
      obtain ⟨m5, z1⟩ := HMk.out _ HB5.out
      go_wp2_with fail
      go_ret
      exact ⟨rfl, by first | exact HBw.out.trans (HB5.out.mono HBw.out.size) | exact (HBw.out.trans (HB5.out.mono HBw.out.size)).drew⟩
    by_cases h1 : rulV x t n = n.sort
    rotate_left
    · obtain rfl := HNo2.out (by rw [← hrow, decide_eq_false h1]; simp)
      have HC3 := Lib.hid (HRu.out _ _ rfl h0)
      have e1 := ne_true h1
      generalize rulV x t n = V at *
      clear hrow h0 h1
      go_wp2_with fail
      refine wp_region_held_drew (S := fun V => V.cell? ⟨w.heap.size, 0, none⟩ = some (.slice x.sa x.sorts.length x.sc) ∧ V.cell? ⟨w.heap.size, 1, none⟩ = some (.slice x.fa x.funs.length x.fc) ∧ V.cell? ⟨w.heap.size, 2, none⟩ = some (.slice x.ma x.macs.length x.mc) ∧ V.cell? ⟨w.heap.size + 1, 0, none⟩ = some (.slice (some ⟨g, o, none⟩) t.length tc) ∧ V.cell? ⟨g, o + k * 8, none⟩ = some (.int .i8 n.op) ∧ V.cell? ⟨g, o + k * 8 + 1, none⟩ = some (.int .i8 n.len) ∧ V.cell? ⟨g, o + k * 8 + 2, none⟩ = some (.int .i64 n.a0) ∧ V.cell? ⟨g, o + k * 8 + 3, none⟩ = some (.int .i64 n.a1) ∧ V.cell? ⟨g, o + k * 8 + 4, none⟩ = some (.int .i64 n.a2) ∧ V.cell? ⟨g, o + k * 8 + 5, none⟩ = some (.int .i64 n.sort) ∧ V.cell? ⟨g, o + k * 8 + 6, none⟩ = some (.int .i64 n.fn) ∧ V.cell? ⟨g, o + k * 8 + 7, none⟩ = some (.int .i64 n.num)) (by kernel_rfl) (HSN.out _ (Below.refl _ wr).drew) (fun hHeld => ?_)
      refine tkY 0 (.agg #[.slice x.sa x.sorts.length x.sc, .slice x.fa x.funs.length x.fc, .slice x.ma x.macs.length x.mc]) ?_
      try simp only [kP, kA, kZ, kS]
      refine tkY 1 (.agg #[.slice (some ⟨g, o, none⟩) t.length tc]) ?_
      try simp only [kP, kA, kZ, kS]
      refine tkY 2 (.pointer (some ⟨w.heap.size + 1, 0, none⟩)) ?_
      try simp only [kP, kA, kZ, kS]
      refine tkY 3 (.slice (some ⟨g, o, none⟩) t.length tc) ?_
      try simp only [kP, kA, kZ, kS]
      refine tkY 4 (.int .i64 k) ?_
      try simp only [kP, kA, kZ, kS]
      refine tkY 5 (.pointer (some ⟨g, o + k * 8, none⟩)) ?_
      try simp only [kP, kA, kZ, kS]
      refine tkY 6 (.agg #[.int .i8 n.op, .int .i8 n.len, .int .i64 n.a0, .int .i64 n.a1, .int .i64 n.a2, .int .i64 n.sort, .int .i64 n.fn, .int .i64 n.num]) ?_
      try simp only [kP, kA, kZ, kS]
      refine wpAnyH_ready (rs := [7]) (by kernel_rfl) (by simp) ?_
      refine AllReadyH.cons (o := { dst := some 31, op := Op.call { callee := Callee.value (Operand.func 61), args := #[Operand.tmp 24, Operand.tmp 25, Operand.tmp 30], argTypes := #[26, 33, 47] }, type := 86, pos := "ref.go:126", after := #[{ on := 0, ground := Ground.data }, { on := 1, ground := Ground.data }, { on := 6, ground := Ground.data }], guard := none }) rfl (fun K hK => ?_) AllReadyH.nil
      go_simp
      go_at_call 61
      refine (HC3.out _ (Below.refl _ wr).drew).mono ?_
      rintro e w5 ⟨rfl, hb5⟩
      have HB5 := Lib.hid hb5
      clear hb5
      go_wp2_with fail
      refine hK.out _ _ ?_ (fun hHeld => ?_)
      · exact HSN.out _ HB5.out
      clear hK K
      try simp only [Act.put, List.setIfInBounds_toArray, List.set_cons_zero, List.set_cons_succ]
      refine tkY 8 (.tuple #[.int .i64 (V), .int .i64 (0)]) ?_
      try simp only [kP, kA, kZ, kS]
      refine tkY 9 (.int .i64 (V)) ?_
      try simp only [kP, kA, kZ, kS]
      refine tkY 10 (.int .i64 (0)) ?_
      try simp only [kP, kA, kZ, kS]
      refine tkY 11 (.int .i64 (V)) ?_
      try simp only [kP, kA, kZ, kS]
      refine tkY 12 (.int .i64 (0)) ?_
      try simp only [kP, kA, kZ, kS]
      refine wpAnyH_done (by kernel_rfl) ?_ _
      clear c0 c1 c2 t0 z0 m0 m1 m2 m3 m4 m5 m6 m7
      obtain ⟨c0, c1, c2, t0, z0⟩ := HK.out _ (HB.out.trans (HB5.out.mono HB.out.size))
      obtain ⟨m5, z1⟩ := HMk.out _ HB5.out
      go_wp2_with fail
      go_ret
      exact ⟨rfl, by first | exact HBw.out.trans (HB5.out.mono HBw.out.size) | exact (HBw.out.trans (HB5.out.mono HBw.out.size)).drew⟩
    have HP3 := Lib.hid (HP2.out (by rw [← hrow, decide_eq_true h0, decide_eq_true h1]; rfl))
    have HC3 := Lib.hid (HRu.out _ _ h1 h0)
    clear hrow h0 h1
    go_wp2_with fail
    refine wp_region_held_drew (S := fun V => V.cell? ⟨w.heap.size, 0, none⟩ = some (.slice x.sa x.sorts.length x.sc) ∧ V.cell? ⟨w.heap.size, 1, none⟩ = some (.slice x.fa x.funs.length x.fc) ∧ V.cell? ⟨w.heap.size, 2, none⟩ = some (.slice x.ma x.macs.length x.mc) ∧ V.cell? ⟨w.heap.size + 1, 0, none⟩ = some (.slice (some ⟨g, o, none⟩) t.length tc) ∧ V.cell? ⟨g, o + k * 8, none⟩ = some (.int .i8 n.op) ∧ V.cell? ⟨g, o + k * 8 + 1, none⟩ = some (.int .i8 n.len) ∧ V.cell? ⟨g, o + k * 8 + 2, none⟩ = some (.int .i64 n.a0) ∧ V.cell? ⟨g, o + k * 8 + 3, none⟩ = some (.int .i64 n.a1) ∧ V.cell? ⟨g, o + k * 8 + 4, none⟩ = some (.int .i64 n.a2) ∧ V.cell? ⟨g, o + k * 8 + 5, none⟩ = some (.int .i64 n.sort) ∧ V.cell? ⟨g, o + k * 8 + 6, none⟩ = some (.int .i64 n.fn) ∧ V.cell? ⟨g, o + k * 8 + 7, none⟩ = some (.int .i64 n.num)) (by kernel_rfl) (HSN.out _ (Below.refl _ wr).drew) (fun hHeld => ?_)
    refine tkY 0 (.agg #[.slice x.sa x.sorts.length x.sc, .slice x.fa x.funs.length x.fc, .slice x.ma x.macs.length x.mc]) ?_
    try simp only [kP, kA, kZ, kS]
    refine tkY 1 (.agg #[.slice (some ⟨g, o, none⟩) t.length tc]) ?_
    try simp only [kP, kA, kZ, kS]
    refine tkY 2 (.pointer (some ⟨w.heap.size + 1, 0, none⟩)) ?_
    try simp only [kP, kA, kZ, kS]
    refine tkY 3 (.slice (some ⟨g, o, none⟩) t.length tc) ?_
    try simp only [kP, kA, kZ, kS]
    refine tkY 4 (.int .i64 k) ?_
    try simp only [kP, kA, kZ, kS]
    refine tkY 5 (.pointer (some ⟨g, o + k * 8, none⟩)) ?_
    try simp only [kP, kA, kZ, kS]
    refine tkY 6 (.agg #[.int .i8 n.op, .int .i8 n.len, .int .i64 n.a0, .int .i64 n.a1, .int .i64 n.a2, .int .i64 n.sort, .int .i64 n.fn, .int .i64 n.num]) ?_
    try simp only [kP, kA, kZ, kS]
    refine wpAnyH_ready (rs := [7]) (by kernel_rfl) (by simp) ?_
    refine AllReadyH.cons (o := { dst := some 31, op := Op.call { callee := Callee.value (Operand.func 61), args := #[Operand.tmp 24, Operand.tmp 25, Operand.tmp 30], argTypes := #[26, 33, 47] }, type := 86, pos := "ref.go:126", after := #[{ on := 0, ground := Ground.data }, { on := 1, ground := Ground.data }, { on := 6, ground := Ground.data }], guard := none }) rfl (fun K hK => ?_) AllReadyH.nil
    go_simp
    go_at_call 61
    refine (HC3.out _ (Below.refl _ wr).drew).mono ?_
    rintro e w5 ⟨rfl, hb5⟩
    have HB5 := Lib.hid hb5
    clear hb5
    go_wp2_with fail
    refine hK.out _ _ ?_ (fun hHeld => ?_)
    · exact HSN.out _ HB5.out
    clear hK K
    try simp only [Act.put, List.setIfInBounds_toArray, List.set_cons_zero, List.set_cons_succ]
    refine tkY 8 (.tuple #[.int .i64 (n.sort), .int .i64 (0)]) ?_
    try simp only [kP, kA, kZ, kS]
    refine tkY 9 (.int .i64 (n.sort)) ?_
    try simp only [kP, kA, kZ, kS]
    refine tkY 10 (.int .i64 (0)) ?_
    try simp only [kP, kA, kZ, kS]
    refine tkY 11 (.int .i64 (n.sort)) ?_
    try simp only [kP, kA, kZ, kS]
    refine tkY 12 (.int .i64 (0)) ?_
    try simp only [kP, kA, kZ, kS]
    refine wpAnyH_done (by kernel_rfl) ?_ _
    clear c0 c1 c2 t0 z0 m0 m1 m2 m3 m4 m5 m6 m7
    obtain ⟨c0, c1, c2, t0, z0⟩ := HK.out _ (HB.out.trans (HB5.out.mono HB.out.size))
    obtain ⟨m5, z1⟩ := HMk.out _ HB5.out
    go_wp2_with fail
    go_roundw
    case rel => exact ⟨k + 1, by omega, by go_num, HP3, by first | exact HB.out.trans (HB5.out.mono HB.out.size) | exact (HB.out.trans (HB5.out.mono HB.out.size)).drew⟩
    case measure => simp [intOf]; omega
end Go.Proofs.YtfbjgadgfjnamaaGreatDoor
