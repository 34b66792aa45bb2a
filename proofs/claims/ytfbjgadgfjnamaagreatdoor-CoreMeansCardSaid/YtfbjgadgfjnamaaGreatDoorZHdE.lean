/- The document's fun: whether a function may be, but for its name. -/
import Derived.Test.YtfbjgadgfjnamaaGreatDoorZHdD
import Derived.Test.YtfbjgadgfjnamaaGreatDoorZTk
namespace Go.Proofs.YtfbjgadgfjnamaaGreatDoor
open Go.RowKit
set_option linter.unusedVariables false
def argV (f : FunA) (k : Nat) : Int := if k = 0 then f.a0 else if k = 1 then f.a1 else f.a2
def argAt (n : Nat) (f : FunA) (k : Nat) : Bool := if (k : Int) < f.len then thereA n (argV f k) else decide (argV f k = 0)
def funB (n : Nat) (f : FunA) : Bool := decide (0 ≤ f.len) && (decide (f.len ≤ 3) && (thereA n f.res && (argAt n f 0 && (argAt n f 1 && argAt n f 2))))
theorem funB_no {n : Nat} {f : FunA} {k : Nat} (hk : k < 3) (h : argAt n f k = false) : funB n f = false := by
  unfold funB
  obtain rfl | rfl | rfl : k = 0 ∨ k = 1 ∨ k = 2 := by omega
  all_goals simp [h]
theorem funB_yes {n : Nat} {f : FunA} (h0 : 0 ≤ f.len) (h1 : f.len ≤ 3) (h2 : thereA n f.res = true) (h : ∀ j, j < 3 → argAt n f j = true) : funB n f = true := by
  unfold funB
  rw [decide_eq_true h0, decide_eq_true h1, h2, h 0 (by omega), h 1 (by omega), h 2 (by omega)]; rfl

theorem below_dN {B : Nat} {w w' : World} (h : Below B w w') {k : Nat} : Below B w (w'.drewN k) := ⟨h.os, h.tape, h.output, h.size, h.block⟩
set_option maxRecDepth 100000 in
set_option maxHeartbeats 4000000 in
theorem Rfun_any (x : SigV) (f : FunA) (r : Bool) (w : World) (hR : SigR w x) (hf : FunOk f) (hl : x.sorts.length ≤ 100) (hr : funB x.sorts.length f = r) :
    Calls Tryz.prog 90 #[.agg #[.slice x.sa x.sorts.length x.sc, .slice x.fa x.funs.length x.fc, .slice x.ma x.macs.length x.mc], .agg #[.string f.name, .int .i64 f.len, .int .i64 f.a0, .int .i64 f.a1, .int .i64 f.a2, .int .i64 f.res]] w fun e w' => e = .returned (.bool r) ∧ Below w.heap.size w w' := by
  obtain ⟨W0, hW0⟩ : ∃ W0, W0 = (w.alloc (.cells #[.slice x.sa x.sorts.length x.sc, .slice x.fa x.funs.length x.fc, .slice x.ma x.macs.length x.mc] 26)).alloc (.cells #[.string f.name, .int .i64 f.len, .int .i64 f.a0, .int .i64 f.a1, .int .i64 f.a2, .int .i64 f.res] 120) := ⟨_, rfl⟩
  have hB0 : Below w.heap.size w W0 := by rw [hW0]; exact ((Below.refl _ w).alloc (Nat.le_refl _) _).alloc (by simp) _
  have HB0 := Lib.hid hB0
  have hX0 : W0.heap[w.heap.size]? = some (.cells #[.slice x.sa x.sorts.length x.sc, .slice x.fa x.funs.length x.fc, .slice x.ma x.macs.length x.mc] 26 (0, 0)) := by rw [hW0]; exact (Below.heap_alloc _ _ _ (by simp)).trans (heap_alloc_new w _)
  have hY0 : W0.heap[w.heap.size + 1]? = some (.cells #[.string f.name, .int .i64 f.len, .int .i64 f.a0, .int .i64 f.a1, .int .i64 f.a2, .int .i64 f.res] 120 (0, 0)) := by
    have := heap_alloc_new (w.alloc (.cells #[.slice x.sa x.sorts.length x.sc, .slice x.fa x.funs.length x.fc, .slice x.ma x.macs.length x.mc] 26)) (.cells #[.string f.name, .int .i64 f.len, .int .i64 f.a0, .int .i64 f.a1, .int .i64 f.a2, .int .i64 f.res] 120)
    rw [World.size_alloc] at this
    rw [hW0]; exact this
  have HK : Hid (∀ V, Below W0.heap.size W0 V → V.cell? ⟨w.heap.size, 0, none⟩ = some (.slice x.sa x.sorts.length x.sc) ∧ V.cell? ⟨w.heap.size, 1, none⟩ = some (.slice x.fa x.funs.length x.fc) ∧ V.cell? ⟨w.heap.size, 2, none⟩ = some (.slice x.ma x.macs.length x.mc) ∧ V.cell? ⟨w.heap.size + 1, 1, none⟩ = some (.int .i64 f.len) ∧ V.cell? ⟨w.heap.size + 1, 2, none⟩ = some (.int .i64 f.a0) ∧ V.cell? ⟨w.heap.size + 1, 3, none⟩ = some (.int .i64 f.a1) ∧ V.cell? ⟨w.heap.size + 1, 4, none⟩ = some (.int .i64 f.a2) ∧ V.cell? ⟨w.heap.size + 1, 5, none⟩ = some (.int .i64 f.res)) := fun V hV => by
    obtain ⟨c0, c1, c2, _⟩ := sig_cells ((hV.block _ (Array.getElem?_eq_some_iff.1 hX0).1).trans hX0)
    have h := (hV.block _ (Array.getElem?_eq_some_iff.1 hY0).1).trans hY0
    exact ⟨c0, c1, c2, (cell_of_row _ _ 1 _ _ _ h).trans rfl, (cell_of_row _ _ 2 _ _ _ h).trans rfl, (cell_of_row _ _ 3 _ _ _ h).trans rfl, (cell_of_row _ _ 4 _ _ _ h).trans rfl, (cell_of_row _ _ 5 _ _ _ h).trans rfl⟩
  have HZ : Hid (∀ V, Below W0.heap.size W0 V → w.heap.size < V.heap.size ∧ w.heap.size + 1 < V.heap.size) := fun V hV => by
    have h1 := (Array.getElem?_eq_some_iff.1 hY0).1
    have h2 := hV.size
    exact ⟨by omega, by omega⟩
  have HT : Hid (∀ i, I64 i → ∀ V, Below W0.heap.size W0 V → Calls Tryz.prog 136 #[.agg #[.slice x.sa x.sorts.length x.sc, .slice x.fa x.funs.length x.fc, .slice x.ma x.macs.length x.mc], .int .i64 i] V fun e w' => e = .returned (.bool (thereA x.sorts.length i)) ∧ Below W0.heap.size W0 w') := fun i hi V hV => (Rthere_any x i _ V (hR.below (hB0.trans (hV.mono hB0.size))) rfl hi hl).mono fun e w' ⟨h1, h2⟩ => ⟨h1, hV.trans (h2.mono hV.size)⟩
  obtain ⟨c0, c1, c2, y1, y2, y3, y4, y5⟩ := HK.out _ (Below.refl _ _)
  obtain ⟨z0, z1⟩ := HZ.out _ (Below.refl _ _)
  have HF := Lib.hid hf
  clear hR hX0 hY0 hf hl hB0
  by_cases h0 : f.len < 0
  · obtain rfl : r = false := by rw [← hr]; unfold funB; rw [decide_eq_false (by omega)]; rfl
    clear hr
    go_enter Tryz.func90, Tryz.ntmps90
    go_wp2
    rw [← hW0]
    go_ret
    exact ⟨rfl, HB0.out⟩
  by_cases h1 : 3 < f.len
  · obtain rfl : r = false := by rw [← hr]; unfold funB; rw [decide_eq_false (p := f.len ≤ 3) (by omega)]; simp
    clear hr
    go_enter Tryz.func90, Tryz.ntmps90
    go_wp2
    rw [← hW0]
    go_ret
    exact ⟨rfl, HB0.out⟩
  have HRes := Lib.hid (HT.out _ HF.out.res W0 (Below.refl _ _))
  cases hq : thereA x.sorts.length f.res with
  | false =>
    obtain rfl : r = false := by rw [← hr]; unfold funB; rw [hq]; simp
    rw [hq] at HRes
    clear hr hq
    go_enter Tryz.func90, Tryz.ntmps90
    go_wp2_with (go_at_call 136; rw [← hW0]; clear hW0; refine HRes.out.mono ?_; rintro e w1 ⟨rfl, hb1⟩)
    go_ret
    exact ⟨rfl, HB0.out.trans (hb1.mono HB0.out.size)⟩
  | true =>
  rw [hq] at HRes
  have HYes : Hid ((∀ j, j < 3 → argAt x.sorts.length f j = true) → r = true) := fun h => by rw [← hr]; exact funB_yes (by omega) (by omega) hq h
  have HNo : Hid (∀ k, k < 3 → argAt x.sorts.length f k = false → r = false) := fun k hk h => by rw [← hr]; exact funB_no hk h
  clear hr hq
  go_enter Tryz.func90, Tryz.ntmps90
  go_wp2_with (go_at_call 136; rw [← hW0]; clear hW0; refine HRes.out.mono ?_; rintro e w1 ⟨rfl, hb1⟩; have HB1 := Lib.hid hb1; clear hb1)
  clear c0 c1 c2 y1 y2 y3 y4 y5 z0 z1
  go_loopw [5] (fun i wr => ∃ k : Nat, k ≤ 3 ∧ i = .int .i64 k ∧ Hid (∀ j, j < k → argAt x.sorts.length f j = true) ∧ Hid (Below W0.heap.size W0 wr)) (fun i _ => 3 - (intOf i).toNat)
  case atStart => exact ⟨0, by omega, rfl, fun j hj => by omega, HB1⟩
  case round =>
    obtain ⟨k, hk3, rfl, HP, HB⟩ := hrel
    obtain ⟨c0, c1, c2, y1, y2, y3, y4, y5⟩ := HK.out _ HB.out
    obtain ⟨z0, z1⟩ := HZ.out _ HB.out
    have hk : k = 0 ∨ k = 1 ∨ k = 2 ∨ k = 3 := by omega
    clear hk3
    rcases hk with rfl | rfl | rfl | rfl
    · by_cases hkl : (0 : Int) < f.len
      · have hat : argAt x.sorts.length f 0 = thereA x.sorts.length f.a0 := if_pos hkl
        have HC := Lib.hid (HT.out _ HF.out.a0)
        have dk : decide ((0 : Int) < f.len) = true := decide_eq_true hkl
        have dg : decide (f.len ≤ (0 : Int)) = false := decide_eq_false (by omega)
        cases hq : thereA x.sorts.length f.a0 with
        | true =>
          rw [hq] at hat HC
          have HP2 : Hid (∀ j, j < 0 + 1 → argAt x.sorts.length f j = true) := fun j hj => by
            by_cases hjk : j < 0
            · exact HP.out j hjk
            · obtain rfl : j = 0 := by omega
              exact hat
          clear hq hat
          go_wp2_with fail
          refine wp_region_held_drew (S := fun V => V.cell? ⟨w.heap.size, 0, none⟩ = some (.slice x.sa x.sorts.length x.sc) ∧ V.cell? ⟨w.heap.size, 1, none⟩ = some (.slice x.fa x.funs.length x.fc) ∧ V.cell? ⟨w.heap.size, 2, none⟩ = some (.slice x.ma x.macs.length x.mc) ∧ V.cell? ⟨w.heap.size + 1, 1, none⟩ = some (.int .i64 f.len) ∧ V.cell? ⟨w.heap.size + 1, 2, none⟩ = some (.int .i64 f.a0) ∧ V.cell? ⟨w.heap.size + 1, 3, none⟩ = some (.int .i64 f.a1) ∧ V.cell? ⟨w.heap.size + 1, 4, none⟩ = some (.int .i64 f.a2) ∧ V.cell? ⟨w.heap.size + 1, 5, none⟩ = some (.int .i64 f.res)) (by kernel_rfl) (HK.out _ HB.out.drew) (fun hHeld => ?_)
          refine tkY 0 (.int .i64 0) ?_
          try simp only [kP, kA, kZ, kS]
          refine tkY 1 (.pointer (some ⟨w.heap.size + 1, 1, none⟩)) ?_
          try simp only [kP, kA, kZ, kS]
          refine tkY 2 (.int .i64 f.len) ?_
          try simp only [kP, kA, kZ, kS]
          refine tkY 3 (.bool true) ?_
          try simp only [kP, kA, kZ, kS]
          refine tkY 4 (.bool true) ?_
          try simp only [kP, kA, kZ, kS]
          refine tkY 5 (.agg #[.slice x.sa x.sorts.length x.sc, .slice x.fa x.funs.length x.fc, .slice x.ma x.macs.length x.mc]) ?_
          try simp only [kP, kA, kZ, kS]
          refine tkY 6 (.int .i64 0) ?_
          try simp only [kP, kA, kZ, kS]
          refine tkY 7 (.pointer (some ⟨w.heap.size + 1, 2, none⟩)) ?_
          try simp only [kP, kA, kZ, kS]
          refine tkY 8 (.pointer (some ⟨w.heap.size + 1, 2, none⟩)) ?_
          try simp only [kP, kA, kZ, kS]
          refine tkY 9 (.int .i64 f.a0) ?_
          try simp only [kP, kA, kZ, kS]
          refine wpAnyH_ready (rs := [10]) (by kernel_rfl) (by simp) ?_
          refine AllReadyH.cons (o := { dst := some 35, op := Op.call { callee := Callee.value (Operand.func 136), args := #[Operand.tmp 30, Operand.tmp 34], argTypes := #[26, 3] }, type := 4, pos := "ref.go:100", after := #[{ on := 5, ground := Ground.data }, { on := 9, ground := Ground.data }, { on := 4, ground := Ground.chain }, { on := 4, ground := Ground.guard }], guard := some (4, true) }) rfl (fun K hK => ?_) AllReadyH.nil
          go_simp
          go_at_call 136
          refine (HC.out _ HB.out.drew).mono ?_
          rintro e w2 ⟨rfl, hb2⟩
          have HB2 := Lib.hid hb2
          clear hb2
          go_wp2_with fail
          refine hK.out _ _ ?_ (fun hHeld => ?_)
          · exact HK.out _ HB2.out
          clear hK K
          try simp only [Act.put, List.setIfInBounds_toArray, List.set_cons_zero, List.set_cons_succ]
          refine tkY 11 (.bool false) ?_
          try simp only [kP, kA, kZ, kS]
          refine tkY 12 (.bool false) ?_
          try simp only [kP, kA, kZ, kS]
          refine tkY 13 (.bool false) ?_
          try simp only [kP, kA, kZ, kS]
          refine tkY 14 (.int .i64 0) ?_
          try simp only [kP, kA, kZ, kS]
          refine tkY 15 (.pointer (some ⟨w.heap.size + 1, 1, none⟩)) ?_
          try simp only [kP, kA, kZ, kS]
          refine tkY 16 (.int .i64 f.len) ?_
          try simp only [kP, kA, kZ, kS]
          refine tkY 17 (.bool false) ?_
          try simp only [kP, kA, kZ, kS]
          refine tkY 18 (.bool false) ?_
          try simp only [kP, kA, kZ, kS]
          refine tkN 19 ?_
          try simp only [kP, kA, kZ, kS]
          refine tkN 20 ?_
          try simp only [kP, kA, kZ, kS]
          refine tkN 21 ?_
          try simp only [kP, kA, kZ, kS]
          refine tkN 22 ?_
          try simp only [kP, kA, kZ, kS]
          refine tkN 23 ?_
          try simp only [kP, kA, kZ, kS]
          refine tkY 24 (.bool false) ?_
          try simp only [kP, kA, kZ, kS]
          refine tkY 25 (.bool false) ?_
          try simp only [kP, kA, kZ, kS]
          refine wpAnyH_done (by kernel_rfl) ?_ _
          go_wp2_with fail
          go_roundw
          case rel => exact ⟨0 + 1, by omega, by go_num, HP2, by first | exact HB2 | exact HB2.out.drew⟩
          case measure => simp [intOf]
        | false =>
          rw [hq] at hat HC
          obtain rfl := HNo.out 0 (by omega) hat
          clear hq hat
          go_wp2_with fail
          refine wp_region_held_drew (S := fun V => V.cell? ⟨w.heap.size, 0, none⟩ = some (.slice x.sa x.sorts.length x.sc) ∧ V.cell? ⟨w.heap.size, 1, none⟩ = some (.slice x.fa x.funs.length x.fc) ∧ V.cell? ⟨w.heap.size, 2, none⟩ = some (.slice x.ma x.macs.length x.mc) ∧ V.cell? ⟨w.heap.size + 1, 1, none⟩ = some (.int .i64 f.len) ∧ V.cell? ⟨w.heap.size + 1, 2, none⟩ = some (.int .i64 f.a0) ∧ V.cell? ⟨w.heap.size + 1, 3, none⟩ = some (.int .i64 f.a1) ∧ V.cell? ⟨w.heap.size + 1, 4, none⟩ = some (.int .i64 f.a2) ∧ V.cell? ⟨w.heap.size + 1, 5, none⟩ = some (.int .i64 f.res)) (by kernel_rfl) (HK.out _ HB.out.drew) (fun hHeld => ?_)
          refine tkY 0 (.int .i64 0) ?_
          try simp only [kP, kA, kZ, kS]
          refine tkY 1 (.pointer (some ⟨w.heap.size + 1, 1, none⟩)) ?_
          try simp only [kP, kA, kZ, kS]
          refine tkY 2 (.int .i64 f.len) ?_
          try simp only [kP, kA, kZ, kS]
          refine tkY 3 (.bool true) ?_
          try simp only [kP, kA, kZ, kS]
          refine tkY 4 (.bool true) ?_
          try simp only [kP, kA, kZ, kS]
          refine tkY 5 (.agg #[.slice x.sa x.sorts.length x.sc, .slice x.fa x.funs.length x.fc, .slice x.ma x.macs.length x.mc]) ?_
          try simp only [kP, kA, kZ, kS]
          refine tkY 6 (.int .i64 0) ?_
          try simp only [kP, kA, kZ, kS]
          refine tkY 7 (.pointer (some ⟨w.heap.size + 1, 2, none⟩)) ?_
          try simp only [kP, kA, kZ, kS]
          refine tkY 8 (.pointer (some ⟨w.heap.size + 1, 2, none⟩)) ?_
          try simp only [kP, kA, kZ, kS]
          refine tkY 9 (.int .i64 f.a0) ?_
          try simp only [kP, kA, kZ, kS]
          refine wpAnyH_ready (rs := [10]) (by kernel_rfl) (by simp) ?_
          refine AllReadyH.cons (o := { dst := some 35, op := Op.call { callee := Callee.value (Operand.func 136), args := #[Operand.tmp 30, Operand.tmp 34], argTypes := #[26, 3] }, type := 4, pos := "ref.go:100", after := #[{ on := 5, ground := Ground.data }, { on := 9, ground := Ground.data }, { on := 4, ground := Ground.chain }, { on := 4, ground := Ground.guard }], guard := some (4, true) }) rfl (fun K hK => ?_) AllReadyH.nil
          go_simp
          go_at_call 136
          refine (HC.out _ HB.out.drew).mono ?_
          rintro e w2 ⟨rfl, hb2⟩
          have HB2 := Lib.hid hb2
          clear hb2
          go_wp2_with fail
          refine hK.out _ _ ?_ (fun hHeld => ?_)
          · exact HK.out _ HB2.out
          clear hK K
          try simp only [Act.put, List.setIfInBounds_toArray, List.set_cons_zero, List.set_cons_succ]
          refine tkY 11 (.bool true) ?_
          try simp only [kP, kA, kZ, kS]
          refine tkY 12 (.bool true) ?_
          try simp only [kP, kA, kZ, kS]
          refine tkY 13 (.bool true) ?_
          try simp only [kP, kA, kZ, kS]
          refine tkN 14 ?_
          try simp only [kP, kA, kZ, kS]
          refine tkN 15 ?_
          try simp only [kP, kA, kZ, kS]
          refine tkN 16 ?_
          try simp only [kP, kA, kZ, kS]
          refine tkN 17 ?_
          try simp only [kP, kA, kZ, kS]
          refine tkN 18 ?_
          try simp only [kP, kA, kZ, kS]
          refine tkN 19 ?_
          try simp only [kP, kA, kZ, kS]
          refine tkN 20 ?_
          try simp only [kP, kA, kZ, kS]
          refine tkN 21 ?_
          try simp only [kP, kA, kZ, kS]
          refine tkN 22 ?_
          try simp only [kP, kA, kZ, kS]
          refine tkN 23 ?_
          try simp only [kP, kA, kZ, kS]
          refine tkN 24 ?_
          try simp only [kP, kA, kZ, kS]
          refine tkY 25 (.bool true) ?_
          try simp only [kP, kA, kZ, kS]
          refine wpAnyH_done (by kernel_rfl) ?_ _
          go_wp2_with fail
          go_ret
          exact ⟨rfl, by first | exact HB0.out.trans (HB2.out.mono HB0.out.size) | exact (HB0.out.trans (HB2.out.mono HB0.out.size)).drew⟩
      · have hat : argAt x.sorts.length f 0 = decide (f.a0 = 0) := if_neg hkl
        have dk : decide ((0 : Int) < f.len) = false := decide_eq_false hkl
        have dg : decide (f.len ≤ (0 : Int)) = true := decide_eq_true (by omega)
        by_cases hv : f.a0 = 0
        · rw [decide_eq_true hv] at hat
          have e1 := ne_false hv
          have HP2 : Hid (∀ j, j < 0 + 1 → argAt x.sorts.length f j = true) := fun j hj => by
            by_cases hjk : j < 0
            · exact HP.out j hjk
            · obtain rfl : j = 0 := by omega
              exact hat
          clear hat hv
          go_wp2_with fail
          go_quiet (fail)
          go_wp2_with fail
          go_roundw
          case rel => exact ⟨0 + 1, by omega, by go_num, HP2, below_dN HB.out⟩
          case measure => simp [intOf]
        · rw [decide_eq_false hv] at hat
          obtain rfl := HNo.out 0 (by omega) hat
          have e1 := ne_true hv
          clear hat hv
          go_wp2_with fail
          go_quiet (fail)
          go_wp2_with fail
          go_ret
          exact ⟨rfl, below_dN (HB0.out.trans (HB.out.mono HB0.out.size))⟩
    · by_cases hkl : (1 : Int) < f.len
      · have hat : argAt x.sorts.length f 1 = thereA x.sorts.length f.a1 := if_pos hkl
        have HC := Lib.hid (HT.out _ HF.out.a1)
        have dk : decide ((1 : Int) < f.len) = true := decide_eq_true hkl
        have dg : decide (f.len ≤ (1 : Int)) = false := decide_eq_false (by omega)
        cases hq : thereA x.sorts.length f.a1 with
        | true =>
          rw [hq] at hat HC
          have HP2 : Hid (∀ j, j < 1 + 1 → argAt x.sorts.length f j = true) := fun j hj => by
            by_cases hjk : j < 1
            · exact HP.out j hjk
            · obtain rfl : j = 1 := by omega
              exact hat
          clear hq hat
          go_wp2_with fail
          refine wp_region_held_drew (S := fun V => V.cell? ⟨w.heap.size, 0, none⟩ = some (.slice x.sa x.sorts.length x.sc) ∧ V.cell? ⟨w.heap.size, 1, none⟩ = some (.slice x.fa x.funs.length x.fc) ∧ V.cell? ⟨w.heap.size, 2, none⟩ = some (.slice x.ma x.macs.length x.mc) ∧ V.cell? ⟨w.heap.size + 1, 1, none⟩ = some (.int .i64 f.len) ∧ V.cell? ⟨w.heap.size + 1, 2, none⟩ = some (.int .i64 f.a0) ∧ V.cell? ⟨w.heap.size + 1, 3, none⟩ = some (.int .i64 f.a1) ∧ V.cell? ⟨w.heap.size + 1, 4, none⟩ = some (.int .i64 f.a2) ∧ V.cell? ⟨w.heap.size + 1, 5, none⟩ = some (.int .i64 f.res)) (by kernel_rfl) (HK.out _ HB.out.drew) (fun hHeld => ?_)
          refine tkY 0 (.int .i64 1) ?_
          try simp only [kP, kA, kZ, kS]
          refine tkY 1 (.pointer (some ⟨w.heap.size + 1, 1, none⟩)) ?_
          try simp only [kP, kA, kZ, kS]
          refine tkY 2 (.int .i64 f.len) ?_
          try simp only [kP, kA, kZ, kS]
          refine tkY 3 (.bool true) ?_
          try simp only [kP, kA, kZ, kS]
          refine tkY 4 (.bool true) ?_
          try simp only [kP, kA, kZ, kS]
          refine tkY 5 (.agg #[.slice x.sa x.sorts.length x.sc, .slice x.fa x.funs.length x.fc, .slice x.ma x.macs.length x.mc]) ?_
          try simp only [kP, kA, kZ, kS]
          refine tkY 6 (.int .i64 1) ?_
          try simp only [kP, kA, kZ, kS]
          refine tkY 7 (.pointer (some ⟨w.heap.size + 1, 2, none⟩)) ?_
          try simp only [kP, kA, kZ, kS]
          refine tkY 8 (.pointer (some ⟨w.heap.size + 1, 3, none⟩)) ?_
          try simp only [kP, kA, kZ, kS]
          refine tkY 9 (.int .i64 f.a1) ?_
          try simp only [kP, kA, kZ, kS]
          refine wpAnyH_ready (rs := [10]) (by kernel_rfl) (by simp) ?_
          refine AllReadyH.cons (o := { dst := some 35, op := Op.call { callee := Callee.value (Operand.func 136), args := #[Operand.tmp 30, Operand.tmp 34], argTypes := #[26, 3] }, type := 4, pos := "ref.go:100", after := #[{ on := 5, ground := Ground.data }, { on := 9, ground := Ground.data }, { on := 4, ground := Ground.chain }, { on := 4, ground := Ground.guard }], guard := some (4, true) }) rfl (fun K hK => ?_) AllReadyH.nil
          go_simp
          go_at_call 136
          refine (HC.out _ HB.out.drew).mono ?_
          rintro e w2 ⟨rfl, hb2⟩
          have HB2 := Lib.hid hb2
          clear hb2
          go_wp2_with fail
          refine hK.out _ _ ?_ (fun hHeld => ?_)
          · exact HK.out _ HB2.out
          clear hK K
          try simp only [Act.put, List.setIfInBounds_toArray, List.set_cons_zero, List.set_cons_succ]
          refine tkY 11 (.bool false) ?_
          try simp only [kP, kA, kZ, kS]
          refine tkY 12 (.bool false) ?_
          try simp only [kP, kA, kZ, kS]
          refine tkY 13 (.bool false) ?_
          try simp only [kP, kA, kZ, kS]
          refine tkY 14 (.int .i64 1) ?_
          try simp only [kP, kA, kZ, kS]
          refine tkY 15 (.pointer (some ⟨w.heap.size + 1, 1, none⟩)) ?_
          try simp only [kP, kA, kZ, kS]
          refine tkY 16 (.int .i64 f.len) ?_
          try simp only [kP, kA, kZ, kS]
          refine tkY 17 (.bool false) ?_
          try simp only [kP, kA, kZ, kS]
          refine tkY 18 (.bool false) ?_
          try simp only [kP, kA, kZ, kS]
          refine tkN 19 ?_
          try simp only [kP, kA, kZ, kS]
          refine tkN 20 ?_
          try simp only [kP, kA, kZ, kS]
          refine tkN 21 ?_
          try simp only [kP, kA, kZ, kS]
          refine tkN 22 ?_
          try simp only [kP, kA, kZ, kS]
          refine tkN 23 ?_
          try simp only [kP, kA, kZ, kS]
          refine tkY 24 (.bool false) ?_
          try simp only [kP, kA, kZ, kS]
          refine tkY 25 (.bool false) ?_
          try simp only [kP, kA, kZ, kS]
          refine wpAnyH_done (by kernel_rfl) ?_ _
          go_wp2_with fail
          go_roundw
          case rel => exact ⟨1 + 1, by omega, by go_num, HP2, by first | exact HB2 | exact HB2.out.drew⟩
          case measure => simp [intOf]
        | false =>
          rw [hq] at hat HC
          obtain rfl := HNo.out 1 (by omega) hat
          clear hq hat
          go_wp2_with fail
          refine wp_region_held_drew (S := fun V => V.cell? ⟨w.heap.size, 0, none⟩ = some (.slice x.sa x.sorts.length x.sc) ∧ V.cell? ⟨w.heap.size, 1, none⟩ = some (.slice x.fa x.funs.length x.fc) ∧ V.cell? ⟨w.heap.size, 2, none⟩ = some (.slice x.ma x.macs.length x.mc) ∧ V.cell? ⟨w.heap.size + 1, 1, none⟩ = some (.int .i64 f.len) ∧ V.cell? ⟨w.heap.size + 1, 2, none⟩ = some (.int .i64 f.a0) ∧ V.cell? ⟨w.heap.size + 1, 3, none⟩ = some (.int .i64 f.a1) ∧ V.cell? ⟨w.heap.size + 1, 4, none⟩ = some (.int .i64 f.a2) ∧ V.cell? ⟨w.heap.size + 1, 5, none⟩ = some (.int .i64 f.res)) (by kernel_rfl) (HK.out _ HB.out.drew) (fun hHeld => ?_)
          refine tkY 0 (.int .i64 1) ?_
          try simp only [kP, kA, kZ, kS]
          refine tkY 1 (.pointer (some ⟨w.heap.size + 1, 1, none⟩)) ?_
          try simp only [kP, kA, kZ, kS]
          refine tkY 2 (.int .i64 f.len) ?_
          try simp only [kP, kA, kZ, kS]
          refine tkY 3 (.bool true) ?_
          try simp only [kP, kA, kZ, kS]
          refine tkY 4 (.bool true) ?_
          try simp only [kP, kA, kZ, kS]
          refine tkY 5 (.agg #[.slice x.sa x.sorts.length x.sc, .slice x.fa x.funs.length x.fc, .slice x.ma x.macs.length x.mc]) ?_
          try simp only [kP, kA, kZ, kS]
          refine tkY 6 (.int .i64 1) ?_
          try simp only [kP, kA, kZ, kS]
          refine tkY 7 (.pointer (some ⟨w.heap.size + 1, 2, none⟩)) ?_
          try simp only [kP, kA, kZ, kS]
          refine tkY 8 (.pointer (some ⟨w.heap.size + 1, 3, none⟩)) ?_
          try simp only [kP, kA, kZ, kS]
          refine tkY 9 (.int .i64 f.a1) ?_
          try simp only [kP, kA, kZ, kS]
          refine wpAnyH_ready (rs := [10]) (by kernel_rfl) (by simp) ?_
          refine AllReadyH.cons (o := { dst := some 35, op := Op.call { callee := Callee.value (Operand.func 136), args := #[Operand.tmp 30, Operand.tmp 34], argTypes := #[26, 3] }, type := 4, pos := "ref.go:100", after := #[{ on := 5, ground := Ground.data }, { on := 9, ground := Ground.data }, { on := 4, ground := Ground.chain }, { on := 4, ground := Ground.guard }], guard := some (4, true) }) rfl (fun K hK => ?_) AllReadyH.nil
          go_simp
          go_at_call 136
          refine (HC.out _ HB.out.drew).mono ?_
          rintro e w2 ⟨rfl, hb2⟩
          have HB2 := Lib.hid hb2
          clear hb2
          go_wp2_with fail
          refine hK.out _ _ ?_ (fun hHeld => ?_)
          · exact HK.out _ HB2.out
          clear hK K
          try simp only [Act.put, List.setIfInBounds_toArray, List.set_cons_zero, List.set_cons_succ]
          refine tkY 11 (.bool true) ?_
          try simp only [kP, kA, kZ, kS]
          refine tkY 12 (.bool true) ?_
          try simp only [kP, kA, kZ, kS]
          refine tkY 13 (.bool true) ?_
          try simp only [kP, kA, kZ, kS]
          refine tkN 14 ?_
          try simp only [kP, kA, kZ, kS]
          refine tkN 15 ?_
          try simp only [kP, kA, kZ, kS]
          refine tkN 16 ?_
          try simp only [kP, kA, kZ, kS]
          refine tkN 17 ?_
          try simp only [kP, kA, kZ, kS]
          refine tkN 18 ?_
          try simp only [kP, kA, kZ, kS]
          refine tkN 19 ?_
          try simp only [kP, kA, kZ, kS]
          refine tkN 20 ?_
          try simp only [kP, kA, kZ, kS]
          refine tkN 21 ?_
          try simp only [kP, kA, kZ, kS]
          refine tkN 22 ?_
          try simp only [kP, kA, kZ, kS]
          refine tkN 23 ?_
          try simp only [kP, kA, kZ, kS]
          refine tkN 24 ?_
          try simp only [kP, kA, kZ, kS]
          refine tkY 25 (.bool true) ?_
          try simp only [kP, kA, kZ, kS]
          refine wpAnyH_done (by kernel_rfl) ?_ _
          go_wp2_with fail
          go_ret
          exact ⟨rfl, by first | exact HB0.out.trans (HB2.out.mono HB0.out.size) | exact (HB0.out.trans (HB2.out.mono HB0.out.size)).drew⟩
      · have hat : argAt x.sorts.length f 1 = decide (f.a1 = 0) := if_neg hkl
        have dk : decide ((1 : Int) < f.len) = false := decide_eq_false hkl
        have dg : decide (f.len ≤ (1 : Int)) = true := decide_eq_true (by omega)
        by_cases hv : f.a1 = 0
        · rw [decide_eq_true hv] at hat
          have e1 := ne_false hv
          have HP2 : Hid (∀ j, j < 1 + 1 → argAt x.sorts.length f j = true) := fun j hj => by
            by_cases hjk : j < 1
            · exact HP.out j hjk
            · obtain rfl : j = 1 := by omega
              exact hat
          clear hat hv
          go_wp2_with fail
          go_quiet (fail)
          go_wp2_with fail
          go_roundw
          case rel => exact ⟨1 + 1, by omega, by go_num, HP2, below_dN HB.out⟩
          case measure => simp [intOf]
        · rw [decide_eq_false hv] at hat
          obtain rfl := HNo.out 1 (by omega) hat
          have e1 := ne_true hv
          clear hat hv
          go_wp2_with fail
          go_quiet (fail)
          go_wp2_with fail
          go_ret
          exact ⟨rfl, below_dN (HB0.out.trans (HB.out.mono HB0.out.size))⟩
    · by_cases hkl : (2 : Int) < f.len
      · have hat : argAt x.sorts.length f 2 = thereA x.sorts.length f.a2 := if_pos hkl
        have HC := Lib.hid (HT.out _ HF.out.a2)
        have dk : decide ((2 : Int) < f.len) = true := decide_eq_true hkl
        have dg : decide (f.len ≤ (2 : Int)) = false := decide_eq_false (by omega)
        cases hq : thereA x.sorts.length f.a2 with
        | true =>
          rw [hq] at hat HC
          have HP2 : Hid (∀ j, j < 2 + 1 → argAt x.sorts.length f j = true) := fun j hj => by
            by_cases hjk : j < 2
            · exact HP.out j hjk
            · obtain rfl : j = 2 := by omega
              exact hat
          clear hq hat
          go_wp2_with fail
          refine wp_region_held_drew (S := fun V => V.cell? ⟨w.heap.size, 0, none⟩ = some (.slice x.sa x.sorts.length x.sc) ∧ V.cell? ⟨w.heap.size, 1, none⟩ = some (.slice x.fa x.funs.length x.fc) ∧ V.cell? ⟨w.heap.size, 2, none⟩ = some (.slice x.ma x.macs.length x.mc) ∧ V.cell? ⟨w.heap.size + 1, 1, none⟩ = some (.int .i64 f.len) ∧ V.cell? ⟨w.heap.size + 1, 2, none⟩ = some (.int .i64 f.a0) ∧ V.cell? ⟨w.heap.size + 1, 3, none⟩ = some (.int .i64 f.a1) ∧ V.cell? ⟨w.heap.size + 1, 4, none⟩ = some (.int .i64 f.a2) ∧ V.cell? ⟨w.heap.size + 1, 5, none⟩ = some (.int .i64 f.res)) (by kernel_rfl) (HK.out _ HB.out.drew) (fun hHeld => ?_)
          refine tkY 0 (.int .i64 2) ?_
          try simp only [kP, kA, kZ, kS]
          refine tkY 1 (.pointer (some ⟨w.heap.size + 1, 1, none⟩)) ?_
          try simp only [kP, kA, kZ, kS]
          refine tkY 2 (.int .i64 f.len) ?_
          try simp only [kP, kA, kZ, kS]
          refine tkY 3 (.bool true) ?_
          try simp only [kP, kA, kZ, kS]
          refine tkY 4 (.bool true) ?_
          try simp only [kP, kA, kZ, kS]
          refine tkY 5 (.agg #[.slice x.sa x.sorts.length x.sc, .slice x.fa x.funs.length x.fc, .slice x.ma x.macs.length x.mc]) ?_
          try simp only [kP, kA, kZ, kS]
          refine tkY 6 (.int .i64 2) ?_
          try simp only [kP, kA, kZ, kS]
          refine tkY 7 (.pointer (some ⟨w.heap.size + 1, 2, none⟩)) ?_
          try simp only [kP, kA, kZ, kS]
          refine tkY 8 (.pointer (some ⟨w.heap.size + 1, 4, none⟩)) ?_
          try simp only [kP, kA, kZ, kS]
          refine tkY 9 (.int .i64 f.a2) ?_
          try simp only [kP, kA, kZ, kS]
          refine wpAnyH_ready (rs := [10]) (by kernel_rfl) (by simp) ?_
          refine AllReadyH.cons (o := { dst := some 35, op := Op.call { callee := Callee.value (Operand.func 136), args := #[Operand.tmp 30, Operand.tmp 34], argTypes := #[26, 3] }, type := 4, pos := "ref.go:100", after := #[{ on := 5, ground := Ground.data }, { on := 9, ground := Ground.data }, { on := 4, ground := Ground.chain }, { on := 4, ground := Ground.guard }], guard := some (4, true) }) rfl (fun K hK => ?_) AllReadyH.nil
          go_simp
          go_at_call 136
          refine (HC.out _ HB.out.drew).mono ?_
          rintro e w2 ⟨rfl, hb2⟩
          have HB2 := Lib.hid hb2
          clear hb2
          go_wp2_with fail
          refine hK.out _ _ ?_ (fun hHeld => ?_)
          · exact HK.out _ HB2.out
          clear hK K
          try simp only [Act.put, List.setIfInBounds_toArray, List.set_cons_zero, List.set_cons_succ]
          refine tkY 11 (.bool false) ?_
          try simp only [kP, kA, kZ, kS]
          refine tkY 12 (.bool false) ?_
          try simp only [kP, kA, kZ, kS]
          refine tkY 13 (.bool false) ?_
          try simp only [kP, kA, kZ, kS]
          refine tkY 14 (.int .i64 2) ?_
          try simp only [kP, kA, kZ, kS]
          refine tkY 15 (.pointer (some ⟨w.heap.size + 1, 1, none⟩)) ?_
          try simp only [kP, kA, kZ, kS]
          refine tkY 16 (.int .i64 f.len) ?_
          try simp only [kP, kA, kZ, kS]
          refine tkY 17 (.bool false) ?_
          try simp only [kP, kA, kZ, kS]
          refine tkY 18 (.bool false) ?_
          try simp only [kP, kA, kZ, kS]
          refine tkN 19 ?_
          try simp only [kP, kA, kZ, kS]
          refine tkN 20 ?_
          try simp only [kP, kA, kZ, kS]
          refine tkN 21 ?_
          try simp only [kP, kA, kZ, kS]
          refine tkN 22 ?_
          try simp only [kP, kA, kZ, kS]
          refine tkN 23 ?_
          try simp only [kP, kA, kZ, kS]
          refine tkY 24 (.bool false) ?_
          try simp only [kP, kA, kZ, kS]
          refine tkY 25 (.bool false) ?_
          try simp only [kP, kA, kZ, kS]
          refine wpAnyH_done (by kernel_rfl) ?_ _
          go_wp2_with fail
          go_roundw
          case rel => exact ⟨2 + 1, by omega, by go_num, HP2, by first | exact HB2 | exact HB2.out.drew⟩
          case measure => simp [intOf]
        | false =>
          rw [hq] at hat HC
          obtain rfl := HNo.out 2 (by omega) hat
          clear hq hat
          go_wp2_with fail
          refine wp_region_held_drew (S := fun V => V.cell? ⟨w.heap.size, 0, none⟩ = some (.slice x.sa x.sorts.length x.sc) ∧ V.cell? ⟨w.heap.size, 1, none⟩ = some (.slice x.fa x.funs.length x.fc) ∧ V.cell? ⟨w.heap.size, 2, none⟩ = some (.slice x.ma x.macs.length x.mc) ∧ V.cell? ⟨w.heap.size + 1, 1, none⟩ = some (.int .i64 f.len) ∧ V.cell? ⟨w.heap.size + 1, 2, none⟩ = some (.int .i64 f.a0) ∧ V.cell? ⟨w.heap.size + 1, 3, none⟩ = some (.int .i64 f.a1) ∧ V.cell? ⟨w.heap.size + 1, 4, none⟩ = some (.int .i64 f.a2) ∧ V.cell? ⟨w.heap.size + 1, 5, none⟩ = some (.int .i64 f.res)) (by kernel_rfl) (HK.out _ HB.out.drew) (fun hHeld => ?_)
          refine tkY 0 (.int .i64 2) ?_
          try simp only [kP, kA, kZ, kS]
          refine tkY 1 (.pointer (some ⟨w.heap.size + 1, 1, none⟩)) ?_
          try simp only [kP, kA, kZ, kS]
          refine tkY 2 (.int .i64 f.len) ?_
          try simp only [kP, kA, kZ, kS]
          refine tkY 3 (.bool true) ?_
          try simp only [kP, kA, kZ, kS]
          refine tkY 4 (.bool true) ?_
          try simp only [kP, kA, kZ, kS]
          refine tkY 5 (.agg #[.slice x.sa x.sorts.length x.sc, .slice x.fa x.funs.length x.fc, .slice x.ma x.macs.length x.mc]) ?_
          try simp only [kP, kA, kZ, kS]
          refine tkY 6 (.int .i64 2) ?_
          try simp only [kP, kA, kZ, kS]
          refine tkY 7 (.pointer (some ⟨w.heap.size + 1, 2, none⟩)) ?_
          try simp only [kP, kA, kZ, kS]
          refine tkY 8 (.pointer (some ⟨w.heap.size + 1, 4, none⟩)) ?_
          try simp only [kP, kA, kZ, kS]
          refine tkY 9 (.int .i64 f.a2) ?_
          try simp only [kP, kA, kZ, kS]
          refine wpAnyH_ready (rs := [10]) (by kernel_rfl) (by simp) ?_
          refine AllReadyH.cons (o := { dst := some 35, op := Op.call { callee := Callee.value (Operand.func 136), args := #[Operand.tmp 30, Operand.tmp 34], argTypes := #[26, 3] }, type := 4, pos := "ref.go:100", after := #[{ on := 5, ground := Ground.data }, { on := 9, ground := Ground.data }, { on := 4, ground := Ground.chain }, { on := 4, ground := Ground.guard }], guard := some (4, true) }) rfl (fun K hK => ?_) AllReadyH.nil
          go_simp
          go_at_call 136
          refine (HC.out _ HB.out.drew).mono ?_
          rintro e w2 ⟨rfl, hb2⟩
          have HB2 := Lib.hid hb2
          clear hb2
          go_wp2_with fail
          refine hK.out _ _ ?_ (fun hHeld => ?_)
          · exact HK.out _ HB2.out
          clear hK K
          try simp only [Act.put, List.setIfInBounds_toArray, List.set_cons_zero, List.set_cons_succ]
          refine tkY 11 (.bool true) ?_
          try simp only [kP, kA, kZ, kS]
          refine tkY 12 (.bool true) ?_
          try simp only [kP, kA, kZ, kS]
          refine tkY 13 (.bool true) ?_
          try simp only [kP, kA, kZ, kS]
          refine tkN 14 ?_
          try simp only [kP, kA, kZ, kS]
          refine tkN 15 ?_
          try simp only [kP, kA, kZ, kS]
          refine tkN 16 ?_
          try simp only [kP, kA, kZ, kS]
          refine tkN 17 ?_
          try simp only [kP, kA, kZ, kS]
          refine tkN 18 ?_
          try simp only [kP, kA, kZ, kS]
          refine tkN 19 ?_
          try simp only [kP, kA, kZ, kS]
          refine tkN 20 ?_
          try simp only [kP, kA, kZ, kS]
          refine tkN 21 ?_
          try simp only [kP, kA, kZ, kS]
          refine tkN 22 ?_
          try simp only [kP, kA, kZ, kS]
          refine tkN 23 ?_
          try simp only [kP, kA, kZ, kS]
          refine tkN 24 ?_
          try simp only [kP, kA, kZ, kS]
          refine tkY 25 (.bool true) ?_
          try simp only [kP, kA, kZ, kS]
          refine wpAnyH_done (by kernel_rfl) ?_ _
          go_wp2_with fail
          go_ret
          exact ⟨rfl, by first | exact HB0.out.trans (HB2.out.mono HB0.out.size) | exact (HB0.out.trans (HB2.out.mono HB0.out.size)).drew⟩
      · have hat : argAt x.sorts.length f 2 = decide (f.a2 = 0) := if_neg hkl
        have dk : decide ((2 : Int) < f.len) = false := decide_eq_false hkl
        have dg : decide (f.len ≤ (2 : Int)) = true := decide_eq_true (by omega)
        by_cases hv : f.a2 = 0
        · rw [decide_eq_true hv] at hat
          have e1 := ne_false hv
          have HP2 : Hid (∀ j, j < 2 + 1 → argAt x.sorts.length f j = true) := fun j hj => by
            by_cases hjk : j < 2
            · exact HP.out j hjk
            · obtain rfl : j = 2 := by omega
              exact hat
          clear hat hv
          go_wp2_with fail
          go_quiet (fail)
          go_wp2_with fail
          go_roundw
          case rel => exact ⟨2 + 1, by omega, by go_num, HP2, below_dN HB.out⟩
          case measure => simp [intOf]
        · rw [decide_eq_false hv] at hat
          obtain rfl := HNo.out 2 (by omega) hat
          have e1 := ne_true hv
          clear hat hv
          go_wp2_with fail
          go_quiet (fail)
          go_wp2_with fail
          go_ret
          exact ⟨rfl, below_dN (HB0.out.trans (HB.out.mono HB0.out.size))⟩
    · obtain rfl := HYes.out HP.out
      go_wp2
      go_ret
      exact ⟨rfl, HB0.out.trans (HB.out.mono HB0.out.size)⟩
end Go.Proofs.YtfbjgadgfjnamaaGreatDoor
