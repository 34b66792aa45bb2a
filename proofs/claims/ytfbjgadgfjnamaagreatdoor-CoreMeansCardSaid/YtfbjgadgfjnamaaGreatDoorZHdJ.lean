/- The document's fits: whether a row's arguments are of their sorts. -/
import Derived.Test.YtfbjgadgfjnamaaGreatDoorZHdI
namespace Go.Proofs.YtfbjgadgfjnamaaGreatDoor
open Go.RowKit
set_option linter.unusedVariables false
def fitAt (n : Nat) (z : List Int) (f : FunA) (b : Int) (k : Nat) : Bool := if (k : Int) < f.len then isB n z (argV f k) b else decide (b = 0)
def fitB (n : Nat) (z : List Int) (f : FunA) (b0 b1 b2 : Int) : Bool := fitAt n z f b0 0 && (fitAt n z f b1 1 && fitAt n z f b2 2)
theorem arr_cells {V : World} {B : Nat} {a b c : Value} {ty : TypeId} (h : V.heap[B]? = some (.cells #[a, b, c] ty (0, 0))) : V.cell? ⟨B, 0, none⟩ = some a ∧ V.cell? ⟨B, 1, none⟩ = some b ∧ V.cell? ⟨B, 2, none⟩ = some c ∧ B < V.heap.size :=
  ⟨(cell_of_row _ _ 0 _ _ _ h).trans rfl, (cell_of_row _ _ 1 _ _ _ h).trans rfl, (cell_of_row _ _ 2 _ _ _ h).trans rfl, (Array.getElem?_eq_some_iff.1 h).1⟩
set_option maxRecDepth 100000 in
set_option maxHeartbeats 4000000 in
theorem Wfits_any (x : SigV) (y : WorV) (f : FunA) (b0 b1 b2 : Int) (r : Bool) (w : World) (hY : WorR w y) (hf : FunOk f) (h0 : I64 b0) (h1 : I64 b1) (h2 : I64 b2) (hl : x.sorts.length ≤ 100) (hr : fitB x.sorts.length y.sizes f b0 b1 b2 = r) :
    Calls Tryz.prog 60 #[.agg #[.slice x.sa x.sorts.length x.sc, .slice x.fa x.funs.length x.fc, .slice x.ma x.macs.length x.mc], .agg #[.slice y.sa y.sizes.length y.sc, .slice y.fa y.funs.length y.fc], .agg #[.string f.name, .int .i64 f.len, .int .i64 f.a0, .int .i64 f.a1, .int .i64 f.a2, .int .i64 f.res], .agg #[.int .i64 b0, .int .i64 b1, .int .i64 b2]] w fun e w' => e = .returned (.bool r) ∧ Below w.heap.size w w' := by
  obtain ⟨W0, hW0⟩ : ∃ W0, W0 = (((w.alloc (.cells #[.slice x.sa x.sorts.length x.sc, .slice x.fa x.funs.length x.fc, .slice x.ma x.macs.length x.mc] 26)).alloc (.cells #[.slice y.sa y.sizes.length y.sc, .slice y.fa y.funs.length y.fc] 30)).alloc (.cells #[.string f.name, .int .i64 f.len, .int .i64 f.a0, .int .i64 f.a1, .int .i64 f.a2, .int .i64 f.res] 120)).alloc (.cells #[.int .i64 b0, .int .i64 b1, .int .i64 b2] 45) := ⟨_, rfl⟩
  have hB0 : Below w.heap.size w W0 := by rw [hW0]; exact ((((Below.refl _ w).alloc (Nat.le_refl _) _).alloc (by simp) _).alloc (by simp; omega) _).alloc (by simp; omega) _
  have HB0 := Lib.hid hB0
  have hX0 : W0.heap[w.heap.size]? = some (.cells #[.slice x.sa x.sorts.length x.sc, .slice x.fa x.funs.length x.fc, .slice x.ma x.macs.length x.mc] 26 (0, 0)) := by
    rw [hW0]
    exact (((Below.heap_alloc _ _ _ (by simp; omega)).trans (Below.heap_alloc _ _ _ (by simp; omega))).trans (Below.heap_alloc _ _ _ (by simp))).trans (heap_alloc_new w _)
  have hY0 : W0.heap[w.heap.size + 1]? = some (.cells #[.slice y.sa y.sizes.length y.sc, .slice y.fa y.funs.length y.fc] 30 (0, 0)) := by
    have := heap_alloc_new (w.alloc (.cells #[.slice x.sa x.sorts.length x.sc, .slice x.fa x.funs.length x.fc, .slice x.ma x.macs.length x.mc] 26)) (.cells #[.slice y.sa y.sizes.length y.sc, .slice y.fa y.funs.length y.fc] 30)
    rw [World.size_alloc] at this
    rw [hW0]
    exact ((Below.heap_alloc _ _ _ (by simp)).trans (Below.heap_alloc _ _ _ (by simp))).trans this
  have hF0 : W0.heap[w.heap.size + 2]? = some (.cells #[.string f.name, .int .i64 f.len, .int .i64 f.a0, .int .i64 f.a1, .int .i64 f.a2, .int .i64 f.res] 120 (0, 0)) := by
    have := heap_alloc_new ((w.alloc (.cells #[.slice x.sa x.sorts.length x.sc, .slice x.fa x.funs.length x.fc, .slice x.ma x.macs.length x.mc] 26)).alloc (.cells #[.slice y.sa y.sizes.length y.sc, .slice y.fa y.funs.length y.fc] 30)) (.cells #[.string f.name, .int .i64 f.len, .int .i64 f.a0, .int .i64 f.a1, .int .i64 f.a2, .int .i64 f.res] 120)
    rw [World.size_alloc, World.size_alloc] at this
    rw [hW0]
    exact (Below.heap_alloc _ _ _ (by simp)).trans this
  have hA0 : W0.heap[w.heap.size + 3]? = some (.cells #[.int .i64 b0, .int .i64 b1, .int .i64 b2] 45 (0, 0)) := by
    have := heap_alloc_new (((w.alloc (.cells #[.slice x.sa x.sorts.length x.sc, .slice x.fa x.funs.length x.fc, .slice x.ma x.macs.length x.mc] 26)).alloc (.cells #[.slice y.sa y.sizes.length y.sc, .slice y.fa y.funs.length y.fc] 30)).alloc (.cells #[.string f.name, .int .i64 f.len, .int .i64 f.a0, .int .i64 f.a1, .int .i64 f.a2, .int .i64 f.res] 120)) (.cells #[.int .i64 b0, .int .i64 b1, .int .i64 b2] 45)
    rw [World.size_alloc, World.size_alloc, World.size_alloc] at this
    rw [hW0]
    exact this
  have HK : Hid (∀ V, Below W0.heap.size W0 V → V.cell? ⟨w.heap.size, 0, none⟩ = some (.slice x.sa x.sorts.length x.sc) ∧ V.cell? ⟨w.heap.size, 1, none⟩ = some (.slice x.fa x.funs.length x.fc) ∧ V.cell? ⟨w.heap.size, 2, none⟩ = some (.slice x.ma x.macs.length x.mc) ∧ V.cell? ⟨w.heap.size + 1, 0, none⟩ = some (.slice y.sa y.sizes.length y.sc) ∧ V.cell? ⟨w.heap.size + 1, 1, none⟩ = some (.slice y.fa y.funs.length y.fc) ∧ V.cell? ⟨w.heap.size + 2, 1, none⟩ = some (.int .i64 f.len) ∧ V.cell? ⟨w.heap.size + 2, 2, none⟩ = some (.int .i64 f.a0) ∧ V.cell? ⟨w.heap.size + 2, 3, none⟩ = some (.int .i64 f.a1) ∧ V.cell? ⟨w.heap.size + 2, 4, none⟩ = some (.int .i64 f.a2) ∧ V.cell? ⟨w.heap.size + 3, 0, none⟩ = some (.int .i64 b0) ∧ V.cell? ⟨w.heap.size + 3, 1, none⟩ = some (.int .i64 b1) ∧ V.cell? ⟨w.heap.size + 3, 2, none⟩ = some (.int .i64 b2)) := fun V hV => by
    obtain ⟨c0, c1, c2, _⟩ := sig_cells ((hV.block _ (Array.getElem?_eq_some_iff.1 hX0).1).trans hX0)
    obtain ⟨w0, w1, _⟩ := wor_cells ((hV.block _ (Array.getElem?_eq_some_iff.1 hY0).1).trans hY0)
    have h := (hV.block _ (Array.getElem?_eq_some_iff.1 hF0).1).trans hF0
    obtain ⟨p0, p1, p2, _⟩ := arr_cells ((hV.block _ (Array.getElem?_eq_some_iff.1 hA0).1).trans hA0)
    exact ⟨c0, c1, c2, w0, w1, (cell_of_row _ _ 1 _ _ _ h).trans rfl, (cell_of_row _ _ 2 _ _ _ h).trans rfl, (cell_of_row _ _ 3 _ _ _ h).trans rfl, (cell_of_row _ _ 4 _ _ _ h).trans rfl, p0, p1, p2⟩
  have HZ : Hid (∀ V, Below W0.heap.size W0 V → w.heap.size + 3 < V.heap.size) := fun V hV => by
    have h1 := (Array.getElem?_eq_some_iff.1 hA0).1
    have h2 := hV.size
    omega
  have HT : Hid (∀ s b q, I64 s → I64 b → isB x.sorts.length y.sizes s b = q → ∀ V, Below W0.heap.size W0 V → Calls Tryz.prog 59 #[.agg #[.slice x.sa x.sorts.length x.sc, .slice x.fa x.funs.length x.fc, .slice x.ma x.macs.length x.mc], .agg #[.slice y.sa y.sizes.length y.sc, .slice y.fa y.funs.length y.fc], .int .i64 s, .int .i64 b] V fun e w' => e = .returned (.bool q) ∧ Below W0.heap.size W0 w') := fun s b q hs hb hq V hV => (Is_any x y s b q V (hY.below (hB0.trans (hV.mono hB0.size))) hs hb hl hq).mono fun e w' ⟨h1, h2⟩ => ⟨h1, hV.trans (h2.mono hV.size)⟩
  have HF := Lib.hid hf
  have HYes : Hid ((∀ j, j < 3 → fitAt x.sorts.length y.sizes f (if j = 0 then b0 else if j = 1 then b1 else b2) j = true) → r = true) := fun h => by
    have e0 := h 0 (by omega)
    have e1 := h 1 (by omega)
    have e2 := h 2 (by omega)
    simp only [reduceIte, Nat.one_ne_zero, Nat.reduceEqDiff] at e0 e1 e2
    rw [← hr]; unfold fitB; rw [e0, e1, e2]; rfl
  have HNo0 : Hid (fitAt x.sorts.length y.sizes f b0 0 = false → r = false) := fun h => by rw [← hr]; unfold fitB; rw [h]; rfl
  have HNo1 : Hid (fitAt x.sorts.length y.sizes f b1 1 = false → r = false) := fun h => by rw [← hr]; unfold fitB; rw [h]; simp
  have HNo2 : Hid (fitAt x.sorts.length y.sizes f b2 2 = false → r = false) := fun h => by rw [← hr]; unfold fitB; rw [h]; simp
  have HI0 := Lib.hid h0
  have HI1 := Lib.hid h1
  have HI2 := Lib.hid h2
  clear hX0 hY0 hF0 hA0 hY hf h0 h1 h2 hl hB0 hr
  go_enter Tryz.func60, Tryz.ntmps60
  go_wp2_with fail
  rw [← hW0]
  clear hW0
  go_loopw [9] (fun i wr => ∃ k : Nat, k ≤ 3 ∧ i = .int .i64 k ∧ Hid (∀ j, j < k → fitAt x.sorts.length y.sizes f (if j = 0 then b0 else if j = 1 then b1 else b2) j = true) ∧ Hid (Below W0.heap.size W0 wr)) (fun i _ => 3 - (intOf i).toNat)
  case atStart => exact ⟨0, by omega, rfl, fun j hj => by omega, Below.refl _ _⟩
  case round =>
    obtain ⟨k, hk3, rfl, HP, HB⟩ := hrel
    obtain ⟨c0, c1, c2, w0, w1, y1, y2, y3, y4, p0, p1, p2⟩ := HK.out _ HB.out
    have z0 := HZ.out _ HB.out
    have hk : k = 0 ∨ k = 1 ∨ k = 2 ∨ k = 3 := by omega
    clear hk3
    rcases hk with rfl | rfl | rfl | rfl
    · by_cases hkl : (0 : Int) < f.len
      · have hat : fitAt x.sorts.length y.sizes f b0 0 = isB x.sorts.length y.sizes f.a0 b0 := if_pos hkl
        have dk : decide ((0 : Int) < f.len) = true := decide_eq_true hkl
        have dg : decide (f.len ≤ (0 : Int)) = false := decide_eq_false (by omega)
        cases hq : isB x.sorts.length y.sizes f.a0 b0 with
        | true =>
          rw [hq] at hat
          have HC := Lib.hid (HT.out f.a0 b0 _ HF.out.a0 HI0.out hq)
          have HP2 : Hid (∀ j, j < 0 + 1 → fitAt x.sorts.length y.sizes f (if j = 0 then b0 else if j = 1 then b1 else b2) j = true) := fun j hj => by
            by_cases hjk : j < 0
            · exact HP.out j hjk
            · obtain rfl : j = 0 := by omega
              exact hat
          clear hq hat
          go_wp2_with fail
          refine wp_region_held_drew (S := fun V => V.cell? ⟨w.heap.size, 0, none⟩ = some (.slice x.sa x.sorts.length x.sc) ∧ V.cell? ⟨w.heap.size, 1, none⟩ = some (.slice x.fa x.funs.length x.fc) ∧ V.cell? ⟨w.heap.size, 2, none⟩ = some (.slice x.ma x.macs.length x.mc) ∧ V.cell? ⟨w.heap.size + 1, 0, none⟩ = some (.slice y.sa y.sizes.length y.sc) ∧ V.cell? ⟨w.heap.size + 1, 1, none⟩ = some (.slice y.fa y.funs.length y.fc) ∧ V.cell? ⟨w.heap.size + 2, 1, none⟩ = some (.int .i64 f.len) ∧ V.cell? ⟨w.heap.size + 2, 2, none⟩ = some (.int .i64 f.a0) ∧ V.cell? ⟨w.heap.size + 2, 3, none⟩ = some (.int .i64 f.a1) ∧ V.cell? ⟨w.heap.size + 2, 4, none⟩ = some (.int .i64 f.a2) ∧ V.cell? ⟨w.heap.size + 3, 0, none⟩ = some (.int .i64 b0) ∧ V.cell? ⟨w.heap.size + 3, 1, none⟩ = some (.int .i64 b1) ∧ V.cell? ⟨w.heap.size + 3, 2, none⟩ = some (.int .i64 b2)) (by kernel_rfl) (HK.out _ HB.out.drew) (fun hHeld => ?_)
          refine tkY 0 (.int .i64 0) ?_
          try simp only [kP, kA, kZ, kS]
          refine tkY 1 (.pointer (some ⟨w.heap.size + 2, 1, none⟩)) ?_
          try simp only [kP, kA, kZ, kS]
          refine tkY 2 (.int .i64 f.len) ?_
          try simp only [kP, kA, kZ, kS]
          refine tkY 3 (.bool true) ?_
          try simp only [kP, kA, kZ, kS]
          refine tkY 4 (.bool true) ?_
          try simp only [kP, kA, kZ, kS]
          refine tkY 5 (.agg #[.slice x.sa x.sorts.length x.sc, .slice x.fa x.funs.length x.fc, .slice x.ma x.macs.length x.mc]) ?_
          try simp only [kP, kA, kZ, kS]
          refine tkY 6 (.agg #[.slice y.sa y.sizes.length y.sc, .slice y.fa y.funs.length y.fc]) ?_
          try simp only [kP, kA, kZ, kS]
          refine tkY 7 (.int .i64 0) ?_
          try simp only [kP, kA, kZ, kS]
          refine tkY 8 (.pointer (some ⟨w.heap.size + 2, 2, none⟩)) ?_
          try simp only [kP, kA, kZ, kS]
          refine tkY 9 (.pointer (some ⟨w.heap.size + 2, 2, none⟩)) ?_
          try simp only [kP, kA, kZ, kS]
          refine tkY 10 (.int .i64 f.a0) ?_
          try simp only [kP, kA, kZ, kS]
          refine tkY 11 (.int .i64 0) ?_
          try simp only [kP, kA, kZ, kS]
          refine tkY 12 (.pointer (some ⟨w.heap.size + 3, 0, none⟩)) ?_
          try simp only [kP, kA, kZ, kS]
          refine tkY 13 (.int .i64 b0) ?_
          try simp only [kP, kA, kZ, kS]
          refine wpAnyH_ready (rs := [14]) (by kernel_rfl) (by simp) ?_
          refine AllReadyH.cons (o := { dst := some 28, op := Op.call { callee := Callee.value (Operand.func 59), args := #[Operand.tmp 19, Operand.tmp 20, Operand.tmp 24, Operand.tmp 27], argTypes := #[26, 30, 3, 3] }, type := 4, pos := "ref.go:28", after := #[{ on := 5, ground := Ground.data }, { on := 6, ground := Ground.data }, { on := 10, ground := Ground.data }, { on := 13, ground := Ground.data }, { on := 4, ground := Ground.chain }, { on := 4, ground := Ground.guard }], guard := some (4, true) }) rfl (fun K hK => ?_) AllReadyH.nil
          go_simp
          go_at_call 59
          refine (HC.out _ HB.out.drew).mono ?_
          rintro e w2 ⟨rfl, hb2⟩
          have HB2 := Lib.hid hb2
          clear hb2
          go_wp2_with fail
          refine hK.out _ _ ?_ (fun hHeld => ?_)
          · exact HK.out _ HB2.out
          clear hK K
          try simp only [Act.put, List.setIfInBounds_toArray, List.set_cons_zero, List.set_cons_succ]
          refine tkY 15 (.bool false) ?_
          try simp only [kP, kA, kZ, kS]
          refine tkY 16 (.bool false) ?_
          try simp only [kP, kA, kZ, kS]
          refine tkY 17 (.bool false) ?_
          try simp only [kP, kA, kZ, kS]
          refine tkY 18 (.int .i64 0) ?_
          try simp only [kP, kA, kZ, kS]
          refine tkY 19 (.pointer (some ⟨w.heap.size + 2, 1, none⟩)) ?_
          try simp only [kP, kA, kZ, kS]
          refine tkY 20 (.int .i64 f.len) ?_
          try simp only [kP, kA, kZ, kS]
          refine tkY 21 (.bool false) ?_
          try simp only [kP, kA, kZ, kS]
          refine tkY 22 (.bool false) ?_
          try simp only [kP, kA, kZ, kS]
          refine tkN 23 ?_
          try simp only [kP, kA, kZ, kS]
          refine tkN 24 ?_
          try simp only [kP, kA, kZ, kS]
          refine tkN 25 ?_
          try simp only [kP, kA, kZ, kS]
          refine tkN 26 ?_
          try simp only [kP, kA, kZ, kS]
          refine tkY 27 (.bool false) ?_
          try simp only [kP, kA, kZ, kS]
          refine tkY 28 (.bool false) ?_
          try simp only [kP, kA, kZ, kS]
          refine wpAnyH_done (by kernel_rfl) ?_ _
          go_wp2_with fail
          go_roundw
          case rel => exact ⟨0 + 1, by omega, by go_num, HP2, by first | exact HB2 | exact HB2.out.drew⟩
          case measure => simp [intOf]
        | false =>
          rw [hq] at hat
          have HC := Lib.hid (HT.out f.a0 b0 _ HF.out.a0 HI0.out hq)
          obtain rfl := HNo0.out hat
          clear hq hat
          go_wp2_with fail
          refine wp_region_held_drew (S := fun V => V.cell? ⟨w.heap.size, 0, none⟩ = some (.slice x.sa x.sorts.length x.sc) ∧ V.cell? ⟨w.heap.size, 1, none⟩ = some (.slice x.fa x.funs.length x.fc) ∧ V.cell? ⟨w.heap.size, 2, none⟩ = some (.slice x.ma x.macs.length x.mc) ∧ V.cell? ⟨w.heap.size + 1, 0, none⟩ = some (.slice y.sa y.sizes.length y.sc) ∧ V.cell? ⟨w.heap.size + 1, 1, none⟩ = some (.slice y.fa y.funs.length y.fc) ∧ V.cell? ⟨w.heap.size + 2, 1, none⟩ = some (.int .i64 f.len) ∧ V.cell? ⟨w.heap.size + 2, 2, none⟩ = some (.int .i64 f.a0) ∧ V.cell? ⟨w.heap.size + 2, 3, none⟩ = some (.int .i64 f.a1) ∧ V.cell? ⟨w.heap.size + 2, 4, none⟩ = some (.int .i64 f.a2) ∧ V.cell? ⟨w.heap.size + 3, 0, none⟩ = some (.int .i64 b0) ∧ V.cell? ⟨w.heap.size + 3, 1, none⟩ = some (.int .i64 b1) ∧ V.cell? ⟨w.heap.size + 3, 2, none⟩ = some (.int .i64 b2)) (by kernel_rfl) (HK.out _ HB.out.drew) (fun hHeld => ?_)
          refine tkY 0 (.int .i64 0) ?_
          try simp only [kP, kA, kZ, kS]
          refine tkY 1 (.pointer (some ⟨w.heap.size + 2, 1, none⟩)) ?_
          try simp only [kP, kA, kZ, kS]
          refine tkY 2 (.int .i64 f.len) ?_
          try simp only [kP, kA, kZ, kS]
          refine tkY 3 (.bool true) ?_
          try simp only [kP, kA, kZ, kS]
          refine tkY 4 (.bool true) ?_
          try simp only [kP, kA, kZ, kS]
          refine tkY 5 (.agg #[.slice x.sa x.sorts.length x.sc, .slice x.fa x.funs.length x.fc, .slice x.ma x.macs.length x.mc]) ?_
          try simp only [kP, kA, kZ, kS]
          refine tkY 6 (.agg #[.slice y.sa y.sizes.length y.sc, .slice y.fa y.funs.length y.fc]) ?_
          try simp only [kP, kA, kZ, kS]
          refine tkY 7 (.int .i64 0) ?_
          try simp only [kP, kA, kZ, kS]
          refine tkY 8 (.pointer (some ⟨w.heap.size + 2, 2, none⟩)) ?_
          try simp only [kP, kA, kZ, kS]
          refine tkY 9 (.pointer (some ⟨w.heap.size + 2, 2, none⟩)) ?_
          try simp only [kP, kA, kZ, kS]
          refine tkY 10 (.int .i64 f.a0) ?_
          try simp only [kP, kA, kZ, kS]
          refine tkY 11 (.int .i64 0) ?_
          try simp only [kP, kA, kZ, kS]
          refine tkY 12 (.pointer (some ⟨w.heap.size + 3, 0, none⟩)) ?_
          try simp only [kP, kA, kZ, kS]
          refine tkY 13 (.int .i64 b0) ?_
          try simp only [kP, kA, kZ, kS]
          refine wpAnyH_ready (rs := [14]) (by kernel_rfl) (by simp) ?_
          refine AllReadyH.cons (o := { dst := some 28, op := Op.call { callee := Callee.value (Operand.func 59), args := #[Operand.tmp 19, Operand.tmp 20, Operand.tmp 24, Operand.tmp 27], argTypes := #[26, 30, 3, 3] }, type := 4, pos := "ref.go:28", after := #[{ on := 5, ground := Ground.data }, { on := 6, ground := Ground.data }, { on := 10, ground := Ground.data }, { on := 13, ground := Ground.data }, { on := 4, ground := Ground.chain }, { on := 4, ground := Ground.guard }], guard := some (4, true) }) rfl (fun K hK => ?_) AllReadyH.nil
          go_simp
          go_at_call 59
          refine (HC.out _ HB.out.drew).mono ?_
          rintro e w2 ⟨rfl, hb2⟩
          have HB2 := Lib.hid hb2
          clear hb2
          go_wp2_with fail
          refine hK.out _ _ ?_ (fun hHeld => ?_)
          · exact HK.out _ HB2.out
          clear hK K
          try simp only [Act.put, List.setIfInBounds_toArray, List.set_cons_zero, List.set_cons_succ]
          refine tkY 15 (.bool true) ?_
          try simp only [kP, kA, kZ, kS]
          refine tkY 16 (.bool true) ?_
          try simp only [kP, kA, kZ, kS]
          refine tkY 17 (.bool true) ?_
          try simp only [kP, kA, kZ, kS]
          refine tkN 18 ?_
          try simp only [kP, kA, kZ, kS]
          refine tkN 19 ?_
          try simp only [kP, kA, kZ, kS]
          refine tkN 20 ?_
          try simp only [kP, kA, kZ, kS]
          refine tkN 21 ?_
          try simp only [kP, kA, kZ, kS]
          refine tkN 22 ?_
          try simp only [kP, kA, kZ, kS]
          refine tkN 23 ?_
          try simp only [kP, kA, kZ, kS]
          refine tkN 24 ?_
          try simp only [kP, kA, kZ, kS]
          refine tkN 25 ?_
          try simp only [kP, kA, kZ, kS]
          refine tkN 26 ?_
          try simp only [kP, kA, kZ, kS]
          refine tkN 27 ?_
          try simp only [kP, kA, kZ, kS]
          refine tkY 28 (.bool true) ?_
          try simp only [kP, kA, kZ, kS]
          refine wpAnyH_done (by kernel_rfl) ?_ _
          go_wp2_with fail
          go_ret
          exact ⟨rfl, by first | exact HB0.out.trans (HB2.out.mono HB0.out.size) | exact (HB0.out.trans (HB2.out.mono HB0.out.size)).drew⟩
      · have hat : fitAt x.sorts.length y.sizes f b0 0 = decide (b0 = 0) := if_neg hkl
        have dk : decide ((0 : Int) < f.len) = false := decide_eq_false hkl
        have dg : decide (f.len ≤ (0 : Int)) = true := decide_eq_true (by omega)
        by_cases hv : b0 = 0
        · rw [decide_eq_true hv] at hat
          have e1 := ne_false hv
          have HP2 : Hid (∀ j, j < 0 + 1 → fitAt x.sorts.length y.sizes f (if j = 0 then b0 else if j = 1 then b1 else b2) j = true) := fun j hj => by
            by_cases hjk : j < 0
            · exact HP.out j hjk
            · obtain rfl : j = 0 := by omega
              exact hat
          clear hat hv
          go_wp2_with fail
          go_quiet (fail)
          go_wp2_with fail
          go_roundw
          case rel => exact ⟨0 + 1, by omega, by go_num, HP2, below_dN HB.out⟩
          case measure => simp [intOf]
        · rw [decide_eq_false hv] at hat
          obtain rfl := HNo0.out hat
          have e1 := ne_true hv
          clear hat hv
          go_wp2_with fail
          go_quiet (fail)
          go_wp2_with fail
          go_ret
          exact ⟨rfl, below_dN (HB0.out.trans (HB.out.mono HB0.out.size))⟩
    · by_cases hkl : (1 : Int) < f.len
      · have hat : fitAt x.sorts.length y.sizes f b1 1 = isB x.sorts.length y.sizes f.a1 b1 := if_pos hkl
        have dk : decide ((1 : Int) < f.len) = true := decide_eq_true hkl
        have dg : decide (f.len ≤ (1 : Int)) = false := decide_eq_false (by omega)
        cases hq : isB x.sorts.length y.sizes f.a1 b1 with
        | true =>
          rw [hq] at hat
          have HC := Lib.hid (HT.out f.a1 b1 _ HF.out.a1 HI1.out hq)
          have HP2 : Hid (∀ j, j < 1 + 1 → fitAt x.sorts.length y.sizes f (if j = 0 then b0 else if j = 1 then b1 else b2) j = true) := fun j hj => by
            by_cases hjk : j < 1
            · exact HP.out j hjk
            · obtain rfl : j = 1 := by omega
              exact hat
          clear hq hat
          go_wp2_with fail
          refine wp_region_held_drew (S := fun V => V.cell? ⟨w.heap.size, 0, none⟩ = some (.slice x.sa x.sorts.length x.sc) ∧ V.cell? ⟨w.heap.size, 1, none⟩ = some (.slice x.fa x.funs.length x.fc) ∧ V.cell? ⟨w.heap.size, 2, none⟩ = some (.slice x.ma x.macs.length x.mc) ∧ V.cell? ⟨w.heap.size + 1, 0, none⟩ = some (.slice y.sa y.sizes.length y.sc) ∧ V.cell? ⟨w.heap.size + 1, 1, none⟩ = some (.slice y.fa y.funs.length y.fc) ∧ V.cell? ⟨w.heap.size + 2, 1, none⟩ = some (.int .i64 f.len) ∧ V.cell? ⟨w.heap.size + 2, 2, none⟩ = some (.int .i64 f.a0) ∧ V.cell? ⟨w.heap.size + 2, 3, none⟩ = some (.int .i64 f.a1) ∧ V.cell? ⟨w.heap.size + 2, 4, none⟩ = some (.int .i64 f.a2) ∧ V.cell? ⟨w.heap.size + 3, 0, none⟩ = some (.int .i64 b0) ∧ V.cell? ⟨w.heap.size + 3, 1, none⟩ = some (.int .i64 b1) ∧ V.cell? ⟨w.heap.size + 3, 2, none⟩ = some (.int .i64 b2)) (by kernel_rfl) (HK.out _ HB.out.drew) (fun hHeld => ?_)
          refine tkY 0 (.int .i64 1) ?_
          try simp only [kP, kA, kZ, kS]
          refine tkY 1 (.pointer (some ⟨w.heap.size + 2, 1, none⟩)) ?_
          try simp only [kP, kA, kZ, kS]
          refine tkY 2 (.int .i64 f.len) ?_
          try simp only [kP, kA, kZ, kS]
          refine tkY 3 (.bool true) ?_
          try simp only [kP, kA, kZ, kS]
          refine tkY 4 (.bool true) ?_
          try simp only [kP, kA, kZ, kS]
          refine tkY 5 (.agg #[.slice x.sa x.sorts.length x.sc, .slice x.fa x.funs.length x.fc, .slice x.ma x.macs.length x.mc]) ?_
          try simp only [kP, kA, kZ, kS]
          refine tkY 6 (.agg #[.slice y.sa y.sizes.length y.sc, .slice y.fa y.funs.length y.fc]) ?_
          try simp only [kP, kA, kZ, kS]
          refine tkY 7 (.int .i64 1) ?_
          try simp only [kP, kA, kZ, kS]
          refine tkY 8 (.pointer (some ⟨w.heap.size + 2, 2, none⟩)) ?_
          try simp only [kP, kA, kZ, kS]
          refine tkY 9 (.pointer (some ⟨w.heap.size + 2, 3, none⟩)) ?_
          try simp only [kP, kA, kZ, kS]
          refine tkY 10 (.int .i64 f.a1) ?_
          try simp only [kP, kA, kZ, kS]
          refine tkY 11 (.int .i64 1) ?_
          try simp only [kP, kA, kZ, kS]
          refine tkY 12 (.pointer (some ⟨w.heap.size + 3, 1, none⟩)) ?_
          try simp only [kP, kA, kZ, kS]
          refine tkY 13 (.int .i64 b1) ?_
          try simp only [kP, kA, kZ, kS]
          refine wpAnyH_ready (rs := [14]) (by kernel_rfl) (by simp) ?_
          refine AllReadyH.cons (o := { dst := some 28, op := Op.call { callee := Callee.value (Operand.func 59), args := #[Operand.tmp 19, Operand.tmp 20, Operand.tmp 24, Operand.tmp 27], argTypes := #[26, 30, 3, 3] }, type := 4, pos := "ref.go:28", after := #[{ on := 5, ground := Ground.data }, { on := 6, ground := Ground.data }, { on := 10, ground := Ground.data }, { on := 13, ground := Ground.data }, { on := 4, ground := Ground.chain }, { on := 4, ground := Ground.guard }], guard := some (4, true) }) rfl (fun K hK => ?_) AllReadyH.nil
          go_simp
          go_at_call 59
          refine (HC.out _ HB.out.drew).mono ?_
          rintro e w2 ⟨rfl, hb2⟩
          have HB2 := Lib.hid hb2
          clear hb2
          go_wp2_with fail
          refine hK.out _ _ ?_ (fun hHeld => ?_)
          · exact HK.out _ HB2.out
          clear hK K
          try simp only [Act.put, List.setIfInBounds_toArray, List.set_cons_zero, List.set_cons_succ]
          refine tkY 15 (.bool false) ?_
          try simp only [kP, kA, kZ, kS]
          refine tkY 16 (.bool false) ?_
          try simp only [kP, kA, kZ, kS]
          refine tkY 17 (.bool false) ?_
          try simp only [kP, kA, kZ, kS]
          refine tkY 18 (.int .i64 1) ?_
          try simp only [kP, kA, kZ, kS]
          refine tkY 19 (.pointer (some ⟨w.heap.size + 2, 1, none⟩)) ?_
          try simp only [kP, kA, kZ, kS]
          refine tkY 20 (.int .i64 f.len) ?_
          try simp only [kP, kA, kZ, kS]
          refine tkY 21 (.bool false) ?_
          try simp only [kP, kA, kZ, kS]
          refine tkY 22 (.bool false) ?_
          try simp only [kP, kA, kZ, kS]
          refine tkN 23 ?_
          try simp only [kP, kA, kZ, kS]
          refine tkN 24 ?_
          try simp only [kP, kA, kZ, kS]
          refine tkN 25 ?_
          try simp only [kP, kA, kZ, kS]
          refine tkN 26 ?_
          try simp only [kP, kA, kZ, kS]
          refine tkY 27 (.bool false) ?_
          try simp only [kP, kA, kZ, kS]
          refine tkY 28 (.bool false) ?_
          try simp only [kP, kA, kZ, kS]
          refine wpAnyH_done (by kernel_rfl) ?_ _
          go_wp2_with fail
          go_roundw
          case rel => exact ⟨1 + 1, by omega, by go_num, HP2, by first | exact HB2 | exact HB2.out.drew⟩
          case measure => simp [intOf]
        | false =>
          rw [hq] at hat
          have HC := Lib.hid (HT.out f.a1 b1 _ HF.out.a1 HI1.out hq)
          obtain rfl := HNo1.out hat
          clear hq hat
          go_wp2_with fail
          refine wp_region_held_drew (S := fun V => V.cell? ⟨w.heap.size, 0, none⟩ = some (.slice x.sa x.sorts.length x.sc) ∧ V.cell? ⟨w.heap.size, 1, none⟩ = some (.slice x.fa x.funs.length x.fc) ∧ V.cell? ⟨w.heap.size, 2, none⟩ = some (.slice x.ma x.macs.length x.mc) ∧ V.cell? ⟨w.heap.size + 1, 0, none⟩ = some (.slice y.sa y.sizes.length y.sc) ∧ V.cell? ⟨w.heap.size + 1, 1, none⟩ = some (.slice y.fa y.funs.length y.fc) ∧ V.cell? ⟨w.heap.size + 2, 1, none⟩ = some (.int .i64 f.len) ∧ V.cell? ⟨w.heap.size + 2, 2, none⟩ = some (.int .i64 f.a0) ∧ V.cell? ⟨w.heap.size + 2, 3, none⟩ = some (.int .i64 f.a1) ∧ V.cell? ⟨w.heap.size + 2, 4, none⟩ = some (.int .i64 f.a2) ∧ V.cell? ⟨w.heap.size + 3, 0, none⟩ = some (.int .i64 b0) ∧ V.cell? ⟨w.heap.size + 3, 1, none⟩ = some (.int .i64 b1) ∧ V.cell? ⟨w.heap.size + 3, 2, none⟩ = some (.int .i64 b2)) (by kernel_rfl) (HK.out _ HB.out.drew) (fun hHeld => ?_)
          refine tkY 0 (.int .i64 1) ?_
          try simp only [kP, kA, kZ, kS]
          refine tkY 1 (.pointer (some ⟨w.heap.size + 2, 1, none⟩)) ?_
          try simp only [kP, kA, kZ, kS]
          refine tkY 2 (.int .i64 f.len) ?_
          try simp only [kP, kA, kZ, kS]
          refine tkY 3 (.bool true) ?_
          try simp only [kP, kA, kZ, kS]
          refine tkY 4 (.bool true) ?_
          try simp only [kP, kA, kZ, kS]
          refine tkY 5 (.agg #[.slice x.sa x.sorts.length x.sc, .slice x.fa x.funs.length x.fc, .slice x.ma x.macs.length x.mc]) ?_
          try simp only [kP, kA, kZ, kS]
          refine tkY 6 (.agg #[.slice y.sa y.sizes.length y.sc, .slice y.fa y.funs.length y.fc]) ?_
          try simp only [kP, kA, kZ, kS]
          refine tkY 7 (.int .i64 1) ?_
          try simp only [kP, kA, kZ, kS]
          refine tkY 8 (.pointer (some ⟨w.heap.size + 2, 2, none⟩)) ?_
          try simp only [kP, kA, kZ, kS]
          refine tkY 9 (.pointer (some ⟨w.heap.size + 2, 3, none⟩)) ?_
          try simp only [kP, kA, kZ, kS]
          refine tkY 10 (.int .i64 f.a1) ?_
          try simp only [kP, kA, kZ, kS]
          refine tkY 11 (.int .i64 1) ?_
          try simp only [kP, kA, kZ, kS]
          refine tkY 12 (.pointer (some ⟨w.heap.size + 3, 1, none⟩)) ?_
          try simp only [kP, kA, kZ, kS]
          refine tkY 13 (.int .i64 b1) ?_
          try simp only [kP, kA, kZ, kS]
          refine wpAnyH_ready (rs := [14]) (by kernel_rfl) (by simp) ?_
          refine AllReadyH.cons (o := { dst := some 28, op := Op.call { callee := Callee.value (Operand.func 59), args := #[Operand.tmp 19, Operand.tmp 20, Operand.tmp 24, Operand.tmp 27], argTypes := #[26, 30, 3, 3] }, type := 4, pos := "ref.go:28", after := #[{ on := 5, ground := Ground.data }, { on := 6, ground := Ground.data }, { on := 10, ground := Ground.data }, { on := 13, ground := Ground.data }, { on := 4, ground := Ground.chain }, { on := 4, ground := Ground.guard }], guard := some (4, true) }) rfl (fun K hK => ?_) AllReadyH.nil
          go_simp
          go_at_call 59
          refine (HC.out _ HB.out.drew).mono ?_
          rintro e w2 ⟨rfl, hb2⟩
          have HB2 := Lib.hid hb2
          clear hb2
          go_wp2_with fail
          refine hK.out _ _ ?_ (fun hHeld => ?_)
          · exact HK.out _ HB2.out
          clear hK K
          try simp only [Act.put, List.setIfInBounds_toArray, List.set_cons_zero, List.set_cons_succ]
          refine tkY 15 (.bool true) ?_
          try simp only [kP, kA, kZ, kS]
          refine tkY 16 (.bool true) ?_
          try simp only [kP, kA, kZ, kS]
          refine tkY 17 (.bool true) ?_
          try simp only [kP, kA, kZ, kS]
          refine tkN 18 ?_
          try simp only [kP, kA, kZ, kS]
          refine tkN 19 ?_
          try simp only [kP, kA, kZ, kS]
          refine tkN 20 ?_
          try simp only [kP, kA, kZ, kS]
          refine tkN 21 ?_
          try simp only [kP, kA, kZ, kS]
          refine tkN 22 ?_
          try simp only [kP, kA, kZ, kS]
          refine tkN 23 ?_
          try simp only [kP, kA, kZ, kS]
          refine tkN 24 ?_
          try simp only [kP, kA, kZ, kS]
          refine tkN 25 ?_
          try simp only [kP, kA, kZ, kS]
          refine tkN 26 ?_
          try simp only [kP, kA, kZ, kS]
          refine tkN 27 ?_
          try simp only [kP, kA, kZ, kS]
          refine tkY 28 (.bool true) ?_
          try simp only [kP, kA, kZ, kS]
          refine wpAnyH_done (by kernel_rfl) ?_ _
          go_wp2_with fail
          go_ret
          exact ⟨rfl, by first | exact HB0.out.trans (HB2.out.mono HB0.out.size) | exact (HB0.out.trans (HB2.out.mono HB0.out.size)).drew⟩
      · have hat : fitAt x.sorts.length y.sizes f b1 1 = decide (b1 = 0) := if_neg hkl
        have dk : decide ((1 : Int) < f.len) = false := decide_eq_false hkl
        have dg : decide (f.len ≤ (1 : Int)) = true := decide_eq_true (by omega)
        by_cases hv : b1 = 0
        · rw [decide_eq_true hv] at hat
          have e1 := ne_false hv
          have HP2 : Hid (∀ j, j < 1 + 1 → fitAt x.sorts.length y.sizes f (if j = 0 then b0 else if j = 1 then b1 else b2) j = true) := fun j hj => by
            by_cases hjk : j < 1
            · exact HP.out j hjk
            · obtain rfl : j = 1 := by omega
              exact hat
          clear hat hv
          go_wp2_with fail
          go_quiet (fail)
          go_wp2_with fail
          go_roundw
          case rel => exact ⟨1 + 1, by omega, by go_num, HP2, below_dN HB.out⟩
          case measure => simp [intOf]
        · rw [decide_eq_false hv] at hat
          obtain rfl := HNo1.out hat
          have e1 := ne_true hv
          clear hat hv
          go_wp2_with fail
          go_quiet (fail)
          go_wp2_with fail
          go_ret
          exact ⟨rfl, below_dN (HB0.out.trans (HB.out.mono HB0.out.size))⟩
    · by_cases hkl : (2 : Int) < f.len
      · have hat : fitAt x.sorts.length y.sizes f b2 2 = isB x.sorts.length y.sizes f.a2 b2 := if_pos hkl
        have dk : decide ((2 : Int) < f.len) = true := decide_eq_true hkl
        have dg : decide (f.len ≤ (2 : Int)) = false := decide_eq_false (by omega)
        cases hq : isB x.sorts.length y.sizes f.a2 b2 with
        | true =>
          rw [hq] at hat
          have HC := Lib.hid (HT.out f.a2 b2 _ HF.out.a2 HI2.out hq)
          have HP2 : Hid (∀ j, j < 2 + 1 → fitAt x.sorts.length y.sizes f (if j = 0 then b0 else if j = 1 then b1 else b2) j = true) := fun j hj => by
            by_cases hjk : j < 2
            · exact HP.out j hjk
            · obtain rfl : j = 2 := by omega
              exact hat
          clear hq hat
          go_wp2_with fail
          refine wp_region_held_drew (S := fun V => V.cell? ⟨w.heap.size, 0, none⟩ = some (.slice x.sa x.sorts.length x.sc) ∧ V.cell? ⟨w.heap.size, 1, none⟩ = some (.slice x.fa x.funs.length x.fc) ∧ V.cell? ⟨w.heap.size, 2, none⟩ = some (.slice x.ma x.macs.length x.mc) ∧ V.cell? ⟨w.heap.size + 1, 0, none⟩ = some (.slice y.sa y.sizes.length y.sc) ∧ V.cell? ⟨w.heap.size + 1, 1, none⟩ = some (.slice y.fa y.funs.length y.fc) ∧ V.cell? ⟨w.heap.size + 2, 1, none⟩ = some (.int .i64 f.len) ∧ V.cell? ⟨w.heap.size + 2, 2, none⟩ = some (.int .i64 f.a0) ∧ V.cell? ⟨w.heap.size + 2, 3, none⟩ = some (.int .i64 f.a1) ∧ V.cell? ⟨w.heap.size + 2, 4, none⟩ = some (.int .i64 f.a2) ∧ V.cell? ⟨w.heap.size + 3, 0, none⟩ = some (.int .i64 b0) ∧ V.cell? ⟨w.heap.size + 3, 1, none⟩ = some (.int .i64 b1) ∧ V.cell? ⟨w.heap.size + 3, 2, none⟩ = some (.int .i64 b2)) (by kernel_rfl) (HK.out _ HB.out.drew) (fun hHeld => ?_)
          refine tkY 0 (.int .i64 2) ?_
          try simp only [kP, kA, kZ, kS]
          refine tkY 1 (.pointer (some ⟨w.heap.size + 2, 1, none⟩)) ?_
          try simp only [kP, kA, kZ, kS]
          refine tkY 2 (.int .i64 f.len) ?_
          try simp only [kP, kA, kZ, kS]
          refine tkY 3 (.bool true) ?_
          try simp only [kP, kA, kZ, kS]
          refine tkY 4 (.bool true) ?_
          try simp only [kP, kA, kZ, kS]
          refine tkY 5 (.agg #[.slice x.sa x.sorts.length x.sc, .slice x.fa x.funs.length x.fc, .slice x.ma x.macs.length x.mc]) ?_
          try simp only [kP, kA, kZ, kS]
          refine tkY 6 (.agg #[.slice y.sa y.sizes.length y.sc, .slice y.fa y.funs.length y.fc]) ?_
          try simp only [kP, kA, kZ, kS]
          refine tkY 7 (.int .i64 2) ?_
          try simp only [kP, kA, kZ, kS]
          refine tkY 8 (.pointer (some ⟨w.heap.size + 2, 2, none⟩)) ?_
          try simp only [kP, kA, kZ, kS]
          refine tkY 9 (.pointer (some ⟨w.heap.size + 2, 4, none⟩)) ?_
          try simp only [kP, kA, kZ, kS]
          refine tkY 10 (.int .i64 f.a2) ?_
          try simp only [kP, kA, kZ, kS]
          refine tkY 11 (.int .i64 2) ?_
          try simp only [kP, kA, kZ, kS]
          refine tkY 12 (.pointer (some ⟨w.heap.size + 3, 2, none⟩)) ?_
          try simp only [kP, kA, kZ, kS]
          refine tkY 13 (.int .i64 b2) ?_
          try simp only [kP, kA, kZ, kS]
          refine wpAnyH_ready (rs := [14]) (by kernel_rfl) (by simp) ?_
          refine AllReadyH.cons (o := { dst := some 28, op := Op.call { callee := Callee.value (Operand.func 59), args := #[Operand.tmp 19, Operand.tmp 20, Operand.tmp 24, Operand.tmp 27], argTypes := #[26, 30, 3, 3] }, type := 4, pos := "ref.go:28", after := #[{ on := 5, ground := Ground.data }, { on := 6, ground := Ground.data }, { on := 10, ground := Ground.data }, { on := 13, ground := Ground.data }, { on := 4, ground := Ground.chain }, { on := 4, ground := Ground.guard }], guard := some (4, true) }) rfl (fun K hK => ?_) AllReadyH.nil
          go_simp
          go_at_call 59
          refine (HC.out _ HB.out.drew).mono ?_
          rintro e w2 ⟨rfl, hb2⟩
          have HB2 := Lib.hid hb2
          clear hb2
          go_wp2_with fail
          refine hK.out _ _ ?_ (fun hHeld => ?_)
          · exact HK.out _ HB2.out
          clear hK K
          try simp only [Act.put, List.setIfInBounds_toArray, List.set_cons_zero, List.set_cons_succ]
          refine tkY 15 (.bool false) ?_
          try simp only [kP, kA, kZ, kS]
          refine tkY 16 (.bool false) ?_
          try simp only [kP, kA, kZ, kS]
          refine tkY 17 (.bool false) ?_
          try simp only [kP, kA, kZ, kS]
          refine tkY 18 (.int .i64 2) ?_
          try simp only [kP, kA, kZ, kS]
          refine tkY 19 (.pointer (some ⟨w.heap.size + 2, 1, none⟩)) ?_
          try simp only [kP, kA, kZ, kS]
          refine tkY 20 (.int .i64 f.len) ?_
          try simp only [kP, kA, kZ, kS]
          refine tkY 21 (.bool false) ?_
          try simp only [kP, kA, kZ, kS]
          refine tkY 22 (.bool false) ?_
          try simp only [kP, kA, kZ, kS]
          refine tkN 23 ?_
          try simp only [kP, kA, kZ, kS]
          refine tkN 24 ?_
          try simp only [kP, kA, kZ, kS]
          refine tkN 25 ?_
          try simp only [kP, kA, kZ, kS]
          refine tkN 26 ?_
          try simp only [kP, kA, kZ, kS]
          refine tkY 27 (.bool false) ?_
          try simp only [kP, kA, kZ, kS]
          refine tkY 28 (.bool false) ?_
          try simp only [kP, kA, kZ, kS]
          refine wpAnyH_done (by kernel_rfl) ?_ _
          go_wp2_with fail
          go_roundw
          case rel => exact ⟨2 + 1, by omega, by go_num, HP2, by first | exact HB2 | exact HB2.out.drew⟩
          case measure => simp [intOf]
        | false =>
          rw [hq] at hat
          have HC := Lib.hid (HT.out f.a2 b2 _ HF.out.a2 HI2.out hq)
          obtain rfl := HNo2.out hat
          clear hq hat
          go_wp2_with fail
          refine wp_region_held_drew (S := fun V => V.cell? ⟨w.heap.size, 0, none⟩ = some (.slice x.sa x.sorts.length x.sc) ∧ V.cell? ⟨w.heap.size, 1, none⟩ = some (.slice x.fa x.funs.length x.fc) ∧ V.cell? ⟨w.heap.size, 2, none⟩ = some (.slice x.ma x.macs.length x.mc) ∧ V.cell? ⟨w.heap.size + 1, 0, none⟩ = some (.slice y.sa y.sizes.length y.sc) ∧ V.cell? ⟨w.heap.size + 1, 1, none⟩ = some (.slice y.fa y.funs.length y.fc) ∧ V.cell? ⟨w.heap.size + 2, 1, none⟩ = some (.int .i64 f.len) ∧ V.cell? ⟨w.heap.size + 2, 2, none⟩ = some (.int .i64 f.a0) ∧ V.cell? ⟨w.heap.size + 2, 3, none⟩ = some (.int .i64 f.a1) ∧ V.cell? ⟨w.heap.size + 2, 4, none⟩ = some (.int .i64 f.a2) ∧ V.cell? ⟨w.heap.size + 3, 0, none⟩ = some (.int .i64 b0) ∧ V.cell? ⟨w.heap.size + 3, 1, none⟩ = some (.int .i64 b1) ∧ V.cell? ⟨w.heap.size + 3, 2, none⟩ = some (.int .i64 b2)) (by kernel_rfl) (HK.out _ HB.out.drew) (fun hHeld => ?_)
          refine tkY 0 (.int .i64 2) ?_
          try simp only [kP, kA, kZ, kS]
          refine tkY 1 (.pointer (some ⟨w.heap.size + 2, 1, none⟩)) ?_
          try simp only [kP, kA, kZ, kS]
          refine tkY 2 (.int .i64 f.len) ?_
          try simp only [kP, kA, kZ, kS]
          refine tkY 3 (.bool true) ?_
          try simp only [kP, kA, kZ, kS]
          refine tkY 4 (.bool true) ?_
          try simp only [kP, kA, kZ, kS]
          refine tkY 5 (.agg #[.slice x.sa x.sorts.length x.sc, .slice x.fa x.funs.length x.fc, .slice x.ma x.macs.length x.mc]) ?_
          try simp only [kP, kA, kZ, kS]
          refine tkY 6 (.agg #[.slice y.sa y.sizes.length y.sc, .slice y.fa y.funs.length y.fc]) ?_
          try simp only [kP, kA, kZ, kS]
          refine tkY 7 (.int .i64 2) ?_
          try simp only [kP, kA, kZ, kS]
          refine tkY 8 (.pointer (some ⟨w.heap.size + 2, 2, none⟩)) ?_
          try simp only [kP, kA, kZ, kS]
          refine tkY 9 (.pointer (some ⟨w.heap.size + 2, 4, none⟩)) ?_
          try simp only [kP, kA, kZ, kS]
          refine tkY 10 (.int .i64 f.a2) ?_
          try simp only [kP, kA, kZ, kS]
          refine tkY 11 (.int .i64 2) ?_
          try simp only [kP, kA, kZ, kS]
          refine tkY 12 (.pointer (some ⟨w.heap.size + 3, 2, none⟩)) ?_
          try simp only [kP, kA, kZ, kS]
          refine tkY 13 (.int .i64 b2) ?_
          try simp only [kP, kA, kZ, kS]
          refine wpAnyH_ready (rs := [14]) (by kernel_rfl) (by simp) ?_
          refine AllReadyH.cons (o := { dst := some 28, op := Op.call { callee := Callee.value (Operand.func 59), args := #[Operand.tmp 19, Operand.tmp 20, Operand.tmp 24, Operand.tmp 27], argTypes := #[26, 30, 3, 3] }, type := 4, pos := "ref.go:28", after := #[{ on := 5, ground := Ground.data }, { on := 6, ground := Ground.data }, { on := 10, ground := Ground.data }, { on := 13, ground := Ground.data }, { on := 4, ground := Ground.chain }, { on := 4, ground := Ground.guard }], guard := some (4, true) }) rfl (fun K hK => ?_) AllReadyH.nil
          go_simp
          go_at_call 59
          refine (HC.out _ HB.out.drew).mono ?_
          rintro e w2 ⟨rfl, hb2⟩
          have HB2 := Lib.hid hb2
          clear hb2
          go_wp2_with fail
          refine hK.out _ _ ?_ (fun hHeld => ?_)
          · exact HK.out _ HB2.out
          clear hK K
          try simp only [Act.put, List.setIfInBounds_toArray, List.set_cons_zero, List.set_cons_succ]
          refine tkY 15 (.bool true) ?_
          try simp only [kP, kA, kZ, kS]
          refine tkY 16 (.bool true) ?_
          try simp only [kP, kA, kZ, kS]
          refine tkY 17 (.bool true) ?_
          try simp only [kP, kA, kZ, kS]
          refine tkN 18 ?_
          try simp only [kP, kA, kZ, kS]
          refine tkN 19 ?_
          try simp only [kP, kA, kZ, kS]
          refine tkN 20 ?_
          try simp only [kP, kA, kZ, kS]
          refine tkN 21 ?_
          try simp only [kP, kA, kZ, kS]
          refine tkN 22 ?_
          try simp only [kP, kA, kZ, kS]
          refine tkN 23 ?_
          try simp only [kP, kA, kZ, kS]
          refine tkN 24 ?_
          try simp only [kP, kA, kZ, kS]
          refine tkN 25 ?_
          try simp only [kP, kA, kZ, kS]
          refine tkN 26 ?_
          try simp only [kP, kA, kZ, kS]
          refine tkN 27 ?_
          try simp only [kP, kA, kZ, kS]
          refine tkY 28 (.bool true) ?_
          try simp only [kP, kA, kZ, kS]
          refine wpAnyH_done (by kernel_rfl) ?_ _
          go_wp2_with fail
          go_ret
          exact ⟨rfl, by first | exact HB0.out.trans (HB2.out.mono HB0.out.size) | exact (HB0.out.trans (HB2.out.mono HB0.out.size)).drew⟩
      · have hat : fitAt x.sorts.length y.sizes f b2 2 = decide (b2 = 0) := if_neg hkl
        have dk : decide ((2 : Int) < f.len) = false := decide_eq_false hkl
        have dg : decide (f.len ≤ (2 : Int)) = true := decide_eq_true (by omega)
        by_cases hv : b2 = 0
        · rw [decide_eq_true hv] at hat
          have e1 := ne_false hv
          have HP2 : Hid (∀ j, j < 2 + 1 → fitAt x.sorts.length y.sizes f (if j = 0 then b0 else if j = 1 then b1 else b2) j = true) := fun j hj => by
            by_cases hjk : j < 2
            · exact HP.out j hjk
            · obtain rfl : j = 2 := by omega
              exact hat
          clear hat hv
          go_wp2_with fail
          go_quiet (fail)
          go_wp2_with fail
          go_roundw
          case rel => exact ⟨2 + 1, by omega, by go_num, HP2, below_dN HB.out⟩
          case measure => simp [intOf]
        · rw [decide_eq_false hv] at hat
          obtain rfl := HNo2.out hat
          have e1 := ne_true hv
          clear hat hv
          go_wp2_with fail
          go_quiet (fail)
          go_wp2_with fail
          go_ret
          exact ⟨rfl, below_dN (HB0.out.trans (HB.out.mono HB0.out.size))⟩
    · obtain rfl := HYes.out HP.out
      go_wp2
      go_ret
      exact ⟨rfl, HB0.out.trans (HB.out.mono HB0.out.size)⟩
end Go.Proofs.YtfbjgadgfjnamaaGreatDoor
