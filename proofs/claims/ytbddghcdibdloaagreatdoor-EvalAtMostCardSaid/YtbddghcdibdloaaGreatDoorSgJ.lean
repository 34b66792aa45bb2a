/- Package sig's mayFun and mayMacro. -/
import Derived.Test.YtbddghcdibdloaaGreatDoorSgE
import Derived.Test.YtbddghcdibdloaaGreatDoorSexTm2
import Derived.Deep.RegionHeld3
import Derived.BigQuiet
namespace Go.Proofs.YtbddghcdibdloaaGreatDoor
open Go.RowKit
set_option linter.unusedVariables false
theorem take_flat {α : Type} {f : α → List Value} {n : Nat} (hn : ∀ x, (f x).length = n) : ∀ (l : List α) (k : Nat), k ≤ l.length → (l.flatMap f).take (k * n) = (l.take k).flatMap f
  | _, 0, _ => by simp
  | [], k + 1, h => by simp at h
  | y :: r, k + 1, h => by
    simp only [List.flatMap_cons, List.take_succ_cons]
    rw [Nat.succ_mul, Nat.add_comm, ← take_flat hn r k (by simpa using h), List.take_append, hn]
    rw [List.take_of_length_le (by rw [hn]; omega), Nat.add_sub_cancel_left]
theorem take_snoc' {α : Type} {l : List α} {k : Nat} {y : α} (h : l[k]? = some y) : l.take (k + 1) = l.take k ++ [y] := by
  rw [List.take_add_one, h]; rfl
def argV (f : FunA) (k : Nat) : Int := if k = 0 then f.a0 else if k = 1 then f.a1 else f.a2
def argAt (n : Nat) (f : FunA) (k : Nat) : Bool := if (k : Int) < f.len then thereA n (argV f k) else decide (argV f k = 0)
def funB (n : Nat) (f : FunA) : Bool := decide (0 ≤ f.len) && (decide (f.len ≤ 3) && (thereA n f.res && (argAt n f 0 && (argAt n f 1 && argAt n f 2))))
theorem arg_at_0 (a b c : Int) (w : World) : (Instr.index 27 (.agg #[.int .i64 a, .int .i64 b, .int .i64 c]) (.int .i64 0)).run Tryz.prog w = .ok (.int .i64 a) w := by kernel_rfl
theorem arg_at_1 (a b c : Int) (w : World) : (Instr.index 27 (.agg #[.int .i64 a, .int .i64 b, .int .i64 c]) (.int .i64 1)).run Tryz.prog w = .ok (.int .i64 b) w := by kernel_rfl
theorem arg_at_2 (a b c : Int) (w : World) : (Instr.index 27 (.agg #[.int .i64 a, .int .i64 b, .int .i64 c]) (.int .i64 2)).run Tryz.prog w = .ok (.int .i64 c) w := by kernel_rfl
theorem arg_at (f : FunA) (k : Nat) (hk : k < 3) (w : World) : (Instr.index 27 (.agg #[.int .i64 f.a0, .int .i64 f.a1, .int .i64 f.a2]) (.int .i64 (k : Int))).run Tryz.prog w = .ok (.int .i64 (argV f k)) w := by
  obtain rfl | rfl | rfl : k = 0 ∨ k = 1 ∨ k = 2 := by omega
  · exact arg_at_0 _ _ _ w
  · exact arg_at_1 _ _ _ w
  · exact arg_at_2 _ _ _ w
theorem argV_wf {f : FunA} (h : FunOk f) (k : Nat) : I64 (argV f k) := by
  unfold argV
  split
  · exact h.a0
  · split
    · exact h.a1
    · exact h.a2
theorem funB_no {n : Nat} {f : FunA} {k : Nat} (hk : k < 3) (h : argAt n f k = false) : funB n f = false := by
  unfold funB
  obtain rfl | rfl | rfl : k = 0 ∨ k = 1 ∨ k = 2 := by omega
  all_goals simp [h]
theorem funB_yes {n : Nat} {f : FunA} (h0 : 0 ≤ f.len) (h1 : f.len ≤ 3) (h2 : thereA n f.res = true) (h : ∀ j, j < 3 → argAt n f j = true) : funB n f = true := by
  unfold funB
  rw [decide_eq_true h0, decide_eq_true h1, h2, h 0 (by omega), h 1 (by omega), h 2 (by omega)]; rfl
set_option maxRecDepth 100000 in
set_option maxHeartbeats 1000000 in
theorem mayFun_any (x : SigV) (f : FunA) (r : Bool) (w : World) (hG : GS w) (hR : SigR w x) (hf : FunOk f) (hl : x.sorts.length ≤ 100) (hr : funB x.sorts.length f = r) :
    Calls Tryz.prog 64 #[.agg #[.slice x.sa x.sorts.length x.sc, .slice x.fa x.funs.length x.fc, .slice x.ma x.macs.length x.mc], .agg #[.string f.name, .int .i64 f.len, .int .i64 f.a0, .int .i64 f.a1, .int .i64 f.a2, .int .i64 f.res]] w fun e w' => e = .returned (.bool r) ∧ Below w.heap.size w w' := by
  have HS : ∀ i q, thereA x.sorts.length i = q → I64 i → Hid (∀ W, Below w.heap.size w W → Calls Tryz.prog 75 #[.agg #[.slice x.sa x.sorts.length x.sc, .slice x.fa x.funs.length x.fc, .slice x.ma x.macs.length x.mc], .int .i64 i] W fun e w' => e = .returned (.bool q) ∧ Below W.heap.size W w') := fun i q h1 h2 W hW => maySort_any x i q W (hG.below hW) (hR.below hW) h1 h2 hl
  have HF := Lib.hid hf
  have hb0 : Below w.heap.size w ((w.alloc (.cells #[.slice x.sa x.sorts.length x.sc, .slice x.fa x.funs.length x.fc, .slice x.ma x.macs.length x.mc] 34)).alloc (.cells #[.string f.name, .int .i64 f.len, .int .i64 f.a0, .int .i64 f.a1, .int .i64 f.a2, .int .i64 f.res] 29)) := ((Below.refl _ _).alloc (Nat.le_refl _) _).alloc (by simp) _
  have HB0 := Lib.hid hb0
  clear hG hR hf hl hb0
  by_cases h0 : f.len < 0
  · have e0 : funB x.sorts.length f = false := by unfold funB; rw [decide_eq_false (by omega)]; rfl
    rw [e0] at hr
    subst hr
    clear e0 HS
    go_enter Tryz.func64, Tryz.ntmps64
    go_wp2
    go_ret
    exact ⟨rfl, HB0.out⟩
  by_cases h1 : 3 < f.len
  · have e0 : funB x.sorts.length f = false := by unfold funB; rw [decide_eq_false (p := f.len ≤ 3) (by omega)]; simp
    rw [e0] at hr
    subst hr
    clear e0 HS
    go_enter Tryz.func64, Tryz.ntmps64
    go_wp2
    go_ret
    exact ⟨rfl, HB0.out⟩
  cases hq : thereA x.sorts.length f.res with
  | false =>
    have e0 : funB x.sorts.length f = false := by unfold funB; rw [hq]; simp
    rw [e0] at hr
    subst hr
    have HC := HS _ _ hq HF.out.res
    clear e0 HS hq
    go_enter Tryz.func64, Tryz.ntmps64
    go_wp2_with (go_at_call 75; refine (HC.out _ HB0.out).mono ?_; rintro e w1 ⟨rfl, hb1⟩)
    go_ret
    exact ⟨rfl, HB0.out.trans (hb1.mono (by simp; omega))⟩
  | true =>
    have HC := HS _ _ hq HF.out.res
    have HQ := Lib.hid hq
    have HRR := Lib.hid hr
    clear hq hr
    have hX0 : ((w.alloc (.cells #[.slice x.sa x.sorts.length x.sc, .slice x.fa x.funs.length x.fc, .slice x.ma x.macs.length x.mc] 34)).alloc (.cells #[.string f.name, .int .i64 f.len, .int .i64 f.a0, .int .i64 f.a1, .int .i64 f.a2, .int .i64 f.res] 29)).heap[w.heap.size]? = some (.cells #[.slice x.sa x.sorts.length x.sc, .slice x.fa x.funs.length x.fc, .slice x.ma x.macs.length x.mc] 34 (0, 0)) := (Below.heap_alloc _ _ _ (by simp)).trans (heap_alloc_new w _)
    have hY0 : ((w.alloc (.cells #[.slice x.sa x.sorts.length x.sc, .slice x.fa x.funs.length x.fc, .slice x.ma x.macs.length x.mc] 34)).alloc (.cells #[.string f.name, .int .i64 f.len, .int .i64 f.a0, .int .i64 f.a1, .int .i64 f.a2, .int .i64 f.res] 29)).heap[w.heap.size + 1]? = some (.cells #[.string f.name, .int .i64 f.len, .int .i64 f.a0, .int .i64 f.a1, .int .i64 f.a2, .int .i64 f.res] 29 (0, 0)) := by
      have := heap_alloc_new (w.alloc (.cells #[.slice x.sa x.sorts.length x.sc, .slice x.fa x.funs.length x.fc, .slice x.ma x.macs.length x.mc] 34)) (.cells #[.string f.name, .int .i64 f.len, .int .i64 f.a0, .int .i64 f.a1, .int .i64 f.a2, .int .i64 f.res] 29)
      rwa [World.size_alloc] at this
    have HX0 := Lib.hid hX0
    have HY0 := Lib.hid hY0
    clear hX0 hY0
    go_enter Tryz.func64, Tryz.ntmps64
    go_wp2_with (go_at_call 75; refine (HC.out _ HB0.out).mono ?_; rintro e w1 ⟨rfl, hb1⟩; obtain ⟨hc1, hf1⟩ := bcell hb1)
    have HB1 := Lib.hid (HB0.out.trans (hb1.mono (by simp; omega)))
    have HX1 := Lib.hid ((hb1.block _ (by simp; omega)).trans HX0.out)
    have HY1 := Lib.hid ((hb1.block _ (by simp)).trans HY0.out)
    clear hb1 hc1 hf1
    go_loopw [24] (fun i wr => ∃ k : Nat, k ≤ 3 ∧ i = .int .i64 k ∧ Hid (∀ j, j < k → argAt x.sorts.length f j = true) ∧ Hid (Below w.heap.size w wr) ∧ Hid (wr.heap[w.heap.size]? = some (.cells #[.slice x.sa x.sorts.length x.sc, .slice x.fa x.funs.length x.fc, .slice x.ma x.macs.length x.mc] 34 (0, 0))) ∧ Hid (wr.heap[w.heap.size + 1]? = some (.cells #[.string f.name, .int .i64 f.len, .int .i64 f.a0, .int .i64 f.a1, .int .i64 f.a2, .int .i64 f.res] 29 (0, 0)))) (fun i _ => 3 - (intOf i).toNat)
    case atStart => exact ⟨0, Nat.zero_le _, rfl, fun j hj => by omega, HB1, HX1, HY1⟩
    case round =>
      obtain ⟨k, hk3, rfl, HP, HB, HX, HY⟩ := hrel
      have x0 := cell_of_row _ _ 0 _ _ _ HX.out
      have x1 := cell_of_row _ _ 1 _ _ _ HX.out
      have x2 := cell_of_row _ _ 2 _ _ _ HX.out
      have y1 := cell_of_row _ _ 1 _ _ _ HY.out
      simp only [List.getElem?_toArray, List.getElem?_cons_zero, List.getElem?_cons_succ] at x0 x1 x2 y1
      have hz := (Array.getElem?_eq_some_iff.1 HX.out).1
      have hz1 := (Array.getElem?_eq_some_iff.1 HY.out).1
      by_cases hlt : k < 3
      · have hidx := arg_at f k hlt
        have hwf := argV_wf HF.out k
        have hat : argAt x.sorts.length f k = if (k : Int) < f.len then thereA x.sorts.length (argV f k) else decide (argV f k = 0) := rfl
        have HNO : argAt x.sorts.length f k = false → r = false := fun h => by rw [← HRR.out]; exact funB_no hlt h
        generalize argV f k = v at hidx hwf hat
        by_cases hkl : (k : Int) < f.len
        · rw [if_pos hkl] at hat
          cases hq : thereA x.sorts.length v with
          | true =>
            rw [hq] at hat
            have HC := HS _ _ hq hwf
            have HP2 : Hid (∀ j, j < k + 1 → argAt x.sorts.length f j = true) := fun j hj => by
              by_cases hjk : j < k
              · exact HP.out j hjk
              · obtain rfl : j = k := by omega
                exact hat
            clear hq HNO hat
            go_wp2_with (go_at_call 75; refine (HC.out _ HB.out).mono ?_; rintro e w2 ⟨rfl, hb2⟩; obtain ⟨hc2, hf2⟩ := bcell hb2)
            exact ⟨⟨k + 1, by omega, by go_num, HP2, HB.out.trans (hb2.mono HB.out.size), (hb2.block _ hz).trans HX.out, (hb2.block _ hz1).trans HY.out⟩, by simp [intOf]; omega⟩
          | false =>
            rw [hq] at hat
            have HC := HS _ _ hq hwf
            obtain rfl := HNO hat
            clear hq HNO hat
            go_wp2_with (go_at_call 75; refine (HC.out _ HB.out).mono ?_; rintro e w2 ⟨rfl, hb2⟩; obtain ⟨hc2, hf2⟩ := bcell hb2)
            go_ret
            exact ⟨rfl, HB.out.trans (hb2.mono HB.out.size)⟩
        · rw [if_neg hkl] at hat
          by_cases hv : v = 0
          · rw [decide_eq_true hv] at hat
            have hne := ne_false hv
            have HP2 : Hid (∀ j, j < k + 1 → argAt x.sorts.length f j = true) := fun j hj => by
              by_cases hjk : j < k
              · exact HP.out j hjk
              · obtain rfl : j = k := by omega
                exact hat
            clear HNO hat hv
            go_wp2
            exact ⟨⟨k + 1, by omega, by go_num, HP2, HB, HX, HY⟩, by simp [intOf]; omega⟩
          · rw [decide_eq_false hv] at hat
            have hne := ne_true hv
            obtain rfl := HNO hat
            clear HNO hat hv
            go_wp2
            go_ret
            exact ⟨rfl, HB.out⟩
      · obtain rfl : k = 3 := by omega
        obtain rfl : r = true := by rw [← HRR.out]; exact funB_yes (by omega) (by omega) HQ.out HP.out
        go_wp2
        go_ret
        exact ⟨rfl, HB.out⟩
end Go.Proofs.YtbddghcdibdloaaGreatDoor
