/- Package term's below: the arguments of a node, one after the other. -/
import Derived.Test.YtdjiebiobdhihaaDoorTmF
import Derived.RangeFuncNested
import Derived.RangeFuncWrites
import Derived.RangeFuncLeaves
import Derived.Shelf.Abstract
import Derived.OwnWalkIn
import Derived.TacticsInMore
import Derived.LoopNIn
import Derived.LoopIn
import Derived.WalkKit
namespace Go.Proofs.YtdjiebiobdhihaaDoor
open Go.RowKit Go.Shelf
set_option linter.unusedVariables false
attribute [local go_sem] Oper.semAt_some
/-- The argument at place i, if it counts. -/
def pickA (n : NodeA) (at_ i : Nat) : List Nat := if (i : Int) < n.len ∧ 0 ≤ argA n i ∧ argA n i < at_ then [(argA n i).toNat] else []
def upL (n : NodeA) (at_ m : Nat) : List Nat := (List.range m).flatMap (pickA n at_)
/-- The arguments of a node at a place that are places below it. -/
def belowL (n : NodeA) (at_ : Nat) : List Nat := upL n at_ 3
theorem upL_succ (n : NodeA) (at_ m : Nat) : upL n at_ (m + 1) = upL n at_ m ++ pickA n at_ m := by
  unfold upL
  rw [List.range_succ, List.flatMap_append]
  simp
theorem upL_prefix (n : NodeA) (at_ : Nat) {m : Nat} (h : m ≤ 3) : upL n at_ m <+: belowL n at_ := by
  unfold belowL
  have : ∀ k, upL n at_ m <+: upL n at_ (m + k) := fun k => by
    induction k with
    | zero => exact List.prefix_refl _
    | succ k ih => rw [← Nat.add_assoc, upL_succ]; exact ih.trans (List.prefix_append _ _)
  have := this (3 - m)
  rwa [show m + (3 - m) = 3 by omega] at this
theorem pick_yes {n : NodeA} {at_ i : Nat} {q : Nat} (h : (i : Int) < n.len) (hq : argA n i = q) (hlt : q < at_) : pickA n at_ i = [q] := by
  unfold pickA
  rw [if_pos ⟨h, by omega, by omega⟩, hq]; simp
theorem pick_no {n : NodeA} {at_ i : Nat} (h : ¬ ((i : Int) < n.len ∧ 0 ≤ argA n i ∧ argA n i < at_)) : pickA n at_ i = [] := by
  unfold pickA
  rw [if_neg h]
abbrev KS (at_ : Nat) := { k : Nat // k < at_ }
def encK (at_ : Nat) (y : KS at_) : Array Value := #[.int .i64 (y.1 : Nat)]
theorem below_any (l : List NodeA) (a : Option Addr) (c k : Nat) (n : NodeA) (w : World) (hA : TabR w l a c) (hk : l[k]? = some n) (hl : l.length ≤ 1000) :
    Calls Tryd.prog 34 #[.agg #[.slice a l.length c], .int .i64 k] w fun e w' => e = .returned (.func (.func 36) #[] #[.pointer (some ⟨w.heap.size + 1 + 1, 0, none⟩), .pointer (some ⟨w.heap.size + 1, 0, none⟩)]) ∧ ((w.alloc (.cells #[.slice a l.length c] 24)).alloc (.cells #[.int .i64 k] 3)).alloc (.cells #[.int .i8 n.op, .int .i8 n.len, .int .i64 n.a0, .int .i64 n.a1, .int .i64 n.a2, .int .i64 n.sort, .int .i64 n.fn, .int .i64 n.num] 28) = w' := by
  have hlt := (List.getElem?_eq_some_iff.1 hk).1
  obtain ⟨g, o, rfl, hg, q0, q1, q2, q3, q4, q5, q6, q7⟩ := hA.node hk
  have hle := hA.le
  clear hA hk
  go_enter Tryd.func34, Tryd.ntmps34
  go_wp2
  go_ret
  exact ⟨rfl, rfl⟩
/-- What a round keeps for the iterator: its two boxes. -/
def KeepI (Bn Bi : Nat) (A B : World) : Prop := A.heap.size ≤ B.heap.size ∧ B.heap[Bn]? = A.heap[Bn]? ∧ B.heap[Bi]? = A.heap[Bi]?
theorem KeepI.trans {Bn Bi : Nat} {A B C : World} (h : KeepI Bn Bi A B) (k : KeepI Bn Bi B C) : KeepI Bn Bi A C := ⟨Nat.le_trans h.1 k.1, k.2.1.trans h.2.1, k.2.2.trans h.2.2⟩
/-- Between two rounds of the iterator's loop. -/
structure BelS (W : World) (n : NodeA) (at_ Bn Bi : Nat) (J : List (KS at_) → World → Prop) (l : List Nat) (wr : World) : Prop where
  big : W.heap.size ≤ wr.heap.size
  bn : wr.heap[Bn]? = some (.cells #[.int .i8 n.op, .int .i8 n.len, .int .i64 n.a0, .int .i64 n.a1, .int .i64 n.a2, .int .i64 n.sort, .int .i64 n.fn, .int .i64 n.num] 28 (0, 0))
  bi : wr.heap[Bi]? = some (.cells #[.int .i64 at_] 3 (0, 0))
  j : ∃ pre : List (KS at_), pre.map (·.1) = l ∧ J pre wr
theorem rng (m : Nat) (hm : m ≤ 3) : m = 0 ∨ m = 1 ∨ m = 2 ∨ m = 3 := by omega
set_option maxRecDepth 100000 in
set_option maxHeartbeats 4000000 in
theorem below1_in (d : Nat) (hd : 1 ≤ d) (l Bn Bi : Nat) (n : NodeA) (at_ : Nat) (hat : at_ ≤ 1000) (hn : NodeOk n) (W : World) (J Jx : List (KS at_) → World → Prop)
    (hY : ∀ pre y W1, J pre W1 → pre.length < 3 → YieldAt Fence.wide (d - 1) Tryd.prog l (encK at_ y) W1 fun e W' =>
      (e = .returned (.bool true) ∧ J (pre ++ [y]) W' ∧ KeepI Bn Bi W1 W') ∨ (e = .returned (.bool false) ∧ Jx (pre ++ [y]) W'))
    (hB : W.heap[Bn]? = some (.cells #[.int .i8 n.op, .int .i8 n.len, .int .i64 n.a0, .int .i64 n.a1, .int .i64 n.a2, .int .i64 n.sort, .int .i64 n.fn, .int .i64 n.num] 28 (0, 0))) (hI : W.heap[Bi]? = some (.cells #[.int .i64 at_] 3 (0, 0))) (h0 : J [] W) :
    CallsIn Fence.wide d Tryd.prog 36 #[.func (.yield l) #[] #[], .pointer (some ⟨Bn, 0, none⟩), .pointer (some ⟨Bi, 0, none⟩)] W fun e W' => (∃ v, e = .returned v) ∧
      ((∃ ys : List (KS at_), ys.map (·.1) = belowL n at_ ∧ J ys W') ∨ (∃ pre : List (KS at_), pre.map (·.1) <+: belowL n at_ ∧ Jx pre W')) := by
  have HD0 : Hid (BelS W n at_ Bn Bi J [] W) := ⟨Nat.le_refl _, hB, hI, [], rfl, h0⟩
  have b1 := (cell_of_row _ _ 1 _ _ _ hB).trans rfl
  have b2 := (cell_of_row _ _ 2 _ _ _ hB).trans rfl
  have b3 := (cell_of_row _ _ 3 _ _ _ hB).trans rfl
  have b4 := (cell_of_row _ _ 4 _ _ _ hB).trans rfl
  have bz := (Array.getElem?_eq_some_iff.1 hB).1
  have i0 := arr_at0 n.a0 n.a1 n.a2
  have i1 := arr_at1 n.a0 n.a1 n.a2
  have i2 := arr_at2 n.a0 n.a1 n.a2
  obtain ⟨p3, p4⟩ := hn.len
  have HN := Lib.hid hn
  have HY := Lib.hid hY
  have HLn : Hid (∀ m, m ≤ 3 → (upL n at_ m).length ≤ m) := fun m hm => by
    induction m with
    | zero => simp [upL]
    | succ m ih =>
      have := ih (by omega)
      rw [upL_succ, List.length_append]
      have : (pickA n at_ m).length ≤ 1 := by unfold pickA; split <;> simp
      omega
  clear hB hI h0 hY hn
  refine callsIn_of_wp Tryd.func36 rfl trivial ?_ rfl
  simp only [Tryd.ntmps36, List.size_toArray, List.length_cons, List.length_nil, Nat.reduceAdd, Nat.reduceSub, Array.replicate_succ, Array.replicate_zero, List.push_toArray, List.append_toArray, List.nil_append, List.cons_append]
  gi_wp2
  clear b1 b2 b3 b4 bz
  gi_loopw [8] (fun i wr => ∃ m : Nat, m ≤ 3 ∧ i = .int .i64 m ∧ Hid (BelS W n at_ Bn Bi J (upL n at_ m) wr)) (fun i _ => 3 - (intOf i).toNat)
  case atStart => exact ⟨0, Nat.zero_le _, rfl, HD0⟩
  case round =>
    obtain ⟨m, hm3, rfl, HD⟩ := hrel
    have b1 : wr.cell? ⟨Bn, 1, none⟩ = some (.int .i8 n.len) := (cell_of_row _ _ 1 _ _ _ HD.out.bn).trans rfl
    have c0 : wr.cell? ⟨Bi, 0, none⟩ = some (.int .i64 at_) := (cell_of_row _ _ 0 _ _ _ HD.out.bi).trans rfl
    have bz := (Array.getElem?_eq_some_iff.1 HD.out.bn).1
    have bzi := (Array.getElem?_eq_some_iff.1 HD.out.bi).1
    rcases rng m hm3 with rfl | rfl | rfl | rfl
    · by_cases d1 : (0 : Int) < n.len
      rotate_left
      · have HP : Hid (BelS W n at_ Bn Bi J (upL n at_ 1) wr) := by
          have h := HD.out
          have e : upL n at_ 1 = upL n at_ 0 := by rw [upL_succ, pick_no (fun hh => by simp only [argA] at hh; omega), List.append_nil]
          show BelS _ _ _ _ _ _ _ _
          rw [e]; exact h
        clear HD
        gi_wp2
        try (refine ⟨fun _ h => (by cases h), ?_⟩; gi_wp2)
        go_roundw
        case rel => exact ⟨1, by omega, rfl, HP⟩
        case measure => simp [intOf]
      by_cases d2 : n.a0 < 0
      · have HP : Hid (BelS W n at_ Bn Bi J (upL n at_ 1) wr) := by
          have h := HD.out
          have e : upL n at_ 1 = upL n at_ 0 := by rw [upL_succ, pick_no (fun hh => by simp only [argA] at hh; omega), List.append_nil]
          show BelS _ _ _ _ _ _ _ _
          rw [e]; exact h
        clear HD
        gi_wp2
        try (refine ⟨fun _ h => (by cases h), ?_⟩; gi_wp2)
        go_roundw
        case rel => exact ⟨1, by omega, rfl, HP⟩
        case measure => simp [intOf]
      by_cases d3 : n.a0 < at_
      rotate_left
      · have HP : Hid (BelS W n at_ Bn Bi J (upL n at_ 1) wr) := by
          have h := HD.out
          have e : upL n at_ 1 = upL n at_ 0 := by rw [upL_succ, pick_no (fun hh => by simp only [argA] at hh; omega), List.append_nil]
          show BelS _ _ _ _ _ _ _ _
          rw [e]; exact h
        clear HD
        gi_wp2
        try (refine ⟨fun _ h => (by cases h), ?_⟩; gi_wp2)
        go_roundw
        case rel => exact ⟨1, by omega, rfl, HP⟩
        case measure => simp [intOf]
      obtain ⟨q, hq⟩ : ∃ q : Nat, n.a0 = q := ⟨n.a0.toNat, by omega⟩
      have hqa : q < at_ := by omega
      obtain ⟨pre, hpre, hj⟩ := HD.out.j
      have hplen : pre.length < 3 := by
        have h1 := congrArg List.length hpre
        have h2 := HLn.out 0 (by omega)
        rw [List.length_map] at h1
        omega
      obtain ⟨fn, tmps, assign, body, hyl, hRn⟩ := HY.out pre ⟨q, hqa⟩ wr hj hplen
      simp only [encK] at hyl
      rw [← hq] at hyl
      have HRn := Lib.hid hRn
      have HPre : Hid ((pre ++ [(⟨q, hqa⟩ : KS at_)]).map (·.1) = upL n at_ 1) := by
        show _ = _
        rw [upL_succ, pick_yes (q := q) d1 hq hqa, List.map_append, hpre]
        rfl
      have HDb := HD
      clear hRn hpre hj hq
      gi_wp2
      refine HRn.out.mono ?_
      rintro e W3 (⟨rfl, hJ3, hk3⟩ | ⟨rfl, hJx3⟩)
      · have HD3 : Hid (BelS W n at_ Bn Bi J (upL n at_ 1) W3) := ⟨Nat.le_trans HDb.out.big hk3.1, hk3.2.1.trans HDb.out.bn, hk3.2.2.trans HDb.out.bi, _, HPre.out, hJ3⟩
        clear hJ3 hk3 hyl
        gi_wp2
        go_roundw
        case rel => exact ⟨1, by omega, rfl, HD3⟩
        case measure => simp [intOf]
      · have HJx3 := Lib.hid hJx3
        clear hJx3 hyl
        gi_wp2
        refine bodyPost_ret (results_none rfl _ _ _) rfl ?_
        refine ⟨⟨_, rfl⟩, .inr ⟨_, ?_, HJx3.out⟩⟩
        rw [HPre.out]
        exact upL_prefix n at_ (by omega)
    · by_cases d1 : (1 : Int) < n.len
      rotate_left
      · have HP : Hid (BelS W n at_ Bn Bi J (upL n at_ 2) wr) := by
          have h := HD.out
          have e : upL n at_ 2 = upL n at_ 1 := by rw [upL_succ, pick_no (fun hh => by simp only [argA] at hh; omega), List.append_nil]
          show BelS _ _ _ _ _ _ _ _
          rw [e]; exact h
        clear HD
        gi_wp2
        try (refine ⟨fun _ h => (by cases h), ?_⟩; gi_wp2)
        go_roundw
        case rel => exact ⟨2, by omega, rfl, HP⟩
        case measure => simp [intOf]
      by_cases d2 : n.a1 < 0
      · have HP : Hid (BelS W n at_ Bn Bi J (upL n at_ 2) wr) := by
          have h := HD.out
          have e : upL n at_ 2 = upL n at_ 1 := by rw [upL_succ, pick_no (fun hh => by simp only [argA] at hh; omega), List.append_nil]
          show BelS _ _ _ _ _ _ _ _
          rw [e]; exact h
        clear HD
        gi_wp2
        try (refine ⟨fun _ h => (by cases h), ?_⟩; gi_wp2)
        go_roundw
        case rel => exact ⟨2, by omega, rfl, HP⟩
        case measure => simp [intOf]
      by_cases d3 : n.a1 < at_
      rotate_left
      · have HP : Hid (BelS W n at_ Bn Bi J (upL n at_ 2) wr) := by
          have h := HD.out
          have e : upL n at_ 2 = upL n at_ 1 := by rw [upL_succ, pick_no (fun hh => by simp only [argA] at hh; omega), List.append_nil]
          show BelS _ _ _ _ _ _ _ _
          rw [e]; exact h
        clear HD
        gi_wp2
        try (refine ⟨fun _ h => (by cases h), ?_⟩; gi_wp2)
        go_roundw
        case rel => exact ⟨2, by omega, rfl, HP⟩
        case measure => simp [intOf]
      obtain ⟨q, hq⟩ : ∃ q : Nat, n.a1 = q := ⟨n.a1.toNat, by omega⟩
      have hqa : q < at_ := by omega
      obtain ⟨pre, hpre, hj⟩ := HD.out.j
      have hplen : pre.length < 3 := by
        have h1 := congrArg List.length hpre
        have h2 := HLn.out 1 (by omega)
        rw [List.length_map] at h1
        omega
      obtain ⟨fn, tmps, assign, body, hyl, hRn⟩ := HY.out pre ⟨q, hqa⟩ wr hj hplen
      simp only [encK] at hyl
      rw [← hq] at hyl
      have HRn := Lib.hid hRn
      have HPre : Hid ((pre ++ [(⟨q, hqa⟩ : KS at_)]).map (·.1) = upL n at_ 2) := by
        show _ = _
        rw [upL_succ, pick_yes (q := q) d1 hq hqa, List.map_append, hpre]
        rfl
      have HDb := HD
      clear hRn hpre hj hq
      gi_wp2
      refine HRn.out.mono ?_
      rintro e W3 (⟨rfl, hJ3, hk3⟩ | ⟨rfl, hJx3⟩)
      · have HD3 : Hid (BelS W n at_ Bn Bi J (upL n at_ 2) W3) := ⟨Nat.le_trans HDb.out.big hk3.1, hk3.2.1.trans HDb.out.bn, hk3.2.2.trans HDb.out.bi, _, HPre.out, hJ3⟩
        clear hJ3 hk3 hyl
        gi_wp2
        go_roundw
        case rel => exact ⟨2, by omega, rfl, HD3⟩
        case measure => simp [intOf]
      · have HJx3 := Lib.hid hJx3
        clear hJx3 hyl
        gi_wp2
        refine bodyPost_ret (results_none rfl _ _ _) rfl ?_
        refine ⟨⟨_, rfl⟩, .inr ⟨_, ?_, HJx3.out⟩⟩
        rw [HPre.out]
        exact upL_prefix n at_ (by omega)
    · by_cases d1 : (2 : Int) < n.len
      rotate_left
      · have HP : Hid (BelS W n at_ Bn Bi J (upL n at_ 3) wr) := by
          have h := HD.out
          have e : upL n at_ 3 = upL n at_ 2 := by rw [upL_succ, pick_no (fun hh => by simp only [argA] at hh; omega), List.append_nil]
          show BelS _ _ _ _ _ _ _ _
          rw [e]; exact h
        clear HD
        gi_wp2
        try (refine ⟨fun _ h => (by cases h), ?_⟩; gi_wp2)
        go_roundw
        case rel => exact ⟨3, by omega, rfl, HP⟩
        case measure => simp [intOf]
      by_cases d2 : n.a2 < 0
      · have HP : Hid (BelS W n at_ Bn Bi J (upL n at_ 3) wr) := by
          have h := HD.out
          have e : upL n at_ 3 = upL n at_ 2 := by rw [upL_succ, pick_no (fun hh => by simp only [argA] at hh; omega), List.append_nil]
          show BelS _ _ _ _ _ _ _ _
          rw [e]; exact h
        clear HD
        gi_wp2
        try (refine ⟨fun _ h => (by cases h), ?_⟩; gi_wp2)
        go_roundw
        case rel => exact ⟨3, by omega, rfl, HP⟩
        case measure => simp [intOf]
      by_cases d3 : n.a2 < at_
      rotate_left
      · have HP : Hid (BelS W n at_ Bn Bi J (upL n at_ 3) wr) := by
          have h := HD.out
          have e : upL n at_ 3 = upL n at_ 2 := by rw [upL_succ, pick_no (fun hh => by simp only [argA] at hh; omega), List.append_nil]
          show BelS _ _ _ _ _ _ _ _
          rw [e]; exact h
        clear HD
        gi_wp2
        try (refine ⟨fun _ h => (by cases h), ?_⟩; gi_wp2)
        go_roundw
        case rel => exact ⟨3, by omega, rfl, HP⟩
        case measure => simp [intOf]
      obtain ⟨q, hq⟩ : ∃ q : Nat, n.a2 = q := ⟨n.a2.toNat, by omega⟩
      have hqa : q < at_ := by omega
      obtain ⟨pre, hpre, hj⟩ := HD.out.j
      have hplen : pre.length < 3 := by
        have h1 := congrArg List.length hpre
        have h2 := HLn.out 2 (by omega)
        rw [List.length_map] at h1
        omega
      obtain ⟨fn, tmps, assign, body, hyl, hRn⟩ := HY.out pre ⟨q, hqa⟩ wr hj hplen
      simp only [encK] at hyl
      rw [← hq] at hyl
      have HRn := Lib.hid hRn
      have HPre : Hid ((pre ++ [(⟨q, hqa⟩ : KS at_)]).map (·.1) = upL n at_ 3) := by
        show _ = _
        rw [upL_succ, pick_yes (q := q) d1 hq hqa, List.map_append, hpre]
        rfl
      have HDb := HD
      clear hRn hpre hj hq
      gi_wp2
      refine HRn.out.mono ?_
      rintro e W3 (⟨rfl, hJ3, hk3⟩ | ⟨rfl, hJx3⟩)
      · have HD3 : Hid (BelS W n at_ Bn Bi J (upL n at_ 3) W3) := ⟨Nat.le_trans HDb.out.big hk3.1, hk3.2.1.trans HDb.out.bn, hk3.2.2.trans HDb.out.bi, _, HPre.out, hJ3⟩
        clear hJ3 hk3 hyl
        gi_wp2
        go_roundw
        case rel => exact ⟨3, by omega, rfl, HD3⟩
        case measure => simp [intOf]
      · have HJx3 := Lib.hid hJx3
        clear hJx3 hyl
        gi_wp2
        refine bodyPost_ret (results_none rfl _ _ _) rfl ?_
        refine ⟨⟨_, rfl⟩, .inr ⟨_, ?_, HJx3.out⟩⟩
        rw [HPre.out]
        exact upL_prefix n at_ (by omega)
    · obtain ⟨ys, hys, hjy⟩ := HD.out.j
      have HJ := Lib.hid hjy
      clear hjy HD
      gi_wp2
      go_end0
      exact ⟨⟨_, rfl⟩, .inl ⟨ys, hys, HJ.out⟩⟩
theorem below_stops (d : Nat) (hd : 1 ≤ d) (Bn Bi : Nat) (n : NodeA) (at_ : Nat) (hat : at_ ≤ 1000) (hn : NodeOk n) (W0 : World)
    (hB : W0.heap[Bn]? = some (.cells #[.int .i8 n.op, .int .i8 n.len, .int .i64 n.a0, .int .i64 n.a1, .int .i64 n.a2, .int .i64 n.sort, .int .i64 n.fn, .int .i64 n.num] 28 (0, 0))) (hI : W0.heap[Bi]? = some (.cells #[.int .i64 at_] 3 (0, 0))) :
    SeqStopsK Fence.wide d Tryd.prog 36 #[.pointer (some ⟨Bn, 0, none⟩), .pointer (some ⟨Bi, 0, none⟩)] (encK at_) (KeepI Bn Bi) (fun ys => ys.map (·.1) = belowL n at_) (fun pre => pre.map (·.1) <+: belowL n at_) 3 W0 := fun l J Jx W hWW _ _ hY h0 =>
  below1_in d hd l Bn Bi n at_ hat hn W J Jx hY ((hWW.block Bn (Array.getElem?_eq_some_iff.1 hB).1).trans hB) ((hWW.block Bi (Array.getElem?_eq_some_iff.1 hI).1).trans hI) h0
end Go.Proofs.YtdjiebiobdhihaaDoor
