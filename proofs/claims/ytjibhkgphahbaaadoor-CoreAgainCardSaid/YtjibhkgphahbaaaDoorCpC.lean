/- Core: Is. -/
import Derived.Test.YtjibhkgphahbaaaDoorCpB
import Derived.Test.YtjibhkgphahbaaaDoorCoL
namespace Go.Proofs.YtjibhkgphahbaaaDoor.Tm
open Go.RowKit
set_option linter.unusedVariables false
def isBaB (l : List NodeA) (i : Int) : Bool := decide ((splitA l i).1 = i) && decide ((nodA l i).sort = 1)
/-- The node is as those of a core table are. -/
def isCoB (l : List NodeA) (n : NodeA) : Bool :=
  if n.op = 4 ∨ n.op = 5 ∨ n.op = 8 ∨ n.op = 9 then false
  else if n.op = 1 then !decide ((nodA l n.a0).op = 1)
  else if n.op = 6 then !(decide ((nodA l n.a0).sort = 1) && decide ((nodA l n.a1).sort = 1)) && (!decide (n.a0 = n.a1) || decide ((nodA l n.a0).sort = 0))
  else if n.op = 12 then !decide (n.a0 = n.a1) && isBaB l n.a0 && isBaB l n.a1
  else true
def badC (l : List NodeA) (n : NodeA) : Bool := !isCoB l n
set_option maxRecDepth 100000 in
set_option maxHeartbeats 4000000 in
theorem isBase_any (l : List NodeA) (a : Option Addr) (c i : Nat) (q : Bool) (w : World) (hA : TabR w l a c) (hl : l.length ≤ 3000) (hi : i < l.length) (hq : isBaB l i = q) :
    Calls Tryd.prog 43 #[.slice a l.length c, .int .i64 i] w fun e w' => e = .returned (.bool q) ∧ Below w.heap.size w w' := by
  have hn := nodA_get hi
  obtain ⟨n, hnn⟩ : ∃ n, nodA l i = n := ⟨_, rfl⟩
  rw [hnn] at hn
  obtain ⟨p, hp⟩ : ∃ p, splitA l i = p := ⟨_, rfl⟩
  have HS : Hid (∀ V, Below w.heap.size w V → Calls Tryd.prog 59 #[.slice a l.length c, .int .i64 i] V fun e w' => e = .returned (.tuple #[.int .i64 p.1, .int .i64 p.2]) ∧ Below V.heap.size V w') := fun V hV => split_any l a c i p V (hA.below hV) hi hl hp
  have HND : Hid (∀ V, Below w.heap.size w V → ∃ g o : Nat, a = some ⟨g, o, none⟩ ∧ g < V.heap.size ∧ V.cell? ⟨g, o + i * 8 + 5, none⟩ = some (.int .i64 n.sort)) := fun V hV => by
    obtain ⟨g, o, h, hg, q0, q1, q2, q3, q4, q5, q6, q7⟩ := (hA.below hV).node hn
    exact ⟨g, o, h, hg, q5⟩
  have hcap := hA.le
  have hii : (i : Int) < (l.length : Int) := by omega
  have hi0 : (0 : Int) ≤ (i : Int) := by omega
  unfold isBaB at hq
  rw [hp, hnn] at hq
  obtain ⟨g, o, rfl, hg, q5⟩ := HND.out w (Below.refl _ _)
  clear hg q5
  have HND2 : Hid (∀ V, Below w.heap.size w V → g < V.heap.size ∧ V.cell? ⟨g, o + i * 8 + 5, none⟩ = some (.int .i64 n.sort)) := fun V hV => by
    obtain ⟨g', o', h, r⟩ := HND.out V hV
    cases h; exact r
  clear HND hA hn hp hnn
  by_cases h1 : p.1 = (i : Int)
  · by_cases h2 : n.sort = 1
    · obtain rfl : true = q := by rw [← hq, decide_eq_true h1, decide_eq_true h2]; rfl
      have e1 := eq_t h1
      have e2 := eq_t h2
      clear h1 h2 hq
      go_enter Tryd.func43, Tryd.ntmps43
      go_wp2_with (first | (go_at_call 59; refine (HS.out _ (Below.refl _ _)).mono ?_; rintro e w1 ⟨rfl, hb1⟩; have HB1 := Lib.hid hb1; obtain ⟨hg, q5⟩ := HND2.out w1 hb1; clear hb1) | fail)
      go_ret
      exact ⟨rfl, HB1.out⟩
    · obtain rfl : false = q := by rw [← hq, decide_eq_false h2, Bool.and_false]
      have e1 := eq_t h1
      have e2 := eq_f h2
      clear h1 h2 hq
      go_enter Tryd.func43, Tryd.ntmps43
      go_wp2_with (first | (go_at_call 59; refine (HS.out _ (Below.refl _ _)).mono ?_; rintro e w1 ⟨rfl, hb1⟩; have HB1 := Lib.hid hb1; obtain ⟨hg, q5⟩ := HND2.out w1 hb1; clear hb1) | fail)
      go_ret
      exact ⟨rfl, HB1.out⟩
  · obtain rfl : false = q := by rw [← hq, decide_eq_false h1]; rfl
    have e1 := eq_f h1
    clear h1 hq
    go_enter Tryd.func43, Tryd.ntmps43
    go_wp2_with (first | (go_at_call 59; refine (HS.out _ (Below.refl _ _)).mono ?_; rintro e w1 ⟨rfl, hb1⟩; have HB1 := Lib.hid hb1; obtain ⟨hg, q5⟩ := HND2.out w1 hb1; clear hb1) | fail)
    go_ret
    exact ⟨rfl, HB1.out⟩
set_option maxRecDepth 100000 in
set_option maxHeartbeats 8000000 in
theorem isCore_any (l : List NodeA) (a : Option Addr) (c k : Nat) (n : NodeA) (q : Bool) (w : World) (hA : TabR w l a c) (hl : l.length ≤ 3000) (hn : NodeOk n) (hst : standsB n k = true) (hk : k ≤ l.length) (hq : isCoB l n = q) :
    Calls Tryd.prog 28 #[.slice a l.length c, .agg #[.int .i8 n.op, .int .i8 n.len, .int .i64 n.a0, .int .i64 n.a1, .int .i64 n.a2, .int .i64 n.sort, .int .i64 n.fn, .int .i64 n.num]] w fun e w' => e = .returned (.bool q) ∧ Below w.heap.size w w' := by
  obtain ⟨W0, hW0⟩ : ∃ W0, W0 = w.alloc (.cells #[.int .i8 n.op, .int .i8 n.len, .int .i64 n.a0, .int .i64 n.a1, .int .i64 n.a2, .int .i64 n.sort, .int .i64 n.fn, .int .i64 n.num] 36) := ⟨_, rfl⟩
  have hB0 : Below w.heap.size w W0 := by rw [hW0]; exact (Below.refl _ w).alloc (Nat.le_refl _) _
  have hn0 : W0.heap[w.heap.size]? = some (.cells #[.int .i8 n.op, .int .i8 n.len, .int .i64 n.a0, .int .i64 n.a1, .int .i64 n.a2, .int .i64 n.sort, .int .i64 n.fn, .int .i64 n.num] 36 (0, 0)) := by rw [hW0]; exact heap_alloc_new w _
  obtain ⟨n0, n1, n2, n3, n4, n5, n6, n7, zn⟩ := node_box hn0
  obtain ⟨_, hlen, harg⟩ := stands_args hst
  have hone : n.op = 1 → n.len = 1 := fun e => by rcases hlen with h | h; · omega
                                                  · rw [h, e]; decide
  have htwo : n.op = 6 ∨ n.op = 12 → n.len = 2 := fun e => by
    rcases hlen with h | h
    · omega
    · rw [h]; rcases e with e | e <;> rw [e] <;> decide
  have HA0 : Hid (TabR W0 l a c) := hA.below hB0
  have HB0 := Lib.hid hB0
  have hcap := hA.le
  clear hA hn0 hB0 n1 n4 n5 n6 n7
  unfold isCoB at hq
  have HNo : n.op = 4 ∨ n.op = 5 ∨ n.op = 8 ∨ n.op = 9 ∨ ¬ (n.op = 4 ∨ n.op = 5 ∨ n.op = 8 ∨ n.op = 9) := by omega
  rcases HNo with ho | ho | ho | ho | ho
  · obtain rfl : false = q := by rw [← hq, if_pos (by omega)]
    have d4 := eq_t ho
    clear hq ho hone htwo hlen harg
    go_enter Tryd.func28, Tryd.ntmps28
    go_wp2_with fail
    rw [← hW0]
    clear hW0
    go_quiet (fail)
    go_wp2
    go_ret
    exact ⟨rfl, below_drewN HB0.out⟩
  · obtain rfl : false = q := by rw [← hq, if_pos (by omega)]
    have d4 := eq_f (show ¬ n.op = 4 by omega)
    have d5 := eq_t ho
    clear hq ho hone htwo hlen harg
    go_enter Tryd.func28, Tryd.ntmps28
    go_wp2_with fail
    rw [← hW0]
    clear hW0
    go_quiet (fail)
    go_wp2
    go_ret
    exact ⟨rfl, below_drewN HB0.out⟩
  · obtain rfl : false = q := by rw [← hq, if_pos (by omega)]
    have d4 := eq_f (show ¬ n.op = 4 by omega)
    have d5 := eq_f (show ¬ n.op = 5 by omega)
    have d8 := eq_t ho
    clear hq ho hone htwo hlen harg
    go_enter Tryd.func28, Tryd.ntmps28
    go_wp2_with fail
    rw [← hW0]
    clear hW0
    go_quiet (fail)
    go_wp2
    go_ret
    exact ⟨rfl, below_drewN HB0.out⟩
  · obtain rfl : false = q := by rw [← hq, if_pos (by omega)]
    have d4 := eq_f (show ¬ n.op = 4 by omega)
    have d5 := eq_f (show ¬ n.op = 5 by omega)
    have d8 := eq_f (show ¬ n.op = 8 by omega)
    have d9 := eq_t ho
    clear hq ho hone htwo hlen harg
    go_enter Tryd.func28, Tryd.ntmps28
    go_wp2_with fail
    rw [← hW0]
    clear hW0
    go_quiet (fail)
    go_wp2
    go_ret
    exact ⟨rfl, below_drewN HB0.out⟩
  rw [if_neg ho] at hq
  have d4 := eq_f (show ¬ n.op = 4 by omega)
  have d5 := eq_f (show ¬ n.op = 5 by omega)
  have d8 := eq_f (show ¬ n.op = 8 by omega)
  have d9 := eq_f (show ¬ n.op = 9 by omega)
  clear ho
  by_cases h1 : n.op = 1
  · rw [if_pos h1] at hq
    have d1 := eq_t h1
    have ha0 := harg 0 (by rw [hone h1]; decide)
    obtain ⟨m, hm⟩ : ∃ m : Nat, n.a0 = (m : Int) := ⟨n.a0.toNat, by have : argA n 0 = n.a0 := rfl; omega⟩
    have hml : m < l.length := by have : argA n 0 = n.a0 := rfl; omega
    obtain ⟨y, hy⟩ : ∃ y, nodA l m = y := ⟨_, rfl⟩
    have hg := nodA_get hml
    rw [hm, hy] at hq
    rw [hy] at hg
    obtain ⟨g, o, rfl, hgz, q0, q1, q2, q3, q4, q5, q6, q7⟩ := HA0.out.node hg
    rw [hm] at n2
    have hmi : (m : Int) < (l.length : Int) := by omega
    have hm0 : (0 : Int) ≤ (m : Int) := by omega
    clear hg hy q1 q2 q3 q4 q5 q6 q7 harg hlen hone htwo h1 ha0 hm
    by_cases h2 : y.op = 1
    · obtain rfl : false = q := by rw [← hq, decide_eq_true h2]; rfl
      have f1 := eq_t h2
      have f2 := ne_f h2
      clear h2 hq
      go_enter Tryd.func28, Tryd.ntmps28
      go_wp2_with fail
      rw [← hW0]
      clear hW0
      go_quiet (fail)
      go_wp2
      go_ret
      exact ⟨rfl, below_drewN HB0.out⟩
    · obtain rfl : true = q := by rw [← hq, decide_eq_false h2]; rfl
      have f1 := eq_f h2
      have f2 := ne_t h2
      clear h2 hq
      go_enter Tryd.func28, Tryd.ntmps28
      go_wp2_with fail
      rw [← hW0]
      clear hW0
      go_quiet (fail)
      go_wp2
      go_ret
      exact ⟨rfl, below_drewN HB0.out⟩
  rw [if_neg h1] at hq
  have d1 := eq_f h1
  by_cases h6 : n.op = 6
  · rw [if_pos h6] at hq
    have d6 := eq_t h6
    have hm0_ := harg 0 (by rw [htwo (by omega)]; decide)
    have hm1_ := harg 1 (by rw [htwo (by omega)]; decide)
    obtain ⟨m, hm⟩ : ∃ m : Nat, n.a0 = (m : Int) := ⟨n.a0.toNat, by have : argA n 0 = n.a0 := rfl; omega⟩
    obtain ⟨m', hm'⟩ : ∃ m' : Nat, n.a1 = (m' : Int) := ⟨n.a1.toNat, by have : argA n 1 = n.a1 := rfl; omega⟩
    have hml : m < l.length := by have : argA n 0 = n.a0 := rfl; omega
    have hml' : m' < l.length := by have : argA n 1 = n.a1 := rfl; omega
    obtain ⟨y, hy⟩ : ∃ y, nodA l m = y := ⟨_, rfl⟩
    obtain ⟨y', hy'⟩ : ∃ y', nodA l m' = y' := ⟨_, rfl⟩
    have hg := nodA_get hml
    have hg' := nodA_get hml'
    rw [hm, hm', hy, hy'] at hq
    rw [hy] at hg
    rw [hy'] at hg'
    obtain ⟨g, o, rfl, hgz, -, -, -, -, -, q5, -, -⟩ := HA0.out.node hg
    obtain ⟨g', o', he, -, -, -, -, -, -, q5', -, -⟩ := HA0.out.node hg'
    cases he
    rw [hm] at n2
    rw [hm'] at n3
    have hmi : (m : Int) < (l.length : Int) := by omega
    have hm0 : (0 : Int) ≤ (m : Int) := by omega
    have hmi' : (m' : Int) < (l.length : Int) := by omega
    have hm0' : (0 : Int) ≤ (m' : Int) := by omega
    clear hg hy hg' hy' harg hlen hone htwo h1 h6 hm0_ hm1_ hm hm'
    have h5 : True := trivial
    by_cases h2 : y.sort = 1
    · by_cases h3 : y'.sort = 1
      · have h4 : True := trivial
        obtain rfl : false = q := by rw [← hq, decide_eq_true h2, decide_eq_true h3]; rfl
        have f1 := eq_t h2
        have f2 := eq_t h3
        clear hq
        clear h2 h3 h4 h5
        go_enter Tryd.func28, Tryd.ntmps28
        go_wp2_with fail
        rw [← hW0]
        clear hW0
        go_quiet (fail)
        go_wp2
        go_ret
        exact ⟨rfl, below_drewN HB0.out⟩
      · by_cases h4 : (m : Int) = (m' : Int)
        · have hz : ¬ y.sort = 0 := by omega
          obtain rfl : false = q := by rw [← hq, decide_eq_false h3, decide_eq_true h4, decide_eq_false hz, Bool.and_false]; rfl
          have f1 := eq_t h2
          have f2 := eq_f h3
          have f3 := ne_f h4
          have f4 := eq_f hz
          clear hq
          clear h2 h3 h5 hz
          have HH := Lib.hid h4
          clear h4
          go_enter Tryd.func28, Tryd.ntmps28
          go_wp2_with fail
          rw [← hW0]
          clear hW0
          go_quiet (fail)
          go_wp2
          go_ret
          exact ⟨rfl, below_drewN HB0.out⟩
        · skip
          obtain rfl : true = q := by rw [← hq, decide_eq_false h3, decide_eq_false h4, Bool.and_false]; rfl
          have f1 := eq_t h2
          have f2 := eq_f h3
          have f3 := ne_t h4
          clear hq
          clear h2 h3 h4 h5
          go_enter Tryd.func28, Tryd.ntmps28
          go_wp2_with fail
          rw [← hW0]
          clear hW0
          go_quiet (fail)
          go_wp2
          go_ret
          exact ⟨rfl, below_drewN HB0.out⟩
    · have h3 : True := trivial
      by_cases h4 : (m : Int) = (m' : Int)
      · by_cases hz : y.sort = 0
        · skip
          obtain rfl : true = q := by rw [← hq, decide_eq_false h2, decide_eq_true h4, decide_eq_true hz]; rfl
          have f1 := eq_f h2
          have f3 := ne_f h4
          have f4 := eq_t hz
          clear hq
          clear h2 h3 h5 hz
          have HH := Lib.hid h4
          clear h4
          go_enter Tryd.func28, Tryd.ntmps28
          go_wp2_with fail
          rw [← hW0]
          clear hW0
          go_quiet (fail)
          go_wp2
          go_ret
          exact ⟨rfl, below_drewN HB0.out⟩
        · skip
          obtain rfl : false = q := by rw [← hq, decide_eq_false h2, decide_eq_true h4, decide_eq_false hz]; rfl
          have f1 := eq_f h2
          have f3 := ne_f h4
          have f4 := eq_f hz
          clear hq
          clear h2 h3 h5 hz
          have HH := Lib.hid h4
          clear h4
          go_enter Tryd.func28, Tryd.ntmps28
          go_wp2_with fail
          rw [← hW0]
          clear hW0
          go_quiet (fail)
          go_wp2
          go_ret
          exact ⟨rfl, below_drewN HB0.out⟩
      · skip
        obtain rfl : true = q := by rw [← hq, decide_eq_false h2, decide_eq_false h4]; rfl
        have f1 := eq_f h2
        have f3 := ne_t h4
        clear hq
        clear h2 h3 h4 h5
        go_enter Tryd.func28, Tryd.ntmps28
        go_wp2_with fail
        rw [← hW0]
        clear hW0
        go_quiet (fail)
        go_wp2
        go_ret
        exact ⟨rfl, below_drewN HB0.out⟩
  rw [if_neg h6] at hq
  have d6 := eq_f h6
  by_cases h12 : n.op = 12
  · rw [if_pos h12] at hq
    have d12 := eq_t h12
    have hm0_ := harg 0 (by rw [htwo (by omega)]; decide)
    have hm1_ := harg 1 (by rw [htwo (by omega)]; decide)
    obtain ⟨m, hm⟩ : ∃ m : Nat, n.a0 = (m : Int) := ⟨n.a0.toNat, by have : argA n 0 = n.a0 := rfl; omega⟩
    obtain ⟨m', hm'⟩ : ∃ m' : Nat, n.a1 = (m' : Int) := ⟨n.a1.toNat, by have : argA n 1 = n.a1 := rfl; omega⟩
    have hml : m < l.length := by have : argA n 0 = n.a0 := rfl; omega
    have hml' : m' < l.length := by have : argA n 1 = n.a1 := rfl; omega
    rw [hm, hm'] at hq
    rw [hm] at n2
    rw [hm'] at n3
    obtain ⟨u, hu⟩ : ∃ u, isBaB l m = u := ⟨_, rfl⟩
    obtain ⟨v, hv⟩ : ∃ v, isBaB l m' = v := ⟨_, rfl⟩
    have HU : Hid (∀ V, Below W0.heap.size W0 V → Calls Tryd.prog 43 #[.slice a l.length c, .int .i64 m] V fun e w' => e = .returned (.bool u) ∧ Below V.heap.size V w') := fun V hV => isBase_any l a c m u V (HA0.out.below hV) hl hml hu
    have HV : Hid (∀ V, Below W0.heap.size W0 V → Calls Tryd.prog 43 #[.slice a l.length c, .int .i64 m'] V fun e w' => e = .returned (.bool v) ∧ Below V.heap.size V w') := fun V hV => isBase_any l a c m' v V (HA0.out.below hV) hl hml' hv
    rw [hu, hv] at hq
    clear harg hlen hone htwo h1 h6 h12 hm0_ hm1_ hu hv hm hm'
    by_cases h4 : (m : Int) = (m' : Int)
    · skip
      obtain rfl : false = q := by rw [← hq, decide_eq_true h4]; rfl
      have f1 := ne_f h4
      clear hq
      have HH := Lib.hid h4
      clear h4
      go_enter Tryd.func28, Tryd.ntmps28
      go_wp2_with fail
      rw [← hW0]
      clear hW0
      go_quiet (fail)
      go_wp2
      go_ret
      exact ⟨rfl, below_drewN HB0.out⟩
    · cases u with
      | false =>
        obtain rfl : false = q := by rw [← hq, decide_eq_false h4]; rfl
        have f1 := ne_t h4
        clear hq
        have HH := Lib.hid h4
        clear h4
        go_enter Tryd.func28, Tryd.ntmps28
        go_wp2_with fail
        rw [← hW0]
        clear hW0
        go_quiet (fail)
        go_wp2_with fail
        refine (HU.out _ (below_drewN (Below.refl _ _))).mono ?_
        rintro e w1 ⟨rfl, hb1⟩
        have HB1 : Hid (Below W0.heap.size W0 w1) := (below_drewN (Below.refl _ _)).trans hb1
        clear hb1
        go_wp2_with fail
        go_ret
        exact ⟨rfl, HB0.out.trans (HB1.out.mono HB0.out.size)⟩
      | true =>
        cases v with
        | false =>
          obtain rfl : false = q := by rw [← hq, decide_eq_false h4]; rfl
          have f1 := ne_t h4
          clear hq
          have HH := Lib.hid h4
          clear h4
          go_enter Tryd.func28, Tryd.ntmps28
          go_wp2_with fail
          rw [← hW0]
          clear hW0
          go_quiet (fail)
          go_wp2_with fail
          refine (HU.out _ (below_drewN (Below.refl _ _))).mono ?_
          rintro e w1 ⟨rfl, hb1⟩
          have HB1 : Hid (Below W0.heap.size W0 w1) := (below_drewN (Below.refl _ _)).trans hb1
          clear hb1
          go_wp2_with fail
          refine (HV.out _ HB1.out).mono ?_
          rintro e w2 ⟨rfl, hb2⟩
          have HB2 : Hid (Below W0.heap.size W0 w2) := HB1.out.trans (hb2.mono HB1.out.size)
          clear hb2
          go_wp2_with fail
          go_ret
          exact ⟨rfl, HB0.out.trans (HB2.out.mono HB0.out.size)⟩
        | true =>
          obtain rfl : true = q := by rw [← hq, decide_eq_false h4]; rfl
          have f1 := ne_t h4
          clear hq
          have HH := Lib.hid h4
          clear h4
          go_enter Tryd.func28, Tryd.ntmps28
          go_wp2_with fail
          rw [← hW0]
          clear hW0
          go_quiet (fail)
          go_wp2_with fail
          refine (HU.out _ (below_drewN (Below.refl _ _))).mono ?_
          rintro e w1 ⟨rfl, hb1⟩
          have HB1 : Hid (Below W0.heap.size W0 w1) := (below_drewN (Below.refl _ _)).trans hb1
          clear hb1
          go_wp2_with fail
          refine (HV.out _ HB1.out).mono ?_
          rintro e w2 ⟨rfl, hb2⟩
          have HB2 : Hid (Below W0.heap.size W0 w2) := HB1.out.trans (hb2.mono HB1.out.size)
          clear hb2
          go_wp2_with fail
          go_ret
          exact ⟨rfl, HB0.out.trans (HB2.out.mono HB0.out.size)⟩
  rw [if_neg h12] at hq
  have d12 := eq_f h12
  obtain rfl : true = q := hq
  clear h1 h6 h12 hlen harg hone htwo
  go_enter Tryd.func28, Tryd.ntmps28
  go_wp2_with fail
  rw [← hW0]
  clear hW0
  go_quiet (fail)
  go_wp2
  go_ret
  exact ⟨rfl, below_drewN HB0.out⟩
end Go.Proofs.YtjibhkgphahbaaaDoor.Tm
