/- Core: Is, whole. -/
import Derived.Test.YtfbjgadgfjnamaaGreatDoorZCpB
import Derived.Test.YtfbjgadgfjnamaaGreatDoorZCoL
namespace Go.Proofs.YtfbjgadgfjnamaaGreatDoor.Tm
open Go.RowKit
set_option linter.unusedVariables false
def isBaB (l : List NodeA) (i : Int) : Bool := decide ((splitA l i).1 = i) && decide ((nodA l i).sort = 1)
/-- The node is as those of a core table are. -/
def isCoB (l : List NodeA) (n : NodeA) : Bool :=
  if n.op = 4 ∨ n.op = 5 ∨ n.op = 8 ∨ n.op = 9 then false
  else if n.op = 1 then !decide ((nodA l n.a0).op = 1)
  else if n.op = 6 then !(decide ((nodA l n.a0).sort = 1) && decide ((nodA l n.a1).sort = 1)) && (!decide (n.a0 = n.a1) || decide ((nodA l n.a0).sort = 0))
  else if n.op = 12 then !decide (n.a0 = n.a1) && isBaB l n.a0 && isBaB l n.a1
  else true
def badC (l : List NodeA) (n : NodeA) : Bool := !isCoB l n
set_option maxRecDepth 100000 in
set_option maxHeartbeats 4000000 in
theorem isBase_any (l : List NodeA) (a : Option Addr) (c i : Nat) (q : Bool) (w : World) (hA : TabR w l a c) (hl : l.length ≤ 3000) (hi : i < l.length) (hq : isBaB l i = q) :
    Calls Tryz.prog 86 #[.slice a l.length c, .int .i64 i] w fun e w' => e = .returned (.bool q) ∧ Below w.heap.size w w' := by
  have hn := nodA_get hi
  obtain ⟨n, hnn⟩ : ∃ n, nodA l i = n := ⟨_, rfl⟩
  rw [hnn] at hn
  obtain ⟨p, hp⟩ : ∃ p, splitA l i = p := ⟨_, rfl⟩
  have HS : Hid (∀ V, Below w.heap.size w V → Calls Tryz.prog 129 #[.slice a l.length c, .int .i64 i] V fun e w' => e = .returned (.tuple #[.int .i64 p.1, .int .i64 p.2]) ∧ Below V.heap.size V w') := fun V hV => split_any l a c i p V (hA.below hV) hi hl hp
  have HND : Hid (∀ V, Below w.heap.size w V → ∃ g o : Nat, a = some ⟨g, o, none⟩ ∧ g < V.heap.size ∧ V.cell? ⟨g, o + i * 8 + 5, none⟩ = some (.int .i64 n.sort)) := fun V hV => by
    obtain ⟨g, o, h, hg, q0, q1, q2, q3, q4, q5, q6, q7⟩ := (hA.below hV).node hn
    exact ⟨g, o, h, hg, q5⟩
  have hcap := hA.le
  have hii : (i : Int) < (l.length : Int) := by omega
  have hi0 : (0 : Int) ≤ (i : Int) := by omega
  unfold isBaB at hq
  rw [hp, hnn] at hq
  obtain ⟨g, o, rfl, hg, q5⟩ := HND.out w (Below.refl _ _)
  clear hg q5
  have HND2 : Hid (∀ V, Below w.heap.size w V → g < V.heap.size ∧ V.cell? ⟨g, o + i * 8 + 5, none⟩ = some (.int .i64 n.sort)) := fun V hV => by
    obtain ⟨g', o', h, r⟩ := HND.out V hV
    cases h; exact r
  clear HND hA hn hp hnn
  by_cases h1 : p.1 = (i : Int)
  · by_cases h2 : n.sort = 1
    · obtain rfl : true = q := by rw [← hq, decide_eq_true h1, decide_eq_true h2]; rfl
      have e1 := eq_t h1
      have e2 := eq_t h2
      clear h1 h2 hq
      go_enter Tryz.func86, Tryz.ntmps86
      go_wp2_with (first | (go_at_call 129; refine (HS.out _ (Below.refl _ _)).mono ?_; rintro e w1 ⟨rfl, hb1⟩; have HB1 := Lib.hid hb1; obtain ⟨hg, q5⟩ := HND2.out w1 hb1; clear hb1) | fail)
      go_ret
      exact ⟨rfl, HB1.out⟩
    · obtain rfl : false = q := by rw [← hq, decide_eq_false h2, Bool.and_false]
      have e1 := eq_t h1
      have e2 := eq_f h2
      clear h1 h2 hq
      go_enter Tryz.func86, Tryz.ntmps86
      go_wp2_with (first | (go_at_call 129; refine (HS.out _ (Below.refl _ _)).mono ?_; rintro e w1 ⟨rfl, hb1⟩; have HB1 := Lib.hid hb1; obtain ⟨hg, q5⟩ := HND2.out w1 hb1; clear hb1) | fail)
      go_ret
      exact ⟨rfl, HB1.out⟩
  · obtain rfl : false = q := by rw [← hq, decide_eq_false h1]; rfl
    have e1 := eq_f h1
    clear h1 hq
    go_enter Tryz.func86, Tryz.ntmps86
    go_wp2_with (first | (go_at_call 129; refine (HS.out _ (Below.refl _ _)).mono ?_; rintro e w1 ⟨rfl, hb1⟩; have HB1 := Lib.hid hb1; obtain ⟨hg, q5⟩ := HND2.out w1 hb1; clear hb1) | fail)
    go_ret
    exact ⟨rfl, HB1.out⟩
set_option maxRecDepth 100000 in
set_option maxHeartbeats 8000000 in
theorem isCore_any (l : List NodeA) (a : Option Addr) (c k : Nat) (n : NodeA) (q : Bool) (w : World) (hA : TabR w l a c) (hl : l.length ≤ 3000) (hn : NodeOk n) (hst : standsB n k = true) (hk : k ≤ l.length) (hq : isCoB l n = q) :
    Calls Tryz.prog 56 #[.slice a l.length c, .agg #[.int .i8 n.op, .int .i8 n.len, .int .i64 n.a0, .int .i64 n.a1, .int .i64 n.a2, .int .i64 n.sort, .int .i64 n.fn, .int .i64 n.num]] w fun e w' => e = .returned (.bool q) ∧ Below w.heap.size w w' := by
  obtain ⟨W0, hW0⟩ : ∃ W0, W0 = w.alloc (.cells #[.int .i8 n.op, .int .i8 n.len, .int .i64 n.a0, .int .i64 n.a1, .int .i64 n.a2, .int .i64 n.sort, .int .i64 n.fn, .int .i64 n.num] 47) := ⟨_, rfl⟩
  have hB0 : Below w.heap.size w W0 := by rw [hW0]; exact (Below.refl _ w).alloc (Nat.le_refl _) _
  have hn0 : W0.heap[w.heap.size]? = some (.cells #[.int .i8 n.op, .int .i8 n.len, .int .i64 n.a0, .int .i64 n.a1, .int .i64 n.a2, .int .i64 n.sort, .int .i64 n.fn, .int .i64 n.num] 47 (0, 0)) := by rw [hW0]; exact heap_alloc_new w _
  obtain ⟨n0, n1, n2, n3, n4, n5, n6, n7, zn⟩ := node_box hn0
  obtain ⟨_, hlen, harg⟩ := stands_args hst
  have hone : n.op = 1 → n.len = 1 := fun e => by rcases hlen with h | h; · omega
                                                  · rw [h, e]; decide
  have htwo : n.op = 6 ∨ n.op = 12 → n.len = 2 := fun e => by
    rcases hlen with h | h
    · omega
    · rw [h]; rcases e with e | e <;> rw [e] <;> decide
  have HA0 : Hid (TabR W0 l a c) := hA.below hB0
  have HB0 := Lib.hid hB0
  have hcap := hA.le
  clear hA hn0 hB0 n1 n4 n5 n6 n7
  unfold isCoB at hq
  have HNo : n.op = 4 ∨ n.op = 5 ∨ n.op = 8 ∨ n.op = 9 ∨ ¬ (n.op = 4 ∨ n.op = 5 ∨ n.op = 8 ∨ n.op = 9) := by omega
  rcases HNo with ho | ho | ho | ho | ho
  · obtain rfl : false = q := by rw [← hq, if_pos (by omega)]
    have d4 := eq_t ho
    clear hq ho hone htwo hlen harg
    go_enter Tryz.func56, Tryz.ntmps56
    go_wp2_with fail
    rw [← hW0]
    clear hW0
    go_quiet (fail)
    go_wp2
    go_ret
    exact ⟨rfl, below_drewN HB0.out⟩
  · obtain rfl : false = q := by rw [← hq, if_pos (by omega)]
    have d4 := eq_f (show ¬ n.op = 4 by omega)
    have d5 := eq_t ho
    clear hq ho hone htwo hlen harg
    go_enter Tryz.func56, Tryz.ntmps56
    go_wp2_with fail
    rw [← hW0]
    clear hW0
    go_quiet (fail)
    go_wp2
    go_ret
    exact ⟨rfl, below_drewN HB0.out⟩
  · obtain rfl : false = q := by rw [← hq, if_pos (by omega)]
    have d4 := eq_f (show ¬ n.op = 4 by omega)
    have d5 := eq_f (show ¬ n.op = 5 by omega)
    have d8 := eq_t ho
    clear hq ho hone htwo hlen harg
    go_enter Tryz.func56, Tryz.ntmps56
    go_wp2_with fail
    rw [← hW0]
    clear hW0
    go_quiet (fail)
    go_wp2
    go_ret
    exact ⟨rfl, below_drewN HB0.out⟩
  · obtain rfl : false = q := by rw [← hq, if_pos (by omega)]
    have d4 := eq_f (show ¬ n.op = 4 by omega)
    have d5 := eq_f (show ¬ n.op = 5 by omega)
    have d8 := eq_f (show ¬ n.op = 8 by omega)
    have d9 := eq_t ho
    clear hq ho hone htwo hlen harg
    go_enter Tryz.func56, Tryz.ntmps56
    go_wp2_with fail
    rw [← hW0]
    clear hW0
    go_quiet (fail)
    go_wp2
    go_ret
    exact ⟨rfl, below_drewN HB0.out⟩
  rw [if_neg ho] at hq
  have d4 := eq_f (show ¬ n.op = 4 by omega)
  have d5 := eq_f (show ¬ n.op = 5 by omega)
  have d8 := eq_f (show ¬ n.op = 8 by omega)
  have d9 := eq_f (show ¬ n.op = 9 by omega)
  clear ho
  by_cases h1 : n.op = 1
  · rw [if_pos h1] at hq
    have d1 := eq_t h1
    have ha0 := harg 0 (by rw [hone h1]; decide)
    obtain ⟨m, hm⟩ : ∃ m : Nat, n.a0 = (m : Int) := ⟨n.a0.toNat, by have : argA n 0 = n.a0 := rfl; omega⟩
    have hml : m < l.length := by have : argA n 0 = n.a0 := rfl; omega
    obtain ⟨y, hy⟩ : ∃ y, nodA l m = y := ⟨_, rfl⟩
    have hg := nodA_get hml
    rw [hm, hy] at hq
    rw [hy] at hg
    obtain ⟨g, o, rfl, hgz, q0, q1, q2, q3, q4, q5, q6, q7⟩ := HA0.out.node hg
    rw [hm] at n2
    have hmi : (m : Int) < (l.length : Int) := by omega
    have hm0 : (0 : Int) ≤ (m : Int) := by omega
    clear hg hy q1 q2 q3 q4 q5 q6 q7 harg hlen hone htwo h1 ha0 hm
    by_cases h2 : y.op = 1
    · obtain rfl : false = q := by rw [← hq, decide_eq_true h2]; rfl
      have f1 := eq_t h2
      have f2 := ne_f h2
      clear h2 hq
      go_enter Tryz.func56, Tryz.ntmps56
      go_wp2_with fail
      rw [← hW0]
      clear hW0
      go_quiet (fail)
      go_wp2
      go_ret
      exact ⟨rfl, below_drewN HB0.out⟩
    · obtain rfl : true = q := by rw [← hq, decide_eq_false h2]; rfl
      have f1 := eq_f h2
      have f2 := ne_t h2
      clear h2 hq
      go_enter Tryz.func56, Tryz.ntmps56
      go_wp2_with fail
      rw [← hW0]
      clear hW0
      go_quiet (fail)
      go_wp2
      go_ret
      exact ⟨rfl, below_drewN HB0.out⟩
  rw [if_neg h1] at hq
  have d1 := eq_f h1
  by_cases h6 : n.op = 6
  · rw [if_pos h6] at hq
    have d6 := eq_t h6
    have hm0_ := harg 0 (by rw [htwo (by omega)]; decide)
    have hm1_ := harg 1 (by rw [htwo (by omega)]; decide)
    obtain ⟨m, hm⟩ : ∃ m : Nat, n.a0 = (m : Int) := ⟨n.a0.toNat, by have : argA n 0 = n.a0 := rfl; omega⟩
    obtain ⟨m', hm'⟩ : ∃ m' : Nat, n.a1 = (m' : Int) := ⟨n.a1.toNat, by have : argA n 1 = n.a1 := rfl; omega⟩
    have hml : m < l.length := by have : argA n 0 = n.a0 := rfl; omega
    have hml' : m' < l.length := by have : argA n 1 = n.a1 := rfl; omega
    obtain ⟨y, hy⟩ : ∃ y, nodA l m = y := ⟨_, rfl⟩
    obtain ⟨y', hy'⟩ : ∃ y', nodA l m' = y' := ⟨_, rfl⟩
    have hg := nodA_get hml
    have hg' := nodA_get hml'
    rw [hm, hm', hy, hy'] at hq
    rw [hy] at hg
    rw [hy'] at hg'
    obtain ⟨g, o, rfl, hgz, -, -, -, -, -, q5, -, -⟩ := HA0.out.node hg
    obtain ⟨g', o', he, -, -, -, -, -, -, q5', -, -⟩ := HA0.out.node hg'
    cases he
    rw [hm] at n2
    rw [hm'] at n3
    have hmi : (m : Int) < (l.length : Int) := by omega
    have hm0 : (0 : Int) ≤ (m : Int) := by omega
    have hmi' : (m' : Int) < (l.length : Int) := by omega
    have hm0' : (0 : Int) ≤ (m' : Int) := by omega
    clear hg hy hg' hy' harg hlen hone htwo h1 h6 hm0_ hm1_ hm hm'
    have h5 : True := trivial
    by_cases h2 : y.sort = 1
    · by_cases h3 : y'.sort = 1
      · have h4 : True := trivial
        obtain rfl : false = q := by rw [← hq, decide_eq_true h2, decide_eq_true h3]; rfl
        have f1 := eq_t h2
        have f2 := eq_t h3
        clear hq
        clear h2 h3 h4 h5
        go_enter Tryz.func56, Tryz.ntmps56
        go_wp2_with fail
        rw [← hW0]
        clear hW0
        go_quiet (fail)
        go_wp2
        go_ret
        exact ⟨rfl, below_drewN HB0.out⟩
      · by_cases h4 : (m : Int) = (m' : Int)
        · have hz : ¬ y.sort = 0 := by omega
          obtain rfl : false = q := by rw [← hq, decide_eq_false h3, decide_eq_true h4, decide_eq_false hz, Bool.and_false]; rfl
          have f1 := eq_t h2
          have f2 := eq_f h3
          have f3 := ne_f h4
          have f4 := eq_f hz
          clear hq
          clear h2 h3 h5 hz
          have HH := Lib.hid h4
          clear h4
          go_enter Tryz.func56, Tryz.ntmps56
          go_wp2_with fail
          rw [← hW0]
          clear hW0
          go_quiet (fail)
          go_wp2
          go_ret
          exact ⟨rfl, below_drewN HB0.out⟩
        · skip
          obtain rfl : true = q := by rw [← hq, decide_eq_false h3, decide_eq_false h4, Bool.and_false]; rfl
          have f1 := eq_t h2
          have f2 := eq_f h3
          have f3 := ne_t h4
          clear hq
          clear h2 h3 h4 h5
          go_enter Tryz.func56, Tryz.ntmps56
          go_wp2_with fail
          rw [← hW0]
          clear hW0
          go_quiet (fail)
          go_wp2
          go_ret
          exact ⟨rfl, below_drewN HB0.out⟩
    · have h3 : True := trivial
      by_cases h4 : (m : Int) = (m' : Int)
      · by_cases hz : y.sort = 0
        · skip
          obtain rfl : true = q := by rw [← hq, decide_eq_false h2, decide_eq_true h4, decide_eq_true hz]; rfl
          have f1 := eq_f h2
          have f3 := ne_f h4
          have f4 := eq_t hz
          clear hq
          clear h2 h3 h5 hz
          have HH := Lib.hid h4
          clear h4
          go_enter Tryz.func56, Tryz.ntmps56
          go_wp2_with fail
          rw [← hW0]
          clear hW0
          go_quiet (fail)
          go_wp2
          go_ret
          exact ⟨rfl, below_drewN HB0.out⟩
        · skip
          obtain rfl : false = q := by rw [← hq, decide_eq_false h2, decide_eq_true h4, decide_eq_false hz]; rfl
          have f1 := eq_f h2
          have f3 := ne_f h4
          have f4 := eq_f hz
          clear hq
          clear h2 h3 h5 hz
          have HH := Lib.hid h4
          clear h4
          go_enter Tryz.func56, Tryz.ntmps56
          go_wp2_with fail
          rw [← hW0]
          clear hW0
          go_quiet (fail)
          go_wp2
          go_ret
          exact ⟨rfl, below_drewN HB0.out⟩
      · skip
        obtain rfl : true = q := by rw [← hq, decide_eq_false h2, decide_eq_false h4]; rfl
        have f1 := eq_f h2
        have f3 := ne_t h4
        clear hq
        clear h2 h3 h4 h5
        go_enter Tryz.func56, Tryz.ntmps56
        go_wp2_with fail
        rw [← hW0]
        clear hW0
        go_quiet (fail)
        go_wp2
        go_ret
        exact ⟨rfl, below_drewN HB0.out⟩
  rw [if_neg h6] at hq
  have d6 := eq_f h6
  by_cases h12 : n.op = 12
  · rw [if_pos h12] at hq
    have d12 := eq_t h12
    have hm0_ := harg 0 (by rw [htwo (by omega)]; decide)
    have hm1_ := harg 1 (by rw [htwo (by omega)]; decide)
    obtain ⟨m, hm⟩ : ∃ m : Nat, n.a0 = (m : Int) := ⟨n.a0.toNat, by have : argA n 0 = n.a0 := rfl; omega⟩
    obtain ⟨m', hm'⟩ : ∃ m' : Nat, n.a1 = (m' : Int) := ⟨n.a1.toNat, by have : argA n 1 = n.a1 := rfl; omega⟩
    have hml : m < l.length := by have : argA n 0 = n.a0 := rfl; omega
    have hml' : m' < l.length := by have : argA n 1 = n.a1 := rfl; omega
    rw [hm, hm'] at hq
    rw [hm] at n2
    rw [hm'] at n3
    obtain ⟨u, hu⟩ : ∃ u, isBaB l m = u := ⟨_, rfl⟩
    obtain ⟨v, hv⟩ : ∃ v, isBaB l m' = v := ⟨_, rfl⟩
    have HU : Hid (∀ V, Below W0.heap.size W0 V → Calls Tryz.prog 86 #[.slice a l.length c, .int .i64 m] V fun e w' => e = .returned (.bool u) ∧ Below V.heap.size V w') := fun V hV => isBase_any l a c m u V (HA0.out.below hV) hl hml hu
    have HV : Hid (∀ V, Below W0.heap.size W0 V → Calls Tryz.prog 86 #[.slice a l.length c, .int .i64 m'] V fun e w' => e = .returned (.bool v) ∧ Below V.heap.size V w') := fun V hV => isBase_any l a c m' v V (HA0.out.below hV) hl hml' hv
    rw [hu, hv] at hq
    clear harg hlen hone htwo h1 h6 h12 hm0_ hm1_ hu hv hm hm'
    by_cases h4 : (m : Int) = (m' : Int)
    · skip
      obtain rfl : false = q := by rw [← hq, decide_eq_true h4]; rfl
      have f1 := ne_f h4
      clear hq
      have HH := Lib.hid h4
      clear h4
      go_enter Tryz.func56, Tryz.ntmps56
      go_wp2_with fail
      rw [← hW0]
      clear hW0
      go_quiet (fail)
      go_wp2
      go_ret
      exact ⟨rfl, below_drewN HB0.out⟩
    · cases u with
      | false =>
        obtain rfl : false = q := by rw [← hq, decide_eq_false h4]; rfl
        have f1 := ne_t h4
        clear hq
        have HH := Lib.hid h4
        clear h4
        go_enter Tryz.func56, Tryz.ntmps56
        go_wp2_with fail
        rw [← hW0]
        clear hW0
        go_quiet (fail)
        go_wp2_with fail
        refine (HU.out _ (below_drewN (Below.refl _ _))).mono ?_
        rintro e w1 ⟨rfl, hb1⟩
        have HB1 : Hid (Below W0.heap.size W0 w1) := (below_drewN (Below.refl _ _)).trans hb1
        clear hb1
        go_wp2_with fail
        go_ret
        exact ⟨rfl, HB0.out.trans (HB1.out.mono HB0.out.size)⟩
      | true =>
        cases v with
        | false =>
          obtain rfl : false = q := by rw [← hq, decide_eq_false h4]; rfl
          have f1 := ne_t h4
          clear hq
          have HH := Lib.hid h4
          clear h4
          go_enter Tryz.func56, Tryz.ntmps56
          go_wp2_with fail
          rw [← hW0]
          clear hW0
          go_quiet (fail)
          go_wp2_with fail
          refine (HU.out _ (below_drewN (Below.refl _ _))).mono ?_
          rintro e w1 ⟨rfl, hb1⟩
          have HB1 : Hid (Below W0.heap.size W0 w1) := (below_drewN (Below.refl _ _)).trans hb1
          clear hb1
          go_wp2_with fail
          refine (HV.out _ HB1.out).mono ?_
          rintro e w2 ⟨rfl, hb2⟩
          have HB2 : Hid (Below W0.heap.size W0 w2) := HB1.out.trans (hb2.mono HB1.out.size)
          clear hb2
          go_wp2_with fail
          go_ret
          exact ⟨rfl, HB0.out.trans (HB2.out.mono HB0.out.size)⟩
        | true =>
          obtain rfl : true = q := by rw [← hq, decide_eq_false h4]; rfl
          have f1 := ne_t h4
          clear hq
          have HH := Lib.hid h4
          clear h4
          go_enter Tryz.func56, Tryz.ntmps56
          go_wp2_with fail
          rw [← hW0]
          clear hW0
          go_quiet (fail)
          go_wp2_with fail
          refine (HU.out _ (below_drewN (Below.refl _ _))).mono ?_
          rintro e w1 ⟨rfl, hb1⟩
          have HB1 : Hid (Below W0.heap.size W0 w1) := (below_drewN (Below.refl _ _)).trans hb1
          clear hb1
          go_wp2_with fail
          refine (HV.out _ HB1.out).mono ?_
          rintro e w2 ⟨rfl, hb2⟩
          have HB2 : Hid (Below W0.heap.size W0 w2) := HB1.out.trans (hb2.mono HB1.out.size)
          clear hb2
          go_wp2_with fail
          go_ret
          exact ⟨rfl, HB0.out.trans (HB2.out.mono HB0.out.size)⟩
  rw [if_neg h12] at hq
  have d12 := eq_f h12
  obtain rfl : true = q := hq
  clear h1 h6 h12 hlen harg hone htwo
  go_enter Tryz.func56, Tryz.ntmps56
  go_wp2_with fail
  rw [← hW0]
  clear hW0
  go_quiet (fail)
  go_wp2
  go_ret
  exact ⟨rfl, below_drewN HB0.out⟩
end Go.Proofs.YtfbjgadgfjnamaaGreatDoor.Tm
namespace Go.Proofs.YtfbjgadgfjnamaaGreatDoor.Tm
open Go.RowKit
set_option linter.unusedVariables false
def isB (l : List NodeA) : Bool := ordB l && !l.any (badC l)
set_option maxRecDepth 100000 in
set_option maxHeartbeats 4000000 in
theorem cloC_any (l : List NodeA) (a : Option Addr) (c B k : Nat) (n : NodeA) (w : World) (hA : TabR w l a c) (hl : l.length ≤ 3000) (hn : NodeOk n) (hst : standsB n k = true) (hk : k ≤ l.length) (hB : w.heap[B]? = some (.cells #[.slice a l.length c] 33 (0, 0))) :
    Calls Tryz.prog 55 #[.agg #[.int .i8 n.op, .int .i8 n.len, .int .i64 n.a0, .int .i64 n.a1, .int .i64 n.a2, .int .i64 n.sort, .int .i64 n.fn, .int .i64 n.num], .pointer (some ⟨B, 0, none⟩)] w fun e w' => e = .returned (.bool (badC l n)) ∧ Below w.heap.size w w' := by
  obtain ⟨W0, hW0⟩ : ∃ W0, W0 = w.alloc (.cells #[.int .i8 n.op, .int .i8 n.len, .int .i64 n.a0, .int .i64 n.a1, .int .i64 n.a2, .int .i64 n.sort, .int .i64 n.fn, .int .i64 n.num] 47) := ⟨_, rfl⟩
  have hB0 : Below w.heap.size w W0 := by rw [hW0]; exact (Below.refl _ w).alloc (Nat.le_refl _) _
  have hn0 : W0.heap[w.heap.size]? = some (.cells #[.int .i8 n.op, .int .i8 n.len, .int .i64 n.a0, .int .i64 n.a1, .int .i64 n.a2, .int .i64 n.sort, .int .i64 n.fn, .int .i64 n.num] 47 (0, 0)) := by rw [hW0]; exact heap_alloc_new w _
  obtain ⟨n0, n1, n2, n3, n4, n5, n6, n7, zn⟩ := node_box hn0
  have b0 : w.cell? ⟨B, 0, none⟩ = some (.slice a l.length c) := (cell_of_row _ _ 0 _ _ _ hB).trans rfl
  have bz := (Array.getElem?_eq_some_iff.1 hB).1
  obtain ⟨q, hq⟩ : ∃ q, isCoB l n = q := ⟨_, rfl⟩
  have hr : badC l n = !q := by unfold badC; rw [hq]
  have HC : Hid (Calls Tryz.prog 56 #[.slice a l.length c, .agg #[.int .i8 n.op, .int .i8 n.len, .int .i64 n.a0, .int .i64 n.a1, .int .i64 n.a2, .int .i64 n.sort, .int .i64 n.fn, .int .i64 n.num]] W0 fun e w' => e = .returned (.bool q) ∧ Below W0.heap.size W0 w') := (isCore_any l a c k n q W0 (hA.below hB0) hl hn hst hk hq).mono fun e w' ⟨h1, h2⟩ => ⟨h1, h2⟩
  have HB0 := Lib.hid hB0
  rw [hr]
  clear hr hq hA hn hst hB hB0 hn0
  go_enter Tryz.func55, Tryz.ntmps55
  go_wp2_with fail
  rw [← hW0]
  clear hW0
  refine HC.out.mono ?_
  rintro e w1 ⟨rfl, hb1⟩
  have HB1 : Hid (Below w.heap.size w w1) := HB0.out.trans (hb1.mono HB0.out.size)
  clear hb1
  go_wp2_with fail
  go_ret
  exact ⟨rfl, HB1.out⟩
theorem IndexC_any (l : List NodeA) (a : Option Addr) (c B : Nat) (w : World) (hA : TabR w l a c) (hst : ∀ (k : Nat) (n : NodeA), l[k]? = some n → standsB n k = true) (hl : l.length ≤ 3000) (hB : w.heap[B]? = some (.cells #[.slice a l.length c] 33 (0, 0))) :
    Calls Tryz.prog 85 #[.slice a l.length c, .func (.func 55) #[] #[.pointer (some ⟨B, 0, none⟩)]] w fun e w' => (∃ i : Int, e = .returned (.int .i64 i) ∧ ((l.any (badC l) = true ∧ 0 ≤ i) ∨ (l.any (badC l) = false ∧ i = -1))) ∧ Below w.heap.size w w' := by
  obtain ⟨q, hq⟩ : ∃ q, l.any (badC l) = q := ⟨_, rfl⟩
  rw [hq]
  have HQ := Lib.hid hq
  have HC : Hid (∀ (V : World) (k : Nat) (n : NodeA), Below w.heap.size w V → l[k]? = some n → Calls Tryz.prog 55 #[.agg #[.int .i8 n.op, .int .i8 n.len, .int .i64 n.a0, .int .i64 n.a1, .int .i64 n.a2, .int .i64 n.sort, .int .i64 n.fn, .int .i64 n.num], .pointer (some ⟨B, 0, none⟩)] V fun e w' => e = .returned (.bool (badC l n)) ∧ Below V.heap.size V w') := fun V k n hV hn => cloC_any l a c B k n V (hA.below hV) hl (hA.ok n (List.mem_of_getElem? hn)) (hst k n hn) (Nat.le_of_lt (List.getElem?_eq_some_iff.1 hn).1) ((hV.block _ (Array.getElem?_eq_some_iff.1 hB).1).trans hB)
  have HA := Lib.hid hA
  have hcap := hA.le
  have hmx : l.length ≤ 9223372036854775807 := by omega
  clear hA hB hq
  go_enter Tryz.func85, Tryz.ntmps85
  go_wp2
  go_loopw [8] (fun i wr => ∃ k : Nat, k ≤ l.length ∧ i = .int .i64 k ∧ Hid (Below w.heap.size w wr) ∧ Hid ((l.take k).any (badC l) = false)) (fun i _ => l.length - (intOf i).toNat)
  case atStart => exact ⟨0, Nat.zero_le _, rfl, Below.refl _ _, by show _ = _; rw [List.take_zero]; rfl⟩
  case round =>
    obtain ⟨k, hkl, rfl, HW, HE⟩ := hrel
    by_cases hlt : k < l.length
    · obtain ⟨n, hn⟩ : ∃ n, l[k]? = some n := ⟨_, List.getElem?_eq_getElem hlt⟩
      obtain ⟨g, o, rfl, hg, q0, q1, q2, q3, q4, q5, q6, q7⟩ := (HA.out.below HW.out).node hn
      have HN := Lib.hid hn
      obtain ⟨t, ht⟩ : ∃ t, badC l n = t := ⟨_, rfl⟩
      have HCn : Hid (Calls Tryz.prog 55 #[.agg #[.int .i8 n.op, .int .i8 n.len, .int .i64 n.a0, .int .i64 n.a1, .int .i64 n.a2, .int .i64 n.sort, .int .i64 n.fn, .int .i64 n.num], .pointer (some ⟨B, 0, none⟩)] wr fun e w' => e = .returned (.bool t) ∧ Below wr.heap.size wr w') := by show Calls _ _ _ _ _; rw [← ht]; exact HC.out wr k n HW.out hn
      have HT := Lib.hid ht
      clear hn ht
      cases t with
      | true =>
        go_wp2_with (go_at_call 55; refine HCn.out.mono ?_; rintro e w1 ⟨rfl, hb1⟩)
        go_ret
        exact ⟨⟨_, rfl, .inl ⟨HQ.out.symm.trans (any_mem HN.out HT.out), by omega⟩⟩, HW.out.trans (hb1.mono HW.out.size)⟩
      | false =>
        go_wp2_with (go_at_call 55; refine HCn.out.mono ?_; rintro e w1 ⟨rfl, hb1⟩)
        go_roundw
        case rel => exact ⟨k + 1, by omega, by go_num, HW.out.trans (hb1.mono HW.out.size), by show _ = _; rw [any_take HN.out, HE.out, HT.out]; rfl⟩
        case measure => simp [intOf]; omega
    · obtain rfl : k = l.length := by omega
      go_wp2
      go_ret
      exact ⟨⟨_, rfl, .inr ⟨by rw [← HQ.out]; have := HE.out; rwa [List.take_length] at this, rfl⟩⟩, HW.out⟩
theorem ContainsC_any (l : List NodeA) (a : Option Addr) (c B : Nat) (q : Bool) (w : World) (hA : TabR w l a c) (hst : ∀ (k : Nat) (n : NodeA), l[k]? = some n → standsB n k = true) (hl : l.length ≤ 3000) (hB : w.heap[B]? = some (.cells #[.slice a l.length c] 33 (0, 0))) (hq : l.any (badC l) = q) :
    Calls Tryz.prog 54 #[.slice a l.length c, .func (.func 55) #[] #[.pointer (some ⟨B, 0, none⟩)]] w fun e w' => e = .returned (.bool q) ∧ Below w.heap.size w w' := by
  have HI : Hid (Calls Tryz.prog 85 #[.slice a l.length c, .func (.func 55) #[] #[.pointer (some ⟨B, 0, none⟩)]] w fun e w' => (∃ i : Int, e = .returned (.int .i64 i) ∧ decide (0 ≤ i) = q) ∧ Below w.heap.size w w') := by
    refine (IndexC_any l a c B w hA hst hl hB).mono ?_
    rintro e w' ⟨⟨i, rfl, hi⟩, hb⟩
    refine ⟨⟨i, rfl, ?_⟩, hb⟩
    rcases hi with ⟨h1, h2⟩ | ⟨h1, rfl⟩
    · rw [← hq, h1]; exact decide_eq_true h2
    · rw [← hq, h1]; rfl
  clear hA hB hq
  go_enter Tryz.func54, Tryz.ntmps54
  go_wp2_with fail
  refine HI.out.mono ?_
  rintro e w1 ⟨⟨i, rfl, hi⟩, hb1⟩
  have HB1 := Lib.hid hb1
  clear hb1
  cases q with
  | true =>
    have hi := of_decide_eq_true hi
    go_wp2_with fail
    go_ret
    exact ⟨rfl, HB1.out⟩
  | false =>
    have hi := of_decide_eq_false hi
    go_wp2_with fail
    go_ret
    exact ⟨rfl, HB1.out⟩
set_option maxRecDepth 100000 in

set_option maxRecDepth 100000 in
set_option maxHeartbeats 4000000 in
theorem Is_any (l : List NodeA) (a : Option Addr) (c : Nat) (q : Bool) (w : World) (hG : GT w) (hA : TabR w l a c) (hl : l.length ≤ 3000) (hq : isB l = q) :
    Calls Tryz.prog 28 #[.agg #[.slice a l.length c]] w fun e w' => e = .returned (.bool q) ∧ Below w.heap.size w w' := by
  obtain ⟨W0, hW0⟩ : ∃ W0, W0 = w.alloc (.cells #[.slice a l.length c] 33) := ⟨_, rfl⟩
  have HB0 : Hid (Below w.heap.size w W0) := by show Below _ _ _; rw [hW0]; exact (Below.refl _ w).alloc (Nat.le_refl _) _
  have hx0 : W0.heap[w.heap.size]? = some (.cells #[.slice a l.length c] 33 (0, 0)) := by rw [hW0]; exact heap_alloc_new w _
  have HXR : Hid (∀ V, Below W0.heap.size W0 V → V.heap[w.heap.size]? = some (.cells #[.slice a l.length c] 33 (0, 0))) := fun V hV => (hV.block _ (Array.getElem?_eq_some_iff.1 hx0).1).trans hx0
  obtain ⟨x0, _, xz⟩ := box3' hx0
  obtain ⟨r, hr⟩ : ∃ r, ordB l = r := ⟨_, rfl⟩
  have HO : Hid (Calls Tryz.prog 53 #[.agg #[.slice a l.length c]] W0 fun e w' => e = .returned (.bool r) ∧ Below W0.heap.size W0 w') := Ordered_any l a c r W0 (hG.below HB0.out) (hA.below HB0.out) hl hr
  cases r with
  | false =>
    obtain rfl : false = q := by rw [← hq]; unfold isB; rw [hr]; rfl
    clear hx0 hG hA hq hr
    go_enter Tryz.func28, Tryz.ntmps28
    go_wp2_with fail
    rw [← hW0]
    clear hW0
    refine HO.out.mono ?_
    rintro e w1 ⟨rfl, hb1⟩
    have HB1 : Hid (Below w.heap.size w w1) := HB0.out.trans (hb1.mono HB0.out.size)
    clear hb1
    go_wp2_with fail
    go_ret
    exact ⟨rfl, HB1.out⟩
  | true =>
    have hok : mayT l = true := by unfold ordB at hr; exact (Bool.and_eq_true _ _ ▸ hr).1
    have hst : ∀ (k : Nat) (n : NodeA), l[k]? = some n → standsB n k = true := fun k n hk => (ok_at (mayT_ok hok).2 hk).1
    obtain ⟨u, hu⟩ : ∃ u, l.any (badC l) = u := ⟨_, rfl⟩
    obtain rfl : (!u) = q := by rw [← hq]; unfold isB; rw [hr, hu]; rfl
    have HCo : Hid (∀ V, Below W0.heap.size W0 V → Calls Tryz.prog 54 #[.slice a l.length c, .func (.func 55) #[] #[.pointer (some ⟨w.heap.size, 0, none⟩)]] V fun e w' => e = .returned (.bool u) ∧ Below V.heap.size V w') := fun V hV => ContainsC_any l a c w.heap.size u V (hA.below (HB0.out.trans (hV.mono HB0.out.size))) hst hl (HXR.out V hV) hu
    have HR : Hid (∀ V, Below W0.heap.size W0 V → V.cell? ⟨w.heap.size, 0, none⟩ = some (.slice a l.length c) ∧ V.frozen? ⟨w.heap.size, 0, none⟩ = false ∧ w.heap.size < V.heap.size) := fun V hV => box3' (HXR.out V hV)
    clear hx0 hG hA hq hr hok hst hu
    go_enter Tryz.func28, Tryz.ntmps28
    go_wp2_with fail
    rw [← hW0]
    clear hW0
    refine HO.out.mono ?_
    rintro e w1 ⟨rfl, hb1⟩
    have HB1 := Lib.hid hb1
    clear x0 xz
    obtain ⟨x0, _, xz⟩ := HR.out w1 hb1
    clear hb1
    go_wp2_with fail
    refine (HCo.out _ HB1.out).mono ?_
    rintro e w2 ⟨rfl, hb2⟩
    have HB2 : Hid (Below w.heap.size w w2) := HB0.out.trans ((HB1.out.trans (hb2.mono HB1.out.size)).mono HB0.out.size)
    clear hb2
    go_wp2_with fail
    go_ret
    exact ⟨rfl, HB2.out⟩
end Go.Proofs.YtfbjgadgfjnamaaGreatDoor.Tm
