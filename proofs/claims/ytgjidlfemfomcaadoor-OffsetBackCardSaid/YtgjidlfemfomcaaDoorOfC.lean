/- Package offset's root: bases and offsets. -/
import Derived.Test.YtgjidlfemfomcaaDoorOfA
import Derived.Test.YtgjidlfemfomcaaDoorOfB
import Derived.ScopeJumps
import Derived.WalkMore
namespace Go.Proofs.YtgjidlfemfomcaaDoor
open Go.RowKit
set_option linter.unusedVariables false
/-- From a place on: the base, and what the sum has come to. -/
def rootP (l : List NodeA) : Nat → Nat → Int × Int → Nat × (Int × Int)
  | 0, k, s => (k, s)
  | f + 1, k, s => match l[k]? with
    | none => (k, s)
    | some n => if n.op = 10 then (1, stepA s n.num) else if n.op = 11 then rootP l f n.a0.toNat (stepA s n.num) else (k, s)
theorem rootP_num {l : List NodeA} {f k : Nat} {s : Int × Int} {n : NodeA} (h : l[k]? = some n) (ho : n.op = 10) : rootP l (f + 1) k s = (1, stepA s n.num) := by
  simp only [rootP, h]; rw [if_pos ho]
theorem rootP_add {l : List NodeA} {f k : Nat} {s : Int × Int} {n : NodeA} (h : l[k]? = some n) (ho : n.op = 11) : rootP l (f + 1) k s = rootP l f n.a0.toNat (stepA s n.num) := by
  simp only [rootP, h]; rw [if_neg (by omega), if_pos ho]
theorem rootP_end {l : List NodeA} {f k : Nat} {s : Int × Int} {n : NodeA} (h : l[k]? = some n) (h0 : ¬ n.op = 10) (h1 : ¬ n.op = 11) : rootP l (f + 1) k s = (k, s) := by
  simp only [rootP, h]; rw [if_neg h0, if_neg h1]
theorem stepA_i64 {s : Int × Int} {b : Int} (h : I64 s.1) : I64 (stepA s b).1 := by
  unfold stepA
  split
  · exact addV_i64
  · exact h
/-- An OpAdd that may stand: one argument, which lies ahead. -/
theorem stands_add {n : NodeA} {k : Nat} (h : standsB n k = true) (ho : n.op = 11) : 0 ≤ n.a0 ∧ n.a0 < k ∧ mayB n.num = true ∧ n.len = 1 ∧ n.a1 = 0 ∧ n.a2 = 0 ∧ n.fn = 0 := by
  unfold standsB at h
  rw [decide_eq_true_eq] at h
  obtain ⟨⟨_, _, h3⟩, _, h4, h5, h6⟩ := h
  rw [if_neg (by omega), if_pos (by omega)] at h3
  obtain ⟨h7, h8, h9⟩ := h3
  have h10 : n.len = 1 := by rw [h7]; unfold arityA; rw [if_neg (by omega), if_pos (by omega)]
  have := h4.1 (by omega)
  exact ⟨this.1, this.2, h9, h10, h5.2 (by omega), h6.2 (by omega), h8⟩
theorem stands_num {n : NodeA} {k : Nat} (h : standsB n k = true) (ho : n.op = 10) : mayB n.num = true ∧ n.len = 0 ∧ n.a0 = 0 ∧ n.a1 = 0 ∧ n.a2 = 0 ∧ n.fn = 0 := by
  unfold standsB at h
  rw [decide_eq_true_eq] at h
  obtain ⟨⟨_, _, h3⟩, _, h4, h5, h6⟩ := h
  rw [if_neg (by omega), if_pos (by omega)] at h3
  obtain ⟨h7, h8, h9⟩ := h3
  have h10 : n.len = 0 := by rw [h7]; unfold arityA; rw [if_pos (by omega)]
  exact ⟨h9, h10, h4.2 (by omega), h5.2 (by omega), h6.2 (by omega), h8⟩
/-- With enough ahead it makes no difference how much. -/
theorem rootP_more {l : List NodeA} (hok : okFrom [] l = true) : ∀ (f g k : Nat) (s : Int × Int), k < f → k < g → rootP l f k s = rootP l g k s
  | 0, g, k, s, h, _ => by omega
  | f + 1, 0, k, s, _, h => by omega
  | f + 1, g + 1, k, s, hf, hg => by
    unfold rootP
    cases hn : l[k]? with
    | none => rfl
    | some n =>
      simp only
      by_cases h0 : n.op = 10
      · rw [if_pos h0, if_pos h0]
      rw [if_neg h0, if_neg h0]
      by_cases h1 : n.op = 11
      · rw [if_pos h1, if_pos h1]
        have := stands_add (ok_at hok hn).1 h1
        exact rootP_more hok f g _ _ (by omega) (by omega)
      · rw [if_neg h1, if_neg h1]
def rootA (l : List NodeA) (k : Nat) : Nat × (Int × Int) := rootP l (k + 1) k (0, 0)
/-- The boxes at root's label. -/
structure RootW (w V : World) (l : List NodeA) (a : Option Addr) (c : Nat) (s : Int × Int) : Prop where
  below : Below w.heap.size w V
  sum : Sum V (w.heap.size + 1) s
  tab : V.heap[w.heap.size]? = some (.cells #[.slice a l.length c] 24 (0, 0))
  i64 : I64 s.1
theorem RootW.then {w V V' : World} {l : List NodeA} {a : Option Addr} {c : Nat} {s s' : Int × Int} {o : Obj} (h : RootW w V l a c s) (hs : Sum V' (w.heap.size + 1) s') (hb : But (w.heap.size + 1) (V.alloc o) V') (hi : I64 s'.1) : RootW w V' l a c s' := by
  have hz := h.sum.lt
  refine ⟨?_, hs, (hb.block _ (by simp; omega) (by omega)).trans ((Below.heap_alloc _ _ _ (by omega)).trans h.tab), hi⟩
  have h1 := h.below.alloc (by have := h.below.size; omega) o
  exact ⟨hb.os.trans h1.os, hb.tape.trans h1.tape, hb.output.trans h1.output, Nat.le_trans h1.size hb.size, fun k hk => (hb.block k (Nat.lt_of_lt_of_le hk h1.size) (by omega)).trans (h1.block k hk)⟩
theorem root_end {w V : World} {l : List NodeA} {a : Option Addr} {c : Nat} {s : Int × Int} (h : RootW w V l a c s) : Sum ((V.setCell ⟨w.heap.size + 1, 0, none⟩ (.int .i64 s.1)).setCell ⟨w.heap.size + 1, 1, none⟩ (.int .i64 s.2)).drew (w.heap.size + 1) s ∧ Below w.heap.size w ((V.setCell ⟨w.heap.size + 1, 0, none⟩ (.int .i64 s.1)).setCell ⟨w.heap.size + 1, 1, none⟩ (.int .i64 s.2)).drew :=
  ⟨(h.sum.set0 s.1).set1 s.2, ((h.below.setCell (p := ⟨w.heap.size + 1, 0, none⟩) (by simp) _).setCell (p := ⟨w.heap.size + 1, 1, none⟩) (by simp) _).drew⟩
theorem root_end2 {w V : World} {l : List NodeA} {a : Option Addr} {c : Nat} {s : Int × Int} (h : RootW w V l a c s) (o : Obj) : Sum (((V.setCell ⟨w.heap.size + 1, 0, none⟩ (.int .i64 s.1)).setCell ⟨w.heap.size + 1, 1, none⟩ (.int .i64 s.2)).alloc o).drew (w.heap.size + 1) s ∧ Below w.heap.size w (((V.setCell ⟨w.heap.size + 1, 0, none⟩ (.int .i64 s.1)).setCell ⟨w.heap.size + 1, 1, none⟩ (.int .i64 s.2)).alloc o).drew :=
  ⟨Sum.keep ((h.sum.set0 s.1).set1 s.2) ((Below.refl _ _).alloc (Nat.le_refl _) _).drew, (((h.below.setCell (p := ⟨w.heap.size + 1, 0, none⟩) (by simp) _).setCell (p := ⟨w.heap.size + 1, 1, none⟩) (by simp) _).alloc (by simpa using h.below.size) o).drew⟩
set_option maxRecDepth 100000 in
set_option maxHeartbeats 4000000 in
theorem root_any (l : List NodeA) (a : Option Addr) (c k : Nat) (w : World) (hA : TabR w l a c) (hm : mayT l = true) (hk : k < l.length) (hl : l.length ≤ 1000) :
    Calls Tryd.prog 37 #[.agg #[.slice a l.length c], .int .i64 k] w fun e w' => e = .returned (.tuple #[.int .i64 (rootA l k).1, .agg #[.int .i64 (rootA l k).2.1, .int .i64 (rootA l k).2.2]]) ∧ Below w.heap.size w w' := by
  obtain ⟨R, hR⟩ : ∃ R, rootA l k = R := ⟨_, rfl⟩
  rw [hR]
  have HR : Hid (rootP l (k + 1) k (0, 0) = R) := hR
  have HOK := Lib.hid (mayT_ok hm).2
  have HA := Lib.hid hA
  have hcap := hA.le
  have HT : Hid (∀ (V : World) (s : Int × Int) (x : Int), Sum V (w.heap.size + 1) s → I64 s.1 → I64 x → Calls Tryd.prog 18 #[.pointer (some ⟨w.heap.size + 1, 0, none⟩), .func (.func 19) #[] #[], .int .i64 x] V (ThenPost V (w.heap.size + 1) (stepA s x))) := fun V s x h1 h2 h3 => then_add _ s x V h1 h2 h3
  have HC : Hid (∀ (V : World) (s : Int × Int) (m : Nat) (n : NodeA), RootW w V l a c s → l[m]? = some n → ∃ g o : Nat, a = some ⟨g, o, none⟩ ∧ g < V.heap.size ∧ w.heap.size < V.heap.size ∧ w.heap.size + 1 < V.heap.size ∧ V.cell? ⟨w.heap.size, 0, none⟩ = some (.slice a l.length c) ∧ V.cell? ⟨g, o + m * 8, none⟩ = some (.int .i8 n.op) ∧ V.cell? ⟨g, o + m * 8 + 1, none⟩ = some (.int .i8 n.len) ∧ V.cell? ⟨g, o + m * 8 + 2, none⟩ = some (.int .i64 n.a0) ∧ V.cell? ⟨g, o + m * 8 + 3, none⟩ = some (.int .i64 n.a1) ∧ V.cell? ⟨g, o + m * 8 + 4, none⟩ = some (.int .i64 n.a2) ∧ V.cell? ⟨g, o + m * 8 + 5, none⟩ = some (.int .i64 n.sort) ∧ V.cell? ⟨g, o + m * 8 + 6, none⟩ = some (.int .i64 n.fn) ∧ V.cell? ⟨g, o + m * 8 + 7, none⟩ = some (.int .i64 n.num)) := fun V s m n hV hn => by
    obtain ⟨g, o, e, hg, q0, q1, q2, q3, q4, q5, q6, q7⟩ := (HA.out.below hV.below).node hn
    exact ⟨g, o, e, hg, (Array.getElem?_eq_some_iff.1 hV.tab).1, hV.sum.lt, (cell_of_row _ _ 0 _ _ _ hV.tab).trans rfl, q0, q1, q2, q3, q4, q5, q6, q7⟩
  obtain ⟨W0, hW0⟩ : ∃ W0, W0 = (w.alloc (.cells #[.slice a l.length c] 24)).alloc (.cells #[.int .i64 0, .int .i64 0] 49) := ⟨_, rfl⟩
  have HW0 : Hid (RootW w W0 l a c (0, 0)) := by
    refine ⟨?_, ?_, ?_, ⟨by decide, by decide⟩⟩
    · rw [hW0]; exact ((Below.refl _ w).alloc (Nat.le_refl _) _).alloc (by simp) _
    · have := heap_alloc_new (w.alloc (.cells #[.slice a l.length c] 24)) (.cells #[.int .i64 0, .int .i64 0] 49)
      rw [World.size_alloc] at this
      rw [hW0]; exact this
    · rw [hW0]; exact (Below.heap_alloc _ _ _ (by simp)).trans (heap_alloc_new w _)
  obtain ⟨n, hn⟩ : ∃ n, l[k]? = some n := ⟨_, List.getElem?_eq_getElem hk⟩
  obtain ⟨g, o, rfl, hg, z0, z1, t0, q0, q1, q2, q3, q4, q5, q6, q7⟩ := HC.out _ _ k n HW0.out hn
  have hki : (k : Int) < (l.length : Int) := by omega
  have hk0 : (0 : Int) ≤ (k : Int) := by omega
  have hno := hA.ok n (List.mem_of_getElem? hn)
  have HST := Lib.hid (ok_at HOK.out hn).1
  have HN := Lib.hid (And.intro hn hno)
  clear hA hR hm hn hno
  go_enter Tryd.func37, Tryd.ntmps37
  go_wp2
  refine wp_scope_jumps 0 (fun a' w' => ∃ (m : Nat) (s : Int × Int) (u6 u7 u8 u9 u10 u11 u12 u13 u14 u15 u16 u17 u18 u19 u20 u21 u22 u23 u24 u25 u26 u27 u28 : Value), a' = { tmps := #[.agg #[.slice (some ⟨g, o, none⟩) l.length c], .int .i64 m, .pointer (some ⟨w.heap.size, 0, none⟩), undef, .int .i64 0, .pointer (some ⟨w.heap.size + 1, 0, none⟩), u6, u7, u8, u9, u10, u11, u12, u13, u14, u15, u16, u17, u18, u19, u20, u21, u22, u23, u24, u25, u26, u27, u28], defers := [] } ∧ m < l.length ∧ Hid (RootW w w' l (some ⟨g, o, none⟩) c s) ∧ Hid (rootP l (m + 1) m s = R)) (fun a' _ => (intOf (a'.tmps.getD 1 undef)).toNat) rfl ?_ ?_
  · go_wp2
    rw [← hW0]
    clear hW0
    go_step3
    by_cases h0 : n.op = 10
    · have e0 := eq_t h0
      have HF : Hid (R = (1, stepA (0, 0) n.num)) := by show _ = _; rw [← HR.out]; exact rootP_num HN.out.1 h0
      clear h0
      go_wp2_with (go_at_call 18; refine (HT.out _ (0, 0) n.num (HW0.out.sum.keep ((Below.refl _ _).alloc (Nat.le_refl _) _)) HW0.out.i64 HN.out.2.num).mono ?_; rintro e w1 ⟨rfl, hs1, hb1⟩; have HW1 := Lib.hid (HW0.out.then hs1 hb1 (stepA_i64 HW0.out.i64)); have s0 := hs1.c0; have s1 := hs1.c1; have sf := hs1.fz; have sz := hs1.lt; have hq := (hb1.block _ (by simp) (by simp; omega)).trans (heap_alloc_new _ _); have y0 := (cell_of_row _ _ 2 _ _ _ hq).trans rfl; have yz := (Array.getElem?_eq_some_iff.1 hq).1; simp only [List.getElem?_toArray, List.getElem?_cons_succ, List.getElem?_cons_zero] at y0; clear hs1 hb1 hq t0 q0 q1 q2 q3 q4 q5 q6 q7 z0 z1)
      go_region
      go_wp2_with fail
      simp only [Exit.jump]
      obtain ⟨hsum, hbel⟩ := root_end HW1.out
      have e0 := hsum.c0
      have e1 := hsum.c1
      refine bodyPost_ret (v := .tuple #[.int .i64 1, .agg #[.int .i64 (stepA (0, 0) n.num).1, .int .i64 (stepA (0, 0) n.num).2]]) (by simp [results, Tryd.results37, go_sem, e0, e1]) rfl ?_
      exact ⟨by rw [HF.out]; rfl, hbel⟩
    by_cases h1 : n.op = 11
    · have e0 := eq_f h0
      have e1 := eq_t h1
      have HF : Hid (∀ m2 : Nat, n.a0 = (m2 : Int) → rootP l (m2 + 1) m2 (stepA (0, 0) n.num) = R) := fun m2 h => by
        have hr := HR.out
        rw [rootP_add HN.out.1 h1, h] at hr
        rw [← hr]
        have := stands_add HST.out h1
        exact rootP_more HOK.out _ _ _ _ (by omega) (by omega)
      obtain ⟨p0, p1, p2, p3, _⟩ := stands_add HST.out h1
      obtain ⟨m2, hm2⟩ : ∃ m2 : Nat, n.a0 = (m2 : Int) := ⟨n.a0.toNat, by omega⟩
      have HM2 := Lib.hid hm2
      have hmk : m2 < k := by omega
      clear h0 h1 hm2
      go_wp2_with (go_at_call 18; refine (HT.out _ (0, 0) n.num (HW0.out.sum.keep ((Below.refl _ _).alloc (Nat.le_refl _) _)) HW0.out.i64 HN.out.2.num).mono ?_; rintro e w1 ⟨rfl, hs1, hb1⟩; have HW1 := Lib.hid (HW0.out.then hs1 hb1 (stepA_i64 HW0.out.i64)); have s0 := hs1.c0; have s1 := hs1.c1; have sf := hs1.fz; have sz := hs1.lt; have hq := (hb1.block _ (by simp) (by simp; omega)).trans (heap_alloc_new _ _); have y0 := (cell_of_row _ _ 2 _ _ _ hq).trans rfl; have yz := (Array.getElem?_eq_some_iff.1 hq).1; simp only [List.getElem?_toArray, List.getElem?_cons_succ, List.getElem?_cons_zero] at y0; clear hs1 hb1 hq t0 q0 q1 q2 q3 q4 q5 q6 q7 z0 z1)
      go_step3
      rw [HM2.out]
      exact ⟨rfl, m2, stepA (0, 0) n.num, _, _, _, _, _, _, _, _, _, _, _, _, _, _, _, _, _, _, _, _, _, _, _, rfl, by omega, HW1, HF.out m2 HM2.out⟩
    · have e0 := eq_f h0
      have e1 := eq_f h1
      have HF : Hid (R = (k, (0, 0))) := by show _ = _; rw [← HR.out]; exact rootP_end HN.out.1 h0 h1
      clear h0 h1
      have s0 := HW0.out.sum.c0
      have s1 := HW0.out.sum.c1
      have sf := HW0.out.sum.fz
      have sz := HW0.out.sum.lt
      go_wp2_with fail
      go_region
      go_wp2_with fail
      simp only [Exit.jump]
      obtain ⟨hsum, hbel⟩ := root_end2 HW0.out (.cells #[.int .i8 n.op, .int .i8 n.len, .int .i64 n.a0, .int .i64 n.a1, .int .i64 n.a2, .int .i64 n.sort, .int .i64 n.fn, .int .i64 n.num] 46)
      have e0 := hsum.c0
      have e1 := hsum.c1
      refine bodyPost_ret (v := .tuple #[.int .i64 (k : Nat), .agg #[.int .i64 (0, 0).1, .int .i64 (0, 0).2]]) (by simp [results, Tryd.results37, go_sem, e0, e1]) rfl ?_
      exact ⟨by rw [HF.out], hbel⟩
  · rintro a' w' ⟨m, s, u6, u7, u8, u9, u10, u11, u12, u13, u14, u15, u16, u17, u18, u19, u20, u21, u22, u23, u24, u25, u26, u27, u28, rfl, hml, HV, HR2⟩
    clear hW0 HN HST hki hk0 z0 z1 t0 q0 q1 q2 q3 q4 q5 q6 q7 n
    obtain ⟨n, hn⟩ : ∃ n, l[m]? = some n := ⟨_, List.getElem?_eq_getElem hml⟩
    obtain ⟨g', o', he, hg', z0, z1, t0, q0, q1, q2, q3, q4, q5, q6, q7⟩ := HC.out _ _ m n HV.out hn
    cases he
    have hki : (m : Int) < (l.length : Int) := by omega
    have hk0 : (0 : Int) ≤ (m : Int) := by omega
    have HST := Lib.hid (ok_at HOK.out hn).1
    have HN := Lib.hid (And.intro hn (HA.out.ok n (List.mem_of_getElem? hn)))
    clear hn
    by_cases h0 : n.op = 10
    · have e0 := eq_t h0
      have HF : Hid (R = (1, stepA s n.num)) := by show _ = _; rw [← HR2.out]; exact rootP_num HN.out.1 h0
      clear h0
      go_wp2_with (go_at_call 18; refine (HT.out _ s n.num (HV.out.sum.keep ((Below.refl _ _).alloc (Nat.le_refl _) _)) HV.out.i64 HN.out.2.num).mono ?_; rintro e w1 ⟨rfl, hs1, hb1⟩; have HW1 := Lib.hid (HV.out.then hs1 hb1 (stepA_i64 HV.out.i64)); have s0 := hs1.c0; have s1 := hs1.c1; have sf := hs1.fz; have sz := hs1.lt; have hq := (hb1.block _ (by simp) (by simp; omega)).trans (heap_alloc_new _ _); have y0 := (cell_of_row _ _ 2 _ _ _ hq).trans rfl; have yz := (Array.getElem?_eq_some_iff.1 hq).1; simp only [List.getElem?_toArray, List.getElem?_cons_succ, List.getElem?_cons_zero] at y0; clear hs1 hb1 hq t0 q0 q1 q2 q3 q4 q5 q6 q7 z0 z1)
      go_region
      go_wp2_with fail
      simp only [Exit.jump]
      obtain ⟨hsum, hbel⟩ := root_end HW1.out
      have e0 := hsum.c0
      have e1 := hsum.c1
      refine bodyPost_ret (v := .tuple #[.int .i64 1, .agg #[.int .i64 (stepA s n.num).1, .int .i64 (stepA s n.num).2]]) (by simp [results, Tryd.results37, go_sem, e0, e1]) rfl ?_
      exact ⟨by rw [HF.out]; rfl, hbel⟩
    by_cases h1 : n.op = 11
    · have e0 := eq_f h0
      have e1 := eq_t h1
      have HF : Hid (∀ m2 : Nat, n.a0 = (m2 : Int) → rootP l (m2 + 1) m2 (stepA s n.num) = R) := fun m2 h => by
        have hr := HR2.out
        rw [rootP_add HN.out.1 h1, h] at hr
        rw [← hr]
        have := stands_add HST.out h1
        exact rootP_more HOK.out _ _ _ _ (by omega) (by omega)
      obtain ⟨p0, p1, p2, p3, _⟩ := stands_add HST.out h1
      obtain ⟨m2, hm2⟩ : ∃ m2 : Nat, n.a0 = (m2 : Int) := ⟨n.a0.toNat, by omega⟩
      have HM2 := Lib.hid hm2
      have hmk : m2 < m := by omega
      clear h0 h1 hm2
      go_wp2_with (go_at_call 18; refine (HT.out _ s n.num (HV.out.sum.keep ((Below.refl _ _).alloc (Nat.le_refl _) _)) HV.out.i64 HN.out.2.num).mono ?_; rintro e w1 ⟨rfl, hs1, hb1⟩; have HW1 := Lib.hid (HV.out.then hs1 hb1 (stepA_i64 HV.out.i64)); have s0 := hs1.c0; have s1 := hs1.c1; have sf := hs1.fz; have sz := hs1.lt; have hq := (hb1.block _ (by simp) (by simp; omega)).trans (heap_alloc_new _ _); have y0 := (cell_of_row _ _ 2 _ _ _ hq).trans rfl; have yz := (Array.getElem?_eq_some_iff.1 hq).1; simp only [List.getElem?_toArray, List.getElem?_cons_succ, List.getElem?_cons_zero] at y0; clear hs1 hb1 hq t0 q0 q1 q2 q3 q4 q5 q6 q7 z0 z1)
      go_step3
      rw [HM2.out]
      exact ⟨rfl, ⟨m2, stepA s n.num, _, _, _, _, _, _, _, _, _, _, _, _, _, _, _, _, _, _, _, _, _, _, _, rfl, by omega, HW1, HF.out m2 HM2.out⟩, by simp [intOf]; omega⟩
    · have e0 := eq_f h0
      have e1 := eq_f h1
      have HF : Hid (R = (m, s)) := by show _ = _; rw [← HR2.out]; exact rootP_end HN.out.1 h0 h1
      clear h0 h1
      have s0 := HV.out.sum.c0
      have s1 := HV.out.sum.c1
      have sf := HV.out.sum.fz
      have sz := HV.out.sum.lt
      go_wp2_with fail
      go_region
      go_wp2_with fail
      simp only [Exit.jump]
      obtain ⟨hsum, hbel⟩ := root_end2 HV.out (.cells #[.int .i8 n.op, .int .i8 n.len, .int .i64 n.a0, .int .i64 n.a1, .int .i64 n.a2, .int .i64 n.sort, .int .i64 n.fn, .int .i64 n.num] 46)
      have e0 := hsum.c0
      have e1 := hsum.c1
      refine bodyPost_ret (v := .tuple #[.int .i64 (m : Nat), .agg #[.int .i64 s.1, .int .i64 s.2]]) (by simp [results, Tryd.results37, go_sem, e0, e1]) rfl ?_
      exact ⟨by rw [HF.out], hbel⟩
end Go.Proofs.YtgjidlfemfomcaaDoor
