/- Package offset's Diff, and the nodes that it puts. -/
import Derived.Test.YtinogambkfihpaaDoorOfB
import Derived.ScopeJumps
import Derived.WalkMore
namespace Go.Proofs.YtinogambkfihpaaDoor.Tm
open Go.RowKit
set_option linter.unusedVariables false
/-- From a place on: the base, and what the sum has come to. -/
def rootP (l : List NodeA) : Nat → Nat → Int × Int → Nat × (Int × Int)
  | 0, k, s => (k, s)
  | f + 1, k, s => match l[k]? with
    | none => (k, s)
    | some n => if n.op = 10 then (1, stepA s n.num) else if n.op = 11 then rootP l f n.a0.toNat (stepA s n.num) else (k, s)
theorem rootP_num {l : List NodeA} {f k : Nat} {s : Int × Int} {n : NodeA} (h : l[k]? = some n) (ho : n.op = 10) : rootP l (f + 1) k s = (1, stepA s n.num) := by
  simp only [rootP, h]; rw [if_pos ho]
theorem rootP_add {l : List NodeA} {f k : Nat} {s : Int × Int} {n : NodeA} (h : l[k]? = some n) (ho : n.op = 11) : rootP l (f + 1) k s = rootP l f n.a0.toNat (stepA s n.num) := by
  simp only [rootP, h]; rw [if_neg (by omega), if_pos ho]
theorem rootP_end {l : List NodeA} {f k : Nat} {s : Int × Int} {n : NodeA} (h : l[k]? = some n) (h0 : ¬ n.op = 10) (h1 : ¬ n.op = 11) : rootP l (f + 1) k s = (k, s) := by
  simp only [rootP, h]; rw [if_neg h0, if_neg h1]
theorem stepA_i64 {s : Int × Int} {b : Int} (h : I64 s.1) : I64 (stepA s b).1 := by
  unfold stepA
  split
  · exact addV_i64
  · exact h
/-- An OpAdd that may stand: one argument, which lies ahead. -/
theorem stands_add {n : NodeA} {k : Nat} (h : standsB n k = true) (ho : n.op = 11) : 0 ≤ n.a0 ∧ n.a0 < k ∧ mayB n.num = true ∧ n.len = 1 ∧ n.a1 = 0 ∧ n.a2 = 0 ∧ n.fn = 0 := by
  unfold standsB at h
  rw [decide_eq_true_eq] at h
  obtain ⟨⟨_, _, h3⟩, _, h4, h5, h6⟩ := h
  rw [if_neg (by omega), if_pos (by omega)] at h3
  obtain ⟨h7, h8, h9⟩ := h3
  have h10 : n.len = 1 := by rw [h7]; unfold arityA; rw [if_neg (by omega), if_pos (by omega)]
  have := h4.1 (by omega)
  exact ⟨this.1, this.2, h9, h10, h5.2 (by omega), h6.2 (by omega), h8⟩
theorem stands_num {n : NodeA} {k : Nat} (h : standsB n k = true) (ho : n.op = 10) : mayB n.num = true ∧ n.len = 0 ∧ n.a0 = 0 ∧ n.a1 = 0 ∧ n.a2 = 0 ∧ n.fn = 0 := by
  unfold standsB at h
  rw [decide_eq_true_eq] at h
  obtain ⟨⟨_, _, h3⟩, _, h4, h5, h6⟩ := h
  rw [if_neg (by omega), if_pos (by omega)] at h3
  obtain ⟨h7, h8, h9⟩ := h3
  have h10 : n.len = 0 := by rw [h7]; unfold arityA; rw [if_pos (by omega)]
  exact ⟨h9, h10, h4.2 (by omega), h5.2 (by omega), h6.2 (by omega), h8⟩
/-- With enough ahead it makes no difference how much. -/
theorem rootP_more {l : List NodeA} (hok : okFrom [] l = true) : ∀ (f g k : Nat) (s : Int × Int), k < f → k < g → rootP l f k s = rootP l g k s
  | 0, g, k, s, h, _ => by omega
  | f + 1, 0, k, s, _, h => by omega
  | f + 1, g + 1, k, s, hf, hg => by
    unfold rootP
    cases hn : l[k]? with
    | none => rfl
    | some n =>
      simp only
      by_cases h0 : n.op = 10
      · rw [if_pos h0, if_pos h0]
      rw [if_neg h0, if_neg h0]
      by_cases h1 : n.op = 11
      · rw [if_pos h1, if_pos h1]
        have := stands_add (ok_at hok hn).1 h1
        exact rootP_more hok f g _ _ (by omega) (by omega)
      · rw [if_neg h1, if_neg h1]
def rootA (l : List NodeA) (k : Nat) : Nat × (Int × Int) := rootP l (k + 1) k (0, 0)
/-- The boxes at root's label. -/
structure RootW (w V : World) (l : List NodeA) (a : Option Addr) (c : Nat) (s : Int × Int) : Prop where
  below : Below w.heap.size w V
  sum : Sum V (w.heap.size + 1) s
  tab : V.heap[w.heap.size]? = some (.cells #[.slice a l.length c] 33 (0, 0))
  i64 : I64 s.1
theorem RootW.then {w V V' : World} {l : List NodeA} {a : Option Addr} {c : Nat} {s s' : Int × Int} {o : Obj} (h : RootW w V l a c s) (hs : Sum V' (w.heap.size + 1) s') (hb : But (w.heap.size + 1) (V.alloc o) V') (hi : I64 s'.1) : RootW w V' l a c s' := by
  have hz := h.sum.lt
  refine ⟨?_, hs, (hb.block _ (by simp; omega) (by omega)).trans ((Below.heap_alloc _ _ _ (by omega)).trans h.tab), hi⟩
  have h1 := h.below.alloc (by have := h.below.size; omega) o
  exact ⟨hb.os.trans h1.os, hb.tape.trans h1.tape, hb.output.trans h1.output, Nat.le_trans h1.size hb.size, fun k hk => (hb.block k (Nat.lt_of_lt_of_le hk h1.size) (by omega)).trans (h1.block k hk)⟩
theorem root_end {w V : World} {l : List NodeA} {a : Option Addr} {c : Nat} {s : Int × Int} (h : RootW w V l a c s) : Sum ((V.setCell ⟨w.heap.size + 1, 0, none⟩ (.int .i64 s.1)).setCell ⟨w.heap.size + 1, 1, none⟩ (.int .i64 s.2)).drew (w.heap.size + 1) s ∧ Below w.heap.size w ((V.setCell ⟨w.heap.size + 1, 0, none⟩ (.int .i64 s.1)).setCell ⟨w.heap.size + 1, 1, none⟩ (.int .i64 s.2)).drew :=
  ⟨(h.sum.set0 s.1).set1 s.2, ((h.below.setCell (p := ⟨w.heap.size + 1, 0, none⟩) (by simp) _).setCell (p := ⟨w.heap.size + 1, 1, none⟩) (by simp) _).drew⟩
theorem root_end2 {w V : World} {l : List NodeA} {a : Option Addr} {c : Nat} {s : Int × Int} (h : RootW w V l a c s) (o : Obj) : Sum (((V.setCell ⟨w.heap.size + 1, 0, none⟩ (.int .i64 s.1)).setCell ⟨w.heap.size + 1, 1, none⟩ (.int .i64 s.2)).alloc o).drew (w.heap.size + 1) s ∧ Below w.heap.size w (((V.setCell ⟨w.heap.size + 1, 0, none⟩ (.int .i64 s.1)).setCell ⟨w.heap.size + 1, 1, none⟩ (.int .i64 s.2)).alloc o).drew :=
  ⟨Sum.keep ((h.sum.set0 s.1).set1 s.2) ((Below.refl _ _).alloc (Nat.le_refl _) _).drew, (((h.below.setCell (p := ⟨w.heap.size + 1, 0, none⟩) (by simp) _).setCell (p := ⟨w.heap.size + 1, 1, none⟩) (by simp) _).alloc (by simpa using h.below.size) o).drew⟩
set_option maxRecDepth 100000 in
set_option maxHeartbeats 4000000 in
theorem root_any (l : List NodeA) (a : Option Addr) (c k : Nat) (w : World) (hA : TabR w l a c) (hm : mayT l = true) (hk : k < l.length) (hl : l.length ≤ 1000) :
    Calls Tryd.prog 42 #[.agg #[.slice a l.length c], .int .i64 k] w fun e w' => e = .returned (.tuple #[.int .i64 (rootA l k).1, .agg #[.int .i64 (rootA l k).2.1, .int .i64 (rootA l k).2.2]]) ∧ Below w.heap.size w w' := by
  obtain ⟨R, hR⟩ : ∃ R, rootA l k = R := ⟨_, rfl⟩
  rw [hR]
  have HR : Hid (rootP l (k + 1) k (0, 0) = R) := hR
  have HOK := Lib.hid (mayT_ok hm).2
  have HA := Lib.hid hA
  have hcap := hA.le
  have HT : Hid (∀ (V : World) (s : Int × Int) (x : Int), Sum V (w.heap.size + 1) s → I64 s.1 → I64 x → Calls Tryd.prog 26 #[.pointer (some ⟨w.heap.size + 1, 0, none⟩), .func (.func 28) #[] #[], .int .i64 x] V (ThenPost V (w.heap.size + 1) (stepA s x))) := fun V s x h1 h2 h3 => then_add _ s x V h1 h2 h3
  have HC : Hid (∀ (V : World) (s : Int × Int) (m : Nat) (n : NodeA), RootW w V l a c s → l[m]? = some n → ∃ g o : Nat, a = some ⟨g, o, none⟩ ∧ g < V.heap.size ∧ w.heap.size < V.heap.size ∧ w.heap.size + 1 < V.heap.size ∧ V.cell? ⟨w.heap.size, 0, none⟩ = some (.slice a l.length c) ∧ V.cell? ⟨g, o + m * 8, none⟩ = some (.int .i8 n.op) ∧ V.cell? ⟨g, o + m * 8 + 1, none⟩ = some (.int .i8 n.len) ∧ V.cell? ⟨g, o + m * 8 + 2, none⟩ = some (.int .i64 n.a0) ∧ V.cell? ⟨g, o + m * 8 + 3, none⟩ = some (.int .i64 n.a1) ∧ V.cell? ⟨g, o + m * 8 + 4, none⟩ = some (.int .i64 n.a2) ∧ V.cell? ⟨g, o + m * 8 + 5, none⟩ = some (.int .i64 n.sort) ∧ V.cell? ⟨g, o + m * 8 + 6, none⟩ = some (.int .i64 n.fn) ∧ V.cell? ⟨g, o + m * 8 + 7, none⟩ = some (.int .i64 n.num)) := fun V s m n hV hn => by
    obtain ⟨g, o, e, hg, q0, q1, q2, q3, q4, q5, q6, q7⟩ := (HA.out.below hV.below).node hn
    exact ⟨g, o, e, hg, (Array.getElem?_eq_some_iff.1 hV.tab).1, hV.sum.lt, (cell_of_row _ _ 0 _ _ _ hV.tab).trans rfl, q0, q1, q2, q3, q4, q5, q6, q7⟩
  obtain ⟨W0, hW0⟩ : ∃ W0, W0 = (w.alloc (.cells #[.slice a l.length c] 33)).alloc (.cells #[.int .i64 0, .int .i64 0] 76) := ⟨_, rfl⟩
  have HW0 : Hid (RootW w W0 l a c (0, 0)) := by
    refine ⟨?_, ?_, ?_, ⟨by decide, by decide⟩⟩
    · rw [hW0]; exact ((Below.refl _ w).alloc (Nat.le_refl _) _).alloc (by simp) _
    · have := heap_alloc_new (w.alloc (.cells #[.slice a l.length c] 33)) (.cells #[.int .i64 0, .int .i64 0] 76)
      rw [World.size_alloc] at this
      rw [hW0]; exact this
    · rw [hW0]; exact (Below.heap_alloc _ _ _ (by simp)).trans (heap_alloc_new w _)
  obtain ⟨n, hn⟩ : ∃ n, l[k]? = some n := ⟨_, List.getElem?_eq_getElem hk⟩
  obtain ⟨g, o, rfl, hg, z0, z1, t0, q0, q1, q2, q3, q4, q5, q6, q7⟩ := HC.out _ _ k n HW0.out hn
  have hki : (k : Int) < (l.length : Int) := by omega
  have hk0 : (0 : Int) ≤ (k : Int) := by omega
  have hno := hA.ok n (List.mem_of_getElem? hn)
  have HST := Lib.hid (ok_at HOK.out hn).1
  have HN := Lib.hid (And.intro hn hno)
  clear hA hR hm hn hno
  go_enter Tryd.func42, Tryd.ntmps42
  go_wp2
  refine wp_scope_jumps 0 (fun a' w' => ∃ (m : Nat) (s : Int × Int) (u6 u7 u8 u9 u10 u11 u12 u13 u14 u15 u16 u17 u18 u19 u20 u21 u22 u23 u24 u25 u26 u27 u28 : Value), a' = { tmps := #[.agg #[.slice (some ⟨g, o, none⟩) l.length c], .int .i64 m, .pointer (some ⟨w.heap.size, 0, none⟩), undef, .int .i64 0, .pointer (some ⟨w.heap.size + 1, 0, none⟩), u6, u7, u8, u9, u10, u11, u12, u13, u14, u15, u16, u17, u18, u19, u20, u21, u22, u23, u24, u25, u26, u27, u28], defers := [] } ∧ m < l.length ∧ Hid (RootW w w' l (some ⟨g, o, none⟩) c s) ∧ Hid (rootP l (m + 1) m s = R)) (fun a' _ => (intOf (a'.tmps.getD 1 undef)).toNat) rfl ?_ ?_
  · go_wp2
    rw [← hW0]
    clear hW0
    go_step3
    by_cases h0 : n.op = 10
    · have e0 := eq_t h0
      have HF : Hid (R = (1, stepA (0, 0) n.num)) := by show _ = _; rw [← HR.out]; exact rootP_num HN.out.1 h0
      clear h0
      go_wp2_with (go_at_call 26; refine (HT.out _ (0, 0) n.num (HW0.out.sum.keep ((Below.refl _ _).alloc (Nat.le_refl _) _)) HW0.out.i64 HN.out.2.num).mono ?_; rintro e w1 ⟨rfl, hs1, hb1⟩; have HW1 := Lib.hid (HW0.out.then hs1 hb1 (stepA_i64 HW0.out.i64)); have s0 := hs1.c0; have s1 := hs1.c1; have sf := hs1.fz; have sz := hs1.lt; have hq := (hb1.block _ (by simp) (by simp; omega)).trans (heap_alloc_new _ _); have y0 := (cell_of_row _ _ 2 _ _ _ hq).trans rfl; have yz := (Array.getElem?_eq_some_iff.1 hq).1; simp only [List.getElem?_toArray, List.getElem?_cons_succ, List.getElem?_cons_zero] at y0; clear hs1 hb1 hq t0 q0 q1 q2 q3 q4 q5 q6 q7 z0 z1)
      go_region
      go_wp2_with fail
      simp only [Exit.jump]
      obtain ⟨hsum, hbel⟩ := root_end HW1.out
      have e0 := hsum.c0
      have e1 := hsum.c1
      refine bodyPost_ret (v := .tuple #[.int .i64 1, .agg #[.int .i64 (stepA (0, 0) n.num).1, .int .i64 (stepA (0, 0) n.num).2]]) (by simp [results, Tryd.results42, go_sem, e0, e1]) rfl ?_
      exact ⟨by rw [HF.out]; rfl, hbel⟩
    by_cases h1 : n.op = 11
    · have e0 := eq_f h0
      have e1 := eq_t h1
      have HF : Hid (∀ m2 : Nat, n.a0 = (m2 : Int) → rootP l (m2 + 1) m2 (stepA (0, 0) n.num) = R) := fun m2 h => by
        have hr := HR.out
        rw [rootP_add HN.out.1 h1, h] at hr
        rw [← hr]
        have := stands_add HST.out h1
        exact rootP_more HOK.out _ _ _ _ (by omega) (by omega)
      obtain ⟨p0, p1, p2, p3, _⟩ := stands_add HST.out h1
      obtain ⟨m2, hm2⟩ : ∃ m2 : Nat, n.a0 = (m2 : Int) := ⟨n.a0.toNat, by omega⟩
      have HM2 := Lib.hid hm2
      have hmk : m2 < k := by omega
      clear h0 h1 hm2
      go_wp2_with (go_at_call 26; refine (HT.out _ (0, 0) n.num (HW0.out.sum.keep ((Below.refl _ _).alloc (Nat.le_refl _) _)) HW0.out.i64 HN.out.2.num).mono ?_; rintro e w1 ⟨rfl, hs1, hb1⟩; have HW1 := Lib.hid (HW0.out.then hs1 hb1 (stepA_i64 HW0.out.i64)); have s0 := hs1.c0; have s1 := hs1.c1; have sf := hs1.fz; have sz := hs1.lt; have hq := (hb1.block _ (by simp) (by simp; omega)).trans (heap_alloc_new _ _); have y0 := (cell_of_row _ _ 2 _ _ _ hq).trans rfl; have yz := (Array.getElem?_eq_some_iff.1 hq).1; simp only [List.getElem?_toArray, List.getElem?_cons_succ, List.getElem?_cons_zero] at y0; clear hs1 hb1 hq t0 q0 q1 q2 q3 q4 q5 q6 q7 z0 z1)
      go_step3
      rw [HM2.out]
      exact ⟨rfl, m2, stepA (0, 0) n.num, _, _, _, _, _, _, _, _, _, _, _, _, _, _, _, _, _, _, _, _, _, _, _, rfl, by omega, HW1, HF.out m2 HM2.out⟩
    · have e0 := eq_f h0
      have e1 := eq_f h1
      have HF : Hid (R = (k, (0, 0))) := by show _ = _; rw [← HR.out]; exact rootP_end HN.out.1 h0 h1
      clear h0 h1
      have s0 := HW0.out.sum.c0
      have s1 := HW0.out.sum.c1
      have sf := HW0.out.sum.fz
      have sz := HW0.out.sum.lt
      go_wp2_with fail
      go_region
      go_wp2_with fail
      simp only [Exit.jump]
      obtain ⟨hsum, hbel⟩ := root_end2 HW0.out (.cells #[.int .i8 n.op, .int .i8 n.len, .int .i64 n.a0, .int .i64 n.a1, .int .i64 n.a2, .int .i64 n.sort, .int .i64 n.fn, .int .i64 n.num] 66)
      have e0 := hsum.c0
      have e1 := hsum.c1
      refine bodyPost_ret (v := .tuple #[.int .i64 (k : Nat), .agg #[.int .i64 (0, 0).1, .int .i64 (0, 0).2]]) (by simp [results, Tryd.results42, go_sem, e0, e1]) rfl ?_
      exact ⟨by rw [HF.out], hbel⟩
  · rintro a' w' ⟨m, s, u6, u7, u8, u9, u10, u11, u12, u13, u14, u15, u16, u17, u18, u19, u20, u21, u22, u23, u24, u25, u26, u27, u28, rfl, hml, HV, HR2⟩
    clear hW0 HN HST hki hk0 z0 z1 t0 q0 q1 q2 q3 q4 q5 q6 q7 n
    obtain ⟨n, hn⟩ : ∃ n, l[m]? = some n := ⟨_, List.getElem?_eq_getElem hml⟩
    obtain ⟨g', o', he, hg', z0, z1, t0, q0, q1, q2, q3, q4, q5, q6, q7⟩ := HC.out _ _ m n HV.out hn
    cases he
    have hki : (m : Int) < (l.length : Int) := by omega
    have hk0 : (0 : Int) ≤ (m : Int) := by omega
    have HST := Lib.hid (ok_at HOK.out hn).1
    have HN := Lib.hid (And.intro hn (HA.out.ok n (List.mem_of_getElem? hn)))
    clear hn
    by_cases h0 : n.op = 10
    · have e0 := eq_t h0
      have HF : Hid (R = (1, stepA s n.num)) := by show _ = _; rw [← HR2.out]; exact rootP_num HN.out.1 h0
      clear h0
      go_wp2_with (go_at_call 26; refine (HT.out _ s n.num (HV.out.sum.keep ((Below.refl _ _).alloc (Nat.le_refl _) _)) HV.out.i64 HN.out.2.num).mono ?_; rintro e w1 ⟨rfl, hs1, hb1⟩; have HW1 := Lib.hid (HV.out.then hs1 hb1 (stepA_i64 HV.out.i64)); have s0 := hs1.c0; have s1 := hs1.c1; have sf := hs1.fz; have sz := hs1.lt; have hq := (hb1.block _ (by simp) (by simp; omega)).trans (heap_alloc_new _ _); have y0 := (cell_of_row _ _ 2 _ _ _ hq).trans rfl; have yz := (Array.getElem?_eq_some_iff.1 hq).1; simp only [List.getElem?_toArray, List.getElem?_cons_succ, List.getElem?_cons_zero] at y0; clear hs1 hb1 hq t0 q0 q1 q2 q3 q4 q5 q6 q7 z0 z1)
      go_region
      go_wp2_with fail
      simp only [Exit.jump]
      obtain ⟨hsum, hbel⟩ := root_end HW1.out
      have e0 := hsum.c0
      have e1 := hsum.c1
      refine bodyPost_ret (v := .tuple #[.int .i64 1, .agg #[.int .i64 (stepA s n.num).1, .int .i64 (stepA s n.num).2]]) (by simp [results, Tryd.results42, go_sem, e0, e1]) rfl ?_
      exact ⟨by rw [HF.out]; rfl, hbel⟩
    by_cases h1 : n.op = 11
    · have e0 := eq_f h0
      have e1 := eq_t h1
      have HF : Hid (∀ m2 : Nat, n.a0 = (m2 : Int) → rootP l (m2 + 1) m2 (stepA s n.num) = R) := fun m2 h => by
        have hr := HR2.out
        rw [rootP_add HN.out.1 h1, h] at hr
        rw [← hr]
        have := stands_add HST.out h1
        exact rootP_more HOK.out _ _ _ _ (by omega) (by omega)
      obtain ⟨p0, p1, p2, p3, _⟩ := stands_add HST.out h1
      obtain ⟨m2, hm2⟩ : ∃ m2 : Nat, n.a0 = (m2 : Int) := ⟨n.a0.toNat, by omega⟩
      have HM2 := Lib.hid hm2
      have hmk : m2 < m := by omega
      clear h0 h1 hm2
      go_wp2_with (go_at_call 26; refine (HT.out _ s n.num (HV.out.sum.keep ((Below.refl _ _).alloc (Nat.le_refl _) _)) HV.out.i64 HN.out.2.num).mono ?_; rintro e w1 ⟨rfl, hs1, hb1⟩; have HW1 := Lib.hid (HV.out.then hs1 hb1 (stepA_i64 HV.out.i64)); have s0 := hs1.c0; have s1 := hs1.c1; have sf := hs1.fz; have sz := hs1.lt; have hq := (hb1.block _ (by simp) (by simp; omega)).trans (heap_alloc_new _ _); have y0 := (cell_of_row _ _ 2 _ _ _ hq).trans rfl; have yz := (Array.getElem?_eq_some_iff.1 hq).1; simp only [List.getElem?_toArray, List.getElem?_cons_succ, List.getElem?_cons_zero] at y0; clear hs1 hb1 hq t0 q0 q1 q2 q3 q4 q5 q6 q7 z0 z1)
      go_step3
      rw [HM2.out]
      exact ⟨rfl, ⟨m2, stepA s n.num, _, _, _, _, _, _, _, _, _, _, _, _, _, _, _, _, _, _, _, _, _, _, _, rfl, by omega, HW1, HF.out m2 HM2.out⟩, by simp [intOf]; omega⟩
    · have e0 := eq_f h0
      have e1 := eq_f h1
      have HF : Hid (R = (m, s)) := by show _ = _; rw [← HR2.out]; exact rootP_end HN.out.1 h0 h1
      clear h0 h1
      have s0 := HV.out.sum.c0
      have s1 := HV.out.sum.c1
      have sf := HV.out.sum.fz
      have sz := HV.out.sum.lt
      go_wp2_with fail
      go_region
      go_wp2_with fail
      simp only [Exit.jump]
      obtain ⟨hsum, hbel⟩ := root_end2 HV.out (.cells #[.int .i8 n.op, .int .i8 n.len, .int .i64 n.a0, .int .i64 n.a1, .int .i64 n.a2, .int .i64 n.sort, .int .i64 n.fn, .int .i64 n.num] 66)
      have e0 := hsum.c0
      have e1 := hsum.c1
      refine bodyPost_ret (v := .tuple #[.int .i64 (m : Nat), .agg #[.int .i64 s.1, .int .i64 s.2]]) (by simp [results, Tryd.results42, go_sem, e0, e1]) rfl ?_
      exact ⟨by rw [HF.out], hbel⟩
end Go.Proofs.YtinogambkfihpaaDoor.Tm
namespace Go.Proofs.YtinogambkfihpaaDoor.Tm
open Go.RowKit
set_option linter.unusedVariables false
/-- What of tells of a table that may be. -/
def ofP (l : List NodeA) (id : Int) : Int × Int × Int :=
  if id < 0 ∨ l.length ≤ id then (0, 0, 2) else match l[id.toNat]? with
    | none => (0, 0, 2)
    | some n => if n.sort = 1 then (if (rootA l id.toNat).2.2 = 0 then ((rootA l id.toNat).1, (rootA l id.toNat).2.1, 0) else (0, 0, (rootA l id.toNat).2.2)) else (0, 0, 33)
theorem ofP_out {l : List NodeA} {id : Int} (h : id < 0 ∨ l.length ≤ id) : ofP l id = (0, 0, 2) := if_pos h
theorem ofP_sort {l : List NodeA} {k : Nat} {n : NodeA} (h : l[k]? = some n) (hs : ¬ n.sort = 1) : ofP l k = (0, 0, 33) := by
  have hlt := (List.getElem?_eq_some_iff.1 h).1
  unfold ofP
  rw [if_neg (by omega), Int.toNat_natCast, h]
  exact if_neg hs
theorem ofP_err {l : List NodeA} {k : Nat} {n : NodeA} (h : l[k]? = some n) (hs : n.sort = 1) (he : ¬ (rootA l k).2.2 = 0) : ofP l k = (0, 0, (rootA l k).2.2) := by
  have hlt := (List.getElem?_eq_some_iff.1 h).1
  unfold ofP
  rw [if_neg (by omega), Int.toNat_natCast, h]
  simp only
  rw [if_pos hs, if_neg he]
theorem ofP_ok {l : List NodeA} {k : Nat} {n : NodeA} (h : l[k]? = some n) (hs : n.sort = 1) (he : (rootA l k).2.2 = 0) : ofP l k = (((rootA l k).1 : Int), (rootA l k).2.1, 0) := by
  have hlt := (List.getElem?_eq_some_iff.1 h).1
  unfold ofP
  rw [if_neg (by omega), Int.toNat_natCast, h]
  simp only
  rw [if_pos hs, if_pos he]
set_option maxRecDepth 100000 in
set_option maxHeartbeats 4000000 in
theorem of_any (l : List NodeA) (a : Option Addr) (c : Nat) (id : Int) (r : Int × Int × Int) (w : World) (hA : TabR w l a c) (hm : mayT l = true) (hl : l.length ≤ 1000) (hi : I64 id) (hr : ofP l id = r) :
    Calls Tryd.prog 24 #[.agg #[.slice a l.length c], .int .i64 id] w fun e w' => e = .returned (.tuple #[.int .i64 r.1, .int .i64 r.2.1, .int .i64 r.2.2]) ∧ Below w.heap.size w w' := by
  have HB0 : Hid (Below w.heap.size w (w.alloc (.cells #[.slice a l.length c] 33))) := (Below.refl _ w).alloc (Nat.le_refl _) _
  obtain ⟨hi1, hi2⟩ := hi
  by_cases h0 : id < 0
  · obtain rfl : (0, 0, 2) = r := (ofP_out (.inl h0)).symm.trans hr
    clear hA hr
    go_enter Tryd.func24, Tryd.ntmps24
    go_wp2
    refine bodyPost_ret (v := .tuple #[.int .i64 0, .int .i64 0, .int .i64 2]) (by simp [results, Tryd.results24, go_sem]) rfl ⟨rfl, HB0.out⟩
  by_cases h1 : (l.length : Int) ≤ id
  · obtain rfl : (0, 0, 2) = r := (ofP_out (.inr h1)).symm.trans hr
    clear hA hr
    go_enter Tryd.func24, Tryd.ntmps24
    go_wp2
    refine bodyPost_ret (v := .tuple #[.int .i64 0, .int .i64 0, .int .i64 2]) (by simp [results, Tryd.results24, go_sem]) rfl ⟨rfl, HB0.out⟩
  obtain ⟨k, rfl⟩ : ∃ k : Nat, id = k := ⟨id.toNat, by omega⟩
  have hkl : k < l.length := by omega
  obtain ⟨n, hn⟩ : ∃ n, l[k]? = some n := ⟨_, List.getElem?_eq_getElem hkl⟩
  obtain ⟨W0, hW0⟩ : ∃ W0, W0 = w.alloc (.cells #[.slice a l.length c] 33) := ⟨_, rfl⟩
  rw [← hW0] at HB0
  have hx0 : W0.heap[w.heap.size]? = some (.cells #[.slice a l.length c] 33 (0, 0)) := by rw [hW0]; exact heap_alloc_new w _
  have t0 : W0.cell? ⟨w.heap.size, 0, none⟩ = some (.slice a l.length c) := (cell_of_row _ _ 0 _ _ _ hx0).trans rfl
  have tz : w.heap.size < W0.heap.size := (Array.getElem?_eq_some_iff.1 hx0).1
  obtain ⟨g, o, rfl, hg, q0, q1, q2, q3, q4, q5, q6, q7⟩ := hA.node hn
  have hcap := hA.le
  have HR : Hid (Calls Tryd.prog 42 #[.agg #[.slice (some ⟨g, o, none⟩) l.length c], .int .i64 k] W0 fun e w' => e = .returned (.tuple #[.int .i64 (rootA l k).1, .agg #[.int .i64 (rootA l k).2.1, .int .i64 (rootA l k).2.2]]) ∧ Below W0.heap.size W0 w') := root_any l _ c k W0 (hA.below HB0.out) hm hkl hl
  clear hA hm hx0 q0 q1 q2 q3 q4 q6 q7
  by_cases hs : n.sort = 1
  rotate_left
  · obtain rfl : (0, 0, 33) = r := (ofP_sort hn hs).symm.trans hr
    have e0 := ne_t hs
    clear hr hs hn
    go_enter Tryd.func24, Tryd.ntmps24
    go_wp2
    refine bodyPost_ret (v := .tuple #[.int .i64 0, .int .i64 0, .int .i64 33]) (by simp [results, Tryd.results24, go_sem]) rfl ⟨rfl, by rw [hW0] at HB0; exact HB0.out⟩
  have e0 := ne_f hs
  by_cases he : (rootA l k).2.2 = 0
  · obtain rfl := (ofP_ok hn hs he).symm.trans hr
    obtain ⟨b, hb⟩ : ∃ b, (rootA l k).1 = b := ⟨_, rfl⟩
    obtain ⟨v, hv⟩ : ∃ v, (rootA l k).2.1 = v := ⟨_, rfl⟩
    rw [he, hb, hv] at HR
    rw [hb, hv]
    clear hr hs hn he hb hv
    go_enter Tryd.func24, Tryd.ntmps24
    go_wp2_with (go_at_call 42; rw [← hW0]; clear hW0; refine HR.out.mono ?_; rintro e w1 ⟨rfl, hb1⟩; have HB1 : Hid (Below w.heap.size w w1) := HB0.out.trans (hb1.mono HB0.out.size); clear hb1 q5 t0)
    go_quiet (fail)
    go_wp2
    refine bodyPost_ret (v := .tuple #[.int .i64 b, .int .i64 v, .int .i64 0]) (by simp [results, Tryd.results24, go_sem]) rfl ⟨rfl, below_drewN (HB1.out.alloc HB1.out.size _)⟩
  · obtain rfl := (ofP_err hn hs he).symm.trans hr
    obtain ⟨v, hv⟩ : ∃ v, (rootA l k).2.2 = v := ⟨_, rfl⟩
    rw [hv] at he HR
    rw [hv]
    have e1 := ne_t he
    clear hr hs hn he hv
    go_enter Tryd.func24, Tryd.ntmps24
    go_wp2_with (go_at_call 42; rw [← hW0]; clear hW0; refine HR.out.mono ?_; rintro e w1 ⟨rfl, hb1⟩; have HB1 : Hid (Below w.heap.size w w1) := HB0.out.trans (hb1.mono HB0.out.size); clear hb1 q5 t0)
    go_quiet (fail)
    go_wp2
    refine bodyPost_ret (v := .tuple #[.int .i64 0, .int .i64 0, .int .i64 v]) (by simp [results, Tryd.results24, go_sem]) rfl ⟨rfl, below_drewN (HB1.out.alloc HB1.out.size _)⟩
def OfP (l : List NodeA) (id : Int) : Int × Int × Int := if mayT l = true then ofP l id else (0, 0, 2)
theorem Of_any (l : List NodeA) (a : Option Addr) (c : Nat) (id : Int) (r : Int × Int × Int) (w : World) (hG : GT w) (hA : TabR w l a c) (hl : l.length ≤ 1000) (hi : I64 id) (hr : OfP l id = r) :
    Calls Tryd.prog 12 #[.agg #[.slice a l.length c], .int .i64 id] w fun e w' => e = .returned (.tuple #[.int .i64 r.1, .int .i64 r.2.1, .int .i64 r.2.2]) ∧ Below w.heap.size w w' := by
  obtain ⟨W0, hW0⟩ : ∃ W0, W0 = w.alloc (.cells #[.slice a l.length c] 33) := ⟨_, rfl⟩
  have HB0 : Hid (Below w.heap.size w W0) := by show Below _ _ _; rw [hW0]; exact (Below.refl _ w).alloc (Nat.le_refl _) _
  have HX : Hid (∀ V, Below W0.heap.size W0 V → V.cell? ⟨w.heap.size, 0, none⟩ = some (.slice a l.length c) ∧ w.heap.size < V.heap.size) := fun V hV => by
    have hx0 : W0.heap[w.heap.size]? = some (.cells #[.slice a l.length c] 33 (0, 0)) := by rw [hW0]; exact heap_alloc_new w _
    have e0 := (hV.block _ (Array.getElem?_eq_some_iff.1 hx0).1).trans hx0
    exact ⟨(cell_of_row _ _ 0 _ _ _ e0).trans rfl, (Array.getElem?_eq_some_iff.1 e0).1⟩
  cases hm : mayT l with
  | false =>
    have HC : Hid (Calls Tryd.prog 23 #[.agg #[.slice a l.length c]] W0 fun e w' => e = .returned (.int .i64 2) ∧ Below W0.heap.size W0 w') := Check_any l a c 2 W0 (hG.below HB0.out) (hA.below HB0.out) hl (by rw [hm]; rfl)
    obtain rfl : (0, 0, 2) = r := by rw [← hr]; unfold OfP; rw [if_neg (by rw [hm]; decide)]
    clear hA hG hm hr
    go_enter Tryd.func12, Tryd.ntmps12
    go_wp2_with (go_at_call 23; rw [← hW0]; clear hW0; refine HC.out.mono ?_; rintro e w1 ⟨rfl, hb1⟩)
    refine bodyPost_ret (v := .tuple #[.int .i64 0, .int .i64 0, .int .i64 2]) (by simp [results, Tryd.results12, go_sem]) rfl ⟨rfl, HB0.out.trans (hb1.mono HB0.out.size)⟩
  | true =>
    have HC : Hid (Calls Tryd.prog 23 #[.agg #[.slice a l.length c]] W0 fun e w' => e = .returned (.int .i64 0) ∧ Below W0.heap.size W0 w') := Check_any l a c 0 W0 (hG.below HB0.out) (hA.below HB0.out) hl (by rw [hm]; rfl)
    have hr2 : ofP l id = r := by rw [← hr]; unfold OfP; rw [if_pos hm]
    have HO : Hid (∀ V, Below w.heap.size w V → Calls Tryd.prog 24 #[.agg #[.slice a l.length c], .int .i64 id] V fun e w' => e = .returned (.tuple #[.int .i64 r.1, .int .i64 r.2.1, .int .i64 r.2.2]) ∧ Below V.heap.size V w') := fun V hV => of_any l a c id r V (hA.below hV) hm hl hi hr2
    clear hA hG hm hr hr2 hi
    obtain ⟨r0, r1, r2⟩ := r
    go_enter Tryd.func12, Tryd.ntmps12
    go_wp2_with (first | (go_at_call 23; rw [← hW0]; clear hW0; refine HC.out.mono ?_; rintro e w1 ⟨rfl, hb1⟩; have HB1 : Hid (Below w.heap.size w w1) := HB0.out.trans (hb1.mono HB0.out.size); obtain ⟨t0, tz⟩ := HX.out _ hb1; clear hb1) | (go_at_call 24; refine (HO.out _ HB1.out).mono ?_; rintro e w2 ⟨rfl, hb2⟩))
    refine bodyPost_ret (v := .tuple #[.int .i64 r0, .int .i64 r1, .int .i64 r2]) (by simp [results, Tryd.results12, go_sem]) rfl ⟨rfl, HB1.out.trans (hb2.mono HB1.out.size)⟩
end Go.Proofs.YtinogambkfihpaaDoor.Tm
namespace Go.Proofs.YtinogambkfihpaaDoor.Tm
open Go.RowKit
set_option linter.unusedVariables false
theorem rootP_i64 (l : List NodeA) : ∀ (f k : Nat) (s : Int × Int), I64 s.1 → I64 (rootP l f k s).2.1
  | 0, k, s, h => h
  | f + 1, k, s, h => by
    unfold rootP
    split
    · exact h
    · split
      · exact stepA_i64 h
      · split
        · exact rootP_i64 l f _ _ (stepA_i64 h)
        · exact h
theorem zero_i64 : I64 0 := ⟨by decide, by decide⟩
theorem rootA_i64 (l : List NodeA) (k : Nat) : I64 (rootA l k).2.1 := rootP_i64 l _ _ _ zero_i64
theorem ofP_i64 (l : List NodeA) (id : Int) : I64 (ofP l id).2.1 := by
  unfold ofP
  split
  · exact zero_i64
  · split
    · exact zero_i64
    · split
      · split
        · exact rootA_i64 _ _
        · exact zero_i64
      · exact zero_i64
theorem OfP_i64 (l : List NodeA) (id : Int) : I64 (OfP l id).2.1 := by
  unfold OfP
  split
  · exact ofP_i64 _ _
  · exact zero_i64
theorem stepS_i64 {s : Int × Int} {b : Int} (h : I64 s.1) : I64 (stepS s b).1 := by
  unfold stepS
  split
  · exact subV_i64
  · exact h
theorem OfP_may {l : List NodeA} {id : Int} (h : (OfP l id).2.2 = 0) : mayT l = true := by
  cases hm : mayT l with
  | true => rfl
  | false => unfold OfP at h; rw [if_neg (by rw [hm]; decide)] at h; cases h
theorem OfP_eq {l : List NodeA} {id : Int} (h : mayT l = true) : OfP l id = ofP l id := if_pos h
/-- What Diff tells. -/
def diffS (l : List NodeA) (a b c : Int) : Int × Int := stepA (stepS (c, (ofP l b).2.2) (OfP l a).2.1) (ofP l b).2.1
def diffP (l : List NodeA) (a b c : Int) : Int × Int × Int × Int :=
  if (OfP l a).2.2 = 0 then (if (diffS l a b c).2 = 0 then ((OfP l a).1, (ofP l b).1, (diffS l a b c).1, 0) else (0, 0, 0, (diffS l a b c).2)) else (0, 0, 0, (OfP l a).2.2)
theorem OfP_base_i64 (l : List NodeA) (id : Int) : 0 ≤ (OfP l id).1 := by
  unfold OfP ofP
  repeat' split
  all_goals (first | exact Int.natCast_nonneg _ | exact Int.le_refl _)
set_option maxRecDepth 100000 in
set_option maxHeartbeats 4000000 in
theorem Diff_any (l : List NodeA) (ad : Option Addr) (cp : Nat) (a b c : Int) (r : Int × Int × Int × Int) (w : World) (hG : GT w) (hA : TabR w l ad cp) (hl : l.length ≤ 1000) (ha : I64 a) (hb : I64 b) (hc : I64 c) (hr : diffP l a b c = r) :
    Calls Tryd.prog 14 #[.agg #[.slice ad l.length cp], .int .i64 a, .int .i64 b, .int .i64 c] w fun e w' => e = .returned (.tuple #[.int .i64 r.1, .int .i64 r.2.1, .int .i64 r.2.2.1, .int .i64 r.2.2.2]) ∧ Below w.heap.size w w' := by
  obtain ⟨W0, hW0⟩ : ∃ W0, W0 = w.alloc (.cells #[.slice ad l.length cp] 33) := ⟨_, rfl⟩
  have HB0 : Hid (Below w.heap.size w W0) := by show Below _ _ _; rw [hW0]; exact (Below.refl _ w).alloc (Nat.le_refl _) _
  have HX : Hid (∀ V, Below W0.heap.size W0 V → V.cell? ⟨w.heap.size, 0, none⟩ = some (.slice ad l.length cp) ∧ w.heap.size < V.heap.size) := fun V hV => by
    have hx0 : W0.heap[w.heap.size]? = some (.cells #[.slice ad l.length cp] 33 (0, 0)) := by rw [hW0]; exact heap_alloc_new w _
    have e0 := (hV.block _ (Array.getElem?_eq_some_iff.1 hx0).1).trans hx0
    exact ⟨(cell_of_row _ _ 0 _ _ _ e0).trans rfl, (Array.getElem?_eq_some_iff.1 e0).1⟩
  obtain ⟨p, hp⟩ : ∃ p, OfP l a = p := ⟨_, rfl⟩
  have HO : Hid (Calls Tryd.prog 12 #[.agg #[.slice ad l.length cp], .int .i64 a] W0 fun e w' => e = .returned (.tuple #[.int .i64 p.1, .int .i64 p.2.1, .int .i64 p.2.2]) ∧ Below W0.heap.size W0 w') := Of_any l ad cp a p W0 (hG.below HB0.out) (hA.below HB0.out) hl ha hp
  by_cases he : p.2.2 = 0
  rotate_left
  · obtain rfl : (0, 0, 0, p.2.2) = r := by rw [← hr]; unfold diffP; rw [hp, if_neg he]
    obtain ⟨p0, p1, p2⟩ := p
    have e0 := ne_t he
    simp only at e0
    clear hr he hA hG hp
    go_enter Tryd.func14, Tryd.ntmps14
    go_wp2_with (go_at_call 12; rw [← hW0]; clear hW0; refine HO.out.mono ?_; rintro e w1 ⟨rfl, hb1⟩)
    refine bodyPost_ret (v := .tuple #[.int .i64 0, .int .i64 0, .int .i64 0, .int .i64 p2]) (by simp [results, Tryd.results14, go_sem]) rfl ⟨rfl, HB0.out.trans (hb1.mono HB0.out.size)⟩
  have hm : mayT l = true := OfP_may (by rw [hp]; exact he)
  obtain ⟨q, hq⟩ : ∃ q, ofP l b = q := ⟨_, rfl⟩
  have hp2 := OfP_i64 l a
  rw [hp] at hp2
  have hq2 := ofP_i64 l b
  rw [hq] at hq2
  have HQ : Hid (∀ V, Below w.heap.size w V → Calls Tryd.prog 24 #[.agg #[.slice ad l.length cp], .int .i64 b] V fun e w' => e = .returned (.tuple #[.int .i64 q.1, .int .i64 q.2.1, .int .i64 q.2.2]) ∧ Below V.heap.size V w') := fun V hV => of_any l ad cp b q V (hA.below hV) hm hl hb hq
  obtain ⟨s, hs⟩ : ∃ s, stepA (stepS (c, q.2.2) p.2.1) q.2.1 = s := ⟨_, rfl⟩
  have hr2 : (if s.2 = 0 then (p.1, q.1, s.1, 0) else (0, 0, 0, s.2)) = r := by
    rw [← hr]
    unfold diffP diffS
    rw [hp, hq, hs, if_pos he]
  have HT1 : Hid (∀ (V : World) (B : Nat), Sum V B (c, q.2.2) → Calls Tryd.prog 26 #[.pointer (some ⟨B, 0, none⟩), .func (.func 27) #[] #[], .int .i64 p.2.1] V (ThenPost V B (stepS (c, q.2.2) p.2.1))) := fun V B h => then_sub B _ _ V h hc hp2
  have HT2 : Hid (∀ (V : World) (B : Nat), Sum V B (stepS (c, q.2.2) p.2.1) → Calls Tryd.prog 26 #[.pointer (some ⟨B, 0, none⟩), .func (.func 28) #[] #[], .int .i64 q.2.1] V (ThenPost V B s)) := fun V B h => by rw [← hs]; exact then_add B _ _ V h (stepS_i64 hc) hq2
  generalize stepS (c, q.2.2) p.2.1 = s1 at HT1 HT2
  obtain ⟨p0, p1, p2⟩ := p
  obtain ⟨q0, q1, q2⟩ := q
  obtain ⟨s0, se⟩ := s
  obtain rfl : p2 = 0 := he
  simp only at HO HQ HT1 HT2 hr2
  clear hr hA hG hp hq hs hp2 hq2 hm ha hb hc
  have HSum : Hid (∀ V : World, Sum (V.alloc (.cells #[.int .i64 c, .int .i64 q2] 76)) V.heap.size (c, q2)) := fun V => heap_alloc_new V _
  have HR : Hid ((if se = 0 then (p0, q0, s0, 0) else (0, 0, 0, se)) = r) := hr2
  clear hr2
  go_enter Tryd.func14, Tryd.ntmps14
  go_wp2_with (first | (go_at_call 26; refine (HT2.out _ _ HS3.out).mono ?_; rintro e w4 ⟨rfl, hs4, hb4⟩) | (go_at_call 12; rw [← hW0]; clear hW0; refine HO.out.mono ?_; rintro e w1 ⟨rfl, hb1⟩; have HB1 : Hid (Below w.heap.size w w1) := HB0.out.trans (hb1.mono HB0.out.size); obtain ⟨t0, tz⟩ := HX.out _ hb1; clear hb1) | (go_at_call 24; refine (HQ.out _ HB1.out).mono ?_; rintro e w2 ⟨rfl, hb2⟩; have HB2 : Hid (Below w.heap.size w w2) := HB1.out.trans (hb2.mono HB1.out.size); clear hb2 t0 tz))
  refine (HT1.out _ _ (HSum.out w2)).mono ?_
  rintro e w3 ⟨rfl, hs3, hb3⟩
  have HS3 := Lib.hid hs3
  have HB3 : Hid (Below w.heap.size w w3) := HB2.out.trans ((But.below ((Below.refl _ w2).alloc (Nat.le_refl _) _) hb3 (Nat.le_refl _)).mono HB2.out.size)
  have hz3 : w2.heap.size ≤ w3.heap.size := by have := hb3.size; simp at this; omega
  clear hs3 hb3
  by_cases hse : se = 0
  · subst hse
    obtain rfl : (p0, q0, s0, 0) = r := HR.out
    go_wp2_with (go_at_call 26; refine (HT2.out _ _ HS3.out).mono ?_; rintro e w4 ⟨rfl, hs4, hb4⟩; have c0 := hs4.c0; have c1 := hs4.c1; have hz4 := hs4.lt; simp only at c0 c1; have HB4 : Hid (Below w.heap.size w w4) := HB3.out.trans ((But.below (Below.refl _ w3) hb4 hz3).mono HB2.out.size); clear hs4 hb4)
    go_quiet (fail)
    go_wp2
    refine bodyPost_ret (v := .tuple #[.int .i64 p0, .int .i64 q0, .int .i64 s0, .int .i64 0]) (by simp [results, Tryd.results14, go_sem]) rfl ⟨rfl, below_drewN HB4.out⟩
  · obtain rfl : (0, 0, 0, se) = r := by have h := HR.out; rw [if_neg hse] at h; exact h
    have e1 := ne_t hse
    clear hse
    go_wp2_with (go_at_call 26; refine (HT2.out _ _ HS3.out).mono ?_; rintro e w4 ⟨rfl, hs4, hb4⟩; have c0 := hs4.c0; have c1 := hs4.c1; have hz4 := hs4.lt; simp only at c0 c1; have HB4 : Hid (Below w.heap.size w w4) := HB3.out.trans ((But.below (Below.refl _ w3) hb4 hz3).mono HB2.out.size); clear hs4 hb4)
    go_quiet (fail)
    go_wp2
    refine bodyPost_ret (v := .tuple #[.int .i64 0, .int .i64 0, .int .i64 0, .int .i64 se]) (by simp [results, Tryd.results14, go_sem]) rfl ⟨rfl, below_drewN HB4.out⟩
/-- The node of a difference. -/
def compN (x y d : Int) : NodeA := if x = y then (if 0 ≤ d then trueN else ⟨1, 1, 0, 0, 0, 0, 0, 0⟩) else ⟨12, 2, x, y, 0, 0, 0, d⟩
theorem comp_any (x y d : Int) (n : NodeA) (w : World) (hn : compN x y d = n) :
    Calls Tryd.prog 17 #[.int .i64 x, .int .i64 y, .int .i64 d] w fun e w' => e = .returned (.agg #[.int .i8 n.op, .int .i8 n.len, .int .i64 n.a0, .int .i64 n.a1, .int .i64 n.a2, .int .i64 n.sort, .int .i64 n.fn, .int .i64 n.num]) ∧ Below w.heap.size w w' := by
  have HB : Hid (∀ o, Below w.heap.size w (w.alloc o)) := fun o => (Below.refl _ w).alloc (Nat.le_refl _) _
  by_cases hxy : x = y
  · have e0 := ne_f hxy
    by_cases hd : 0 ≤ d
    · obtain rfl : trueN = n := by rw [← hn]; unfold compN; rw [if_pos hxy, if_pos hd]
      clear hn hxy
      go_enter Tryd.func17, Tryd.ntmps17
      go_wp2
      refine bodyPost_ret (v := .agg #[.int .i8 0, .int .i8 0, .int .i64 0, .int .i64 0, .int .i64 0, .int .i64 0, .int .i64 0, .int .i64 0]) (by simp [results, Tryd.results17, go_sem]) rfl ⟨rfl, HB.out _⟩
    · obtain rfl : NodeA.mk 1 1 0 0 0 0 0 0 = n := by rw [← hn]; unfold compN; rw [if_pos hxy, if_neg hd]
      clear hn hxy
      go_enter Tryd.func17, Tryd.ntmps17
      go_wp2
      refine bodyPost_ret (v := .agg #[.int .i8 1, .int .i8 1, .int .i64 0, .int .i64 0, .int .i64 0, .int .i64 0, .int .i64 0, .int .i64 0]) (by simp [results, Tryd.results17, go_sem]) rfl ⟨rfl, HB.out _⟩
  · obtain rfl : NodeA.mk 12 2 x y 0 0 0 d = n := by rw [← hn]; unfold compN; rw [if_neg hxy]
    have e0 := ne_t hxy
    clear hn hxy
    go_enter Tryd.func17, Tryd.ntmps17
    go_wp2
    refine bodyPost_ret (v := .agg #[.int .i8 12, .int .i8 2, .int .i64 x, .int .i64 y, .int .i64 0, .int .i64 0, .int .i64 0, .int .i64 d]) (by simp [results, Tryd.results17, go_sem]) rfl ⟨rfl, HB.out _⟩
end Go.Proofs.YtinogambkfihpaaDoor.Tm
