/- Package offset's Diff, and the nodes that it puts. -/
import Derived.Test.YtgjidlfemfomcaaDoorOfD
namespace Go.Proofs.YtgjidlfemfomcaaDoor
open Go.RowKit
set_option linter.unusedVariables false
theorem rootP_i64 (l : List NodeA) : ∀ (f k : Nat) (s : Int × Int), I64 s.1 → I64 (rootP l f k s).2.1
  | 0, k, s, h => h
  | f + 1, k, s, h => by
    unfold rootP
    split
    · exact h
    · split
      · exact stepA_i64 h
      · split
        · exact rootP_i64 l f _ _ (stepA_i64 h)
        · exact h
theorem zero_i64 : I64 0 := ⟨by decide, by decide⟩
theorem rootA_i64 (l : List NodeA) (k : Nat) : I64 (rootA l k).2.1 := rootP_i64 l _ _ _ zero_i64
theorem ofP_i64 (l : List NodeA) (id : Int) : I64 (ofP l id).2.1 := by
  unfold ofP
  split
  · exact zero_i64
  · split
    · exact zero_i64
    · split
      · split
        · exact rootA_i64 _ _
        · exact zero_i64
      · exact zero_i64
theorem OfP_i64 (l : List NodeA) (id : Int) : I64 (OfP l id).2.1 := by
  unfold OfP
  split
  · exact ofP_i64 _ _
  · exact zero_i64
theorem stepS_i64 {s : Int × Int} {b : Int} (h : I64 s.1) : I64 (stepS s b).1 := by
  unfold stepS
  split
  · exact subV_i64
  · exact h
theorem OfP_may {l : List NodeA} {id : Int} (h : (OfP l id).2.2 = 0) : mayT l = true := by
  cases hm : mayT l with
  | true => rfl
  | false => unfold OfP at h; rw [if_neg (by rw [hm]; decide)] at h; cases h
theorem OfP_eq {l : List NodeA} {id : Int} (h : mayT l = true) : OfP l id = ofP l id := if_pos h
/-- What Diff tells. -/
def diffS (l : List NodeA) (a b c : Int) : Int × Int := stepA (stepS (c, (ofP l b).2.2) (OfP l a).2.1) (ofP l b).2.1
def diffP (l : List NodeA) (a b c : Int) : Int × Int × Int × Int :=
  if (OfP l a).2.2 = 0 then (if (diffS l a b c).2 = 0 then ((OfP l a).1, (ofP l b).1, (diffS l a b c).1, 0) else (0, 0, 0, (diffS l a b c).2)) else (0, 0, 0, (OfP l a).2.2)
theorem OfP_base_i64 (l : List NodeA) (id : Int) : 0 ≤ (OfP l id).1 := by
  unfold OfP ofP
  repeat' split
  all_goals (first | exact Int.natCast_nonneg _ | exact Int.le_refl _)
set_option maxRecDepth 100000 in
set_option maxHeartbeats 4000000 in
theorem Diff_any (l : List NodeA) (ad : Option Addr) (cp : Nat) (a b c : Int) (r : Int × Int × Int × Int) (w : World) (hG : GT w) (hA : TabR w l ad cp) (hl : l.length ≤ 1000) (ha : I64 a) (hb : I64 b) (hc : I64 c) (hr : diffP l a b c = r) :
    Calls Tryd.prog 15 #[.agg #[.slice ad l.length cp], .int .i64 a, .int .i64 b, .int .i64 c] w fun e w' => e = .returned (.tuple #[.int .i64 r.1, .int .i64 r.2.1, .int .i64 r.2.2.1, .int .i64 r.2.2.2]) ∧ Below w.heap.size w w' := by
  obtain ⟨W0, hW0⟩ : ∃ W0, W0 = w.alloc (.cells #[.slice ad l.length cp] 24) := ⟨_, rfl⟩
  have HB0 : Hid (Below w.heap.size w W0) := by show Below _ _ _; rw [hW0]; exact (Below.refl _ w).alloc (Nat.le_refl _) _
  have HX : Hid (∀ V, Below W0.heap.size W0 V → V.cell? ⟨w.heap.size, 0, none⟩ = some (.slice ad l.length cp) ∧ w.heap.size < V.heap.size) := fun V hV => by
    have hx0 : W0.heap[w.heap.size]? = some (.cells #[.slice ad l.length cp] 24 (0, 0)) := by rw [hW0]; exact heap_alloc_new w _
    have e0 := (hV.block _ (Array.getElem?_eq_some_iff.1 hx0).1).trans hx0
    exact ⟨(cell_of_row _ _ 0 _ _ _ e0).trans rfl, (Array.getElem?_eq_some_iff.1 e0).1⟩
  obtain ⟨p, hp⟩ : ∃ p, OfP l a = p := ⟨_, rfl⟩
  have HO : Hid (Calls Tryd.prog 10 #[.agg #[.slice ad l.length cp], .int .i64 a] W0 fun e w' => e = .returned (.tuple #[.int .i64 p.1, .int .i64 p.2.1, .int .i64 p.2.2]) ∧ Below W0.heap.size W0 w') := Of_any l ad cp a p W0 (hG.below HB0.out) (hA.below HB0.out) hl ha hp
  by_cases he : p.2.2 = 0
  rotate_left
  · obtain rfl : (0, 0, 0, p.2.2) = r := by rw [← hr]; unfold diffP; rw [hp, if_neg he]
    obtain ⟨p0, p1, p2⟩ := p
    have e0 := ne_t he
    simp only at e0
    clear hr he hA hG hp
    go_enter Tryd.func15, Tryd.ntmps15
    go_wp2_with (go_at_call 10; rw [← hW0]; clear hW0; refine HO.out.mono ?_; rintro e w1 ⟨rfl, hb1⟩)
    refine bodyPost_ret (v := .tuple #[.int .i64 0, .int .i64 0, .int .i64 0, .int .i64 p2]) (by simp [results, Tryd.results15, go_sem]) rfl ⟨rfl, HB0.out.trans (hb1.mono HB0.out.size)⟩
  have hm : mayT l = true := OfP_may (by rw [hp]; exact he)
  obtain ⟨q, hq⟩ : ∃ q, ofP l b = q := ⟨_, rfl⟩
  have hp2 := OfP_i64 l a
  rw [hp] at hp2
  have hq2 := ofP_i64 l b
  rw [hq] at hq2
  have HQ : Hid (∀ V, Below w.heap.size w V → Calls Tryd.prog 22 #[.agg #[.slice ad l.length cp], .int .i64 b] V fun e w' => e = .returned (.tuple #[.int .i64 q.1, .int .i64 q.2.1, .int .i64 q.2.2]) ∧ Below V.heap.size V w') := fun V hV => of_any l ad cp b q V (hA.below hV) hm hl hb hq
  obtain ⟨s, hs⟩ : ∃ s, stepA (stepS (c, q.2.2) p.2.1) q.2.1 = s := ⟨_, rfl⟩
  have hr2 : (if s.2 = 0 then (p.1, q.1, s.1, 0) else (0, 0, 0, s.2)) = r := by
    rw [← hr]
    unfold diffP diffS
    rw [hp, hq, hs, if_pos he]
  have HT1 : Hid (∀ (V : World) (B : Nat), Sum V B (c, q.2.2) → Calls Tryd.prog 18 #[.pointer (some ⟨B, 0, none⟩), .func (.func 29) #[] #[], .int .i64 p.2.1] V (ThenPost V B (stepS (c, q.2.2) p.2.1))) := fun V B h => then_sub B _ _ V h hc hp2
  have HT2 : Hid (∀ (V : World) (B : Nat), Sum V B (stepS (c, q.2.2) p.2.1) → Calls Tryd.prog 18 #[.pointer (some ⟨B, 0, none⟩), .func (.func 19) #[] #[], .int .i64 q.2.1] V (ThenPost V B s)) := fun V B h => by rw [← hs]; exact then_add B _ _ V h (stepS_i64 hc) hq2
  generalize stepS (c, q.2.2) p.2.1 = s1 at HT1 HT2
  obtain ⟨p0, p1, p2⟩ := p
  obtain ⟨q0, q1, q2⟩ := q
  obtain ⟨s0, se⟩ := s
  obtain rfl : p2 = 0 := he
  simp only at HO HQ HT1 HT2 hr2
  clear hr hA hG hp hq hs hp2 hq2 hm ha hb hc
  have HSum : Hid (∀ V : World, Sum (V.alloc (.cells #[.int .i64 c, .int .i64 q2] 49)) V.heap.size (c, q2)) := fun V => heap_alloc_new V _
  have HR : Hid ((if se = 0 then (p0, q0, s0, 0) else (0, 0, 0, se)) = r) := hr2
  clear hr2
  go_enter Tryd.func15, Tryd.ntmps15
  go_wp2_with (first | (go_at_call 18; refine (HT2.out _ _ HS3.out).mono ?_; rintro e w4 ⟨rfl, hs4, hb4⟩) | (go_at_call 10; rw [← hW0]; clear hW0; refine HO.out.mono ?_; rintro e w1 ⟨rfl, hb1⟩; have HB1 : Hid (Below w.heap.size w w1) := HB0.out.trans (hb1.mono HB0.out.size); obtain ⟨t0, tz⟩ := HX.out _ hb1; clear hb1) | (go_at_call 22; refine (HQ.out _ HB1.out).mono ?_; rintro e w2 ⟨rfl, hb2⟩; have HB2 : Hid (Below w.heap.size w w2) := HB1.out.trans (hb2.mono HB1.out.size); clear hb2 t0 tz))
  refine (HT1.out _ _ (HSum.out w2)).mono ?_
  rintro e w3 ⟨rfl, hs3, hb3⟩
  have HS3 := Lib.hid hs3
  have HB3 : Hid (Below w.heap.size w w3) := HB2.out.trans ((But.below ((Below.refl _ w2).alloc (Nat.le_refl _) _) hb3 (Nat.le_refl _)).mono HB2.out.size)
  have hz3 : w2.heap.size ≤ w3.heap.size := by have := hb3.size; simp at this; omega
  clear hs3 hb3
  by_cases hse : se = 0
  · subst hse
    obtain rfl : (p0, q0, s0, 0) = r := HR.out
    go_wp2_with (go_at_call 18; refine (HT2.out _ _ HS3.out).mono ?_; rintro e w4 ⟨rfl, hs4, hb4⟩; have c0 := hs4.c0; have c1 := hs4.c1; have hz4 := hs4.lt; simp only at c0 c1; have HB4 : Hid (Below w.heap.size w w4) := HB3.out.trans ((But.below (Below.refl _ w3) hb4 hz3).mono HB2.out.size); clear hs4 hb4)
    go_quiet (fail)
    go_wp2
    refine bodyPost_ret (v := .tuple #[.int .i64 p0, .int .i64 q0, .int .i64 s0, .int .i64 0]) (by simp [results, Tryd.results15, go_sem]) rfl ⟨rfl, below_drewN HB4.out⟩
  · obtain rfl : (0, 0, 0, se) = r := by have h := HR.out; rw [if_neg hse] at h; exact h
    have e1 := ne_t hse
    clear hse
    go_wp2_with (go_at_call 18; refine (HT2.out _ _ HS3.out).mono ?_; rintro e w4 ⟨rfl, hs4, hb4⟩; have c0 := hs4.c0; have c1 := hs4.c1; have hz4 := hs4.lt; simp only at c0 c1; have HB4 : Hid (Below w.heap.size w w4) := HB3.out.trans ((But.below (Below.refl _ w3) hb4 hz3).mono HB2.out.size); clear hs4 hb4)
    go_quiet (fail)
    go_wp2
    refine bodyPost_ret (v := .tuple #[.int .i64 0, .int .i64 0, .int .i64 0, .int .i64 se]) (by simp [results, Tryd.results15, go_sem]) rfl ⟨rfl, below_drewN HB4.out⟩
/-- The node of a difference. -/
def compN (x y d : Int) : NodeA := if x = y then (if 0 ≤ d then trueN else ⟨1, 1, 0, 0, 0, 0, 0, 0⟩) else ⟨12, 2, x, y, 0, 0, 0, d⟩
theorem comp_any (x y d : Int) (n : NodeA) (w : World) (hn : compN x y d = n) :
    Calls Tryd.prog 28 #[.int .i64 x, .int .i64 y, .int .i64 d] w fun e w' => e = .returned (.agg #[.int .i8 n.op, .int .i8 n.len, .int .i64 n.a0, .int .i64 n.a1, .int .i64 n.a2, .int .i64 n.sort, .int .i64 n.fn, .int .i64 n.num]) ∧ Below w.heap.size w w' := by
  have HB : Hid (∀ o, Below w.heap.size w (w.alloc o)) := fun o => (Below.refl _ w).alloc (Nat.le_refl _) _
  by_cases hxy : x = y
  · have e0 := ne_f hxy
    by_cases hd : 0 ≤ d
    · obtain rfl : trueN = n := by rw [← hn]; unfold compN; rw [if_pos hxy, if_pos hd]
      clear hn hxy
      go_enter Tryd.func28, Tryd.ntmps28
      go_wp2
      refine bodyPost_ret (v := .agg #[.int .i8 0, .int .i8 0, .int .i64 0, .int .i64 0, .int .i64 0, .int .i64 0, .int .i64 0, .int .i64 0]) (by simp [results, Tryd.results28, go_sem]) rfl ⟨rfl, HB.out _⟩
    · obtain rfl : NodeA.mk 1 1 0 0 0 0 0 0 = n := by rw [← hn]; unfold compN; rw [if_pos hxy, if_neg hd]
      clear hn hxy
      go_enter Tryd.func28, Tryd.ntmps28
      go_wp2
      refine bodyPost_ret (v := .agg #[.int .i8 1, .int .i8 1, .int .i64 0, .int .i64 0, .int .i64 0, .int .i64 0, .int .i64 0, .int .i64 0]) (by simp [results, Tryd.results28, go_sem]) rfl ⟨rfl, HB.out _⟩
  · obtain rfl : NodeA.mk 12 2 x y 0 0 0 d = n := by rw [← hn]; unfold compN; rw [if_neg hxy]
    have e0 := ne_t hxy
    clear hn hxy
    go_enter Tryd.func28, Tryd.ntmps28
    go_wp2
    refine bodyPost_ret (v := .agg #[.int .i8 12, .int .i8 2, .int .i64 x, .int .i64 y, .int .i64 0, .int .i64 0, .int .i64 0, .int .i64 d]) (by simp [results, Tryd.results28, go_sem]) rfl ⟨rfl, HB.out _⟩
end Go.Proofs.YtgjidlfemfomcaaDoor
