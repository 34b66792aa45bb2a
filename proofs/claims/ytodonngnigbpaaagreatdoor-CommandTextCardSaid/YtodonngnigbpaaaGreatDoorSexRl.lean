/- The document's reader of expressions: lists. -/
import Derived.Test.YtodonngnigbpaaaGreatDoorSexRp
import Derived.Test.YtodonngnigbpaaaGreatDoorSexRx
namespace Go.Proofs.YtodonngnigbpaaaGreatDoor
open Go.RowKit
set_option linter.unusedVariables false
theorem leaf_is (k : Nat) (j : Int) (x : ByteArray) (n m : Int) (w : World) (h2 : 2 ≤ k) (h4 : k ≤ 4) (hj : (k : Int) - 2 = j) :
    Calls Tryz.prog 37 #[.agg #[.int .i8 k, .string x, .int .i64 n, .int .i64 m]] w fun e w' => e = .returned (.agg #[.int .i8 j, .string x, .slice none 0 0]) ∧ Below w.heap.size w w' := by
  obtain rfl | rfl | rfl : k = 2 ∨ k = 3 ∨ k = 4 := by omega
  all_goals
    subst hj
    go_enter Tryz.func37, Tryz.ntmps37
    go_wp2
  · exact bodyPost_ret (v := .agg #[.int .i8 0, .string x, .slice none 0 0]) (by simp [results, Tryz.results37, go_sem]) rfl ⟨rfl, ((Below.refl _ _).alloc (Nat.le_refl _) _).alloc (by simp) _⟩
  · exact bodyPost_ret (v := .agg #[.int .i8 1, .string x, .slice none 0 0]) (by simp [results, Tryz.results37, go_sem]) rfl ⟨rfl, ((Below.refl _ _).alloc (Nat.le_refl _) _).alloc (by simp) _⟩
  · exact bodyPost_ret (v := .agg #[.int .i8 2, .string x, .slice none 0 0]) (by simp [results, Tryz.results37, go_sem]) rfl ⟨rfl, ((Below.refl _ _).alloc (Nat.le_refl _) _).alloc (by simp) _⟩
/-- What such a call answers. -/
def RdPost (s : ByteArray) (p : Nat) (w : World) (e : Ending) (w' : World) : Prop := ∃ y v, RelR s.data.toList p y ∧ e = .returned (.tuple #[v, .int .i64 y.stop, .int .i64 y.err]) ∧ RdOut w.heap.size w' y.t v ∧ Below w.heap.size w w'
/-- Behind stores of nothing into the result's box. -/
theorem rd_zero {s : ByteArray} {p : Nat} {w wz : World} {n k : Nat} (hr : RelR s.data.toList p ⟨emptyT, n, k⟩) (hb : Below w.heap.size w wz) :
    RdPost s p w (.returned (.tuple #[.agg #[.int .i8 0, .string ⟨#[]⟩, .slice none 0 0], .int .i64 n, .int .i64 k])) wz := ⟨_, _, hr, rfl, RdOut.empty _ _, hb⟩
theorem below_put3 {w wz : World} {rb : Nat} (hb : Below rb w wz) (v0 v1 v2 : Value) : Below rb w (((wz.setCell ⟨rb, 0, none⟩ v0).setCell ⟨rb, 1, none⟩ v1).setCell ⟨rb, 2, none⟩ v2) :=
  ((hb.setCell (p := ⟨rb, 0, none⟩) (Nat.le_refl _) _).setCell (p := ⟨rb, 1, none⟩) (Nat.le_refl _) _).setCell (p := ⟨rb, 2, none⟩) (Nat.le_refl _) _
theorem RdOut.leaf (B : Nat) (w : World) (k : Int) (t : List UInt8) (ht : t.length ≤ 100) : RdOut B w (.node k t []) (.agg #[.int .i8 k, .string (bytesL t), .slice none 0 0]) :=
  ⟨fun _ => False, fun _ h => h.elim, fun _ h => h.elim, none, 0, rfl, by simp, by simp, by simp only [maxLen]; omega, trivial⟩
theorem AllM.out {w : World} {B n₀ n cap : Nat} {a : Option Addr} {ts : List Tree} (h : AllM w n₀ (.slice a n cap) ts) (hB : B ≤ n₀) : RdOut B w (.node 3 [] ts) (.agg #[.int .i8 3, .string ⟨#[]⟩, .slice a n cap]) := by
  obtain ⟨K, h1, h2, h3, h4⟩ := h
  obtain ⟨a', cap', hv, q1, q2⟩ := h3.form
  simp only [Value.slice.injEq] at hv
  obtain ⟨rfl, rfl, rfl⟩ := hv
  refine ⟨fun b => K b ∨ (Value.slice a ts.length cap).ownBlock = some b, fun b hb => ?_, fun b hb => ?_, a, cap, rfl, q1, q2, by simp, h3.closed (fun b hb => .inl hb) (fun g hg => .inr hg)⟩
  · rcases hb with hb | hb
    · exact ⟨Nat.le_trans hB (h1 b hb).1, (h1 b hb).2⟩
    · exact ⟨Nat.le_trans hB (h3.lt hb).1, (h3.lt hb).2⟩
  · rcases hb with hb | hb
    · exact h2 b hb
    · exact h3.cells hb
/-- A store below what has been put together. -/
theorem AllM.set {w : World} {n₀ xb i : Nat} {v u : Value} {ts : List Tree} (h : AllM w n₀ v ts) (hx : xb < n₀) : AllM (w.setCell ⟨xb, i, none⟩ u) n₀ v ts := by
  obtain ⟨K, h1, h2, h3, h4⟩ := h
  have hk : ∀ b, n₀ ≤ b → (w.setCell ⟨xb, i, none⟩ u).heap[b]? = w.heap[b]? := fun b hb => Below.heap_setCell _ _ _ _ (by show b ≠ xb; omega)
  refine ⟨K, fun b hb => ⟨(h1 b hb).1, by simpa [World.setCell] using (h1 b hb).2⟩, fun b hb => ?_, h3.keep (fun b hb => hk b ?_), h4⟩
  · obtain ⟨cs, hc⟩ := h2 b hb
    exact ⟨cs, (hk b (h1 b hb).1).trans hc⟩
  · rcases hb with hb | hb
    · exact (h1 b hb).1
    · exact (h3.lt hb).1
set_option maxHeartbeats 8000000 in
/-- The first token is none, or ends a list, or is one alone. -/
theorem read_flat (s : ByteArray) (hs : s.size < 900000) (at_ : Int) (p : Nat) (w : World) (hp : clampN at_ s.size = p) (hk : (nextL s.data.toList p).err = 0 → (nextL s.data.toList p).ok = true → (nextL s.data.toList p).tok.kind ≠ 0) :
    Calls Tryz.prog 19 #[.string s, .int .i64 at_] w (RdPost s p w) := by
  have HL : Hid (s.data.toList.length = s.size) := by show _ = _; simp
  have hpl : p ≤ s.data.toList.length := by rw [HL.out, ← hp]; exact clampN_le _ _
  obtain ⟨X, hX⟩ : ∃ X, nextL s.data.toList p = X := ⟨_, rfl⟩
  have HN := Lib.hid (fun W => RNext_any s at_ X W hs (by rw [hp]; exact hX))
  obtain ⟨W1, hW1⟩ : ∃ W1, W1 = w.alloc (.cells #[.int .i8 0, .string ⟨#[]⟩, .slice none 0 0] 35) := ⟨_, rfl⟩
  have HB1 : Hid (Below w.heap.size w W1) := by show Below _ _ _; rw [hW1]; exact (Below.refl _ _).alloc (Nat.le_refl _) _
  have HC1 : Hid (W1.heap[w.heap.size]? = some (.cells #[.int .i8 0, .string ⟨#[]⟩, .slice none 0 0] 35 (0, 0))) := by show _ = _; rw [hW1]; exact heap_alloc_new w _
  have hz1 : w.heap.size < W1.heap.size := by rw [hW1]; simp
  have HHs := Lib.hid hs
  clear hs
  by_cases herr : X.err = 0
  · by_cases hok : X.ok = true
    · rw [hX] at hk
      have hk0 := hk herr hok
      by_cases hk1 : X.tok.kind = 1
      · have HRel := Lib.hid (rel_close hpl (by rw [hX]; exact herr) (by rw [hX]; exact hok) (by rw [hX]; exact hk1))
        rw [hX] at HRel
        obtain ⟨⟨kd, t, n, m⟩, ok, err⟩ := X
        simp only at herr hok hk1 HRel
        subst herr hok hk1
        clear hX hk hk0
        go_enter Tryz.func19, Tryz.ntmps19
        go_wp2_with fail
        rw [← hW1]
        clear hW1
        refine (HN.out _).mono ?_
        rintro e9 w2 ⟨rfl, hb2⟩
        have hC2 : w2.heap[w.heap.size]? = some (.cells #[.int .i8 0, .string ⟨#[]⟩, .slice none 0 0] 35 (0, 0)) := (hb2.block _ hz1).trans HC1.out
        have hz2 : w.heap.size < w2.heap.size := by have := hb2.size; omega
        have hne2 : ¬ w.heap.size = w2.heap.size := by omega
        have hne3 : ¬ w2.heap.size = w.heap.size := by omega
        have HC2 := Lib.hid hC2
        have HB2 : Hid (Below w.heap.size w w2) := HB1.out.trans (hb2.mono HB1.out.size)
        have k0 := cell_of_row _ _ 0 _ _ _ hC2
        have k1 := cell_of_row _ _ 1 _ _ _ hC2
        have k2 := cell_of_row _ _ 2 _ _ _ hC2
        have kf : ∀ i, w2.frozen? ⟨w.heap.size, i, none⟩ = false := fun i => frozen_of_row w2 _ i _ _ hC2
        simp only [List.getElem?_toArray, List.getElem?_cons_zero, List.getElem?_cons_succ] at k0 k1 k2
        unfold nxtV tokV
        go_wp2
        obtain ⟨w3, hw3⟩ : ∃ w3, w3 = w2.alloc (.cells #[.int .i8 1, .string (bytesL t), .int .i64 n, .int .i64 m] 70) := ⟨_, rfl⟩
        rw [← hw3]
        have hT3 : w3.heap[w2.heap.size]? = some (.cells #[.int .i8 1, .string (bytesL t), .int .i64 n, .int .i64 m] 70 (0, 0)) := by rw [hw3]; exact heap_alloc_new w2 _
        have hC3 : w3.heap[w.heap.size]? = some (.cells #[.int .i8 0, .string ⟨#[]⟩, .slice none 0 0] 35 (0, 0)) := by rw [hw3]; exact (Below.heap_alloc _ _ _ (by omega)).trans HC2.out
        have HC3 := Lib.hid hC3
        have HB3 : Hid (Below w.heap.size w w3) := by show Below _ _ _; rw [hw3]; exact HB2.out.alloc (by omega) _
        have j0 := cell_of_row _ _ 0 _ _ _ hC3
        have j1 := cell_of_row _ _ 1 _ _ _ hC3
        have j2 := cell_of_row _ _ 2 _ _ _ hC3
        have jf : ∀ i, w3.frozen? ⟨w.heap.size, i, none⟩ = false := fun i => frozen_of_row w3 _ i _ _ hC3
        simp only [List.getElem?_toArray, List.getElem?_cons_zero, List.getElem?_cons_succ] at j0 j1 j2
        have j3 := cell_of_row _ _ 2 _ _ _ hT3
        simp only [List.getElem?_toArray, List.getElem?_cons_zero, List.getElem?_cons_succ] at j3
        clear hw3 hT3 hC3 k0 k1 k2 kf
        go_region
        all_goals go_wp2
        all_goals
          have h9 := rb_set (i := 2) (v := .slice none 0 0) (rb_set (i := 1) (v := .string ⟨#[]⟩) (rb_set (i := 0) (v := .int .i8 0) (w := w3) (cur := #[.int .i8 0, .string ⟨#[]⟩, .slice none 0 0]) (rb := w.heap.size) HC3.out))
          have r0 := cell_of_row _ _ 0 _ _ _ h9
          have r1 := cell_of_row _ _ 1 _ _ _ h9
          have r2 := cell_of_row _ _ 2 _ _ _ h9
          exact bodyPost_ret (v := .tuple #[.agg #[.int .i8 0, .string ⟨#[]⟩, .slice none 0 0], .int .i64 n, .int .i64 20]) (by simp [results, Tryz.results19, go_sem, r0, r1, r2]) rfl (rd_zero HRel.out (below_put3 HB3.out _ _ _).drew)
      · have hk2 : 2 ≤ X.tok.kind := by omega
        have HRel := Lib.hid (rel_leaf hpl (by rw [hX]; exact herr) (by rw [hX]; exact hok) (by rw [hX]; exact hk2))
        rw [hX] at HRel
        have hk4 : X.tok.kind ≤ 4 ∧ X.tok.text.length ≤ 100 := by
          obtain ⟨kd, t, m, htok, hx⟩ := nextL_ok (by rw [hX]; exact hok)
          rw [← hX, hx]
          exact tokN_kind4 htok
        obtain ⟨⟨kd, t, n, m⟩, ok, err⟩ := X
        simp only at herr hok hk1 hk2 hk4 HRel hk0
        subst herr hok
        obtain ⟨hk4, ht100⟩ := hk4
        obtain ⟨j, hj⟩ : ∃ j : Int, (kd : Int) - 2 = j := ⟨_, rfl⟩
        rw [hj] at HRel
        have HLf := Lib.hid (fun W => leaf_is kd j (bytesL t) n m W hk2 hk4 hj)
        have e1 := eq_false (x := (kd : Int)) (y := 1) (by omega)
        have e2 := ne_true (x := (kd : Int)) (y := 0) (by omega)
        have HT100 := Lib.hid ht100
        clear hX hk hk0 hk1 hk2 hk4 hj ht100
        go_enter Tryz.func19, Tryz.ntmps19
        go_wp2_with fail
        rw [← hW1]
        clear hW1
        refine (HN.out _).mono ?_
        rintro e9 w2 ⟨rfl, hb2⟩
        have hC2 : w2.heap[w.heap.size]? = some (.cells #[.int .i8 0, .string ⟨#[]⟩, .slice none 0 0] 35 (0, 0)) := (hb2.block _ hz1).trans HC1.out
        have hz2 : w.heap.size < w2.heap.size := by have := hb2.size; omega
        have hne2 : ¬ w.heap.size = w2.heap.size := by omega
        have hne3 : ¬ w2.heap.size = w.heap.size := by omega
        have HC2 := Lib.hid hC2
        have HB2 : Hid (Below w.heap.size w w2) := HB1.out.trans (hb2.mono HB1.out.size)
        have k0 := cell_of_row _ _ 0 _ _ _ hC2
        have k1 := cell_of_row _ _ 1 _ _ _ hC2
        have k2 := cell_of_row _ _ 2 _ _ _ hC2
        have kf : ∀ i, w2.frozen? ⟨w.heap.size, i, none⟩ = false := fun i => frozen_of_row w2 _ i _ _ hC2
        simp only [List.getElem?_toArray, List.getElem?_cons_zero, List.getElem?_cons_succ] at k0 k1 k2
        unfold nxtV tokV
        go_wp2
        obtain ⟨w3, hw3⟩ : ∃ w3, w3 = w2.alloc (.cells #[.int .i8 kd, .string (bytesL t), .int .i64 n, .int .i64 m] 70) := ⟨_, rfl⟩
        rw [← hw3]
        have hT3 : w3.heap[w2.heap.size]? = some (.cells #[.int .i8 kd, .string (bytesL t), .int .i64 n, .int .i64 m] 70 (0, 0)) := by rw [hw3]; exact heap_alloc_new w2 _
        have hC3 : w3.heap[w.heap.size]? = some (.cells #[.int .i8 0, .string ⟨#[]⟩, .slice none 0 0] 35 (0, 0)) := by rw [hw3]; exact (Below.heap_alloc _ _ _ (by omega)).trans HC2.out
        have HC3 := Lib.hid hC3
        have HB3 : Hid (Below w.heap.size w w3) := by show Below _ _ _; rw [hw3]; exact HB2.out.alloc (by omega) _
        have j0 := cell_of_row _ _ 0 _ _ _ hC3
        have j1 := cell_of_row _ _ 1 _ _ _ hC3
        have j2 := cell_of_row _ _ 2 _ _ _ hC3
        have jf : ∀ i, w3.frozen? ⟨w.heap.size, i, none⟩ = false := fun i => frozen_of_row w3 _ i _ _ hC3
        simp only [List.getElem?_toArray, List.getElem?_cons_zero, List.getElem?_cons_succ] at j0 j1 j2
        have j3 := cell_of_row _ _ 2 _ _ _ hT3
        simp only [List.getElem?_toArray, List.getElem?_cons_zero, List.getElem?_cons_succ] at j3
        have j4 := cell_of_row _ _ 0 _ _ _ hT3
        have j5 := cell_of_row _ _ 1 _ _ _ hT3
        have j6 := cell_of_row _ _ 3 _ _ _ hT3
        simp only [List.getElem?_toArray, List.getElem?_cons_zero, List.getElem?_cons_succ] at j4 j5 j6
        have hz3 : w2.heap.size < w3.heap.size := by rw [hw3]; simp
        have hz33 : w.heap.size < w3.heap.size := by rw [hw3]; simp; omega
        have HT3 := Lib.hid hT3
        clear hw3 hT3 hC3 k0 k1 k2 kf
        have HT0 := Lib.hid j4
        have HT1 := Lib.hid j5
        have HT2 := Lib.hid j3
        have HT3' := Lib.hid j6
        have HLf3 : Hid (∀ W : World, Calls Tryz.prog 37 #[.agg #[.int .i8 kd, .string (bytesL t), .int .i64 n, .int .i64 m]] W fun e w' => e = .returned (.agg #[.int .i8 j, .string (bytesL t), .slice none 0 0]) ∧ Below W.heap.size W w') := HLf
        go_region_held3 (fun w' => w'.cell? ⟨w2.heap.size, 0, none⟩ = some (.int .i8 kd) ∧ w'.cell? ⟨w2.heap.size, 1, none⟩ = some (.string (bytesL t)) ∧ w'.cell? ⟨w2.heap.size, 2, none⟩ = some (.int .i64 n) ∧ w'.cell? ⟨w2.heap.size, 3, none⟩ = some (.int .i64 m))
          (first | exact ⟨HT0.out, HT1.out, HT2.out, HT3'.out⟩ | exact ⟨(hc1 _ _ hz3).trans HT0.out, (hc1 _ _ hz3).trans HT1.out, (hc1 _ _ hz3).trans HT2.out, (hc1 _ _ hz3).trans HT3'.out⟩ | go_keep)
          (first | (go_at_call 37; refine (HLf3.out _).mono ?_; rintro e8 w4 ⟨rfl, hb4⟩; obtain ⟨hc1, hf1⟩ := bcell hb4; have hC4 : w4.heap[w.heap.size]? = some (.cells #[.int .i8 0, .string ⟨#[]⟩, .slice none 0 0] 35 (0, 0)) := (hb4.block _ hz33).trans HC3.out; have q0 := cell_of_row _ _ 0 _ _ _ hC4; have q1 := cell_of_row _ _ 1 _ _ _ hC4; have q2 := cell_of_row _ _ 2 _ _ _ hC4; have qf : ∀ i, w4.frozen? ⟨w.heap.size, i, none⟩ = false := fun i => frozen_of_row w4 _ i _ _ hC4; simp only [List.getElem?_toArray, List.getElem?_cons_zero, List.getElem?_cons_succ] at q0 q1 q2))
        go_wp2
        have h9 := rb_set (i := 2) (v := .slice none 0 0) (rb_set (i := 1) (v := .string (bytesL t)) (rb_set (i := 0) (v := .int .i8 j) (w := w4) (cur := #[.int .i8 0, .string ⟨#[]⟩, .slice none 0 0]) (rb := w.heap.size) hC4))
        have r0 := cell_of_row _ _ 0 _ _ _ h9
        have r1 := cell_of_row _ _ 1 _ _ _ h9
        have r2 := cell_of_row _ _ 2 _ _ _ h9
        have HB4 := HB3.out.drew.trans (hb4.mono HB3.out.drew.size)
        exact bodyPost_ret (v := .tuple #[.agg #[.int .i8 j, .string (bytesL t), .slice none 0 0], .int .i64 m, .int .i64 0]) (by simp [results, Tryz.results19, go_sem, r0, r1, r2]) rfl ⟨_, _, HRel.out, rfl, RdOut.leaf _ _ _ _ HT100.out, below_put3 HB4 _ _ _⟩
    · have hok' : X.ok = false := by simpa using hok
      have HRel := Lib.hid (rel_end hpl (by rw [hX]; exact herr) (by rw [hX]; exact hok'))
      have hXX : X = ⟨⟨0, [], 0, 0⟩, false, 0⟩ := by rw [← hX]; exact (nextL_end (by rw [hX]; exact hok') (by rw [hX]; exact herr)).2
      rw [HL.out] at HRel
      subst hXX
      clear hX hk hok hok' herr
      go_enter Tryz.func19, Tryz.ntmps19
      go_wp2_with fail
      rw [← hW1]
      clear hW1
      refine (HN.out _).mono ?_
      rintro e9 w2 ⟨rfl, hb2⟩
      have hC2 : w2.heap[w.heap.size]? = some (.cells #[.int .i8 0, .string ⟨#[]⟩, .slice none 0 0] 35 (0, 0)) := (hb2.block _ hz1).trans HC1.out
      have hz2 : w.heap.size < w2.heap.size := by have := hb2.size; omega
      have hne2 : ¬ w.heap.size = w2.heap.size := by omega
      have hne3 : ¬ w2.heap.size = w.heap.size := by omega
      have HC2 := Lib.hid hC2
      have HB2 : Hid (Below w.heap.size w w2) := HB1.out.trans (hb2.mono HB1.out.size)
      have k0 := cell_of_row _ _ 0 _ _ _ hC2
      have k1 := cell_of_row _ _ 1 _ _ _ hC2
      have k2 := cell_of_row _ _ 2 _ _ _ hC2
      have kf : ∀ i, w2.frozen? ⟨w.heap.size, i, none⟩ = false := fun i => frozen_of_row w2 _ i _ _ hC2
      simp only [List.getElem?_toArray, List.getElem?_cons_zero, List.getElem?_cons_succ] at k0 k1 k2
      unfold nxtV tokV
      go_wp2
      have h9 := rb_set (i := 2) (v := .slice none 0 0) (rb_set (i := 1) (v := .string ⟨#[]⟩) (rb_set (i := 0) (v := .int .i8 0) (w := w2) (cur := #[.int .i8 0, .string ⟨#[]⟩, .slice none 0 0]) (rb := w.heap.size) HC2.out))
      have h10 := fun o => (Below.heap_alloc _ o _ (by simp [World.setCell]; omega)).trans h9
      have r0 := fun o => cell_of_row _ _ 0 _ _ _ (h10 o)
      have r1 := fun o => cell_of_row _ _ 1 _ _ _ (h10 o)
      have r2 := fun o => cell_of_row _ _ 2 _ _ _ (h10 o)
      exact bodyPost_ret (v := .tuple #[.agg #[.int .i8 0, .string ⟨#[]⟩, .slice none 0 0], .int .i64 s.size, .int .i64 21]) (by simp [results, Tryz.results19, go_sem, r0, r1, r2]) rfl (rd_zero HRel.out ((below_put3 HB2.out _ _ _).alloc (by simp [World.setCell]; omega) _))
  · have hXX : X = ⟨⟨0, [], skipA s.data.toList p, 0⟩, false, 20⟩ := by rw [← hX]; exact (nextL_err (by rw [hX]; exact herr)).2.2.1
    have HRel := Lib.hid (rel_err hpl (by rw [hX]; exact herr))
    rw [hX, hXX] at HRel
    obtain ⟨n, hn⟩ : ∃ n, n = skipA s.data.toList p := ⟨_, rfl⟩
    rw [← hn] at hXX HRel
    subst hXX
    clear hX hk herr hn
    go_enter Tryz.func19, Tryz.ntmps19
    go_wp2_with fail
    rw [← hW1]
    clear hW1
    refine (HN.out _).mono ?_
    rintro e9 w2 ⟨rfl, hb2⟩
    have hC2 : w2.heap[w.heap.size]? = some (.cells #[.int .i8 0, .string ⟨#[]⟩, .slice none 0 0] 35 (0, 0)) := (hb2.block _ hz1).trans HC1.out
    have hz2 : w.heap.size < w2.heap.size := by have := hb2.size; omega
    have hne2 : ¬ w.heap.size = w2.heap.size := by omega
    have hne3 : ¬ w2.heap.size = w.heap.size := by omega
    have HC2 := Lib.hid hC2
    have HB2 : Hid (Below w.heap.size w w2) := HB1.out.trans (hb2.mono HB1.out.size)
    have k0 := cell_of_row _ _ 0 _ _ _ hC2
    have k1 := cell_of_row _ _ 1 _ _ _ hC2
    have k2 := cell_of_row _ _ 2 _ _ _ hC2
    have kf : ∀ i, w2.frozen? ⟨w.heap.size, i, none⟩ = false := fun i => frozen_of_row w2 _ i _ _ hC2
    simp only [List.getElem?_toArray, List.getElem?_cons_zero, List.getElem?_cons_succ] at k0 k1 k2
    unfold nxtV tokV
    go_wp2
    obtain ⟨w3, hw3⟩ : ∃ w3, w3 = w2.alloc (.cells #[.int .i8 0, .string (bytesL []), .int .i64 n, .int .i64 0] 70) := ⟨_, rfl⟩
    rw [← hw3]
    have hT3 : w3.heap[w2.heap.size]? = some (.cells #[.int .i8 0, .string (bytesL []), .int .i64 n, .int .i64 0] 70 (0, 0)) := by rw [hw3]; exact heap_alloc_new w2 _
    have hC3 : w3.heap[w.heap.size]? = some (.cells #[.int .i8 0, .string ⟨#[]⟩, .slice none 0 0] 35 (0, 0)) := by rw [hw3]; exact (Below.heap_alloc _ _ _ (by omega)).trans HC2.out
    have HC3 := Lib.hid hC3
    have HB3 : Hid (Below w.heap.size w w3) := by show Below _ _ _; rw [hw3]; exact HB2.out.alloc (by omega) _
    have j0 := cell_of_row _ _ 0 _ _ _ hC3
    have j1 := cell_of_row _ _ 1 _ _ _ hC3
    have j2 := cell_of_row _ _ 2 _ _ _ hC3
    have jf : ∀ i, w3.frozen? ⟨w.heap.size, i, none⟩ = false := fun i => frozen_of_row w3 _ i _ _ hC3
    simp only [List.getElem?_toArray, List.getElem?_cons_zero, List.getElem?_cons_succ] at j0 j1 j2
    have j3 := cell_of_row _ _ 2 _ _ _ hT3
    simp only [List.getElem?_toArray, List.getElem?_cons_zero, List.getElem?_cons_succ] at j3
    clear hw3 hT3 hC3 k0 k1 k2 kf
    go_region
    all_goals go_wp2
    all_goals
      have h9 := rb_set (i := 2) (v := .slice none 0 0) (rb_set (i := 1) (v := .string ⟨#[]⟩) (rb_set (i := 0) (v := .int .i8 0) (w := w3) (cur := #[.int .i8 0, .string ⟨#[]⟩, .slice none 0 0]) (rb := w.heap.size) HC3.out))
      have r0 := cell_of_row _ _ 0 _ _ _ h9
      have r1 := cell_of_row _ _ 1 _ _ _ h9
      have r2 := cell_of_row _ _ 2 _ _ _ h9
      exact bodyPost_ret (v := .tuple #[.agg #[.int .i8 0, .string ⟨#[]⟩, .slice none 0 0], .int .i64 n, .int .i64 20]) (by simp [results, Tryz.results19, go_sem, r0, r1, r2]) rfl (rd_zero HRel.out (below_put3 HB3.out _ _ _).drew)
end Go.Proofs.YtodonngnigbpaaaGreatDoor
namespace Go.Proofs.YtodonngnigbpaaaGreatDoor
open Go.RowKit
set_option linter.unusedVariables false
set_option maxRecDepth 100000 in
set_option maxHeartbeats 16000000 in
theorem read_list (s : ByteArray) (hs : s.size < 900000) (at_ : Int) (p : Nat) (w : World) (hp : clampN at_ s.size = p) (herr : (nextL s.data.toList p).err = 0) (hok : (nextL s.data.toList p).ok = true) (hk : (nextL s.data.toList p).tok.kind = 0)
    (ih : ∀ q, p < q → q ≤ s.size → ∀ W, Calls Tryz.prog 19 #[.string s, .int .i64 q] W (RdPost s q W)) :
    Calls Tryz.prog 19 #[.string s, .int .i64 at_] w (RdPost s p w) := by
  have HL : Hid (s.data.toList.length = s.size) := by show _ = _; simp
  have hpl : p ≤ s.data.toList.length := by rw [HL.out, ← hp]; exact clampN_le _ _
  obtain ⟨X, hX⟩ : ∃ X, nextL s.data.toList p = X := ⟨_, rfl⟩
  have HN := Lib.hid (fun W => RNext_any s at_ X W hs (by rw [hp]; exact hX))
  have HLI := Lib.hid (list_open hpl herr hok hk)
  rw [hX] at herr hok hk HLI
  obtain ⟨⟨kd, t, n, m⟩, ok, err⟩ := X
  simp only at herr hok hk HLI
  subst herr hok hk
  obtain ⟨W1, hW1⟩ : ∃ W1, W1 = w.alloc (.cells #[.int .i8 0, .string ⟨#[]⟩, .slice none 0 0] 35) := ⟨_, rfl⟩
  have HB1 : Hid (Below w.heap.size w W1) := by show Below _ _ _; rw [hW1]; exact (Below.refl _ _).alloc (Nat.le_refl _) _
  have HC1 : Hid (W1.heap[w.heap.size]? = some (.cells #[.int .i8 0, .string ⟨#[]⟩, .slice none 0 0] 35 (0, 0))) := by show _ = _; rw [hW1]; exact heap_alloc_new w _
  have hz1 : w.heap.size < W1.heap.size := by rw [hW1]; simp
  have HHs := Lib.hid hs
  have HIH := Lib.hid ih
  obtain ⟨i0, hi, hq0, hq1, hq2⟩ := info_parts infoSx
  clear hs ih hX
  go_enter Tryz.func19, Tryz.ntmps19
  go_wp2_with fail
  rw [← hW1]
  clear hW1
  refine (HN.out _).mono ?_
  rintro e9 w2 ⟨rfl, hb2⟩
  have hC2 : w2.heap[w.heap.size]? = some (.cells #[.int .i8 0, .string ⟨#[]⟩, .slice none 0 0] 35 (0, 0)) := (hb2.block _ hz1).trans HC1.out
  have hz2 : w.heap.size < w2.heap.size := by have := hb2.size; omega
  have HC2 := Lib.hid hC2
  have HB2 : Hid (Below w.heap.size w w2) := HB1.out.trans (hb2.mono HB1.out.size)
  clear hb2 hC2
  unfold nxtV tokV
  go_wp2
  obtain ⟨W5, hW5⟩ : ∃ W5, W5 = (w2.alloc (.cells #[.int .i8 0, .string (bytesL t), .int .i64 n, .int .i64 m] 70)).alloc (.cells #[.int .i8 3, .string ⟨#[]⟩, .slice none 0 0] 35) := ⟨_, rfl⟩
  rw [← hW5]
  have HXB5 : Hid (W5.heap[w2.heap.size + 1]? = some (.cells #[.int .i8 3, .string ⟨#[]⟩, .slice none 0 0] 35 (0, 0))) := by
    show _ = _
    rw [hW5]
    have := heap_alloc_new (w2.alloc (.cells #[.int .i8 0, .string (bytesL t), .int .i64 n, .int .i64 m] 70)) (.cells #[.int .i8 3, .string ⟨#[]⟩, .slice none 0 0] 35)
    rw [World.size_alloc] at this
    exact this
  have HRB5 : Hid (W5.heap[w.heap.size]? = some (.cells #[.int .i8 0, .string ⟨#[]⟩, .slice none 0 0] 35 (0, 0))) := by show _ = _; rw [hW5]; exact (Below.heap_alloc _ _ _ (by simp; omega)).trans ((Below.heap_alloc _ _ _ (by omega)).trans HC2.out)
  have HB5 : Hid (Below w.heap.size w W5) := by show Below _ _ _; rw [hW5]; exact (HB2.out.alloc (by omega) _).alloc (by simp; omega) _
  have hs5 : W5.heap.size = w2.heap.size + 2 := by rw [hW5]; simp
  obtain ⟨xb, hxb⟩ : ∃ xb, xb = w2.heap.size + 1 := ⟨_, rfl⟩
  rw [← hxb] at HXB5
  rw [← hxb]
  have hrx : w.heap.size < xb := by omega
  have hs5' : W5.heap.size = xb + 1 := by omega
  clear hW5 hs5 hxb HC2 HB2 HB1 HC1 hz1 hz2
  go_loopw [1] (fun i wr => ∃ (acc : List Tree) (q : Nat) (v : Value), i = .int .i64 q ∧ q ≤ s.size ∧ Hid (ListI s.data.toList p acc q) ∧ acc.length ≤ q ∧ Hid (wr.heap[xb]? = some (.cells #[.int .i8 3, .string ⟨#[]⟩, v] 35 (0, 0))) ∧ Hid (AllM wr (xb + 1) v acc) ∧ Hid (Below xb W5 wr) ∧ xb + 1 ≤ wr.heap.size) (fun i _ => s.size - (intOf i).toNat)
  case atStart => exact ⟨[], m, _, rfl, by have := HLI.out.le; rw [HL.out] at this; exact this, HLI.out, Nat.zero_le _, HXB5.out, AllM.nil _ _, Below.refl _ _, by omega⟩
  case round =>
    obtain ⟨acc, q, v, rfl, hq, HI, hal, HXB, HM, HB, hzr⟩ := hrel
    obtain ⟨va, vc, rfl, _, _⟩ := HM.out.form
    have hpq : p < q := HI.out.lt
    have HRB : Hid (wr.heap[w.heap.size]? = some (.cells #[.int .i8 0, .string ⟨#[]⟩, .slice none 0 0] 35 (0, 0))) := (HB.out.block _ hrx).trans HRB5.out
    have HBw : Hid (Below w.heap.size w wr) := HB5.out.trans (HB.out.mono (by omega))
    obtain ⟨Y, hY⟩ : ∃ Y, nextL s.data.toList q = Y := ⟨_, rfl⟩
    have HNq := Lib.hid (fun W => RNext_any s q Y W HHs.out (by rw [clampN_nat hq]; exact hY))
    have HRec := Lib.hid (HIH.out q hpq hq)
    by_cases hye : Y.err = 0
    · by_cases hyo : Y.ok = true
      · by_cases hyk : Y.tok.kind = 1
        · have HRel := Lib.hid (list_close HI.out (by rw [hY]; exact hye) (by rw [hY]; exact hyo) (by rw [hY]; exact hyk))
          rw [hY] at HRel
          obtain ⟨⟨kq, tq, nq, mq⟩, okq, errq⟩ := Y
          simp only at hye hyo hyk HRel
          subst hye hyo hyk
          clear hY
          go_wp2_with fail
          refine (HNq.out _).mono ?_
          rintro e9 w6 ⟨rfl, hb6⟩
          have HM6 : Hid (AllM w6 (xb + 1) (.slice va acc.length vc) acc) := HM.out.keep hb6
          have HXB6 : Hid (w6.heap[xb]? = some (.cells #[.int .i8 3, .string ⟨#[]⟩, .slice va acc.length vc] 35 (0, 0))) := (hb6.block _ (by omega)).trans HXB.out
          have HRB6 : Hid (w6.heap[w.heap.size]? = some (.cells #[.int .i8 0, .string ⟨#[]⟩, .slice none 0 0] 35 (0, 0))) := (hb6.block _ (by omega)).trans HRB.out
          have hz6 : xb + 1 ≤ w6.heap.size := Nat.le_trans hzr hb6.size
          have HB6 : Hid (Below xb W5 w6) := HB.out.trans (hb6.mono (by omega))
          clear hb6
          unfold nxtV tokV
          go_wp2_with fail
          obtain ⟨w9, hw9⟩ : ∃ w9, w9 = w6.alloc (.cells #[.int .i8 1, .string (bytesL tq), .int .i64 nq, .int .i64 mq] 70) := ⟨_, rfl⟩
          rw [← hw9]
          have hT9 : w9.heap[w6.heap.size]? = some (.cells #[.int .i8 1, .string (bytesL tq), .int .i64 nq, .int .i64 mq] 70 (0, 0)) := by rw [hw9]; exact heap_alloc_new w6 _
          have hC9 : w9.heap[w.heap.size]? = some (.cells #[.int .i8 0, .string ⟨#[]⟩, .slice none 0 0] 35 (0, 0)) := by rw [hw9]; exact (Below.heap_alloc _ _ _ (by omega)).trans HRB6.out
          have hX9 : w9.heap[xb]? = some (.cells #[.int .i8 3, .string ⟨#[]⟩, .slice va acc.length vc] 35 (0, 0)) := by rw [hw9]; exact (Below.heap_alloc _ _ _ (by omega)).trans HXB6.out
          have HM9 : Hid (AllM w9 (xb + 1) (.slice va acc.length vc) acc) := by show AllM _ _ _ _; rw [hw9]; exact HM6.out.keep ((Below.refl _ _).alloc (Nat.le_refl _) _)
          have HB9 : Hid (Below w.heap.size w w9) := by show Below _ _ _; rw [hw9]; exact (HB5.out.trans (HB6.out.mono (by omega))).alloc (by omega) _
          have HC9 := Lib.hid hC9
          have j0 := cell_of_row _ _ 0 _ _ _ hC9
          have j1 := cell_of_row _ _ 1 _ _ _ hC9
          have j2 := cell_of_row _ _ 2 _ _ _ hC9
          have jf : ∀ i, w9.frozen? ⟨w.heap.size, i, none⟩ = false := fun i => frozen_of_row w9 _ i _ _ hC9
          simp only [List.getElem?_toArray, List.getElem?_cons_zero, List.getElem?_cons_succ] at j0 j1 j2
          have y0 := cell_of_row _ _ 0 _ _ _ hX9
          have y1 := cell_of_row _ _ 1 _ _ _ hX9
          have y2 := cell_of_row _ _ 2 _ _ _ hX9
          have yf : ∀ i, w9.frozen? ⟨xb, i, none⟩ = false := fun i => frozen_of_row w9 _ i _ _ hX9
          simp only [List.getElem?_toArray, List.getElem?_cons_zero, List.getElem?_cons_succ] at y0 y1 y2
          have e3 := cell_of_row _ _ 3 _ _ _ hT9
          simp only [List.getElem?_toArray, List.getElem?_cons_zero, List.getElem?_cons_succ] at e3
          clear hw9 hT9 hC9 hX9
          go_region
          all_goals go_wp2
          all_goals
            have h9 := rb_set (i := 2) (v := .slice va acc.length vc) (rb_set (i := 1) (v := .string ⟨#[]⟩) (rb_set (i := 0) (v := .int .i8 3) (w := w9) (cur := #[.int .i8 0, .string ⟨#[]⟩, .slice none 0 0]) (rb := w.heap.size) HC9.out))
            have r0 := cell_of_row _ _ 0 _ _ _ h9
            have r1 := cell_of_row _ _ 1 _ _ _ h9
            have r2 := cell_of_row _ _ 2 _ _ _ h9
            exact bodyPost_ret (v := .tuple #[.agg #[.int .i8 3, .string ⟨#[]⟩, .slice va acc.length vc], .int .i64 mq, .int .i64 0]) (by simp [results, Tryz.results19, go_sem, r0, r1, r2]) rfl ⟨_, _, HRel.out, rfl, ((((HM9.out.set (by omega)).set (by omega)).set (by omega)).out (by omega)).keep (Below.refl _ _).drew, (below_put3 HB9.out _ _ _).drew⟩
        · have HNC : Hid (NotClose s.data.toList q) := fun h => hyk (by rw [← hY]; exact h.2.2)
          obtain ⟨⟨kq, tq, nq, mq⟩, okq, errq⟩ := Y
          simp only at hye hyo hyk
          subst hye hyo
          have e5 := eq_false (x := (kq : Int)) (y := 1) (by omega)
          clear hY hyk
          go_wp2_with fail
          refine (HNq.out _).mono ?_
          rintro e9 w6 ⟨rfl, hb6⟩
          have HM6 : Hid (AllM w6 (xb + 1) (.slice va acc.length vc) acc) := HM.out.keep hb6
          have HXB6 : Hid (w6.heap[xb]? = some (.cells #[.int .i8 3, .string ⟨#[]⟩, .slice va acc.length vc] 35 (0, 0))) := (hb6.block _ (by omega)).trans HXB.out
          have HRB6 : Hid (w6.heap[w.heap.size]? = some (.cells #[.int .i8 0, .string ⟨#[]⟩, .slice none 0 0] 35 (0, 0))) := (hb6.block _ (by omega)).trans HRB.out
          have hz6 : xb + 1 ≤ w6.heap.size := Nat.le_trans hzr hb6.size
          have HB6 : Hid (Below xb W5 w6) := HB.out.trans (hb6.mono (by omega))
          clear hb6
          unfold nxtV tokV
          go_wp2_with fail
          refine (HRec.out _).mono ?_
          rintro e8 w7 ⟨y, v7, hrel7, rfl, ho7, hb7⟩
          obtain ⟨ya, yc, rfl⟩ := ho7.parts
          have hb67 : Below w6.heap.size w6 (w6.alloc (.cells #[.int .i8 kq, .string (bytesL tq), .int .i64 nq, .int .i64 mq] 70)) := (Below.refl _ _).alloc (Nat.le_refl _) _
          have hb68 : Below w6.heap.size w6 w7 := hb67.trans (hb7.mono hb67.size)
          have HM7 : Hid (AllM w7 (xb + 1) (.slice va acc.length vc) acc) := HM6.out.keep hb68
          have HXB7 : Hid (w7.heap[xb]? = some (.cells #[.int .i8 3, .string ⟨#[]⟩, .slice va acc.length vc] 35 (0, 0))) := (hb68.block _ (by omega)).trans HXB6.out
          have HRB7 : Hid (w7.heap[w.heap.size]? = some (.cells #[.int .i8 0, .string ⟨#[]⟩, .slice none 0 0] 35 (0, 0))) := (hb68.block _ (by omega)).trans HRB6.out
          have hz7 : xb + 1 ≤ w7.heap.size := Nat.le_trans hz6 hb68.size
          have n0 : w.heap.size < w7.heap.size := by omega
          have n1 : ¬ xb = w7.heap.size := by omega
          have n2 : ¬ w7.heap.size = xb := by omega
          have n3 : ¬ w.heap.size = w7.heap.size := by omega
          have n4 : ¬ w7.heap.size = w.heap.size := by omega
          have n5 : ¬ xb = w7.heap.size + 1 := by omega
          have n6 : ¬ w7.heap.size + 1 = xb := by omega
          have HB7 : Hid (Below xb W5 w7) := HB6.out.trans (hb68.mono (by omega))
          have HRel := Lib.hid hrel7
          have HO := Lib.hid ho7
          have HB78 := Lib.hid hb7
          have HB68 := Lib.hid hb68
          clear hrel7 ho7 hb7 hb67 hb68
          by_cases hy : y.err = 0
          · have e7 := ne_false (x := (y.err : Int)) (y := 0) (by omega)
            have HLM := Lib.hid (list_more HI.out HRel.out hy)
            have hys := (HRel.out.good hy).2.1
            have hyq := (HRel.out.good hy).1
            rw [HL.out] at hys
            have hxne : some xb ≠ (Value.slice va acc.length vc).ownBlock := fun e => by obtain ⟨K, _, _, h3, _⟩ := HM7.out; have := (h3.lt e.symm).1; omega
            obtain ⟨K, hm1, hm2, ⟨xs, hrow, hels⟩, hm4⟩ := HM6.out
            have hrow7 : w7.ownsRow (xb + 1) 35 3 (.slice va acc.length vc) acc.length xs := ownsRow_heap' hrow (fun g hg => HB68.out.block g (hrow.lt g hg).2)
            have Hrow := Lib.hid hrow
            have Hrow7 := Lib.hid hrow7
            have Hels := Lib.hid hels
            have Hm1 := Lib.hid hm1
            have Hm2 := Lib.hid hm2
            have Hm4 := Lib.hid hm4
            have x2 := cell_of_row _ _ 2 _ _ _ HXB7.out
            simp only [List.getElem?_toArray, List.getElem?_cons_zero, List.getElem?_cons_succ] at x2
            have x2' := fun o => (World.cell?_alloc_lt w7 o ⟨xb, 2, none⟩ (by show xb < w7.heap.size; omega)).trans x2
            clear hrow hrow7 hels hm1 hm2 hm4 hy x2
            go_wp2_with (at_builtin; refine wpList_append_own_at _ rfl _ _ 26 rfl (xb + 1) 35 i0 _ 3 48 Tryz.underlying26 hi hq0 hq1 hq2 rfl (by decide) _ acc.length xs rfl ((Hrow7.out.alloc _).alloc _) ⟨w7.heap.size + 1, 0, none⟩ 1 1 [.int .i8 y.t.kind, .string (bytesL y.t.text), .slice ya y.t.kids.length yc] rfl rfl news3 ?_ ?_ ?_ ?_ ?_)
            case refine_1 => intro u hu; simp at hu; rcases hu with rfl | rfl | rfl <;> rfl
            case refine_2 => simp only [maxLen]; have := HHs.out; omega
            case refine_3 => have := HHs.out; omega
            case refine_4 => simp; omega
            case refine_5 =>
              intro v' w8 hown hgrow hnil hsame
              clear hnil
              obtain ⟨a4, cap4, hv4⟩ := own_slice hown
              subst hv4
              have hk8 : ∀ b, b < w7.heap.size → some b ≠ (Value.slice va acc.length vc).ownBlock → w8.heap[b]? = w7.heap[b]? := fun b hb hne => by
                rw [hgrow.block b (by simp; omega) hne, Below.heap_alloc _ _ _ (by simp; omega), Below.heap_alloc _ _ _ hb]
              have hsz8 : w7.heap.size ≤ w8.heap.size := by have := hgrow.size; simp at this; omega
              have HB8 : Hid (Below xb W5 w8) := ⟨hgrow.os.trans HB7.out.os, hgrow.tape.trans HB7.out.tape, hgrow.output.trans HB7.out.output, Nat.le_trans HB7.out.size hsz8, fun b hb => (hk8 b (by omega) (fun e => by have := (Hrow.out.lt b e.symm).1; omega)).trans (HB7.out.block b hb)⟩
              have HXB8 : Hid (w8.heap[xb]? = some (.cells #[.int .i8 3, .string ⟨#[]⟩, .slice va acc.length vc] 35 (0, 0))) := (hk8 xb (by omega) hxne).trans HXB7.out
              obtain ⟨Kt, q1, q2, q3⟩ := HO.out
              have HM8 : Hid (AllM w8 (xb + 1) (.slice a4 (acc.length + 1) cap4) (acc ++ [y.t])) := AllM.snoc Hm1.out Hm2.out Hm4.out (fun g hg => Hrow.out.lt g hg) Hels.out (fun b hb => ⟨by have := (q1 b hb).1; simp at this; omega, (q1 b hb).2⟩) q2 q3 hz6 HB68.out hown hsz8 hk8 (by
                rcases hsame with h | h
                · exact .inl h
                · exact .inr ⟨_, h, by omega⟩)
              have c2 := cell_of_row _ _ 2 _ _ _ HXB8.out
              simp only [List.getElem?_toArray, List.getElem?_cons_zero, List.getElem?_cons_succ] at c2
              have cf : w8.frozen? ⟨xb, 2, none⟩ = false := frozen_of_row w8 _ 2 _ _ HXB8.out
              have hz8 : xb + 1 ≤ w8.heap.size := by omega
              clear hown hgrow hsame hk8 q1 q2 q3 x2'
              go_wp2_with fail
              go_roundw
              case rel => exact ⟨acc ++ [y.t], y.stop, .slice a4 (acc.length + 1) cap4, rfl, hys, HLM.out, by simp; omega, rb_set (i := 2) HXB8.out, AllM.set HM8.out (by omega), (HB8.out.setCell (p := ⟨xb, 2, none⟩) (Nat.le_refl _) _), by simpa [World.setCell] using hz8⟩
              case measure => simp [intOf]; omega
          · have e7 := ne_true (x := (y.err : Int)) (y := 0) (by omega)
            have HRel2 := Lib.hid (list_bad HI.out HRel.out hy HNC.out)
            clear hy
            have k0 := cell_of_row _ _ 0 _ _ _ HRB7.out
            have k1 := cell_of_row _ _ 1 _ _ _ HRB7.out
            have k2 := cell_of_row _ _ 2 _ _ _ HRB7.out
            have kf : ∀ i, w7.frozen? ⟨w.heap.size, i, none⟩ = false := fun i => frozen_of_row w7 _ i _ _ HRB7.out
            simp only [List.getElem?_toArray, List.getElem?_cons_zero, List.getElem?_cons_succ] at k0 k1 k2
            have HBw7 : Hid (Below w.heap.size w w7) := HB5.out.trans (HB7.out.mono (by omega))
            go_wp2_with fail
            have h9 := rb_set (i := 2) (v := .slice none 0 0) (rb_set (i := 1) (v := .string ⟨#[]⟩) (rb_set (i := 0) (v := .int .i8 0) (w := w7) (cur := #[.int .i8 0, .string ⟨#[]⟩, .slice none 0 0]) (rb := w.heap.size) HRB7.out))
            have h10 := fun o => (Below.heap_alloc _ o _ (by simp [World.setCell]; omega)).trans h9
            have r0 := fun o => cell_of_row _ _ 0 _ _ _ (h10 o)
            have r1 := fun o => cell_of_row _ _ 1 _ _ _ (h10 o)
            have r2 := fun o => cell_of_row _ _ 2 _ _ _ (h10 o)
            exact bodyPost_ret (v := .tuple #[.agg #[.int .i8 0, .string ⟨#[]⟩, .slice none 0 0], .int .i64 y.stop, .int .i64 y.err]) (by simp [results, Tryz.results19, go_sem, r0, r1, r2]) rfl (rd_zero HRel2.out ((below_put3 HBw7.out _ _ _).alloc (by simp [World.setCell]; omega) _))
      · have HNC : Hid (NotClose s.data.toList q) := fun h => hyo (by rw [← hY]; exact h.2.1)
        have hYY : Y = ⟨⟨0, [], 0, 0⟩, false, 0⟩ := by rw [← hY]; exact (nextL_end (by rw [hY]; simpa using hyo) (by rw [hY]; exact hye)).2
        subst hYY
        clear hY hye hyo
        go_wp2_with fail
        refine (HNq.out _).mono ?_
        rintro e9 w6 ⟨rfl, hb6⟩
        have HM6 : Hid (AllM w6 (xb + 1) (.slice va acc.length vc) acc) := HM.out.keep hb6
        have HXB6 : Hid (w6.heap[xb]? = some (.cells #[.int .i8 3, .string ⟨#[]⟩, .slice va acc.length vc] 35 (0, 0))) := (hb6.block _ (by omega)).trans HXB.out
        have HRB6 : Hid (w6.heap[w.heap.size]? = some (.cells #[.int .i8 0, .string ⟨#[]⟩, .slice none 0 0] 35 (0, 0))) := (hb6.block _ (by omega)).trans HRB.out
        have hz6 : xb + 1 ≤ w6.heap.size := Nat.le_trans hzr hb6.size
        have HB6 : Hid (Below xb W5 w6) := HB.out.trans (hb6.mono (by omega))
        clear hb6
        unfold nxtV tokV
        go_wp2_with fail
        refine (HRec.out _).mono ?_
        rintro e8 w7 ⟨y, v7, hrel7, rfl, ho7, hb7⟩
        obtain ⟨ya, yc, rfl⟩ := ho7.parts
        have hb67 : Below w6.heap.size w6 (w6.alloc (.cells #[.int .i8 0, .string (bytesL []), .int .i64 0, .int .i64 0] 70)) := (Below.refl _ _).alloc (Nat.le_refl _) _
        have hb68 : Below w6.heap.size w6 w7 := hb67.trans (hb7.mono hb67.size)
        have HM7 : Hid (AllM w7 (xb + 1) (.slice va acc.length vc) acc) := HM6.out.keep hb68
        have HXB7 : Hid (w7.heap[xb]? = some (.cells #[.int .i8 3, .string ⟨#[]⟩, .slice va acc.length vc] 35 (0, 0))) := (hb68.block _ (by omega)).trans HXB6.out
        have HRB7 : Hid (w7.heap[w.heap.size]? = some (.cells #[.int .i8 0, .string ⟨#[]⟩, .slice none 0 0] 35 (0, 0))) := (hb68.block _ (by omega)).trans HRB6.out
        have hz7 : xb + 1 ≤ w7.heap.size := Nat.le_trans hz6 hb68.size
        have n0 : w.heap.size < w7.heap.size := by omega
        have n1 : ¬ xb = w7.heap.size := by omega
        have n2 : ¬ w7.heap.size = xb := by omega
        have n3 : ¬ w.heap.size = w7.heap.size := by omega
        have n4 : ¬ w7.heap.size = w.heap.size := by omega
        have n5 : ¬ xb = w7.heap.size + 1 := by omega
        have n6 : ¬ w7.heap.size + 1 = xb := by omega
        have HB7 : Hid (Below xb W5 w7) := HB6.out.trans (hb68.mono (by omega))
        have HRel := Lib.hid hrel7
        have HO := Lib.hid ho7
        have HB78 := Lib.hid hb7
        have HB68 := Lib.hid hb68
        clear hrel7 ho7 hb7 hb67 hb68
        by_cases hy : y.err = 0
        · have e7 := ne_false (x := (y.err : Int)) (y := 0) (by omega)
          have HLM := Lib.hid (list_more HI.out HRel.out hy)
          have hys := (HRel.out.good hy).2.1
          have hyq := (HRel.out.good hy).1
          rw [HL.out] at hys
          have hxne : some xb ≠ (Value.slice va acc.length vc).ownBlock := fun e => by obtain ⟨K, _, _, h3, _⟩ := HM7.out; have := (h3.lt e.symm).1; omega
          obtain ⟨K, hm1, hm2, ⟨xs, hrow, hels⟩, hm4⟩ := HM6.out
          have hrow7 : w7.ownsRow (xb + 1) 35 3 (.slice va acc.length vc) acc.length xs := ownsRow_heap' hrow (fun g hg => HB68.out.block g (hrow.lt g hg).2)
          have Hrow := Lib.hid hrow
          have Hrow7 := Lib.hid hrow7
          have Hels := Lib.hid hels
          have Hm1 := Lib.hid hm1
          have Hm2 := Lib.hid hm2
          have Hm4 := Lib.hid hm4
          have x2 := cell_of_row _ _ 2 _ _ _ HXB7.out
          simp only [List.getElem?_toArray, List.getElem?_cons_zero, List.getElem?_cons_succ] at x2
          have x2' := fun o => (World.cell?_alloc_lt w7 o ⟨xb, 2, none⟩ (by show xb < w7.heap.size; omega)).trans x2
          clear hrow hrow7 hels hm1 hm2 hm4 hy x2
          go_wp2_with (at_builtin; refine wpList_append_own_at _ rfl _ _ 26 rfl (xb + 1) 35 i0 _ 3 48 Tryz.underlying26 hi hq0 hq1 hq2 rfl (by decide) _ acc.length xs rfl ((Hrow7.out.alloc _).alloc _) ⟨w7.heap.size + 1, 0, none⟩ 1 1 [.int .i8 y.t.kind, .string (bytesL y.t.text), .slice ya y.t.kids.length yc] rfl rfl news3 ?_ ?_ ?_ ?_ ?_)
          case refine_1 => intro u hu; simp at hu; rcases hu with rfl | rfl | rfl <;> rfl
          case refine_2 => simp only [maxLen]; have := HHs.out; omega
          case refine_3 => have := HHs.out; omega
          case refine_4 => simp; omega
          case refine_5 =>
            intro v' w8 hown hgrow hnil hsame
            clear hnil
            obtain ⟨a4, cap4, hv4⟩ := own_slice hown
            subst hv4
            have hk8 : ∀ b, b < w7.heap.size → some b ≠ (Value.slice va acc.length vc).ownBlock → w8.heap[b]? = w7.heap[b]? := fun b hb hne => by
              rw [hgrow.block b (by simp; omega) hne, Below.heap_alloc _ _ _ (by simp; omega), Below.heap_alloc _ _ _ hb]
            have hsz8 : w7.heap.size ≤ w8.heap.size := by have := hgrow.size; simp at this; omega
            have HB8 : Hid (Below xb W5 w8) := ⟨hgrow.os.trans HB7.out.os, hgrow.tape.trans HB7.out.tape, hgrow.output.trans HB7.out.output, Nat.le_trans HB7.out.size hsz8, fun b hb => (hk8 b (by omega) (fun e => by have := (Hrow.out.lt b e.symm).1; omega)).trans (HB7.out.block b hb)⟩
            have HXB8 : Hid (w8.heap[xb]? = some (.cells #[.int .i8 3, .string ⟨#[]⟩, .slice va acc.length vc] 35 (0, 0))) := (hk8 xb (by omega) hxne).trans HXB7.out
            obtain ⟨Kt, q1, q2, q3⟩ := HO.out
            have HM8 : Hid (AllM w8 (xb + 1) (.slice a4 (acc.length + 1) cap4) (acc ++ [y.t])) := AllM.snoc Hm1.out Hm2.out Hm4.out (fun g hg => Hrow.out.lt g hg) Hels.out (fun b hb => ⟨by have := (q1 b hb).1; simp at this; omega, (q1 b hb).2⟩) q2 q3 hz6 HB68.out hown hsz8 hk8 (by
              rcases hsame with h | h
              · exact .inl h
              · exact .inr ⟨_, h, by omega⟩)
            have c2 := cell_of_row _ _ 2 _ _ _ HXB8.out
            simp only [List.getElem?_toArray, List.getElem?_cons_zero, List.getElem?_cons_succ] at c2
            have cf : w8.frozen? ⟨xb, 2, none⟩ = false := frozen_of_row w8 _ 2 _ _ HXB8.out
            have hz8 : xb + 1 ≤ w8.heap.size := by omega
            clear hown hgrow hsame hk8 q1 q2 q3 x2'
            go_wp2_with fail
            go_roundw
            case rel => exact ⟨acc ++ [y.t], y.stop, .slice a4 (acc.length + 1) cap4, rfl, hys, HLM.out, by simp; omega, rb_set (i := 2) HXB8.out, AllM.set HM8.out (by omega), (HB8.out.setCell (p := ⟨xb, 2, none⟩) (Nat.le_refl _) _), by simpa [World.setCell] using hz8⟩
            case measure => simp [intOf]; omega
        · have e7 := ne_true (x := (y.err : Int)) (y := 0) (by omega)
          have HRel2 := Lib.hid (list_bad HI.out HRel.out hy HNC.out)
          clear hy
          have k0 := cell_of_row _ _ 0 _ _ _ HRB7.out
          have k1 := cell_of_row _ _ 1 _ _ _ HRB7.out
          have k2 := cell_of_row _ _ 2 _ _ _ HRB7.out
          have kf : ∀ i, w7.frozen? ⟨w.heap.size, i, none⟩ = false := fun i => frozen_of_row w7 _ i _ _ HRB7.out
          simp only [List.getElem?_toArray, List.getElem?_cons_zero, List.getElem?_cons_succ] at k0 k1 k2
          have HBw7 : Hid (Below w.heap.size w w7) := HB5.out.trans (HB7.out.mono (by omega))
          go_wp2_with fail
          have h9 := rb_set (i := 2) (v := .slice none 0 0) (rb_set (i := 1) (v := .string ⟨#[]⟩) (rb_set (i := 0) (v := .int .i8 0) (w := w7) (cur := #[.int .i8 0, .string ⟨#[]⟩, .slice none 0 0]) (rb := w.heap.size) HRB7.out))
          have h10 := fun o => (Below.heap_alloc _ o _ (by simp [World.setCell]; omega)).trans h9
          have r0 := fun o => cell_of_row _ _ 0 _ _ _ (h10 o)
          have r1 := fun o => cell_of_row _ _ 1 _ _ _ (h10 o)
          have r2 := fun o => cell_of_row _ _ 2 _ _ _ (h10 o)
          exact bodyPost_ret (v := .tuple #[.agg #[.int .i8 0, .string ⟨#[]⟩, .slice none 0 0], .int .i64 y.stop, .int .i64 y.err]) (by simp [results, Tryz.results19, go_sem, r0, r1, r2]) rfl (rd_zero HRel2.out ((below_put3 HBw7.out _ _ _).alloc (by simp [World.setCell]; omega) _))
    · have HNC : Hid (NotClose s.data.toList q) := fun h => hye (by rw [← hY]; exact h.1)
      have hYY : Y = ⟨⟨0, [], skipA s.data.toList q, 0⟩, false, 20⟩ := by rw [← hY]; exact (nextL_err (by rw [hY]; exact hye)).2.2.1
      obtain ⟨nq, hnq⟩ : ∃ n, n = skipA s.data.toList q := ⟨_, rfl⟩
      rw [← hnq] at hYY
      subst hYY
      clear hY hye hnq
      go_wp2_with fail
      refine (HNq.out _).mono ?_
      rintro e9 w6 ⟨rfl, hb6⟩
      have HM6 : Hid (AllM w6 (xb + 1) (.slice va acc.length vc) acc) := HM.out.keep hb6
      have HXB6 : Hid (w6.heap[xb]? = some (.cells #[.int .i8 3, .string ⟨#[]⟩, .slice va acc.length vc] 35 (0, 0))) := (hb6.block _ (by omega)).trans HXB.out
      have HRB6 : Hid (w6.heap[w.heap.size]? = some (.cells #[.int .i8 0, .string ⟨#[]⟩, .slice none 0 0] 35 (0, 0))) := (hb6.block _ (by omega)).trans HRB.out
      have hz6 : xb + 1 ≤ w6.heap.size := Nat.le_trans hzr hb6.size
      have HB6 : Hid (Below xb W5 w6) := HB.out.trans (hb6.mono (by omega))
      clear hb6
      unfold nxtV tokV
      go_wp2_with fail
      refine (HRec.out _).mono ?_
      rintro e8 w7 ⟨y, v7, hrel7, rfl, ho7, hb7⟩
      obtain ⟨ya, yc, rfl⟩ := ho7.parts
      have hb67 : Below w6.heap.size w6 (w6.alloc (.cells #[.int .i8 0, .string (bytesL []), .int .i64 nq, .int .i64 0] 70)) := (Below.refl _ _).alloc (Nat.le_refl _) _
      have hb68 : Below w6.heap.size w6 w7 := hb67.trans (hb7.mono hb67.size)
      have HM7 : Hid (AllM w7 (xb + 1) (.slice va acc.length vc) acc) := HM6.out.keep hb68
      have HXB7 : Hid (w7.heap[xb]? = some (.cells #[.int .i8 3, .string ⟨#[]⟩, .slice va acc.length vc] 35 (0, 0))) := (hb68.block _ (by omega)).trans HXB6.out
      have HRB7 : Hid (w7.heap[w.heap.size]? = some (.cells #[.int .i8 0, .string ⟨#[]⟩, .slice none 0 0] 35 (0, 0))) := (hb68.block _ (by omega)).trans HRB6.out
      have hz7 : xb + 1 ≤ w7.heap.size := Nat.le_trans hz6 hb68.size
      have n0 : w.heap.size < w7.heap.size := by omega
      have n1 : ¬ xb = w7.heap.size := by omega
      have n2 : ¬ w7.heap.size = xb := by omega
      have n3 : ¬ w.heap.size = w7.heap.size := by omega
      have n4 : ¬ w7.heap.size = w.heap.size := by omega
      have n5 : ¬ xb = w7.heap.size + 1 := by omega
      have n6 : ¬ w7.heap.size + 1 = xb := by omega
      have HB7 : Hid (Below xb W5 w7) := HB6.out.trans (hb68.mono (by omega))
      have HRel := Lib.hid hrel7
      have HO := Lib.hid ho7
      have HB78 := Lib.hid hb7
      have HB68 := Lib.hid hb68
      clear hrel7 ho7 hb7 hb67 hb68
      by_cases hy : y.err = 0
      · have e7 := ne_false (x := (y.err : Int)) (y := 0) (by omega)
        have HLM := Lib.hid (list_more HI.out HRel.out hy)
        have hys := (HRel.out.good hy).2.1
        have hyq := (HRel.out.good hy).1
        rw [HL.out] at hys
        have hxne : some xb ≠ (Value.slice va acc.length vc).ownBlock := fun e => by obtain ⟨K, _, _, h3, _⟩ := HM7.out; have := (h3.lt e.symm).1; omega
        obtain ⟨K, hm1, hm2, ⟨xs, hrow, hels⟩, hm4⟩ := HM6.out
        have hrow7 : w7.ownsRow (xb + 1) 35 3 (.slice va acc.length vc) acc.length xs := ownsRow_heap' hrow (fun g hg => HB68.out.block g (hrow.lt g hg).2)
        have Hrow := Lib.hid hrow
        have Hrow7 := Lib.hid hrow7
        have Hels := Lib.hid hels
        have Hm1 := Lib.hid hm1
        have Hm2 := Lib.hid hm2
        have Hm4 := Lib.hid hm4
        have x2 := cell_of_row _ _ 2 _ _ _ HXB7.out
        simp only [List.getElem?_toArray, List.getElem?_cons_zero, List.getElem?_cons_succ] at x2
        have x2' := fun o => (World.cell?_alloc_lt w7 o ⟨xb, 2, none⟩ (by show xb < w7.heap.size; omega)).trans x2
        clear hrow hrow7 hels hm1 hm2 hm4 hy x2
        go_wp2_with (at_builtin; refine wpList_append_own_at _ rfl _ _ 26 rfl (xb + 1) 35 i0 _ 3 48 Tryz.underlying26 hi hq0 hq1 hq2 rfl (by decide) _ acc.length xs rfl ((Hrow7.out.alloc _).alloc _) ⟨w7.heap.size + 1, 0, none⟩ 1 1 [.int .i8 y.t.kind, .string (bytesL y.t.text), .slice ya y.t.kids.length yc] rfl rfl news3 ?_ ?_ ?_ ?_ ?_)
        case refine_1 => intro u hu; simp at hu; rcases hu with rfl | rfl | rfl <;> rfl
        case refine_2 => simp only [maxLen]; have := HHs.out; omega
        case refine_3 => have := HHs.out; omega
        case refine_4 => simp; omega
        case refine_5 =>
          intro v' w8 hown hgrow hnil hsame
          clear hnil
          obtain ⟨a4, cap4, hv4⟩ := own_slice hown
          subst hv4
          have hk8 : ∀ b, b < w7.heap.size → some b ≠ (Value.slice va acc.length vc).ownBlock → w8.heap[b]? = w7.heap[b]? := fun b hb hne => by
            rw [hgrow.block b (by simp; omega) hne, Below.heap_alloc _ _ _ (by simp; omega), Below.heap_alloc _ _ _ hb]
          have hsz8 : w7.heap.size ≤ w8.heap.size := by have := hgrow.size; simp at this; omega
          have HB8 : Hid (Below xb W5 w8) := ⟨hgrow.os.trans HB7.out.os, hgrow.tape.trans HB7.out.tape, hgrow.output.trans HB7.out.output, Nat.le_trans HB7.out.size hsz8, fun b hb => (hk8 b (by omega) (fun e => by have := (Hrow.out.lt b e.symm).1; omega)).trans (HB7.out.block b hb)⟩
          have HXB8 : Hid (w8.heap[xb]? = some (.cells #[.int .i8 3, .string ⟨#[]⟩, .slice va acc.length vc] 35 (0, 0))) := (hk8 xb (by omega) hxne).trans HXB7.out
          obtain ⟨Kt, q1, q2, q3⟩ := HO.out
          have HM8 : Hid (AllM w8 (xb + 1) (.slice a4 (acc.length + 1) cap4) (acc ++ [y.t])) := AllM.snoc Hm1.out Hm2.out Hm4.out (fun g hg => Hrow.out.lt g hg) Hels.out (fun b hb => ⟨by have := (q1 b hb).1; simp at this; omega, (q1 b hb).2⟩) q2 q3 hz6 HB68.out hown hsz8 hk8 (by
            rcases hsame with h | h
            · exact .inl h
            · exact .inr ⟨_, h, by omega⟩)
          have c2 := cell_of_row _ _ 2 _ _ _ HXB8.out
          simp only [List.getElem?_toArray, List.getElem?_cons_zero, List.getElem?_cons_succ] at c2
          have cf : w8.frozen? ⟨xb, 2, none⟩ = false := frozen_of_row w8 _ 2 _ _ HXB8.out
          have hz8 : xb + 1 ≤ w8.heap.size := by omega
          clear hown hgrow hsame hk8 q1 q2 q3 x2'
          go_wp2_with fail
          go_roundw
          case rel => exact ⟨acc ++ [y.t], y.stop, .slice a4 (acc.length + 1) cap4, rfl, hys, HLM.out, by simp; omega, rb_set (i := 2) HXB8.out, AllM.set HM8.out (by omega), (HB8.out.setCell (p := ⟨xb, 2, none⟩) (Nat.le_refl _) _), by simpa [World.setCell] using hz8⟩
          case measure => simp [intOf]; omega
      · have e7 := ne_true (x := (y.err : Int)) (y := 0) (by omega)
        have HRel2 := Lib.hid (list_bad HI.out HRel.out hy HNC.out)
        clear hy
        have k0 := cell_of_row _ _ 0 _ _ _ HRB7.out
        have k1 := cell_of_row _ _ 1 _ _ _ HRB7.out
        have k2 := cell_of_row _ _ 2 _ _ _ HRB7.out
        have kf : ∀ i, w7.frozen? ⟨w.heap.size, i, none⟩ = false := fun i => frozen_of_row w7 _ i _ _ HRB7.out
        simp only [List.getElem?_toArray, List.getElem?_cons_zero, List.getElem?_cons_succ] at k0 k1 k2
        have HBw7 : Hid (Below w.heap.size w w7) := HB5.out.trans (HB7.out.mono (by omega))
        go_wp2_with fail
        have h9 := rb_set (i := 2) (v := .slice none 0 0) (rb_set (i := 1) (v := .string ⟨#[]⟩) (rb_set (i := 0) (v := .int .i8 0) (w := w7) (cur := #[.int .i8 0, .string ⟨#[]⟩, .slice none 0 0]) (rb := w.heap.size) HRB7.out))
        have h10 := fun o => (Below.heap_alloc _ o _ (by simp [World.setCell]; omega)).trans h9
        have r0 := fun o => cell_of_row _ _ 0 _ _ _ (h10 o)
        have r1 := fun o => cell_of_row _ _ 1 _ _ _ (h10 o)
        have r2 := fun o => cell_of_row _ _ 2 _ _ _ (h10 o)
        exact bodyPost_ret (v := .tuple #[.agg #[.int .i8 0, .string ⟨#[]⟩, .slice none 0 0], .int .i64 y.stop, .int .i64 y.err]) (by simp [results, Tryz.results19, go_sem, r0, r1, r2]) rfl (rd_zero HRel2.out ((below_put3 HBw7.out _ _ _).alloc (by simp [World.setCell]; omega) _))
/-- What gantryref03.read answers. -/
theorem read_any (s : ByteArray) (hs : s.size < 900000) : ∀ (f : Nat) (at_ : Int) (p : Nat) (w : World), clampN at_ s.size = p → s.size - p < f → Calls Tryz.prog 19 #[.string s, .int .i64 at_] w (RdPost s p w) := by
  intro f
  induction f with
  | zero => intro at_ p w hp hf; omega
  | succ f ih =>
    intro at_ p w hp hf
    by_cases h : (nextL s.data.toList p).err = 0 ∧ (nextL s.data.toList p).ok = true ∧ (nextL s.data.toList p).tok.kind = 0
    · exact read_list s hs at_ p w hp h.1 h.2.1 h.2.2 (fun q h1 h2 W => ih q q W (clampN_nat h2) (by omega))
    · exact read_flat s hs at_ p w hp (fun h1 h2 h3 => h ⟨h1, h2, h3⟩)
end Go.Proofs.YtodonngnigbpaaaGreatDoor
