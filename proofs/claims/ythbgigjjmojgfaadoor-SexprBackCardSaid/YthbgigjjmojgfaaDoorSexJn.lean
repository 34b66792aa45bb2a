/- How deep a row of expressions is; what All has put together, handed on. -/
import Derived.Test.YthbgigjjmojgfaaDoorSexAll
import Derived.Test.YthbgigjjmojgfaaDoorSexHt
import Derived.Test.YthbgigjjmojgfaaDoorSexGlobs
namespace Go.Proofs.YthbgigjjmojgfaaDoor
open Go.RowKit
set_option linter.unusedVariables false
mutual
/-- How deep a tree is. -/
def dT : Tree → Nat
  | .node k _ l => if k = 3 then dL l + 1 else 0
def dL : List Tree → Nat
  | [] => 0
  | t :: r => max (dT t) (dL r)
end
def upD (d n : Nat) : Nat := if n = 0 then 0 else d + n
theorem upD_up (d n : Nat) : max (d + 1) (upD (d + 1) n) = upD d (n + 1) := by unfold upD; split <;> (try split) <;> omega
theorem upD_max (d m n : Nat) : max (upD d m) (upD d n) = upD d (max m n) := by unfold upD; split <;> split <;> split <;> omega
mutual
theorem preT_dep (d : Nat) : ∀ (t : Tree) (m : Nat), (preT lis d t).foldl dpS m = max m (upD d (dT t))
  | .node k s l => fun m => by
    by_cases h3 : k = 3
    · simp only [preT, lis, h3, decide_true, if_true, List.foldl_cons, dT]
      rw [preL_dep (d + 1) l, dpS_list (y := .node 3 s l) rfl, Nat.max_assoc, upD_up]
    · have : lis k = false := by simp [lis, h3]
      simp only [preT, this, Bool.false_eq_true, if_false, List.foldl_cons, List.foldl_nil, dT, h3]
      rw [dpS_no (y := .node k s l) (by simpa [Tree.kind] using h3)]
      simp [upD]
theorem preL_dep (d : Nat) : ∀ (l : List Tree) (m : Nat), (preL lis d l).foldl dpS m = max m (upD d (dL l))
  | [] => fun m => by simp [preL, dL, upD]
  | t :: r => fun m => by
    simp only [preL, dL, List.foldl_append]
    rw [preT_dep d t, preL_dep d r, Nat.max_assoc, upD_max]
end
theorem depthT_eq (t : Tree) : depthT t = dT t := by
  unfold depthT
  rw [preT_dep 0 t 0]
  unfold upD
  split <;> omega
mutual
theorem dT_hT : ∀ (t : Tree), dT t ≤ hT t + 1
  | .node k s l => by
    simp only [dT, hT]
    split
    · have := dL_hL l; omega
    · omega
theorem dL_hL : ∀ (l : List Tree), dL l ≤ hL l
  | [] => Nat.le_refl _
  | t :: r => by
    simp only [dL, hL]
    have h1 := dT_hT t
    have h2 := dL_hL r
    omega
end
theorem dL_snoc (l : List Tree) (t : Tree) : dL (l ++ [t]) = max (dL l) (dT t) := by
  induction l with
  | nil => simp [dL]
  | cons a r ih => simp only [List.cons_append, dL, ih]; omega
theorem dL_take {l : List Tree} {k : Nat} {t : Tree} (h : l[k]? = some t) : dL (l.take (k + 1)) = max (dL (l.take k)) (dT t) := by
  obtain ⟨hlt, rfl⟩ := List.getElem?_eq_some_iff.1 h
  rw [List.take_succ_eq_append_getElem hlt, dL_snoc]
theorem dL_le {l : List Tree} {n : Nat} (h : ∀ t ∈ l, dT t ≤ n) : dL l ≤ n := by
  induction l with
  | nil => exact Nat.zero_le _
  | cons a r ih =>
    simp only [dL]
    have h1 := h a (by simp)
    have h2 := ih (fun t ht => h t (by simp [ht]))
    omega
theorem allX_ht (L : List UInt8) : ∀ (f p : Nat), ∀ t ∈ (allX L f p).ts, hT t ≤ 60 := by
  intro f
  induction f with
  | zero => intro p t ht; simp [allX] at ht
  | succ f ih =>
    intro p t ht
    by_cases hlt : p < L.length
    · by_cases he : (readL L p).err = 0
      · rw [allX_step hlt he] at ht
        rcases List.mem_cons.1 ht with rfl | ht
        · exact readL_ht L p
        · exact ih _ t ht
      · rw [allX_bad hlt he] at ht; simp at ht
    · rw [allX_end hlt] at ht; simp at ht
theorem allS_ht {L : List UInt8} {t : Tree} (h : t ∈ (allS L).ts) : hT t ≤ 60 := allX_ht L _ _ t h
theorem allX_len (L : List UInt8) : ∀ (f p : Nat), p ≤ L.length → (allX L f p).ts.length + p ≤ L.length := by
  intro f
  induction f with
  | zero => intro p hp; simpa [allX] using hp
  | succ f ih =>
    intro p hp
    by_cases hlt : p < L.length
    · by_cases he : (readL L p).err = 0
      · rw [allX_step hlt he]
        obtain ⟨h1, h2⟩ := readL_on hp he
        obtain ⟨h3, h4⟩ := skipA_le (l := L) h2
        have := ih _ h4
        simp only [List.length_cons]
        omega
      · rw [allX_bad hlt he]; simpa using hp
    · rw [allX_end hlt]; simpa using hp
theorem allS_len (L : List UInt8) : (allS L).ts.length ≤ L.length := by
  have := allX_len L (L.length + 1) (skipA L 0) (skipA_le (Nat.zero_le _)).2
  show (allX L (L.length + 1) (skipA L 0)).ts.length ≤ L.length
  omega
/-- A value that reads as a tree, and what it reaches bears no frozen range. -/
def ElT (w : World) (t : Tree) (v : Value) : Prop := ∃ bad : Nat → Prop, (∀ b, ¬ bad b → b < w.heap.size) ∧ Rd w bad t v ∧ Clean w bad
theorem ElT.below {w w' : World} {t : Tree} {v : Value} (h : ElT w t v) (hb : Below w.heap.size w w') : ElT w' t v := by
  obtain ⟨bad, h1, h2, h3⟩ := h
  exact ⟨bad, fun b hb' => Nat.lt_of_lt_of_le (h1 b hb') hb.size, Rd.keep (fun b _ hlt => hb.block b hlt) t v h2, fun b hn _ => by
    obtain ⟨cs, ty, hc⟩ := h3 b hn (h1 b hn)
    exact ⟨cs, ty, (hb.block b (h1 b hn)).trans hc⟩⟩
theorem RdOut.el {B : Nat} {w : World} {t : Tree} {v : Value} (h : RdOut B w t v) : ElT w t v := h.use
theorem ElT.parts {w : World} {t : Tree} {v : Value} (h : ElT w t v) : ∃ a cap, v = .agg #[.int .i8 t.kind, .string (bytesL t.text), .slice a t.kids.length cap] := by
  obtain ⟨bad, h1, h2, h3⟩ := h
  obtain ⟨a, cap, hv, _⟩ := h2.parts
  exact ⟨a, cap, hv⟩
theorem Same_el (ta tb : Tree) (va vb : Value) (w : World) (h : hT ta ≤ 60) (ha : ElT w ta va) (hb : ElT w tb vb) :
    Calls Tryd.prog 21 #[va, vb] w fun e w' => (∃ r, e = .returned (.bool r) ∧ (r = true ↔ ta = tb)) ∧ Below w.heap.size w w' := by
  obtain ⟨bad, q1, q2, q3⟩ := ha
  obtain ⟨bad', q1', q2', q3'⟩ := hb
  exact Same_any ta tb va vb w (hT_deep h) bad q1 q2 q3 q2'.sx
theorem Same_eq (t : Tree) (va vb : Value) (w : World) (h : hT t ≤ 60) (ha : ElT w t va) (hb : ElT w t vb) :
    Calls Tryd.prog 21 #[va, vb] w fun e w' => e = .returned (.bool true) ∧ Below w.heap.size w w' := by
  refine (Same_el t t va vb w h ha hb).mono ?_
  rintro e w' ⟨⟨r, rfl, hr⟩, hb⟩
  exact ⟨by rw [hr.2 rfl], hb⟩
theorem Depth_el (t : Tree) (n : Nat) (v : Value) (w : World) (h : dT t ≤ 239) (ha : ElT w t v) (hn : dT t = n) :
    Calls Tryd.prog 19 #[v] w fun e w' => e = .returned (.int .i64 n) ∧ Below w.heap.size w w' := by
  obtain ⟨bad, q1, q2, q3⟩ := ha
  have := Depth_any t v w (by rw [depthT_eq]; exact h) bad q1 q2 q3
  rw [depthT_eq, hn] at this
  exact this
theorem AllM.row {w : World} {n₀ n cap : Nat} {a : Option Addr} {ts : List Tree} (h : AllM w n₀ (.slice a n cap) ts) :
    ∃ bad : Nat → Prop, (∀ b, ¬ bad b → b < w.heap.size) ∧ Clean w bad ∧ RdL w bad ts a ∧ n = ts.length ∧ n ≤ cap ∧ cap ≤ maxLen := by
  obtain ⟨K, h1, h2, h3, h4⟩ := h
  obtain ⟨a', cap', hv, q1, q2⟩ := h3.form
  simp only [Value.slice.injEq] at hv
  obtain ⟨rfl, hn, rfl⟩ := hv
  refine ⟨fun b => ¬ (K b ∨ (Value.slice a n cap).ownBlock = some b), fun b hb => ?_, fun b hb _ => ?_, h3.closed (fun b hb => .inl hb) (fun g hg => .inr hg), hn, by omega, q2⟩
  · rcases Classical.not_not.1 hb with hb | hb
    · exact (h1 b hb).2
    · exact (h3.lt hb).2
  · rcases Classical.not_not.1 hb with hb | hb
    · obtain ⟨cs, hc⟩ := h2 b hb; exact ⟨cs, _, hc⟩
    · obtain ⟨cs, hc⟩ := h3.cells hb; exact ⟨cs, _, hc⟩
theorem AllM.base {w : World} {n₀ n cap : Nat} {a : Option Addr} {ts : List Tree} (h : AllM w n₀ (.slice a n cap) ts) (h0 : 0 < ts.length) : ∃ g, a = some ⟨g, 0, none⟩ ∧ g < w.heap.size := by
  obtain ⟨K, h1, h2, h3, h4⟩ := h
  have hlt := fun g hg => h3.lt (g := g) hg
  obtain ⟨xs, ho, _⟩ := h3
  rcases ho.2 with ⟨_, hn⟩ | ⟨g, cap', cur, hv, _⟩
  · omega
  · simp only [Value.slice.injEq] at hv
    obtain ⟨rfl, _, _⟩ := hv
    exact ⟨g, rfl, (hlt g rfl).2⟩
/-- The i-th of them. -/
theorem AllM.get {w : World} {n₀ n cap : Nat} {a : Option Addr} {ts : List Tree} (h : AllM w n₀ (.slice a n cap) ts) {i : Nat} {t : Tree} (hi : ts[i]? = some t) :
    ∃ g ka kc, a = some ⟨g, 0, none⟩ ∧ g < w.heap.size ∧ w.cell? ⟨g, i * 3, none⟩ = some (.int .i8 t.kind) ∧ w.cell? ⟨g, i * 3 + 1, none⟩ = some (.string (bytesL t.text)) ∧ w.cell? ⟨g, i * 3 + 2, none⟩ = some (.slice ka t.kids.length kc) ∧
      ElT w t (.agg #[.int .i8 t.kind, .string (bytesL t.text), .slice ka t.kids.length kc]) := by
  have hlt : i < ts.length := (List.getElem?_eq_some_iff.1 hi).1
  obtain ⟨g, rfl, hg⟩ := h.base (by omega)
  obtain ⟨bad, q1, q2, q3, _⟩ := h.row
  obtain ⟨_, v0, v1, v2, c0, c1, c2, hr⟩ := q3.get ts g 0 i t hi
  obtain ⟨ka, kc, hv, _⟩ := hr.parts
  simp only [Value.agg.injEq, Array.mk.injEq, List.cons.injEq, and_true] at hv
  obtain ⟨rfl, rfl, rfl⟩ := hv
  simp only [Nat.zero_add] at c0 c1 c2
  exact ⟨g, ka, kc, rfl, hg, c0, c1, c2, bad, q1, hr, q2⟩
/-- A list of them. -/
theorem AllM.list {w : World} {n₀ n cap : Nat} {a : Option Addr} {ts : List Tree} (h : AllM w n₀ (.slice a n cap) ts) : ElT w (.node 3 [] ts) (.agg #[.int .i8 3, .string ⟨#[]⟩, .slice a n cap]) := by
  obtain ⟨bad, q1, q2, q3, rfl, q4, q5⟩ := h.row
  exact ⟨bad, q1, ⟨a, cap, rfl, q4, q5, by simp, q3⟩, q2⟩
/-- All's answer, in parts. -/
theorem all_to (s : ByteArray) (X : AllR) (hs : s.size < 900000) (hX : allS s.data.toList = X) (W : World) (hG : Globs W) (hK : Kinds W) :
    Calls Tryd.prog 12 #[.string s] W fun e w' => ∃ a cap, e = .returned (.tuple #[.slice a X.ts.length cap, .int .i64 X.stop, .int .i64 X.err]) ∧ AllM w' W.heap.size (.slice a X.ts.length cap) X.ts ∧ Below W.heap.size W w' := by
  refine (All_any s X W hG hK hs hX).mono ?_
  rintro e w' ⟨v, rfl, h1, h2⟩
  obtain ⟨a, cap, rfl, _⟩ := h1.form
  exact ⟨a, cap, rfl, h1, h2⟩
end Go.Proofs.YthbgigjjmojgfaaDoor
