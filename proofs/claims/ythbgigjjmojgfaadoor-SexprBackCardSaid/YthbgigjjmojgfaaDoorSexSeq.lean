/- The rows around an expression, and what is still to come of them: no Go program is walked here. -/
import Derived.Test.YthbgigjjmojgfaaDoorSexHolds
import Derived.Test.YthbgigjjmojgfaaDoorSeqR
import Derived.Deep.LoopGhost
namespace Go.Proofs.YthbgigjjmojgfaaDoor
open Go.RowKit
mutual
/-- The expressions within one, as they are written, each with how many rows are around it. -/
def preT (own : Int → Bool) (d : Nat) : Tree → List (Nat × Tree)
  | .node k s l => (d, .node k s l) :: (if own k = true then preL own (d + 1) l else [])
def preL (own : Int → Bool) (d : Nat) : List Tree → List (Nat × Tree)
  | [] => []
  | t :: r => preT own d t ++ preL own d r
end
def ownL (own : Int → Bool) : Tree → List Tree
  | .node k _ l => if own k = true then l else []
theorem preT_eq (own : Int → Bool) (d : Nat) (t : Tree) : preT own d t = (d, t) :: preL own (d + 1) (ownL own t) := by
  cases t with
  | node k s l =>
    simp only [preT, ownL]
    by_cases h : own k = true
    · rw [if_pos h, if_pos h]
    · rw [if_neg h, if_neg h]; simp [preL]
theorem szL_own (own : Int → Bool) (t : Tree) : szL (ownL own t) < szT t := by
  cases t with
  | node k s l =>
    rw [szT_node]
    simp only [ownL]
    split
    · omega
    · simp [szL]
structure Row where
  full : List Tree
  pos : Nat
  a : Option Addr
  cap : Nat
def rowC (r : Row) : List Value := [.slice r.a r.full.length r.cap, .int .i64 r.pos]
def rowsC (rs : List Row) : List Value := rs.flatMap rowC
theorem rowsC_length (rs : List Row) : (rowsC rs).length = rs.length * 2 := by
  unfold rowsC
  induction rs with
  | nil => rfl
  | cons r t ih => simp only [List.flatMap_cons, List.length_append, ih, List.length_cons]; simp [rowC]; omega
theorem rowsC_snoc (rs : List Row) (r : Row) : rowsC (rs ++ [r]) = rowsC rs ++ rowC r := by simp [rowsC]
theorem rowsC_take (rs : List Row) (r : Row) : (rowsC (rs ++ [r])).take (rs.length * 2) = rowsC rs := by
  rw [rowsC_snoc, ← rowsC_length, List.take_left]
theorem rowsC_top (rs : List Row) (r : Row) : (rowsC (rs ++ [r]))[rs.length * 2]? = some (.slice r.a r.full.length r.cap) ∧ (rowsC (rs ++ [r]))[rs.length * 2 + 1]? = some (.int .i64 r.pos) := by
  rw [rowsC_snoc]
  have h := rowsC_length rs
  constructor
  · rw [List.getElem?_append_right (by omega), h]; simp [rowC]
  · rw [List.getElem?_append_right (by omega), h]; simp [rowC]
theorem rowsC_at (rs : List Row) (k : Nat) (h : k < rs.length) : (rowsC rs)[k * 2]? = some (.slice rs[k].a rs[k].full.length rs[k].cap) := by
  induction rs generalizing k with
  | nil => simp at h
  | cons r t ih =>
    have hd : rowsC (r :: t) = rowC r ++ rowsC t := rfl
    cases k with
    | zero => rw [hd]; simp [rowC]
    | succ k =>
      rw [hd, List.getElem?_append_right (by simp [rowC]; omega)]
      have := ih k (by simpa using h)
      simp only [rowC, List.length_cons, List.length_nil, List.getElem_cons_succ]
      rw [← this]
      congr 1
      omega
theorem rowsC_bump (rs : List Row) (r : Row) : (rowsC (rs ++ [r])).set (rs.length * 2 + 1) (.int .i64 ((r.pos + 1 : Nat) : Int)) = rowsC (rs ++ [{ r with pos := r.pos + 1 }]) := by
  rw [rowsC_snoc, rowsC_snoc, List.set_append_right _ _ (by rw [rowsC_length]; omega), rowsC_length]
  simp [rowC]
/-- What is still to come, the outermost row first. -/
def remR (own : Int → Bool) (d : Nat) : List Row → List (Nat × Tree)
  | [] => []
  | r :: rs => remR own (d + 1) rs ++ preL own d (r.full.drop r.pos)
theorem remR_snoc (own : Int → Bool) (d : Nat) (rs : List Row) (r : Row) : remR own d (rs ++ [r]) = preL own (d + rs.length) (r.full.drop r.pos) ++ remR own d rs := by
  induction rs generalizing d with
  | nil => simp [remR]
  | cons q t ih =>
    have e : d + 1 + t.length = d + (q :: t).length := by simp; omega
    simp only [List.cons_append, remR, ih, e, List.append_assoc]
theorem remR_pop {own : Int → Bool} {rs : List Row} {r : Row} (h : r.full.length ≤ r.pos) : remR own 0 (rs ++ [r]) = remR own 0 rs := by
  rw [remR_snoc, List.drop_eq_nil_of_le h]; simp [preL]
theorem remR_step {own : Int → Bool} {rs : List Row} {r : Row} {y : Tree} (a : Option Addr) (c : Nat) (h : r.full[r.pos]? = some y) :
    remR own 0 (rs ++ [r]) = (rs.length, y) :: remR own 0 ((rs ++ [{ r with pos := r.pos + 1 }]) ++ [⟨ownL own y, 0, a, c⟩]) := by
  obtain ⟨hlt, hy⟩ := List.getElem?_eq_some_iff.1 h
  rw [remR_snoc, remR_snoc, remR_snoc, List.drop_eq_getElem_cons hlt, hy]
  simp only [preL, preT_eq, List.drop_zero, List.cons_append, List.append_assoc, Nat.zero_add, List.length_append, List.length_cons, List.length_nil]
/-- An expression, how many rows are around it, and its value. -/
abbrev Itm := Nat × Tree × Value
def dt (x : Itm) : Nat × Tree := (x.1, x.2.1)
def encY (x : Itm) : Array Value := #[.int .i64 x.1, x.2.2]
/-- The value's own fields are the tree's. -/
def VF (t : Tree) (v : Value) : Prop := ∃ a cap, v = .agg #[.int .i8 t.kind, .string (bytesL t.text), .slice a t.kids.length cap] ∧ t.kids.length ≤ cap ∧ cap ≤ maxLen ∧ t.text.length ≤ maxLen
theorem Rd.vf {w : World} {bad : Nat → Prop} {t : Tree} {v : Value} (h : Rd w bad t v) : VF t v := by
  obtain ⟨a, cap, h1, h2, h3, h4, _⟩ := h.parts
  exact ⟨a, cap, h1, h2, h3, h4⟩
def SpY (own : Int → Bool) (t0 : Tree) (ys : List Itm) : Prop := ys.map dt <+: preT own 0 t0 ∧ ∀ x ∈ ys, VF x.2.1 x.2.2
def SY (own : Int → Bool) (t0 : Tree) (ys : List Itm) : Prop := ys.map dt = preT own 0 t0 ∧ ∀ x ∈ ys, VF x.2.1 x.2.2
structure RowOk (w : World) (bad : Nat → Prop) (r : Row) : Prop where
  pos : r.pos ≤ r.full.length
  len : r.full.length ≤ r.cap
  cap : r.cap ≤ maxLen
  rd : RdL w bad r.full r.a
/-- The iterator's rows. -/
structure Stk (n₀ B0 : Nat) (bad : Nat → Prop) (R : Nat → Prop) (rows : List Row) (g cap : Nat) (w : World) : Prop where
  R0 : ∀ b, R b → n₀ ≤ b ∧ b < w.heap.size
  RB : R B0
  Rg : R g
  gB : g ≠ B0
  low : ∀ b, ¬ bad b → b < n₀ ∨ b = B0
  box : ∃ cs ty, w.heap[B0]? = some (.cells cs ty (0, 0))
  row : w.ownsRow n₀ 79 2 (.slice (some ⟨g, 0, none⟩) rows.length cap) rows.length (rowsC rows)
  ok : ∀ r ∈ rows, RowOk w bad r
  inner : rows.Pairwise (fun r r' => szL r'.full < szL r.full)
  few : rows.length ≤ 241
  top : ∀ rs r, rows = rs ++ [r] → r.full ≠ [] → rows.length ≤ 240
theorem ownsRow_heap {w w' : World} {base : Nat} {e : TypeId} {size : Nat} {v : Value} {n : Nat} {xs : List Value} (h : w.ownsRow base e size v n xs) (hk : ∀ g, v.ownBlock = some g → w'.heap[g]? = w.heap[g]?) : w'.ownsRow base e size v n xs := by
  refine ⟨h.1, ?_⟩
  rcases h.2 with hn | ⟨g, cap, cur, rfl, hb, hgg, rest⟩
  · exact .inl hn
  · exact .inr ⟨g, cap, cur, rfl, hb, (hk g rfl).trans hgg, rest⟩
theorem RowOk.keep {w w' : World} {bad : Nat → Prop} {r : Row} (h : RowOk w bad r) (hk : ∀ b, ¬ bad b → b < w.heap.size → w'.heap[b]? = w.heap[b]?) : RowOk w' bad r :=
  ⟨h.pos, h.len, h.cap, RdL.keep hk _ _ h.rd⟩
section
variable {n₀ B0 : Nat} {bad R R' : Nat → Prop} {rows rs : List Row} {r : Row} {g cap : Nat} {w w' : World}
theorem Stk.keep (h : Stk n₀ B0 bad R rows g cap w) (hs : w.heap.size ≤ w'.heap.size) (hk : ∀ b, R b ∨ ¬ bad b → w'.heap[b]? = w.heap[b]?) : Stk n₀ B0 bad R rows g cap w' :=
  ⟨fun b hb => ⟨(h.R0 b hb).1, Nat.lt_of_lt_of_le (h.R0 b hb).2 hs⟩, h.RB, h.Rg, h.gB, h.low, (by obtain ⟨cs, ty, hb⟩ := h.box; exact ⟨cs, ty, (hk _ (.inl h.RB)).trans hb⟩), ownsRow_heap h.row (fun g' e => by cases e; exact hk _ (.inl h.Rg)), fun r hr => (h.ok r hr).keep (fun b hb _ => hk b (.inr hb)), h.inner, h.few, h.top⟩
theorem Stk.more (h : Stk n₀ B0 bad R rows g cap w) (hR : ∀ b, R b → R' b) (hR' : ∀ b, R' b → n₀ ≤ b ∧ b < w.heap.size) : Stk n₀ B0 bad R' rows g cap w :=
  ⟨hR', hR _ h.RB, hR _ h.Rg, h.gB, h.low, h.box, h.row, h.ok, h.inner, h.few, h.top⟩
theorem own_take {base k : Nat} {e : TypeId} {size : Nat} {xs : List Value} (h : w.ownsRow base e size (.slice (some ⟨g, 0, none⟩) (k + 1) cap) (k + 1) xs) :
    w.ownsRow base e size (.slice (some ⟨g, 0, none⟩) k cap) k (xs.take (k * size)) ∧ k + 1 ≤ cap := by
  rcases h.2 with ⟨h', _⟩ | ⟨g', cap', cur, h', hb, hg, hnc, hcm, hcs, htake⟩
  · simp at h'
  · simp only [Value.slice.injEq, Option.some.injEq, Addr.mk.injEq, and_true, true_and] at h'
    obtain ⟨rfl, rfl⟩ := h'
    refine ⟨⟨?_, .inr ⟨g, cap, cur, rfl, hb, hg, by omega, hcm, hcs, ?_⟩⟩, hnc⟩
    · rw [List.length_take, h.1, Nat.min_eq_left (Nat.mul_le_mul_right _ (by omega))]
    · rw [← htake, List.take_take, Nat.min_eq_left (Nat.mul_le_mul_right _ (by omega))]
theorem Stk.pop (h : Stk n₀ B0 bad R (rs ++ [r]) g cap w) : Stk n₀ B0 bad R rs g cap w := by
  have hrow := h.row
  rw [List.length_append, List.length_singleton] at hrow
  have hfew := h.few
  rw [List.length_append, List.length_singleton] at hfew
  have h2 := (own_take hrow).1
  rw [rowsC_take] at h2
  exact ⟨h.R0, h.RB, h.Rg, h.gB, h.low, h.box, h2, fun q hq => h.ok q (by simp [hq]), (List.pairwise_append.1 h.inner).1, by omega, fun _ _ _ _ => by omega⟩
/-- The last row's place, one further on. -/
theorem Stk.bump (h : Stk n₀ B0 bad R (rs ++ [r]) g cap w) (hlt : r.pos < r.full.length) :
    Stk n₀ B0 bad R (rs ++ [{ r with pos := r.pos + 1 }]) g cap (w.setCell ⟨g, rs.length * 2 + 1, none⟩ (.int .i64 ((r.pos + 1 : Nat) : Int))) := by
  have hl : (rs ++ [{ r with pos := r.pos + 1 }]).length = (rs ++ [r]).length := by simp
  have h2 := (h.row.stored (rs.length * 2 + 1) (.int .i64 ((r.pos + 1 : Nat) : Int))).1
  rw [rowsC_bump] at h2
  have hsz : (w.setCell ⟨g, rs.length * 2 + 1, none⟩ (.int .i64 ((r.pos + 1 : Nat) : Int))).heap.size = w.heap.size := by simp [World.setCell]
  have hk : ∀ b, ¬ bad b → b < w.heap.size → (w.setCell ⟨g, rs.length * 2 + 1, none⟩ (.int .i64 ((r.pos + 1 : Nat) : Int))).heap[b]? = w.heap[b]? := fun b hb _ =>
    Below.heap_setCell _ _ _ _ (fun e => by
      have e' : b = g := e
      subst e'
      rcases h.low b hb with h' | h'
      · have := (h.R0 b h.Rg).1; omega
      · exact h.gB h')
  have hin := List.pairwise_append.1 h.inner
  refine ⟨fun b hb => by rw [hsz]; exact h.R0 b hb, h.RB, h.Rg, h.gB, h.low, (by obtain ⟨cs, ty, hb⟩ := h.box; exact ⟨cs, ty, (Below.heap_setCell _ _ _ _ (fun e => h.gB (Eq.symm e))).trans hb⟩), by rw [hl]; exact h2, fun q hq => ?_, ?_, by rw [hl]; exact h.few, fun rs' r' e hne => ?_⟩
  · rcases List.mem_append.1 hq with hq | hq
    · exact (h.ok q (by simp [hq])).keep hk
    · simp at hq
      subst hq
      have := (h.ok r (by simp)).keep hk
      exact ⟨hlt, this.len, this.cap, this.rd⟩
  · refine List.pairwise_append.2 ⟨hin.1, by simp, fun a ha b hb => ?_⟩
    simp at hb
    subst hb
    exact hin.2.2 a ha r (by simp)
  · obtain ⟨h3, h4⟩ := List.append_inj' e rfl
    simp at h4
    subst h4
    rw [hl]
    exact h.top rs r rfl hne
/-- The rows of which the path holds none that is the next one. -/
theorem Stk.notRow (h : Stk n₀ B0 bad R (rs ++ [r]) g cap w) {y : Tree} (hy : y ∈ r.full) {l : List Tree} (hl : szL l < szT y) {a : Option Addr} (hrd : RdL w bad l a) :
    ∀ k, (hk : k < (rs ++ [r]).length) → NotRow a l.length (rs ++ [r])[k].a (rs ++ [r])[k].full.length := by
  intro k hk
  have hmem := List.getElem_mem hk
  have hok := h.ok _ hmem
  obtain ⟨q, hq⟩ : ∃ q, q = (rs ++ [r])[k] := ⟨_, rfl⟩
  rw [← hq] at hmem hok ⊢
  have hsz : szL l < szL q.full := by
    have h1 := szL_mem hy
    rcases List.mem_append.1 hmem with hq' | hq'
    · have := (List.pairwise_append.1 h.inner).2.2 q hq' r (by simp); omega
    · simp at hq'; subst hq'; omega
  by_cases hn : q.full.length = l.length
  · have hp : 0 < q.full.length := by
      cases hf : q.full with
      | nil => rw [hf] at hsz; simp [szL] at hsz
      | cons _ _ => simp
    obtain ⟨b, o, e1, _⟩ := hok.rd.addr hp
    obtain ⟨b', o', e2, _⟩ := hrd.addr (by omega)
    refine .inr ⟨b, o, b', o', e1, e2, fun he => ?_, by omega⟩
    obtain ⟨rfl, rfl⟩ := he
    have := RdL.one q.full l _ hn (e1 ▸ hok.rd) (e2 ▸ hrd)
    rw [this] at hsz
    omega
  · exact .inl hn
/-- One row more. -/
theorem Stk.push (h : Stk n₀ B0 bad R (rs ++ [r]) g cap w) {y : Tree} (hy : y ∈ r.full) {q : Row} (hq : szL q.full < szT y) (hqk : RowOk w bad q) (hk : q.full ≠ [] → rs.length < 239)
    (hw : ∀ b, b < w.heap.size → b ≠ g → w'.heap[b]? = w.heap[b]?) {g' cap' : Nat} (hg' : g' = g ∨ (w.heap.size ≤ g' ∧ g' < w'.heap.size)) (hR : ∀ b, R b → R' b) (hR' : ∀ b, R' b → n₀ ≤ b ∧ b < w'.heap.size) (hRg : R' g')
    (hrow : w'.ownsRow n₀ 79 2 (.slice (some ⟨g', 0, none⟩) (rs.length + 1 + 1) cap') (rs.length + 1 + 1) (rowsC (rs ++ [r] ++ [q]))) : Stk n₀ B0 bad R' (rs ++ [r] ++ [q]) g' cap' w' := by
  have hl : (rs ++ [r] ++ [q]).length = rs.length + 1 + 1 := by simp
  have hB := (h.R0 _ h.RB).2
  have hG := (h.R0 _ h.Rg)
  have hkk : ∀ b, ¬ bad b → b < w.heap.size → w'.heap[b]? = w.heap[b]? := fun b hb hlt => hw b hlt (fun e => by
    subst e
    rcases h.low b hb with h' | h'
    · omega
    · exact h.gB h')
  have hne : r.full ≠ [] := fun e => by rw [e] at hy; simp at hy
  have htop := h.top rs r rfl hne
  rw [List.length_append, List.length_singleton] at htop
  refine ⟨hR', hR _ h.RB, hRg, ?_, h.low, (by obtain ⟨cs, ty, hb⟩ := h.box; exact ⟨cs, ty, (hw _ hB (fun e => h.gB e.symm)).trans hb⟩), by rw [hl]; exact hrow, fun q' hq' => ?_, ?_, by rw [hl]; omega, fun rs' r' e hne' => ?_⟩
  · rcases hg' with rfl | ⟨h1, _⟩
    · exact h.gB
    · omega
  · rcases List.mem_append.1 hq' with hq' | hq'
    · exact (h.ok q' hq').keep hkk
    · simp at hq'; subst hq'; exact hqk.keep hkk
  · refine List.pairwise_append.2 ⟨h.inner, by simp, fun a ha b hb => ?_⟩
    simp at hb
    subst hb
    have h1 := szL_mem hy
    rcases List.mem_append.1 ha with ha | ha
    · have := (List.pairwise_append.1 h.inner).2.2 a ha r (by simp); omega
    · simp at ha; subst ha; omega
  · obtain ⟨_, h4⟩ := List.append_inj' e rfl
    simp at h4
    subst h4
    have := hk hne'
    rw [hl]; omega
end
/-- The head of a round, where N rounds at most are to come. -/
def WInv (own : Int → Bool) (W : World) (bad keep : Nat → Prop) (t0 : Tree) (J : (Nat → Prop) → List Itm → World → Prop) (N : Nat) (u : Value) (wr : World) : Prop :=
  ∃ ys rows g cap R, u = .slice (some ⟨g, 0, none⟩) rows.length cap ∧ Stk W.heap.size W.heap.size bad R rows g cap wr ∧ J R ys wr ∧ (∀ b, keep b → wr.heap[b]? = W.heap[b]?) ∧
    preT own 0 t0 = ys.map dt ++ remR own 0 rows ∧ (∀ x ∈ ys, VF x.2.1 x.2.2) ∧ N = 2 * (remR own 0 rows).length + rows.length
end Go.Proofs.YthbgigjjmojgfaaDoor
