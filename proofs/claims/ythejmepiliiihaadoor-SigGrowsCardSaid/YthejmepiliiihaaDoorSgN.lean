/- Expressions in new memory: the rows' values, what is new. -/
import Derived.Test.YthejmepiliiihaaDoorSgM
namespace Go.Proofs.YthejmepiliiihaaDoor
open Go.RowKit
set_option linter.unusedVariables false
/-- An expression as it lies in a row. -/
structure SexV where
  t : Tree
  a : Option Addr
  c : Nat
def sexC (s : SexV) : List Value := [.int .i8 s.t.kind, .string (bytesL s.t.text), .slice s.a s.t.kids.length s.c]
def sexV (s : SexV) : Value := .agg #[.int .i8 s.t.kind, .string (bytesL s.t.text), .slice s.a s.t.kids.length s.c]
theorem sexC_len (s : SexV) : (sexC s).length = 3 := rfl
theorem one_sex (l : List SexV) : ∀ u ∈ l.flatMap sexC, u.oneCell' = true := by
  intro u hu
  obtain ⟨x, _, h⟩ := List.mem_flatMap.1 hu
  simp [sexC] at h
  rcases h with rfl | rfl | rfl <;> rfl
theorem rdl_vals {w : World} {bad : Nat → Prop} : ∀ (l : List Tree) (a : Option Addr), RdL w bad l a → ∃ xs : List SexV, xs.map (·.t) = l ∧ At w w.heap.size (xs.flatMap sexC) a ∧ ∀ s ∈ xs, Rd w bad s.t (sexV s)
  | [], a, _ => ⟨[], rfl, fun h => absurd h (by simp), fun s h => by simp at h⟩
  | t :: l, a, h => by
    obtain ⟨g, o, v0, v1, v2, rfl, hb, fz, c0, c1, c2, ht, hl⟩ := h
    obtain ⟨xs, h1, h2, h3⟩ := rdl_vals l _ hl
    obtain ⟨ca, cc, hv, _, _, _, _⟩ := ht.parts
    simp only [Value.agg.injEq, Array.mk.injEq, List.cons.injEq, and_true] at hv
    obtain ⟨rfl, rfl, rfl⟩ := hv
    refine ⟨⟨t, ca, cc⟩ :: xs, by simp [h1], fun _ => ⟨g, o, rfl, World.block_lt_of_cell? w ⟨g, o, none⟩ c0, fun i v hi => ?_⟩, fun s hs => ?_⟩
    · simp only [List.flatMap_cons, sexC] at hi
      match i, hi with
      | 0, hi => simp at hi; subst hi; exact c0
      | 1, hi => simp at hi; subst hi; exact c1
      | 2, hi => simp at hi; subst hi; exact c2
      | i + 3, hi =>
        have hi : (xs.flatMap sexC)[i]? = some v := by simpa using hi
        have hpos : 0 < (xs.flatMap sexC).length := by
          rcases Nat.eq_zero_or_pos (xs.flatMap sexC).length with h0 | h0
          · rw [List.eq_nil_of_length_eq_zero h0] at hi; simp at hi
          · exact h0
        obtain ⟨g', o', e, _, hc⟩ := h2 hpos
        simp only [Option.some.injEq, Addr.mk.injEq, and_true] at e
        obtain ⟨rfl, rfl⟩ := e
        have := hc i v hi
        rwa [show o + 3 + i = o + (i + 3) by omega] at this
    · rcases List.mem_cons.1 hs with rfl | hs
      · exact ht
      · exact h3 s hs
theorem info_sex : (Tryd.prog.info? 47).map (fun i => (i.zero, i.size, i.bytes)) = some (some (.agg #[.int .i8 0, .string ⟨#[]⟩, .slice none 0 0]), 3, 48) := by kernel_rfl
theorem row_sex (l : List SexV) (a : Option Addr) (c : Nat) (w : World) (hA : At w w.heap.size (l.flatMap sexC) a) (hc : l.length ≤ c) (hl : l.length * 48 ≤ 140737488355328) (h63 : l.length ≤ maxLen) (ha : ∀ ad, a = some ad → True) :
    Calls Tryd.prog 44 #[.slice a l.length c] w (RowPost w 47 3 l.length (l.flatMap sexC)) := by
  obtain ⟨i0, hi, hz0, hz1, hz2⟩ := info_parts info_sex
  by_cases h0 : 0 < l.length
  · obtain ⟨g, o, rfl, hg, hcell⟩ := hA (by rw [len_flat sexC_len]; omega)
    have HC := Lib.hid (at_add hcell)
    clear hcell hA
    go_enter Tryd.func44, Tryd.ntmps44
    go_wp2_with (at_builtin; refine wpList_append_own_at _ rfl _ _ 45 rfl w.heap.size 47 i0 _ 3 48 Tryd.underlying45 hi hz0 hz1 hz2 rfl (by decide) _ 0 [] rfl (World.ownsRow_nil _ _ _ _) ⟨g, o, none⟩ l.length c (l.flatMap sexC) rfl (len_flat sexC_len l) HC.out (one_sex l) (by omega) (by omega) (Nat.le_refl _) ?_; intro v' w1 hown' hgrow hnil hloc; clear hnil hloc)
    go_ret
    exact ⟨v', rfl, by simpa using hown', below_grown hgrow⟩
  · obtain rfl : l = [] := List.eq_nil_of_length_eq_zero (by omega)
    cases a with
    | none =>
      have he := fun ty w => @app_empty Tryd.prog 45 ty 47 i0 (.string ⟨#[]⟩) Tryd.underlying45 hi c w
      go_enter Tryd.func44, Tryd.ntmps44
      go_wp2
      go_ret
      exact ⟨_, rfl, World.ownsRow_nil _ _ _ _, Below.refl _ _⟩
    | some ad =>
      go_enter Tryd.func44, Tryd.ntmps44
      go_wp2_with (at_builtin; refine wpList_append_own_at _ rfl _ _ 45 rfl w.heap.size 47 i0 _ 3 48 Tryd.underlying45 hi hz0 hz1 hz2 rfl (by decide) _ 0 [] rfl (World.ownsRow_nil _ _ _ _) ad 0 c [] rfl rfl (fun j u h => (by simp at h)) (fun u h => (by simp at h)) (by omega) (by omega) (Nat.le_refl _) ?_; intro v' w1 hown' hgrow hnil hloc; clear hnil hloc)
      go_ret
      exact ⟨v', rfl, by simpa using hown', below_grown hgrow⟩
/-- No row is too long to be copied. -/
def RowsT : Tree → Prop
  | .node _ _ l => l.length * 48 ≤ 140737488355328 ∧ ∀ t, t ∈ l → RowsT t
theorem RowsT.kids {t : Tree} (h : RowsT t) : t.kids.length * 48 ≤ 140737488355328 ∧ ∀ c ∈ t.kids, RowsT c := by
  cases t with
  | node k s l => unfold RowsT at h; exact h
/-- Blocks that lay before B, or that are no cells without a mark. -/
def newBad (B : Nat) (w : World) (b : Nat) : Prop := b < B ∨ ¬ ∃ cs ty, w.heap[b]? = some (.cells cs ty (0, 0))
def NewT (B : Nat) (w : World) (t : Tree) (v : Value) : Prop := Rd w (newBad B w) t v
theorem newBad_lt {B : Nat} {w : World} {b : Nat} (h : ¬ newBad B w b) : B ≤ b ∧ b < w.heap.size ∧ ∃ cs ty, w.heap[b]? = some (.cells cs ty (0, 0)) := by
  unfold newBad at h
  obtain ⟨h1, h2⟩ := not_or.1 h
  obtain ⟨cs, ty, hc⟩ := Classical.not_not.1 h2
  exact ⟨by omega, (Array.getElem?_eq_some_iff.1 hc).1, cs, ty, hc⟩
theorem NewT.keep {B : Nat} {w w' : World} {t : Tree} {v : Value} (h : NewT B w t v) (hk : ∀ b, B ≤ b → b < w.heap.size → w'.heap[b]? = w.heap[b]?) : NewT B w' t v := by
  have h1 : Rd w' (newBad B w) t v := Rd.keep (fun b hb hlt => hk b (newBad_lt hb).1 hlt) t v h
  refine Rd.mono (fun b _ hb => ?_) t v h1
  rcases hb with hb | hb
  · exact .inl hb
  · refine Classical.byContradiction fun hn => ?_
    obtain ⟨h2, h3, cs, ty, hc⟩ := newBad_lt hn
    exact hb ⟨cs, ty, (hk b h2 h3).trans hc⟩
theorem NewT.more {B B' : Nat} {w : World} {t : Tree} {v : Value} (h : NewT B w t v) (hB : B' ≤ B) : NewT B' w t v :=
  Rd.mono (fun b _ hb => by rcases hb with hb | hb; exact .inl (by omega); exact .inr hb) t v h
theorem NewT.sxk {B : Nat} {w : World} {t : Tree} {v : Value} (h : NewT B w t v) : SxK w t v :=
  ⟨newBad B w, fun b hb => (newBad_lt hb).2.1, h, fun b hb _ => (newBad_lt hb).2.2⟩
theorem NewT.sx {B : Nat} {w : World} {t : Tree} {v : Value} (h : NewT B w t v) : Sx w t v := Rd.sx h
/-- A row of new expressions, put together. -/
theorem build_new {B M : Nat} {w : World} {cs : Array Value} {ty : TypeId} (hB : B ≤ M) (hM : w.heap[M]? = some (.cells cs ty (0, 0))) : ∀ (ys : List SexV) (o : Nat), (∀ i v, (ys.flatMap sexC)[i]? = some v → w.cell? ⟨M, o + i, none⟩ = some v) →
    (∀ s ∈ ys, NewT B w s.t (sexV s)) → RdL w (newBad B w) (ys.map (·.t)) (some ⟨M, o, none⟩)
  | [], o, _, _ => trivial
  | s :: r, o, hc, hn => by
    have h0 := hc 0 (.int .i8 s.t.kind) rfl
    have h1 := hc 1 (.string (bytesL s.t.text)) rfl
    have h2 := hc 2 (.slice s.a s.t.kids.length s.c) rfl
    refine ⟨M, o, _, _, _, rfl, ?_, ?_, h0, h1, h2, hn s (by simp), ?_⟩
    · rintro (h | h)
      · omega
      · exact h ⟨cs, ty, hM⟩
    · simp [World.frozen?, hM]
    · refine build_new hB hM r (o + 3) (fun i v hi => ?_) (fun s hs => hn s (by simp [hs]))
      have := hc (i + 3) v (by simpa [sexC] using hi)
      rwa [show o + (i + 3) = o + 3 + i by omega] at this
end Go.Proofs.YthejmepiliiihaaDoor
