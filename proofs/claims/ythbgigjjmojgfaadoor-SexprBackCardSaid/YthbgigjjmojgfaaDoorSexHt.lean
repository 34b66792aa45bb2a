/- What Read answers is not deep. -/
import Derived.Test.YthbgigjjmojgfaaDoorSexPure
import Derived.Test.YthbgigjjmojgfaaDoorSexHead
import Derived.Test.YthbgigjjmojgfaaDoorSexSameW
namespace Go.Proofs.YthbgigjjmojgfaaDoor
open Go.RowKit
mutual
/-- How deep the rows of a tree go. -/
def hT : Tree → Nat
  | .node _ _ l => hL l
def hL : List Tree → Nat
  | [] => 0
  | t :: r => max (hT t + 1) (hL r)
end
theorem hL_le {l : List Tree} {n : Nat} (h : ∀ t ∈ l, hT t + 1 ≤ n) : hL l ≤ n := by
  induction l with
  | nil => rw [hL]; omega
  | cons t r ih =>
    rw [hL]
    have h1 := h t (by simp)
    have h2 := ih (fun t ht => h t (by simp [ht]))
    omega
theorem hL_mem {l : List Tree} {t : Tree} (h : t ∈ l) : hT t + 1 ≤ hL l := by
  induction l with
  | nil => cases h
  | cons y r ih =>
    rw [hL]
    rcases List.mem_cons.1 h with rfl | h
    · omega
    · have := ih h; omega
/-- The state's trees are not deep. -/
def HtS : RS → Prop
  | .run st => st.length ≤ 60 ∧ ∀ i (hi : i < st.length), ∀ t ∈ st[i], hT t + (st.length - i) ≤ 60
  | .fin t => hT t ≤ 60
  | .deep _ => True
theorem putS_ht {st : List (List Tree)} {t : Tree} (h : HtS (.run st)) (ht : hT t + st.length ≤ 60) : HtS (putS st t) := by
  cases st with
  | nil => exact ht
  | cons l r =>
    refine ⟨h.1, fun i hi y hy => ?_⟩
    cases i with
    | zero =>
      simp only [List.getElem_cons_zero, List.mem_append, List.mem_singleton] at hy
      rcases hy with hy | rfl
      · exact h.2 0 (by simp) y hy
      · simpa using ht
    | succ i =>
      have := h.2 (i + 1) (by simpa using hi) y (by simpa using hy)
      simpa using this
theorem takeS_ht {k : Nat} {x : List UInt8} {s s' : RS} (h : HtS s) (hs : takeS s k x = some s') : HtS s' := by
  unfold takeS at hs
  by_cases h0 : k = 0
  · rw [if_pos h0] at hs
    cases hs
    cases s with
    | fin t => exact h
    | deep n => trivial
    | run st =>
      simp only [pushS]
      split
      · trivial
      · rename_i hne
        refine ⟨by have := h.1; simp; omega, fun i hi y hy => ?_⟩
        cases i with
        | zero => simp at hy
        | succ i =>
          have := h.2 i (by simpa using hi) y (by simpa using hy)
          simp; omega
  · rw [if_neg h0] at hs
    by_cases h1 : k = 1
    · rw [if_pos h1] at hs
      cases s with
      | fin t => cases hs
      | deep n => simp only [Option.some.injEq] at hs; subst hs; trivial
      | run st =>
        cases st with
        | nil => cases hs
        | cons l r =>
          simp only [Option.some.injEq] at hs
          subst hs
          have hl := h.1
          simp only [List.length_cons] at hl
          refine putS_ht ⟨by omega, fun i hi y hy => ?_⟩ ?_
          · have := h.2 (i + 1) (by simp; omega) y (by simpa using hy)
            simp at this
            omega
          · have : hT (.node 3 [] l) ≤ 60 - r.length := by
              rw [hT]
              refine hL_le (fun t ht => ?_)
              have := h.2 0 (by simp) t (by simpa using ht)
              simp at this
              omega
            omega
    · rw [if_neg h1] at hs
      cases s with
      | fin t => cases hs
      | deep n => simp only [Option.some.injEq] at hs; subst hs; trivial
      | run st =>
        simp only [Option.some.injEq] at hs
        subst hs
        exact putS_ht h (by rw [hT, hL]; have := h.1; omega)
theorem contR_ht (L : List UInt8) : ∀ (f : Nat) (s : RS) (k N : Nat), HtS s → (OkS N s ∨ (∃ t, s = .fin t) ∨ s = .deep 0) → hT (contR L f s k).t ≤ 60 := by
  have he : hT emptyT ≤ 60 := by unfold emptyT; rw [hT, hL]; omega
  intro f
  induction f with
  | zero =>
    intro s k N h hs
    rcases hs with hs | ⟨t, rfl⟩ | rfl
    · cases s with
      | fin t => exact hs.elim
      | run st => exact he
      | deep n =>
        obtain ⟨n, rfl⟩ : ∃ m, n = m + 1 := ⟨n - 1, by have := hs.2; omega⟩
        exact he
    · rw [contR_fin]; exact h
    · rw [contR_deep]; exact he
  | succ f ih =>
    intro s k N h hs
    rcases hs with hs | ⟨t, rfl⟩ | rfl
    · rw [contR_go L f s k N hs]
      split
      · exact he
      · split
        · exact he
        · cases htk : takeS s (nextL L k).tok.kind (nextL L k).tok.text with
          | none => exact he
          | some s' =>
            refine ih s' _ (N + 1) (takeS_ht h htk) ?_
            rcases takeS_ok hs htk with h | h | h
            · exact .inl h.1
            · exact .inr (.inl h)
            · exact .inr (.inr h)
    · rw [contR_fin]; exact h
    · rw [contR_deep]; exact he
theorem readL_ht (L : List UInt8) (k : Nat) : hT (readL L k).t ≤ 60 := contR_ht L _ (.run []) k 0 ⟨by simp, fun i hi => by simp at hi⟩ (.inl ok_start)
mutual
theorem preT_ht (d : Nat) : ∀ (t : Tree), ∀ x ∈ preT evr d t, x.2.kids ≠ [] → x.1 + 1 ≤ d + hT t
  | .node k s l => fun x hx hk => by
    rw [preT] at hx
    rw [hT]
    rcases List.mem_cons.1 hx with rfl | hx
    · simp only [Tree.kids] at hk
      cases l with
      | nil => exact absurd rfl hk
      | cons t r => rw [hL]; show d + 1 ≤ _; omega
    · have hx' : x ∈ preL evr (d + 1) l := by simpa [evr] using hx
      have := preL_ht (d + 1) l x hx' hk
      omega
theorem preL_ht (d : Nat) : ∀ (l : List Tree), ∀ x ∈ preL evr d l, x.2.kids ≠ [] → x.1 + 1 ≤ d + hL l - 1
  | [] => fun x hx => by rw [preL] at hx; cases hx
  | t :: r => fun x hx hk => by
    rw [preL] at hx
    rw [hL]
    rcases List.mem_append.1 hx with hx | hx
    · have := preT_ht d t x hx hk; omega
    · have := preL_ht d r x hx hk; omega
end
theorem hT_deep {t : Tree} (h : hT t ≤ 60) : ∀ x ∈ preT evr 0 t, x.2.kids ≠ [] → x.1 < 239 := fun x hx hk => by
  have := preT_ht 0 t x hx hk
  omega
/-- Same of what was read. -/
theorem Same_out (B B' : Nat) (ta tb : Tree) (va vb : Value) (w : World) (h : hT ta ≤ 60) (ha : RdOut B w ta va) (hb : RdOut B' w tb vb) :
    Calls Tryd.prog 21 #[va, vb] w fun e w' => (∃ r, e = .returned (.bool r) ∧ (r = true ↔ ta = tb)) ∧ Below w.heap.size w w' := by
  obtain ⟨bad, q1, q2, q3⟩ := ha.use
  obtain ⟨bad', q1', q2', q3'⟩ := hb.use
  exact Same_any ta tb va vb w (hT_deep h) bad q1 q2 q3 q2'.sx
end Go.Proofs.YthbgigjjmojgfaaDoor
