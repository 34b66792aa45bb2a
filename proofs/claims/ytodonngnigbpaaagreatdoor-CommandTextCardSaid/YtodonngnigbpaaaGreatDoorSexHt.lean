/- What Read answers is not deep. -/
import Derived.Test.YtodonngnigbpaaaGreatDoorSexReadW
import Derived.Test.YtodonngnigbpaaaGreatDoorLexName
import Derived.Test.YtodonngnigbpaaaGreatDoorSexHead
import Derived.Test.YtodonngnigbpaaaGreatDoorSexSameW
namespace Go.Proofs.YtodonngnigbpaaaGreatDoor
open Go.RowKit
theorem contR_enough (L : List UInt8) : ∀ (f f' : Nat) (s : RS) (k N : Nat), k ≤ L.length → L.length + 1 - k ≤ f → L.length + 1 - k ≤ f' → (OkS N s ∨ (∃ t, s = .fin t) ∨ s = .deep 0) → contR L f s k = contR L f' s k := by
  intro f
  induction f with
  | zero => intro f' s k N hk hf; omega
  | succ f ih =>
    intro f' s k N hk hf hf' hs
    obtain ⟨f', rfl⟩ : ∃ g, f' = g + 1 := ⟨f' - 1, by omega⟩
    rcases hs with hs | ⟨t, rfl⟩ | rfl
    · rw [contR_go L f s k N hs, contR_go L f' s k N hs]
      by_cases herr : (nextL L k).err ≠ 0
      · rw [if_pos herr, if_pos herr]
      · rw [if_neg herr, if_neg herr]
        cases hok : (nextL L k).ok with
        | false => rfl
        | true =>
          obtain ⟨hs1, hs2, _⟩ := nextL_stop hk hok
          rw [if_neg (by simp), if_neg (by simp)]
          cases htk : takeS s (nextL L k).tok.kind (nextL L k).tok.text with
          | none => rfl
          | some s' =>
            refine ih f' s' _ (N + 1) hs2 (by omega) (by omega) ?_
            rcases takeS_ok hs htk with h | h | h
            · exact .inl h.1
            · exact .inr (.inl h)
            · exact .inr (.inr h)
    · rw [contR_fin, contR_fin]
    · rw [contR_deep, contR_deep]
/-- A token found further on. -/
def shN (d : Nat) (x : Nxt) : Nxt := if x.err ≠ 0 then ⟨⟨0, [], x.tok.pos + d, 0⟩, false, x.err⟩ else if x.ok = true then ⟨⟨x.tok.kind, x.tok.text, x.tok.pos + d, x.tok.stop + d⟩, true, 0⟩ else ⟨⟨0, [], 0, 0⟩, false, 0⟩
theorem skipA_shift (P L : List UInt8) (k : Nat) : skipA (P ++ L) (P.length + k) = P.length + skipA L k := by
  unfold skipA
  rw [List.drop_append, List.drop_of_length_le (by omega), List.nil_append, Nat.add_sub_cancel_left]
  omega
theorem nextL_shift (P L : List UInt8) (k : Nat) : nextL (P ++ L) (P.length + k) = shN P.length (nextL L k) := by
  unfold nextL
  rw [skipA_shift]
  unfold nextA
  by_cases he : skipA L k = L.length
  · rw [if_pos (by simp [he]), if_pos he]; rfl
  · rw [if_neg (by simp; exact he), if_neg he, List.drop_append, List.drop_of_length_le (by omega), List.nil_append, Nat.add_sub_cancel_left]
    cases tokN (L.drop (skipA L k)) with
    | none => simp [shN, Nat.add_comm]
    | some x =>
      obtain ⟨kd, t, m⟩ := x
      simp only [shN]
      simp
      omega
theorem contR_shift (P L : List UInt8) : ∀ (f : Nat) (s : RS) (k N : Nat), k ≤ L.length → L.length + 1 - k ≤ f → (OkS N s ∨ (∃ t, s = .fin t) ∨ s = .deep 0) →
    contR (P ++ L) f s (P.length + k) = ⟨(contR L f s k).t, P.length + (contR L f s k).stop, (contR L f s k).err⟩ := by
  intro f
  induction f with
  | zero => intro s k N hk hf; omega
  | succ f ih =>
    intro s k N hk hf hs
    rcases hs with hs | ⟨t, rfl⟩ | rfl
    · rw [contR_go (P ++ L) f s _ N hs, contR_go L f s k N hs, nextL_shift]
      by_cases herr : (nextL L k).err ≠ 0
      · rw [if_pos herr]
        have e : shN P.length (nextL L k) = ⟨⟨0, [], (nextL L k).tok.pos + P.length, 0⟩, false, (nextL L k).err⟩ := by unfold shN; rw [if_pos herr]
        rw [e]
        simp only
        rw [if_pos herr]
        simp [Nat.add_comm]
      · rw [if_neg herr]
        cases hok : (nextL L k).ok with
        | false =>
          have e : shN P.length (nextL L k) = ⟨⟨0, [], 0, 0⟩, false, 0⟩ := by unfold shN; rw [if_neg herr, hok]; rfl
          rw [e]
          simp
        | true =>
          obtain ⟨hs1, hs2, _⟩ := nextL_stop hk hok
          have e : shN P.length (nextL L k) = ⟨⟨(nextL L k).tok.kind, (nextL L k).tok.text, (nextL L k).tok.pos + P.length, (nextL L k).tok.stop + P.length⟩, true, 0⟩ := by unfold shN; rw [if_neg herr, if_pos hok]
          rw [e]
          simp only
          rw [if_neg (by simp), if_neg (by simp), if_neg (by simp)]
          cases htk : takeS s (nextL L k).tok.kind (nextL L k).tok.text with
          | none => simp [Nat.add_comm]
          | some s' =>
            simp only
            rw [Nat.add_comm (nextL L k).tok.stop]
            refine ih s' _ (N + 1) hs2 (by omega) ?_
            rcases takeS_ok hs htk with h | h | h
            · exact .inl h.1
            · exact .inr (.inl h)
            · exact .inr (.inr h)
    · rw [contR_fin, contR_fin]
    · rw [contR_deep, contR_deep]
theorem ok_start : OkS 0 (.run []) := ⟨by simp, fun l hl => by cases hl⟩
theorem contR_same_skip {L : List UInt8} {f : Nat} {s : RS} {k k' N : Nat} (hs : OkS N s) (h : skipA L k = skipA L k') : contR L (f + 1) s k = contR L (f + 1) s k' := by
  rw [contR_go L f s k N hs, contR_go L f s k' N hs]
  unfold nextL
  rw [h]
/-- White space ahead. -/
theorem readL_ahead {P L : List UInt8} (h : skipN false (P ++ L) = P.length + skipN false L) : readL (P ++ L) 0 = ⟨(readL L 0).t, P.length + (readL L 0).stop, (readL L 0).err⟩ := by
  have e : skipA (P ++ L) 0 = skipA (P ++ L) (P.length + 0) := by
    rw [skipA_shift]
    unfold skipA
    simp only [List.drop_zero, Nat.zero_add]
    rw [h]
  unfold readL
  rw [show (P ++ L).length + 1 - 0 = (P ++ L).length + 1 by omega, contR_same_skip ok_start e]
  rw [contR_enough (P ++ L) ((P ++ L).length + 1) (L.length + 1 - 0 + P.length) (.run []) (P.length + 0) 0 (by rw [List.length_append]; omega) (by rw [List.length_append]; omega) (by rw [List.length_append]; omega) (.inl ok_start)]
  rw [contR_shift P L _ (.run []) 0 0 (by omega) (by omega) (.inl ok_start)]
  rw [contR_enough L (L.length + 1 - 0 + P.length) (L.length + 1 - 0) (.run []) 0 0 (by omega) (by omega) (by omega) (.inl ok_start)]
theorem contR_more (L : List UInt8) : ∀ (f g : Nat) (s : RS) (k N : Nat), (OkS N s ∨ (∃ t, s = .fin t) ∨ s = .deep 0) → (contR L f s k).err = 0 → contR L (f + g) s k = contR L f s k := by
  intro f
  induction f with
  | zero =>
    intro g s k N hs he
    rcases hs with hs | ⟨t, rfl⟩ | rfl
    · exfalso
      cases s with
      | fin t => exact hs.elim
      | run st => cases he
      | deep n =>
        obtain ⟨n, rfl⟩ : ∃ m, n = m + 1 := ⟨n - 1, by have := hs.2; omega⟩
        cases he
    · rw [contR_fin, contR_fin]
    · rw [contR_deep, contR_deep]
  | succ f ih =>
    intro g s k N hs he
    rcases hs with hs | ⟨t, rfl⟩ | rfl
    · rw [show f + 1 + g = (f + g) + 1 by omega, contR_go L (f + g) s k N hs]
      rw [contR_go L f s k N hs] at he ⊢
      by_cases herr : (nextL L k).err ≠ 0
      · rw [if_pos herr, if_pos herr]
      · rw [if_neg herr] at he
        rw [if_neg herr, if_neg herr]
        by_cases hok : (nextL L k).ok = false
        · rw [if_pos hok, if_pos hok]
        · rw [if_neg hok] at he
          rw [if_neg hok, if_neg hok]
          cases htk : takeS s (nextL L k).tok.kind (nextL L k).tok.text with
          | none => rfl
          | some s' =>
            rw [htk] at he
            refine ih g s' _ (N + 1) ?_ he
            rcases takeS_ok hs htk with h | h | h
            · exact .inl h.1
            · exact .inr (.inl h)
            · exact .inr (.inr h)
    · rw [contR_fin, contR_fin]
    · rw [contR_deep, contR_deep]
theorem nextL_glue {a b : List UInt8} {k : Nat} (hk : k ≤ a.length) (h : (nextL a k).ok = true) : nextL (a ++ 10 :: b) k = nextL a k := by
  obtain ⟨kd, t, m, htok, hx⟩ := nextL_ok h
  have hlt : skipA a k < a.length := by
    have h1 := (skipA_le (l := a) hk).2
    have h2 : skipA a k ≠ a.length := fun e => by
      rw [e, List.drop_length] at htok; simp [tokN] at htok
    omega
  have h1 : skipA (a ++ 10 :: b) k = skipA a k := skipA_glue_lt hk hlt
  rw [hx]
  unfold nextL
  rw [h1]
  refine nextA_ok (by simp; omega) ?_
  rw [drop_glue (by omega)]
  exact tokN_glue sign10 htok
/-- The text goes on behind a line's end. -/
theorem contR_glue (a b : List UInt8) : ∀ (f : Nat) (s : RS) (k N : Nat), k ≤ a.length → (OkS N s ∨ (∃ t, s = .fin t) ∨ s = .deep 0) → (contR a f s k).err = 0 → contR (a ++ 10 :: b) f s k = contR a f s k ∧ (contR a f s k).stop ≤ a.length ∧ k ≤ (contR a f s k).stop ∧ (OkS N s → skipA a k < (contR a f s k).stop) := by
  intro f
  induction f with
  | zero =>
    intro s k N hk hs he
    rcases hs with hs | ⟨t, rfl⟩ | rfl
    · exfalso
      cases s with
      | fin t => exact hs.elim
      | run st => cases he
      | deep n =>
        obtain ⟨n, rfl⟩ : ∃ m, n = m + 1 := ⟨n - 1, by have := hs.2; omega⟩
        cases he
    · rw [contR_fin, contR_fin]; exact ⟨rfl, hk, Nat.le_refl _, fun h => h.elim⟩
    · rw [contR_deep] at he; cases he
  | succ f ih =>
    intro s k N hk hs he
    rcases hs with hs | ⟨t, rfl⟩ | rfl
    · rw [contR_go (a ++ 10 :: b) f s k N hs]
      rw [contR_go a f s k N hs] at he ⊢
      by_cases herr : (nextL a k).err ≠ 0
      · rw [if_pos herr] at he; exact absurd he herr
      · rw [if_neg herr] at he ⊢
        cases hok : (nextL a k).ok with
        | false => rw [hok] at he; cases he
        | true =>
          obtain ⟨hs1, hs2, _⟩ := nextL_stop hk hok
          have hsk : skipA a k < (nextL a k).tok.stop := by
            obtain ⟨kd, t, m, htok, hx⟩ := nextL_ok hok
            rw [hx]
            have := (tokN_bounds htok).1
            show skipA a k < skipA a k + m
            omega
          rw [nextL_glue hk hok, if_neg herr, hok]
          rw [hok, if_neg (by simp)] at he
          rw [if_neg (by simp), if_neg (by simp)]
          cases htk : takeS s (nextL a k).tok.kind (nextL a k).tok.text with
          | none => rw [htk] at he; cases he
          | some s' =>
            rw [htk] at he
            obtain ⟨q1, q2, q3, _⟩ := ih s' _ (N + 1) hs2 (by
              rcases takeS_ok hs htk with h | h | h
              · exact .inl h.1
              · exact .inr (.inl h)
              · exact .inr (.inr h)) he
            exact ⟨q1, q2, by show k ≤ (contR a f s' _).stop; omega, fun _ => by show skipA a k < (contR a f s' _).stop; omega⟩
    · rw [contR_fin, contR_fin]; exact ⟨rfl, hk, Nat.le_refl _, fun h => h.elim⟩
    · rw [contR_deep] at he; cases he
theorem readL_behind {a b : List UInt8} {k : Nat} (hk : k ≤ a.length) (h : (readL a k).err = 0) : readL (a ++ 10 :: b) k = readL a k ∧ (readL a k).stop ≤ a.length ∧ skipA a k < (readL a k).stop := by
  unfold readL at h ⊢
  obtain ⟨q1, q2, q3, q4⟩ := contR_glue a b _ (.run []) k 0 hk (.inl ok_start) h
  refine ⟨?_, q2, q4 ok_start⟩
  rw [show (a ++ 10 :: b).length + 1 - k = (a.length + 1 - k) + (b.length + 1) by simp; omega]
  rw [contR_more (a ++ 10 :: b) _ _ (.run []) k 0 (.inl ok_start) (by rw [q1]; exact h), q1]
end Go.Proofs.YtodonngnigbpaaaGreatDoor
namespace Go.Proofs.YtodonngnigbpaaaGreatDoor
open Go.RowKit
mutual
/-- How deep the rows of a tree go. -/
def hT : Tree → Nat
  | .node _ _ l => hL l
def hL : List Tree → Nat
  | [] => 0
  | t :: r => max (hT t + 1) (hL r)
end
theorem hL_le {l : List Tree} {n : Nat} (h : ∀ t ∈ l, hT t + 1 ≤ n) : hL l ≤ n := by
  induction l with
  | nil => rw [hL]; omega
  | cons t r ih =>
    rw [hL]
    have h1 := h t (by simp)
    have h2 := ih (fun t ht => h t (by simp [ht]))
    omega
theorem hL_mem {l : List Tree} {t : Tree} (h : t ∈ l) : hT t + 1 ≤ hL l := by
  induction l with
  | nil => cases h
  | cons y r ih =>
    rw [hL]
    rcases List.mem_cons.1 h with rfl | h
    · omega
    · have := ih h; omega
/-- The state's trees are not deep. -/
def HtS : RS → Prop
  | .run st => st.length ≤ 60 ∧ ∀ i (hi : i < st.length), ∀ t ∈ st[i], hT t + (st.length - i) ≤ 60
  | .fin t => hT t ≤ 60
  | .deep _ => True
theorem putS_ht {st : List (List Tree)} {t : Tree} (h : HtS (.run st)) (ht : hT t + st.length ≤ 60) : HtS (putS st t) := by
  cases st with
  | nil => exact ht
  | cons l r =>
    refine ⟨h.1, fun i hi y hy => ?_⟩
    cases i with
    | zero =>
      simp only [List.getElem_cons_zero, List.mem_append, List.mem_singleton] at hy
      rcases hy with hy | rfl
      · exact h.2 0 (by simp) y hy
      · simpa using ht
    | succ i =>
      have := h.2 (i + 1) (by simpa using hi) y (by simpa using hy)
      simpa using this
theorem takeS_ht {k : Nat} {x : List UInt8} {s s' : RS} (h : HtS s) (hs : takeS s k x = some s') : HtS s' := by
  unfold takeS at hs
  by_cases h0 : k = 0
  · rw [if_pos h0] at hs
    cases hs
    cases s with
    | fin t => exact h
    | deep n => trivial
    | run st =>
      simp only [pushS]
      split
      · trivial
      · rename_i hne
        refine ⟨by have := h.1; simp; omega, fun i hi y hy => ?_⟩
        cases i with
        | zero => simp at hy
        | succ i =>
          have := h.2 i (by simpa using hi) y (by simpa using hy)
          simp; omega
  · rw [if_neg h0] at hs
    by_cases h1 : k = 1
    · rw [if_pos h1] at hs
      cases s with
      | fin t => cases hs
      | deep n => simp only [Option.some.injEq] at hs; subst hs; trivial
      | run st =>
        cases st with
        | nil => cases hs
        | cons l r =>
          simp only [Option.some.injEq] at hs
          subst hs
          have hl := h.1
          simp only [List.length_cons] at hl
          refine putS_ht ⟨by omega, fun i hi y hy => ?_⟩ ?_
          · have := h.2 (i + 1) (by simp; omega) y (by simpa using hy)
            simp at this
            omega
          · have : hT (.node 3 [] l) ≤ 60 - r.length := by
              rw [hT]
              refine hL_le (fun t ht => ?_)
              have := h.2 0 (by simp) t (by simpa using ht)
              simp at this
              omega
            omega
    · rw [if_neg h1] at hs
      cases s with
      | fin t => cases hs
      | deep n => simp only [Option.some.injEq] at hs; subst hs; trivial
      | run st =>
        simp only [Option.some.injEq] at hs
        subst hs
        exact putS_ht h (by rw [hT, hL]; have := h.1; omega)
theorem contR_ht (L : List UInt8) : ∀ (f : Nat) (s : RS) (k N : Nat), HtS s → (OkS N s ∨ (∃ t, s = .fin t) ∨ s = .deep 0) → hT (contR L f s k).t ≤ 60 := by
  have he : hT emptyT ≤ 60 := by unfold emptyT; rw [hT, hL]; omega
  intro f
  induction f with
  | zero =>
    intro s k N h hs
    rcases hs with hs | ⟨t, rfl⟩ | rfl
    · cases s with
      | fin t => exact hs.elim
      | run st => exact he
      | deep n =>
        obtain ⟨n, rfl⟩ : ∃ m, n = m + 1 := ⟨n - 1, by have := hs.2; omega⟩
        exact he
    · rw [contR_fin]; exact h
    · rw [contR_deep]; exact he
  | succ f ih =>
    intro s k N h hs
    rcases hs with hs | ⟨t, rfl⟩ | rfl
    · rw [contR_go L f s k N hs]
      split
      · exact he
      · split
        · exact he
        · cases htk : takeS s (nextL L k).tok.kind (nextL L k).tok.text with
          | none => exact he
          | some s' =>
            refine ih s' _ (N + 1) (takeS_ht h htk) ?_
            rcases takeS_ok hs htk with h | h | h
            · exact .inl h.1
            · exact .inr (.inl h)
            · exact .inr (.inr h)
    · rw [contR_fin]; exact h
    · rw [contR_deep]; exact he
theorem readL_ht (L : List UInt8) (k : Nat) : hT (readL L k).t ≤ 60 := contR_ht L _ (.run []) k 0 ⟨by simp, fun i hi => by simp at hi⟩ (.inl ok_start)
mutual
theorem preT_ht (d : Nat) : ∀ (t : Tree), ∀ x ∈ preT evr d t, x.2.kids ≠ [] → x.1 + 1 ≤ d + hT t
  | .node k s l => fun x hx hk => by
    rw [preT] at hx
    rw [hT]
    rcases List.mem_cons.1 hx with rfl | hx
    · simp only [Tree.kids] at hk
      cases l with
      | nil => exact absurd rfl hk
      | cons t r => rw [hL]; show d + 1 ≤ _; omega
    · have hx' : x ∈ preL evr (d + 1) l := by simpa [evr] using hx
      have := preL_ht (d + 1) l x hx' hk
      omega
theorem preL_ht (d : Nat) : ∀ (l : List Tree), ∀ x ∈ preL evr d l, x.2.kids ≠ [] → x.1 + 1 ≤ d + hL l - 1
  | [] => fun x hx => by rw [preL] at hx; cases hx
  | t :: r => fun x hx hk => by
    rw [preL] at hx
    rw [hL]
    rcases List.mem_append.1 hx with hx | hx
    · have := preT_ht d t x hx hk; omega
    · have := preL_ht d r x hx hk; omega
end
theorem hT_deep {t : Tree} (h : hT t ≤ 60) : ∀ x ∈ preT evr 0 t, x.2.kids ≠ [] → x.1 < 239 := fun x hx hk => by
  have := preT_ht 0 t x hx hk
  omega
/-- Same of what was read. -/
theorem Same_out (B B' : Nat) (ta tb : Tree) (va vb : Value) (w : World) (h : hT ta ≤ 60) (ha : RdOut B w ta va) (hb : RdOut B' w tb vb) :
    Calls Tryz.prog 59 #[va, vb] w fun e w' => (∃ r, e = .returned (.bool r) ∧ (r = true ↔ ta = tb)) ∧ Below w.heap.size w w' := by
  obtain ⟨bad, q1, q2, q3⟩ := ha.use
  obtain ⟨bad', q1', q2', q3'⟩ := hb.use
  exact Same_any ta tb va vb w (hT_deep h) bad q1 q2 q3 q2'.sx
end Go.Proofs.YtodonngnigbpaaaGreatDoor
