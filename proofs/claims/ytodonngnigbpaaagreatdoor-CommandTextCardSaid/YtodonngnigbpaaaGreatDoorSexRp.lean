/- A reader that calls itself, and what Read answers: no Go program is named here. -/
import Derived.Test.YtodonngnigbpaaaGreatDoorSexJn
namespace Go.Proofs.YtodonngnigbpaaaGreatDoor
open Go.RowKit
set_option linter.unusedVariables false
theorem bound_ex : ∀ st : List (List Tree), ∃ N, st.length ≤ N ∧ ∀ l ∈ st, l.length ≤ N
  | [] => ⟨0, by simp, by simp⟩
  | l :: r => by
    obtain ⟨N, h1, h2⟩ := bound_ex r
    refine ⟨N + 1 + l.length, by simp; omega, fun l' hl => ?_⟩
    rcases List.mem_cons.1 hl with rfl | hl
    · omega
    · have := h2 l' hl; omega
theorem any_ok (s : RS) : ∃ N, OkS N s ∨ (∃ t, s = .fin t) ∨ s = .deep 0 := by
  cases s with
  | run st => obtain ⟨N, h1, h2⟩ := bound_ex st; exact ⟨N, .inl ⟨h1, h2⟩⟩
  | fin t => exact ⟨0, .inr (.inl ⟨t, rfl⟩)⟩
  | deep n =>
    cases n with
    | zero => exact ⟨0, .inr (.inr rfl)⟩
    | succ n => exact ⟨n + 1, .inl ⟨Nat.le_refl _, by omega⟩⟩
/-- A state in which more is read. -/
def Ok60 : RS → Prop
  | .run st => st.length ≤ 60
  | .deep n => 1 ≤ n
  | .fin _ => False
theorem Ok60.ok {s : RS} (h : Ok60 s) : ∃ N, OkS N s := by
  cases s with
  | run st => obtain ⟨N, h1, h2⟩ := bound_ex st; exact ⟨N, h1, h2⟩
  | fin t => exact h.elim
  | deep n => exact ⟨n, Nat.le_refl _, h⟩
def contE (L : List UInt8) (s : RS) (p : Nat) : RdR := contR L (L.length + 1 - p) s p
theorem contE_err {L : List UInt8} {s : RS} {p : Nat} (hs : Ok60 s) (hp : p ≤ L.length) (h : (nextL L p).err ≠ 0) : contE L s p = ⟨emptyT, (nextL L p).tok.pos, (nextL L p).err⟩ := by
  obtain ⟨N, hN⟩ := hs.ok
  unfold contE
  rw [show L.length + 1 - p = (L.length - p) + 1 by omega, contR_go L _ s p N hN, if_pos h]
theorem contE_end {L : List UInt8} {s : RS} {p : Nat} (hs : Ok60 s) (hp : p ≤ L.length) (h : (nextL L p).err = 0) (hk : (nextL L p).ok = false) : contE L s p = ⟨emptyT, L.length, 21⟩ := by
  obtain ⟨N, hN⟩ := hs.ok
  unfold contE
  rw [show L.length + 1 - p = (L.length - p) + 1 by omega, contR_go L _ s p N hN, if_neg (by simpa using h), if_pos hk]
theorem contE_none {L : List UInt8} {s : RS} {p : Nat} (hs : Ok60 s) (hp : p ≤ L.length) (h : (nextL L p).err = 0) (hk : (nextL L p).ok = true) (ht : takeS s (nextL L p).tok.kind (nextL L p).tok.text = none) : contE L s p = ⟨emptyT, (nextL L p).tok.pos, 20⟩ := by
  obtain ⟨N, hN⟩ := hs.ok
  unfold contE
  rw [show L.length + 1 - p = (L.length - p) + 1 by omega, contR_go L _ s p N hN, if_neg (by simpa using h), if_neg (by rw [hk]; simp), ht]
theorem contE_some {L : List UInt8} {s s' : RS} {p : Nat} (hs : Ok60 s) (hp : p ≤ L.length) (h : (nextL L p).err = 0) (hk : (nextL L p).ok = true) (ht : takeS s (nextL L p).tok.kind (nextL L p).tok.text = some s') : contE L s p = contE L s' (nextL L p).tok.stop := by
  obtain ⟨N, hN⟩ := hs.ok
  obtain ⟨N', hN'⟩ := any_ok s'
  obtain ⟨h1, h2, _⟩ := nextL_stop hp hk
  unfold contE
  rw [show L.length + 1 - p = (L.length - p) + 1 by omega, contR_go L _ s p N hN, if_neg (by simpa using h), if_neg (by rw [hk]; simp), ht]
  exact contR_enough L _ _ s' _ N' h2 (by omega) (Nat.le_refl _) hN'
/-- Behind an expression. -/
def aft : RS → Tree → RS
  | .run st, t => if st.length + dT t ≤ 60 then putS st t else .deep st.length
  | .deep n, _ => .deep n
  | .fin u, _ => .fin u
/-- Within a list that has not ended. -/
def openS : RS → List Tree → RS
  | .run st, acc => if st.length + 1 + dL acc ≤ 60 then .run (acc :: st) else .deep (st.length + 1)
  | .deep n, _ => .deep (n + 1)
  | .fin u, _ => .fin u
theorem openS_ok {s : RS} (h : Ok60 s) (acc : List Tree) : Ok60 (openS s acc) := by
  cases s with
  | fin t => exact h.elim
  | deep n => show 1 ≤ n + 1; omega
  | run st =>
    show Ok60 (if _ then _ else _)
    by_cases hh : st.length + 1 + dL acc ≤ 60
    · rw [if_pos hh]
      show (acc :: st).length ≤ 60
      simp only [List.length_cons]; omega
    · rw [if_neg hh]
      show 1 ≤ st.length + 1; omega
theorem tkS_open {s : RS} (h : Ok60 s) (x : List UInt8) : takeS s 0 x = some (openS s []) := by
  cases s with
  | fin t => exact h.elim
  | deep n => rfl
  | run st =>
    have h' : st.length ≤ 60 := h
    show some (if st.length = 60 then RS.deep 61 else .run ([] :: st)) = some (if st.length + 1 + dL [] ≤ 60 then .run ([] :: st) else .deep (st.length + 1))
    have h0 : dL [] = 0 := rfl
    by_cases h6 : st.length = 60
    · rw [if_pos h6, if_neg (by omega), h6]
    · rw [if_neg h6, if_pos (by omega)]
theorem tkS_leaf {s : RS} (h : Ok60 s) {k : Nat} (hk : 2 ≤ k) (hk4 : k ≤ 4) (x : List UInt8) : takeS s k x = some (aft s (.node ((k : Int) - 2) x [])) := by
  unfold takeS
  rw [if_neg (by omega), if_neg (by omega)]
  cases s with
  | fin t => exact h.elim
  | deep n => rfl
  | run st =>
    have h' : st.length ≤ 60 := h
    have : dT (.node ((k : Int) - 2) x []) = 0 := by simp only [dT]; rw [if_neg (by omega)]
    show _ = some (if _ then _ else _)
    rw [this, if_pos (by omega)]
theorem tkS_close {s : RS} (h : Ok60 s) (acc : List Tree) (x : List UInt8) : takeS (openS s acc) 1 x = some (aft s (.node 3 [] acc)) := by
  have hd : dT (.node 3 [] acc) = dL acc + 1 := by simp only [dT, if_true]
  cases s with
  | fin t => exact h.elim
  | deep n => rfl
  | run st =>
    show takeS (if _ then _ else _) 1 x = some (if _ then _ else _)
    rw [hd]
    by_cases hh : st.length + 1 + dL acc ≤ 60
    · rw [if_pos hh, if_pos (by omega)]; rfl
    · rw [if_neg hh, if_neg (by omega)]; rfl
theorem aft_open {s : RS} (h : Ok60 s) (acc : List Tree) (t : Tree) : aft (openS s acc) t = openS s (acc ++ [t]) := by
  cases s with
  | fin u => exact h.elim
  | deep n => rfl
  | run st =>
    show aft (if _ then _ else _) t = if _ then _ else _
    rw [dL_snoc]
    by_cases hh : st.length + 1 + dL acc ≤ 60
    · rw [if_pos hh]
      show (if _ then _ else _) = _
      simp only [List.length_cons]
      by_cases h2 : st.length + 1 + dT t ≤ 60
      · rw [if_pos h2, if_pos (by omega)]; rfl
      · rw [if_neg h2, if_neg (by omega)]
    · rw [if_neg hh, if_neg (by omega)]; rfl
def NotClose (L : List UInt8) (p : Nat) : Prop := ¬ ((nextL L p).err = 0 ∧ (nextL L p).ok = true ∧ (nextL L p).tok.kind = 1)
/-- What a reader that calls itself answers. -/
structure RelR (L : List UInt8) (p : Nat) (y : RdR) : Prop where
  good : y.err = 0 → p < y.stop ∧ y.stop ≤ L.length ∧ ∀ s, Ok60 s → contE L s p = contE L (aft s y.t) y.stop
  dep : y.err = 0 → dT y.t + p < y.stop
  emp : y.err ≠ 0 → y.t = emptyT
  bad : y.err ≠ 0 → ∀ s, Ok60 s → (s = .run [] ∨ NotClose L p) → contE L s p = ⟨emptyT, y.stop, y.err⟩
/-- A list that has not ended. -/
structure ListI (L : List UInt8) (p : Nat) (acc : List Tree) (q : Nat) : Prop where
  lt : p < q
  le : q ≤ L.length
  goes : ∀ s, Ok60 s → contE L s p = contE L (openS s acc) q
  dep : dL acc + p < q
theorem rel_err {L : List UInt8} {p : Nat} (hp : p ≤ L.length) (h : (nextL L p).err ≠ 0) : RelR L p ⟨emptyT, (nextL L p).tok.pos, 20⟩ :=
  ⟨fun h0 => (by cases h0), fun h0 => (by cases h0), fun _ => rfl, fun _ s hs _ => by rw [contE_err hs hp h, (nextL_err h).2.1]⟩
theorem rel_end {L : List UInt8} {p : Nat} (hp : p ≤ L.length) (h : (nextL L p).err = 0) (hk : (nextL L p).ok = false) : RelR L p ⟨emptyT, L.length, 21⟩ :=
  ⟨fun h0 => (by cases h0), fun h0 => (by cases h0), fun _ => rfl, fun _ s hs _ => contE_end hs hp h hk⟩
theorem rel_close {L : List UInt8} {p : Nat} (hp : p ≤ L.length) (h : (nextL L p).err = 0) (hk : (nextL L p).ok = true) (h1 : (nextL L p).tok.kind = 1) : RelR L p ⟨emptyT, (nextL L p).tok.pos, 20⟩ :=
  ⟨fun h0 => (by cases h0), fun h0 => (by cases h0), fun _ => rfl, fun _ s hs hc => by
    rcases hc with rfl | hc
    · exact contE_none hs hp h hk (by rw [h1]; rfl)
    · exact absurd ⟨h, hk, h1⟩ hc⟩
theorem rel_leaf {L : List UInt8} {p : Nat} (hp : p ≤ L.length) (h : (nextL L p).err = 0) (hk : (nextL L p).ok = true) (h2 : 2 ≤ (nextL L p).tok.kind) : RelR L p ⟨.node (((nextL L p).tok.kind : Int) - 2) (nextL L p).tok.text [], (nextL L p).tok.stop, 0⟩ := by
  obtain ⟨q1, q2, _⟩ := nextL_stop hp hk
  have hk4 : (nextL L p).tok.kind ≤ 4 := by
    obtain ⟨kd, t, m, htok, hx⟩ := nextL_ok hk
    rw [hx]
    exact (tokN_kind4 htok).1
  exact ⟨fun _ => ⟨q1, q2, fun s hs => contE_some hs hp h hk (tkS_leaf hs h2 hk4 _)⟩, fun _ => (by show dT _ + p < (nextL L p).tok.stop; simp only [dT]; rw [if_neg (by omega)]; omega), fun h0 => absurd rfl h0, fun h0 => absurd rfl h0⟩
theorem list_open {L : List UInt8} {p : Nat} (hp : p ≤ L.length) (h : (nextL L p).err = 0) (hk : (nextL L p).ok = true) (h0 : (nextL L p).tok.kind = 0) : ListI L p [] (nextL L p).tok.stop := by
  obtain ⟨q1, q2, _⟩ := nextL_stop hp hk
  exact ⟨q1, q2, fun s hs => contE_some hs hp h hk (by rw [h0]; exact tkS_open hs _), by simp only [dL]; omega⟩
theorem list_close {L : List UInt8} {p q : Nat} {acc : List Tree} (hl : ListI L p acc q) (h : (nextL L q).err = 0) (hk : (nextL L q).ok = true) (h1 : (nextL L q).tok.kind = 1) : RelR L p ⟨.node 3 [] acc, (nextL L q).tok.stop, 0⟩ := by
  obtain ⟨q1, q2, _⟩ := nextL_stop hl.le hk
  refine ⟨fun _ => ⟨by have := hl.lt; show p < (nextL L q).tok.stop; omega, q2, fun s hs => ?_⟩, fun _ => (by have := hl.dep; show dT (.node 3 [] acc) + p < (nextL L q).tok.stop; simp only [dT, if_true]; omega), fun h0 => absurd rfl h0, fun h0 => absurd rfl h0⟩
  rw [hl.goes s hs]
  exact contE_some (openS_ok hs acc) hl.le h hk (by rw [h1]; exact tkS_close hs acc _)
theorem list_more {L : List UInt8} {p q : Nat} {acc : List Tree} {y : RdR} (hl : ListI L p acc q) (hr : RelR L q y) (h0 : y.err = 0) : ListI L p (acc ++ [y.t]) y.stop := by
  obtain ⟨h1, h2, h3⟩ := hr.good h0
  refine ⟨Nat.lt_trans hl.lt h1, h2, fun s hs => ?_, by have := hl.dep; have := hr.dep h0; have := hl.lt; rw [dL_snoc]; omega⟩
  rw [hl.goes s hs, h3 _ (openS_ok hs acc), aft_open hs]
theorem list_bad {L : List UInt8} {p q : Nat} {acc : List Tree} {y : RdR} (hl : ListI L p acc q) (hr : RelR L q y) (h0 : y.err ≠ 0) (hc : NotClose L q) : RelR L p ⟨emptyT, y.stop, y.err⟩ :=
  ⟨fun h => absurd h h0, fun h => absurd h h0, fun _ => rfl, fun _ s hs _ => by rw [hl.goes s hs]; exact hr.bad h0 _ (openS_ok hs acc) (.inr hc)⟩
/-- What Read answers, from what such a reader does. -/
theorem rel_read {L : List UInt8} {p : Nat} {y : RdR} (hr : RelR L p y) : readL L p = if y.err = 0 then (if dT y.t ≤ 60 then ⟨y.t, y.stop, 0⟩ else ⟨emptyT, y.stop, 22⟩) else ⟨emptyT, y.stop, y.err⟩ := by
  have h60 : Ok60 (.run []) := by show ([] : List (List Tree)).length ≤ 60; simp
  show contE L (.run []) p = _
  by_cases h0 : y.err = 0
  · rw [if_pos h0, (hr.good h0).2.2 _ h60]
    show contE L (if _ then _ else _) y.stop = _
    simp only [List.length_nil, Nat.zero_add]
    by_cases hd : dT y.t ≤ 60
    · rw [if_pos hd, if_pos hd]; exact contR_fin _ _ _ _
    · rw [if_neg hd, if_neg hd]; exact contR_deep _ _ _
  · rw [if_neg h0]; exact hr.bad h0 _ h60 (.inl rfl)
/-- White space ahead makes no difference to where one reads from. -/
theorem readL_skip (L : List UInt8) {k : Nat} (hk : k ≤ L.length) : readL L k = readL L (skipA L k) := by
  obtain ⟨h1, h2⟩ := skipA_le (l := L) hk
  unfold readL
  rw [show L.length + 1 - k = (L.length - k) + 1 by omega, contR_same_skip ok_start (k' := skipA L k) (by rw [skipA_idem])]
  exact contR_enough L _ _ (.run []) _ 0 h2 (by omega) (Nat.le_refl _) (.inl ok_start)
end Go.Proofs.YtodonngnigbpaaaGreatDoor
