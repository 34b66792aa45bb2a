/- Facts of what Read answers: the text moved, the text gone on. -/
import Derived.Test.YthbgigjjmojgfaaDoorSexReadW
import Derived.Test.YthbgigjjmojgfaaDoorLexFacts4
namespace Go.Proofs.YthbgigjjmojgfaaDoor
open Go.RowKit
theorem contR_enough (L : List UInt8) : ∀ (f f' : Nat) (s : RS) (k N : Nat), k ≤ L.length → L.length + 1 - k ≤ f → L.length + 1 - k ≤ f' → (OkS N s ∨ (∃ t, s = .fin t) ∨ s = .deep 0) → contR L f s k = contR L f' s k := by
  intro f
  induction f with
  | zero => intro f' s k N hk hf; omega
  | succ f ih =>
    intro f' s k N hk hf hf' hs
    obtain ⟨f', rfl⟩ : ∃ g, f' = g + 1 := ⟨f' - 1, by omega⟩
    rcases hs with hs | ⟨t, rfl⟩ | rfl
    · rw [contR_go L f s k N hs, contR_go L f' s k N hs]
      by_cases herr : (nextL L k).err ≠ 0
      · rw [if_pos herr, if_pos herr]
      · rw [if_neg herr, if_neg herr]
        cases hok : (nextL L k).ok with
        | false => rfl
        | true =>
          obtain ⟨hs1, hs2, _⟩ := nextL_stop hk hok
          rw [if_neg (by simp), if_neg (by simp)]
          cases htk : takeS s (nextL L k).tok.kind (nextL L k).tok.text with
          | none => rfl
          | some s' =>
            refine ih f' s' _ (N + 1) hs2 (by omega) (by omega) ?_
            rcases takeS_ok hs htk with h | h | h
            · exact .inl h.1
            · exact .inr (.inl h)
            · exact .inr (.inr h)
    · rw [contR_fin, contR_fin]
    · rw [contR_deep, contR_deep]
/-- A token found further on. -/
def shN (d : Nat) (x : Nxt) : Nxt := if x.err ≠ 0 then ⟨⟨0, [], x.tok.pos + d, 0⟩, false, x.err⟩ else if x.ok = true then ⟨⟨x.tok.kind, x.tok.text, x.tok.pos + d, x.tok.stop + d⟩, true, 0⟩ else ⟨⟨0, [], 0, 0⟩, false, 0⟩
theorem skipA_shift (P L : List UInt8) (k : Nat) : skipA (P ++ L) (P.length + k) = P.length + skipA L k := by
  unfold skipA
  rw [List.drop_append, List.drop_of_length_le (by omega), List.nil_append, Nat.add_sub_cancel_left]
  omega
theorem nextL_shift (P L : List UInt8) (k : Nat) : nextL (P ++ L) (P.length + k) = shN P.length (nextL L k) := by
  unfold nextL
  rw [skipA_shift]
  unfold nextA
  by_cases he : skipA L k = L.length
  · rw [if_pos (by simp [he]), if_pos he]; rfl
  · rw [if_neg (by simp; exact he), if_neg he, List.drop_append, List.drop_of_length_le (by omega), List.nil_append, Nat.add_sub_cancel_left]
    cases tokN (L.drop (skipA L k)) with
    | none => simp [shN, Nat.add_comm]
    | some x =>
      obtain ⟨kd, t, m⟩ := x
      simp only [shN]
      simp
      omega
theorem contR_shift (P L : List UInt8) : ∀ (f : Nat) (s : RS) (k N : Nat), k ≤ L.length → L.length + 1 - k ≤ f → (OkS N s ∨ (∃ t, s = .fin t) ∨ s = .deep 0) →
    contR (P ++ L) f s (P.length + k) = ⟨(contR L f s k).t, P.length + (contR L f s k).stop, (contR L f s k).err⟩ := by
  intro f
  induction f with
  | zero => intro s k N hk hf; omega
  | succ f ih =>
    intro s k N hk hf hs
    rcases hs with hs | ⟨t, rfl⟩ | rfl
    · rw [contR_go (P ++ L) f s _ N hs, contR_go L f s k N hs, nextL_shift]
      by_cases herr : (nextL L k).err ≠ 0
      · rw [if_pos herr]
        have e : shN P.length (nextL L k) = ⟨⟨0, [], (nextL L k).tok.pos + P.length, 0⟩, false, (nextL L k).err⟩ := by unfold shN; rw [if_pos herr]
        rw [e]
        simp only
        rw [if_pos herr]
        simp [Nat.add_comm]
      · rw [if_neg herr]
        cases hok : (nextL L k).ok with
        | false =>
          have e : shN P.length (nextL L k) = ⟨⟨0, [], 0, 0⟩, false, 0⟩ := by unfold shN; rw [if_neg herr, hok]; rfl
          rw [e]
          simp
        | true =>
          obtain ⟨hs1, hs2, _⟩ := nextL_stop hk hok
          have e : shN P.length (nextL L k) = ⟨⟨(nextL L k).tok.kind, (nextL L k).tok.text, (nextL L k).tok.pos + P.length, (nextL L k).tok.stop + P.length⟩, true, 0⟩ := by unfold shN; rw [if_neg herr, if_pos hok]
          rw [e]
          simp only
          rw [if_neg (by simp), if_neg (by simp), if_neg (by simp)]
          cases htk : takeS s (nextL L k).tok.kind (nextL L k).tok.text with
          | none => simp [Nat.add_comm]
          | some s' =>
            simp only
            rw [Nat.add_comm (nextL L k).tok.stop]
            refine ih s' _ (N + 1) hs2 (by omega) ?_
            rcases takeS_ok hs htk with h | h | h
            · exact .inl h.1
            · exact .inr (.inl h)
            · exact .inr (.inr h)
    · rw [contR_fin, contR_fin]
    · rw [contR_deep, contR_deep]
theorem ok_start : OkS 0 (.run []) := ⟨by simp, fun l hl => by cases hl⟩
theorem contR_same_skip {L : List UInt8} {f : Nat} {s : RS} {k k' N : Nat} (hs : OkS N s) (h : skipA L k = skipA L k') : contR L (f + 1) s k = contR L (f + 1) s k' := by
  rw [contR_go L f s k N hs, contR_go L f s k' N hs]
  unfold nextL
  rw [h]
/-- White space ahead. -/
theorem readL_ahead {P L : List UInt8} (h : skipN false (P ++ L) = P.length + skipN false L) : readL (P ++ L) 0 = ⟨(readL L 0).t, P.length + (readL L 0).stop, (readL L 0).err⟩ := by
  have e : skipA (P ++ L) 0 = skipA (P ++ L) (P.length + 0) := by
    rw [skipA_shift]
    unfold skipA
    simp only [List.drop_zero, Nat.zero_add]
    rw [h]
  unfold readL
  rw [show (P ++ L).length + 1 - 0 = (P ++ L).length + 1 by omega, contR_same_skip ok_start e]
  rw [contR_enough (P ++ L) ((P ++ L).length + 1) (L.length + 1 - 0 + P.length) (.run []) (P.length + 0) 0 (by rw [List.length_append]; omega) (by rw [List.length_append]; omega) (by rw [List.length_append]; omega) (.inl ok_start)]
  rw [contR_shift P L _ (.run []) 0 0 (by omega) (by omega) (.inl ok_start)]
  rw [contR_enough L (L.length + 1 - 0 + P.length) (L.length + 1 - 0) (.run []) 0 0 (by omega) (by omega) (by omega) (.inl ok_start)]
theorem contR_more (L : List UInt8) : ∀ (f g : Nat) (s : RS) (k N : Nat), (OkS N s ∨ (∃ t, s = .fin t) ∨ s = .deep 0) → (contR L f s k).err = 0 → contR L (f + g) s k = contR L f s k := by
  intro f
  induction f with
  | zero =>
    intro g s k N hs he
    rcases hs with hs | ⟨t, rfl⟩ | rfl
    · exfalso
      cases s with
      | fin t => exact hs.elim
      | run st => cases he
      | deep n =>
        obtain ⟨n, rfl⟩ : ∃ m, n = m + 1 := ⟨n - 1, by have := hs.2; omega⟩
        cases he
    · rw [contR_fin, contR_fin]
    · rw [contR_deep, contR_deep]
  | succ f ih =>
    intro g s k N hs he
    rcases hs with hs | ⟨t, rfl⟩ | rfl
    · rw [show f + 1 + g = (f + g) + 1 by omega, contR_go L (f + g) s k N hs]
      rw [contR_go L f s k N hs] at he ⊢
      by_cases herr : (nextL L k).err ≠ 0
      · rw [if_pos herr, if_pos herr]
      · rw [if_neg herr] at he
        rw [if_neg herr, if_neg herr]
        by_cases hok : (nextL L k).ok = false
        · rw [if_pos hok, if_pos hok]
        · rw [if_neg hok] at he
          rw [if_neg hok, if_neg hok]
          cases htk : takeS s (nextL L k).tok.kind (nextL L k).tok.text with
          | none => rfl
          | some s' =>
            rw [htk] at he
            refine ih g s' _ (N + 1) ?_ he
            rcases takeS_ok hs htk with h | h | h
            · exact .inl h.1
            · exact .inr (.inl h)
            · exact .inr (.inr h)
    · rw [contR_fin, contR_fin]
    · rw [contR_deep, contR_deep]
theorem nextL_glue {a b : List UInt8} {k : Nat} (hk : k ≤ a.length) (h : (nextL a k).ok = true) : nextL (a ++ 10 :: b) k = nextL a k := by
  obtain ⟨kd, t, m, htok, hx⟩ := nextL_ok h
  have hlt : skipA a k < a.length := by
    have h1 := (skipA_le (l := a) hk).2
    have h2 : skipA a k ≠ a.length := fun e => by
      rw [e, List.drop_length] at htok; simp [tokN] at htok
    omega
  have h1 : skipA (a ++ 10 :: b) k = skipA a k := skipA_glue_lt hk hlt
  rw [hx]
  unfold nextL
  rw [h1]
  refine nextA_ok (by simp; omega) ?_
  rw [drop_glue (by omega)]
  exact tokN_glue sign10 htok
/-- The text goes on behind a line's end. -/
theorem contR_glue (a b : List UInt8) : ∀ (f : Nat) (s : RS) (k N : Nat), k ≤ a.length → (OkS N s ∨ (∃ t, s = .fin t) ∨ s = .deep 0) → (contR a f s k).err = 0 → contR (a ++ 10 :: b) f s k = contR a f s k ∧ (contR a f s k).stop ≤ a.length ∧ k ≤ (contR a f s k).stop ∧ (OkS N s → skipA a k < (contR a f s k).stop) := by
  intro f
  induction f with
  | zero =>
    intro s k N hk hs he
    rcases hs with hs | ⟨t, rfl⟩ | rfl
    · exfalso
      cases s with
      | fin t => exact hs.elim
      | run st => cases he
      | deep n =>
        obtain ⟨n, rfl⟩ : ∃ m, n = m + 1 := ⟨n - 1, by have := hs.2; omega⟩
        cases he
    · rw [contR_fin, contR_fin]; exact ⟨rfl, hk, Nat.le_refl _, fun h => h.elim⟩
    · rw [contR_deep] at he; cases he
  | succ f ih =>
    intro s k N hk hs he
    rcases hs with hs | ⟨t, rfl⟩ | rfl
    · rw [contR_go (a ++ 10 :: b) f s k N hs]
      rw [contR_go a f s k N hs] at he ⊢
      by_cases herr : (nextL a k).err ≠ 0
      · rw [if_pos herr] at he; exact absurd he herr
      · rw [if_neg herr] at he ⊢
        cases hok : (nextL a k).ok with
        | false => rw [hok] at he; cases he
        | true =>
          obtain ⟨hs1, hs2, _⟩ := nextL_stop hk hok
          have hsk : skipA a k < (nextL a k).tok.stop := by
            obtain ⟨kd, t, m, htok, hx⟩ := nextL_ok hok
            rw [hx]
            have := (tokN_bounds htok).1
            show skipA a k < skipA a k + m
            omega
          rw [nextL_glue hk hok, if_neg herr, hok]
          rw [hok, if_neg (by simp)] at he
          rw [if_neg (by simp), if_neg (by simp)]
          cases htk : takeS s (nextL a k).tok.kind (nextL a k).tok.text with
          | none => rw [htk] at he; cases he
          | some s' =>
            rw [htk] at he
            obtain ⟨q1, q2, q3, _⟩ := ih s' _ (N + 1) hs2 (by
              rcases takeS_ok hs htk with h | h | h
              · exact .inl h.1
              · exact .inr (.inl h)
              · exact .inr (.inr h)) he
            exact ⟨q1, q2, by show k ≤ (contR a f s' _).stop; omega, fun _ => by show skipA a k < (contR a f s' _).stop; omega⟩
    · rw [contR_fin, contR_fin]; exact ⟨rfl, hk, Nat.le_refl _, fun h => h.elim⟩
    · rw [contR_deep] at he; cases he
theorem readL_behind {a b : List UInt8} {k : Nat} (hk : k ≤ a.length) (h : (readL a k).err = 0) : readL (a ++ 10 :: b) k = readL a k ∧ (readL a k).stop ≤ a.length ∧ skipA a k < (readL a k).stop := by
  unfold readL at h ⊢
  obtain ⟨q1, q2, q3, q4⟩ := contR_glue a b _ (.run []) k 0 hk (.inl ok_start) h
  refine ⟨?_, q2, q4 ok_start⟩
  rw [show (a ++ 10 :: b).length + 1 - k = (a.length + 1 - k) + (b.length + 1) by simp; omega]
  rw [contR_more (a ++ 10 :: b) _ _ (.run []) k 0 (.inl ok_start) (by rw [q1]; exact h), q1]
end Go.Proofs.YthbgigjjmojgfaaDoor
