/- What All answers: no Go program is named here. -/
import Derived.Test.YthbgigjjmojgfaaDoorSexPure
namespace Go.Proofs.YthbgigjjmojgfaaDoor
open Go.RowKit
set_option linter.unusedVariables false
/-- An answer of All. -/
structure AllR where
  ts : List Tree
  stop : Nat
  err : Nat
/-- What All answers from byte p on, white space passed over. -/
def allX (L : List UInt8) : Nat → Nat → AllR
  | 0, p => ⟨[], p, 99⟩
  | f + 1, p => if p < L.length then (if (readL L p).err = 0 then ⟨(readL L p).t :: (allX L f (skipA L (readL L p).stop)).ts, (allX L f (skipA L (readL L p).stop)).stop, (allX L f (skipA L (readL L p).stop)).err⟩ else ⟨[], p, (readL L p).err⟩) else ⟨[], p, 0⟩
def allS (L : List UInt8) : AllR := allX L (L.length + 1) (skipA L 0)
theorem readL_on {L : List UInt8} {p : Nat} (hp : p ≤ L.length) (h : (readL L p).err = 0) : p < (readL L p).stop ∧ (readL L p).stop ≤ L.length := by
  obtain ⟨_, q2, q3⟩ := readL_behind (b := []) hp h
  have := (skipA_le hp).1
  exact ⟨by omega, q2⟩
theorem allX_step {L : List UInt8} {f p : Nat} (hp : p < L.length) (h : (readL L p).err = 0) : allX L (f + 1) p = ⟨(readL L p).t :: (allX L f (skipA L (readL L p).stop)).ts, (allX L f (skipA L (readL L p).stop)).stop, (allX L f (skipA L (readL L p).stop)).err⟩ := by
  rw [allX, if_pos hp, if_pos h]
theorem allX_bad {L : List UInt8} {f p : Nat} (hp : p < L.length) (h : ¬ (readL L p).err = 0) : allX L (f + 1) p = ⟨[], p, (readL L p).err⟩ := by
  rw [allX, if_pos hp, if_neg h]
theorem allX_end {L : List UInt8} {f p : Nat} (hp : ¬ p < L.length) : allX L (f + 1) p = ⟨[], p, 0⟩ := by
  rw [allX, if_neg hp]
/-- Fuel enough is enough. -/
theorem allX_enough (L : List UInt8) : ∀ (f f' p : Nat), p ≤ L.length → L.length - p < f → L.length - p < f' → allX L f p = allX L f' p := by
  intro f
  induction f with
  | zero => intro f' p hp hf; omega
  | succ f ih =>
    intro f' p hp hf hf'
    obtain ⟨f', rfl⟩ : ∃ g, f' = g + 1 := ⟨f' - 1, by omega⟩
    by_cases hlt : p < L.length
    · by_cases he : (readL L p).err = 0
      · obtain ⟨h1, h2⟩ := readL_on hp he
        obtain ⟨h3, h4⟩ := skipA_le (l := L) h2
        rw [allX_step hlt he, allX_step hlt he, ih f' _ h4 (by omega) (by omega)]
      · rw [allX_bad hlt he, allX_bad hlt he]
    · rw [allX_end hlt, allX_end hlt]
theorem readL_shift (P L : List UInt8) {k : Nat} (hk : k ≤ L.length) : readL (P ++ L) (P.length + k) = ⟨(readL L k).t, P.length + (readL L k).stop, (readL L k).err⟩ := by
  unfold readL
  rw [show (P ++ L).length + 1 - (P.length + k) = L.length + 1 - k by simp; omega]
  exact contR_shift P L _ (.run []) k 0 hk (Nat.le_refl _) (.inl ok_start)
theorem allX_shift (P L : List UInt8) : ∀ (f p : Nat), p ≤ L.length → L.length - p < f → allX (P ++ L) f (P.length + p) = ⟨(allX L f p).ts, P.length + (allX L f p).stop, (allX L f p).err⟩ := by
  intro f
  induction f with
  | zero => intro p hp hf; omega
  | succ f ih =>
    intro p hp hf
    by_cases hlt : p < L.length
    · have hlt' : P.length + p < (P ++ L).length := by simp; omega
      have hr := readL_shift P L hp
      by_cases he : (readL L p).err = 0
      · obtain ⟨h1, h2⟩ := readL_on hp he
        obtain ⟨h3, h4⟩ := skipA_le (l := L) h2
        rw [allX_step hlt he, allX_step hlt' (by rw [hr]; exact he), hr]
        simp only
        rw [skipA_shift, ih _ h4 (by omega)]
      · rw [allX_bad hlt he, allX_bad hlt' (by rw [hr]; exact he), hr]
    · rw [allX_end hlt, allX_end (by simp; omega)]
theorem allX_glue (a b : List UInt8) : ∀ (f k f' : Nat), k ≤ a.length → a.length - skipA a k < f → (allX a f (skipA a k)).err = 0 → (a ++ 10 :: b).length - skipA (a ++ 10 :: b) k < f' →
    allX (a ++ 10 :: b) f' (skipA (a ++ 10 :: b) k) = ⟨(allX a f (skipA a k)).ts ++ (allS b).ts, a.length + 1 + (allS b).stop, (allS b).err⟩ := by
  intro f
  induction f with
  | zero => intro k f' hk hf; omega
  | succ f ih =>
    intro k f' hk hf herr hf'
    obtain ⟨f', rfl⟩ : ∃ g, f' = g + 1 := ⟨f' - 1, by omega⟩
    have hle := (skipA_le (l := a) hk).2
    by_cases hlt : skipA a k < a.length
    · have hs := skipA_glue_lt (b := b) hk hlt
      have he : (readL a (skipA a k)).err = 0 := by
        apply Classical.byContradiction
        intro h
        rw [allX_bad hlt h] at herr
        exact h herr
      obtain ⟨h1, h2⟩ := readL_on hle he
      obtain ⟨q1, _, _⟩ := readL_behind (b := b) hle he
      obtain ⟨h3, h4⟩ := skipA_le (l := a) h2
      have hlt' : skipA a k < (a ++ 10 :: b).length := by simp; omega
      have h2' : (readL a (skipA a k)).stop ≤ (a ++ 10 :: b).length := by simp; omega
      obtain ⟨h5, h6⟩ := skipA_le (l := a ++ 10 :: b) h2'
      rw [hs] at hf' ⊢
      rw [allX_step hlt he] at herr ⊢
      rw [allX_step hlt' (by rw [q1]; exact he), q1]
      rw [ih _ f' h2 (by omega) herr (by omega)]
      rfl
    · have heq : skipA a k = a.length := by omega
      rw [allX_end hlt]
      rw [skipA_glue_all (b := b) hk heq] at hf' ⊢
      have e : a ++ 10 :: b = (a ++ [10]) ++ b := by simp
      have el : (a ++ [10]).length = a.length + 1 := by simp
      obtain ⟨h7, h8⟩ := skipA_le (l := b) (k := 0) (Nat.zero_le _)
      rw [skipA_glue2] at hf' ⊢
      rw [Nat.add_comm (skipA b 0), e, ← el, allX_shift (a ++ [10]) b _ _ h8 (by rw [e] at hf'; simp at hf'; omega)]
      unfold allS
      rw [allX_enough b (f' + 1) (b.length + 1) _ h8 (by rw [e] at hf'; simp at hf'; omega) (by omega)]
      rfl
theorem allS_glue (a b : List UInt8) (h : (allS a).err = 0) : allS (a ++ 10 :: b) = ⟨(allS a).ts ++ (allS b).ts, a.length + 1 + (allS b).stop, (allS b).err⟩ := by
  have h1 := skipA_le (l := a) (k := 0) (Nat.zero_le _)
  exact allX_glue a b (a.length + 1) 0 ((a ++ 10 :: b).length + 1) (Nat.zero_le _) (by omega) h (by omega)
theorem allX_whole (L : List UInt8) : ∀ (f p : Nat), p ≤ L.length → L.length - p < f → (allX L f p).err = 0 → (allX L f p).stop = L.length := by
  intro f
  induction f with
  | zero => intro p hp hf; omega
  | succ f ih =>
    intro p hp hf herr
    by_cases hlt : p < L.length
    · by_cases he : (readL L p).err = 0
      · obtain ⟨h1, h2⟩ := readL_on hp he
        obtain ⟨h3, h4⟩ := skipA_le (l := L) h2
        rw [allX_step hlt he] at herr ⊢
        exact ih _ h4 (by omega) herr
      · rw [allX_bad hlt he] at herr
        exact absurd herr he
    · rw [allX_end hlt]; show p = L.length; omega
theorem allS_whole (L : List UInt8) (h : (allS L).err = 0) : (allS L).stop = L.length :=
  allX_whole L _ _ (skipA_le (Nat.zero_le _)).2 (by omega) h
end Go.Proofs.YthbgigjjmojgfaaDoor
