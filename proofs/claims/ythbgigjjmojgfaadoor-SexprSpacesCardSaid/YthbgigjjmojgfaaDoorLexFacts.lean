/- Plain facts on tokens, for the laws of package lex: no Go program is named here. -/
import Derived.Test.YthbgigjjmojgfaaDoorLexPlain
namespace Go.Proofs.YthbgigjjmojgfaaDoor
theorem cmt_false_of {cm : Bool} {c : UInt8} (h : (cmt cm c || isWhite c) = false) : (cmt false c || isWhite c) = false := by
  simp only [Bool.or_eq_false_iff, cmt, Bool.and_eq_false_iff, isWhite] at h ⊢
  obtain ⟨h1, h2⟩ := h
  refine ⟨?_, h2⟩
  rcases h1 with h1 | h1
  · exact .inl h1
  · exact .inr ⟨trivial, h1.2⟩
theorem skipN_idem (cm : Bool) (l : List UInt8) : skipN false (l.drop (skipN cm l)) = 0 := by
  induction l generalizing cm with
  | nil => simp [skipN]
  | cons c r ih =>
    cases h : (cmt cm c || isWhite c) with
    | true => rw [skipN_yes h, List.drop_succ_cons]; exact ih _
    | false => rw [skipN_no h, List.drop_zero, skipN_no (cmt_false_of h)]
theorem skipN_take (cm : Bool) (l : List UInt8) : skipN cm (l.take (skipN cm l)) = skipN cm l := by
  induction l generalizing cm with
  | nil => simp [skipN]
  | cons c r ih =>
    cases h : (cmt cm c || isWhite c) with
    | true => rw [skipN_yes h, List.take_succ_cons, skipN_yes h, ih]
    | false => rw [skipN_no h]; simp [skipN]
theorem skipA_idem {l : List UInt8} {k : Nat} : skipA l (skipA l k) = skipA l k := by
  have h := skipN_idem false (l.drop k)
  rw [List.drop_drop] at h
  show skipA l k + skipN false (l.drop (skipA l k)) = skipA l k
  unfold skipA
  rw [h]; rfl
theorem allL_skipped {x : List UInt8} (h : skipN false x = x.length) : allL x 0 = ([], x.length, 0) := by
  have hs : skipA x 0 = x.length := by unfold skipA; rw [List.drop_zero, h]; omega
  have hn : nextL x 0 = ⟨⟨0, [], 0, 0⟩, false, 0⟩ := by
    unfold nextL nextA
    rw [if_pos hs]
  exact allL_end (Nat.zero_le _) (by rw [hn]) (by rw [hn])
theorem skips_all {l : List UInt8} {m : Nat} (hm : m ≤ l.length) : allL ((l.drop m).take (skipA l m - m)) 0 = ([], skipA l m - m, 0) := by
  have hle := (skipA_le hm).2
  have e : skipA l m - m = skipN false (l.drop m) := by unfold skipA; omega
  have hlen : ((l.drop m).take (skipA l m - m)).length = skipA l m - m := by simp; omega
  have := allL_skipped (x := (l.drop m).take (skipA l m - m)) (by rw [hlen]; rw [e]; exact skipN_take _ _)
  rw [hlen] at this
  exact this
end Go.Proofs.YthbgigjjmojgfaaDoor
