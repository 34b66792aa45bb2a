/- Plain facts of the kinds' rules. -/
import Derived.Test.YtdeobdepepjbmaaDoorTyC
namespace Go.Proofs.YtdeobdepepjbmaaDoor.Tm
set_option linter.unusedVariables false
theorem okL2 (r : RuleA) (a b : Int) : okL r [a, b] = (okA r a 0 && okA r b 1) := by
  simp [okL, List.range_succ]
theorem okL3 (r : RuleA) (a b c : Int) : okL r [a, b, c] = (okA r a 0 && (okA r b 1 && okA r c 2)) := by
  simp [okL, List.range_succ]
theorem free2_none {r : RuleA} {a b : Int} (h0 : thA r a 0 = false) (h1 : thA r b 1 = false) : freeL r [a, b] 2 = [] := by
  simp [freeL, List.range_succ, h0, h1]
theorem free2_both {r : RuleA} {a b : Int} (h0 : thA r a 0 = true) (h1 : thA r b 1 = true) : freeL r [a, b] 2 = [a, b] := by
  simp [freeL, List.range_succ, h0, h1]
theorem free3_two {r : RuleA} {a b c : Int} (h0 : thA r a 0 = false) (h1 : thA r b 1 = true) (h2 : thA r c 2 = true) : freeL r [a, b, c] 3 = [b, c] := by
  simp [freeL, List.range_succ, h0, h1, h2]
theorem alike2 (a b : Int) : alikeB [a, b] = decide (a = b) := by
  simp [alikeB, eq_comm]
theorem op_fix {op s : Int} (hb : kindB op = true) (h : kindR op = ⟨2, s, s, 0, 0⟩) (hs : 0 ≤ s) (a b : Int) : opA op [a, b] = if a = s ∧ b = s then (0, 0) else (0, 33) := by
  have n1 : ¬ s = -1 := by omega
  have e0 : ∀ x, okA ⟨2, s, s, 0, 0⟩ x 0 = decide (x = s) := fun x => by
    by_cases hx : x = s
    · subst hx; simp [okA, rArg, hs]
    · have : ¬ s = x := fun e => hx e.symm
      simp [okA, rArg, n1, hx, this]
  have e1 : ∀ x, okA ⟨2, s, s, 0, 0⟩ x 1 = decide (x = s) := fun x => by
    by_cases hx : x = s
    · subst hx; simp [okA, rArg, hs]
    · have : ¬ s = x := fun e => hx e.symm
      simp [okA, rArg, n1, hx, this]
  have t0 : ∀ x, thA ⟨2, s, s, 0, 0⟩ x 0 = false := fun x => by simp [thA, rArg, n1]
  have t1 : ∀ x, thA ⟨2, s, s, 0, 0⟩ x 1 = false := fun x => by simp [thA, rArg, n1]
  unfold opA
  rw [hb, if_pos rfl, h]
  unfold ofA
  rw [if_pos (by rfl), okL2, e0, e1]
  by_cases h1 : a = s <;> by_cases h2 : b = s
  · conv => rhs; rw [if_pos ⟨h1, h2⟩]
    rw [decide_eq_true h1, decide_eq_true h2]
    show (if alikeB (freeL _ [a, b] 2) = true then _ else _) = _
    rw [free2_none (t0 a) (t1 b)]
    rfl
  · conv => rhs; rw [if_neg (fun g => h2 g.2)]
    rw [decide_eq_false h2, Bool.and_false]; rfl
  · conv => rhs; rw [if_neg (fun g => h1 g.1)]
    rw [decide_eq_false h1, Bool.false_and]; rfl
  · conv => rhs; rw [if_neg (fun g => h1 g.1)]
    rw [decide_eq_false h1, Bool.false_and]; rfl
theorem op_eq (a b : Int) : opA 6 [a, b] = if 0 ≤ a ∧ a = b then (0, 0) else (0, 33) := by
  have hr : kindR 6 = ⟨2, -1, -1, 0, 0⟩ := rfl
  have e0 : ∀ x, okA ⟨2, -1, -1, 0, 0⟩ x 0 = decide (0 ≤ x) := fun x => by simp [okA, rArg]
  have e1 : ∀ x, okA ⟨2, -1, -1, 0, 0⟩ x 1 = decide (0 ≤ x) := fun x => by simp [okA, rArg]
  unfold opA
  rw [show kindB 6 = true from rfl, if_pos rfl, hr]
  unfold ofA
  rw [if_pos (by rfl), okL2, e0, e1]
  by_cases h1 : 0 ≤ a <;> by_cases h2 : 0 ≤ b
  · rw [decide_eq_true h1, decide_eq_true h2]
    show (if alikeB (freeL _ [a, b] 2) = true then _ else _) = _
    rw [free2_both (by simp [thA, rArg, h1]) (by simp [thA, rArg, h2]), alike2]
    by_cases h3 : a = b
    · conv => rhs; rw [if_pos ⟨h1, h3⟩]
      rw [decide_eq_true h3]; rfl
    · conv => rhs; rw [if_neg (fun g => h3 g.2)]
      rw [decide_eq_false h3]; rfl
  · conv => rhs; rw [if_neg (fun g => h2 (by omega))]
    rw [decide_eq_false h2, Bool.and_false]; rfl
  · conv => rhs; rw [if_neg (fun g => h1 g.1)]
    rw [decide_eq_false h1, Bool.false_and]; rfl
  · conv => rhs; rw [if_neg (fun g => h1 g.1)]
    rw [decide_eq_false h1, Bool.false_and]; rfl
theorem op_ite (a b : Int) : opA 7 [0, a, b] = if 0 ≤ a ∧ a = b then (a, 0) else (0, 33) := by
  have hr : kindR 7 = ⟨3, 0, -1, -1, -1⟩ := rfl
  have e0 : okA ⟨3, 0, -1, -1, -1⟩ 0 0 = true := rfl
  have e1 : ∀ x, okA ⟨3, 0, -1, -1, -1⟩ x 1 = decide (0 ≤ x) := fun x => by simp [okA, rArg]
  have e2 : ∀ x, okA ⟨3, 0, -1, -1, -1⟩ x 2 = decide (0 ≤ x) := fun x => by simp [okA, rArg]
  unfold opA
  rw [show kindB 7 = true from rfl, if_pos rfl, hr]
  unfold ofA
  rw [if_pos (by rfl), okL3, e0, e1, e2]
  by_cases h1 : 0 ≤ a <;> by_cases h2 : 0 ≤ b
  · rw [decide_eq_true h1, decide_eq_true h2]
    show (if alikeB (freeL _ [0, a, b] 3) = true then (if (-1 : Int) = -1 then ((freeL _ [0, a, b] 3).headD 0, 0) else _) else _) = _
    rw [free3_two (by rfl) (by simp [thA, rArg, h1]) (by simp [thA, rArg, h2]), alike2]
    by_cases h3 : a = b
    · conv => rhs; rw [if_pos ⟨h1, h3⟩]
      rw [decide_eq_true h3]; rfl
    · conv => rhs; rw [if_neg (fun g => h3 g.2)]
      rw [decide_eq_false h3]; rfl
  · conv => rhs; rw [if_neg (fun g => h2 (by omega))]
    rw [decide_eq_false h2, Bool.and_false]; rfl
  · conv => rhs; rw [if_neg (fun g => h1 g.1)]
    rw [decide_eq_false h1, Bool.false_and]; rfl
  · conv => rhs; rw [if_neg (fun g => h1 g.1)]
    rw [decide_eq_false h1, Bool.false_and]; rfl
theorem op_arg {op : Int} (h : kindB op = true → ¬ (kindR op).many = 2) (a b : Int) : opA op [a, b] = (0, 2) := by
  unfold opA
  split
  · rename_i hb
    unfold ofA
    rw [if_neg (fun e => h hb (by rw [← e]; rfl))]
  · rfl
theorem kinds2 (op : Int) : (∃ s, kindB op = true ∧ kindR op = ⟨2, s, s, 0, 0⟩ ∧ 0 ≤ s) ∨ op = 6 ∨ (kindB op = true → ¬ (kindR op).many = 2) := by
  by_cases h : 0 ≤ op ∧ op < 13
  · have hc : op = 0 ∨ op = 1 ∨ op = 2 ∨ op = 3 ∨ op = 4 ∨ op = 5 ∨ op = 6 ∨ op = 7 ∨ op = 8 ∨ op = 9 ∨ op = 10 ∨ op = 11 ∨ op = 12 := by omega
    rcases hc with rfl | rfl | rfl | rfl | rfl | rfl | rfl | rfl | rfl | rfl | rfl | rfl | rfl
    · exact .inr (.inr (fun _ => by decide))
    · exact .inr (.inr (fun _ => by decide))
    · exact .inl ⟨0, rfl, rfl, by decide⟩
    · exact .inl ⟨0, rfl, rfl, by decide⟩
    · exact .inl ⟨0, rfl, rfl, by decide⟩
    · exact .inl ⟨0, rfl, rfl, by decide⟩
    · exact .inr (.inl rfl)
    · exact .inr (.inr (fun _ => by decide))
    · exact .inl ⟨1, rfl, rfl, by decide⟩
    · exact .inl ⟨1, rfl, rfl, by decide⟩
    · exact .inr (.inr (fun _ => by decide))
    · exact .inr (.inr (fun _ => by decide))
    · exact .inl ⟨1, rfl, rfl, by decide⟩
  · refine .inr (.inr fun g => ?_)
    unfold kindB at g
    simp at g
    omega
theorem op_turn (op a b : Int) : opA op [b, a] = opA op [a, b] := by
  rcases kinds2 op with ⟨s, hb, hr, hs⟩ | rfl | h
  · rw [op_fix hb hr hs, op_fix hb hr hs]
    by_cases h : a = s ∧ b = s
    · rw [if_pos h, if_pos ⟨h.2, h.1⟩]
    · rw [if_neg h, if_neg (fun g => h ⟨g.2, g.1⟩)]
  · rw [op_eq, op_eq]
    by_cases h : 0 ≤ a ∧ a = b
    · rw [if_pos h, if_pos ⟨by omega, h.2.symm⟩]
    · rw [if_neg h, if_neg (fun g => h ⟨by omega, g.2.symm⟩)]
  · rw [op_arg h, op_arg h]
theorem op_once {op a b c : Int} (h1 : (opA op [a, b]).2 = 0) (h2 : (opA op [a, c]).2 = 0) : (opA op [a, b]).1 = (opA op [a, c]).1 ∧ b = c := by
  rcases kinds2 op with ⟨s, hb, hr, hs⟩ | rfl | h
  · rw [op_fix hb hr hs] at h1 h2 ⊢
    rw [op_fix hb hr hs]
    split at h1
    · split at h2
      · rename_i g1 g2
        rw [if_pos g1, if_pos g2]
        exact ⟨rfl, by rw [g1.2, g2.2]⟩
      · cases h2
    · cases h1
  · rw [op_eq] at h1 h2 ⊢
    rw [op_eq]
    split at h1
    · split at h2
      · rename_i g1 g2
        rw [if_pos g1, if_pos g2]
        exact ⟨rfl, by rw [← g1.2, ← g2.2]⟩
      · cases h2
    · cases h1
  · rw [op_arg h] at h1
    cases h1
end Go.Proofs.YtdeobdepepjbmaaDoor.Tm
