/- Package lex's Quote, of any name whatever its length. -/
import Derived.Test.YtfhcmhlbidjjgaaDoorSexQuote
namespace Go.Proofs.YtfhcmhlbidjjgaaDoor
open Go.RowKit
set_option linter.unusedVariables false
/-- A name as it is written, whatever its length. -/
def quoteX (l : List UInt8) : List UInt8 := if l.length ≤ 100 then quoteL l else [124] ++ l ++ [124]
theorem res_short {l : List UInt8} (h : resB l = true) : l.length ≤ 100 := by
  unfold resB at h
  simp only [Bool.or_eq_true, beq_iff_eq] at h
  rcases h with ((((((h | h) | h) | h) | h) | h) | h) | h <;> subst h <;> decide
theorem Plain_long (s : ByteArray) (w : World) (hs : 100 < s.size) :
    Calls Tryd.prog 23 #[.string s] w fun e w' => e = .returned (.bool false) ∧ Below w.heap.size w w' := by
  have hne : ¬ s.toList = [] := fun h => by have := bytes_nil.1 h; omega
  have hem : s.toList.isEmpty = false := by simpa using hne
  have hem2 : (!s.toList.isEmpty) = true := by rw [hem]; rfl
  have hem3 : (s.toList != []) = true := by simpa using hne
  have hl100 : decide (s.size ≤ 100) = false := by simp; omega
  have hl101 : decide ((s.size : Int) ≤ 100) = false := by simp; omega
  clear hne hs
  go_enter Tryd.func23, Tryd.ntmps23
  go_wp2
  go_quiet (fail)
  go_wp2
  go_ret
  exact ⟨rfl, below_drewN (Below.refl _ _) _⟩
theorem Quote_all (s : ByteArray) (w : World) (hG : Globs w) (hs : s.size ≤ 140737488355328) :
    Calls Tryd.prog 14 #[.string s] w fun e w' => e = .returned (.string (bytesL (quoteX s.data.toList))) ∧ Below w.heap.size w w' := by
  by_cases h100 : s.size ≤ 100
  · have e : quoteX s.data.toList = quoteL s.data.toList := by unfold quoteX; rw [if_pos (by simpa using h100)]
    rw [e]
    exact Quote_any s w hG h100
  · have hr : resB s.data.toList = false := by
      cases h : resB s.data.toList with
      | false => rfl
      | true => have := res_short h; simp at this; exact absurd this h100
    have HQ : Hid ((ByteArray.mk #[124]) ++ s ++ (ByteArray.mk #[124]) = bytesL (quoteX s.data.toList)) := by
      show _ = _
      unfold quoteX
      rw [if_neg (by simpa using h100)]
      apply ByteArray.ext
      simp [bytesL]
    have HP : Hid (∀ W, Calls Tryd.prog 23 #[.string s] W fun e w' => e = .returned (.bool false) ∧ Below W.heap.size W w') := fun W => Plain_long s W (by omega)
    have HR := Lib.hid hr
    clear hG hr h100
    go_enter Tryd.func14, Tryd.ntmps14
    go_wp2_with fail
    refine (HP.out _).mono ?_
    rintro e w1 ⟨rfl, hb1⟩
    go_wp2_with fail
    refine (Res_no s _ HR.out).mono ?_
    rintro e w2 ⟨rfl, rfl⟩
    go_wp2
    go_ret
    exact ⟨ret_str HQ.out, hb1⟩
end Go.Proofs.YtfhcmhlbidjjgaaDoor
