/- Names: the document's May and Reserved, and package lex's Reserved, Plain and Quote. -/
import Derived.Test.YtdeobdepepjbmaaDoorLexNext
import Derived.Test.YtdeobdepepjbmaaDoorLexFacts4
import Derived.Deep.RegionHeld3
import Derived.BigQuiet
namespace Go.Proofs.YtdeobdepepjbmaaDoor
open Go.RowKit
set_option linter.unusedVariables false
theorem resB_no {l : List UInt8} (h : resB l = false) : (l == [95]) = false ∧ (l == [33]) = false ∧ (l == [97, 115]) = false ∧ (l == [108, 101, 116]) = false ∧ (l == [101, 120, 105, 115, 116, 115]) = false ∧ (l == [102, 111, 114, 97, 108, 108]) = false ∧ (l == [109, 97, 116, 99, 104]) = false ∧ (l == [112, 97, 114]) = false := by
  unfold resB at h
  simp only [Bool.or_eq_false_iff] at h
  obtain ⟨⟨⟨⟨⟨⟨⟨h0, h1⟩, h2⟩, h3⟩, h4⟩, h5⟩, h6⟩, h7⟩ := h
  exact ⟨h0, h1, h2, h3, h4, h5, h6, h7⟩
theorem Res_no (s : ByteArray) (w : World) (h : resB s.data.toList = false) : Calls Tryd.prog 81 #[.string s] w fun e w' => e = .returned (.bool false) ∧ w = w' := by
  have f0 : (s.toList == [95]) = false := by have := resB_no h; simp only [ByteArray.toList_eq]; exact this.1
  have f1 : (s.toList == [33]) = false := by have := resB_no h; simp only [ByteArray.toList_eq]; exact this.2.1
  have f2 : (s.toList == [97, 115]) = false := by have := resB_no h; simp only [ByteArray.toList_eq]; exact this.2.2.1
  have f3 : (s.toList == [108, 101, 116]) = false := by have := resB_no h; simp only [ByteArray.toList_eq]; exact this.2.2.2.1
  have f4 : (s.toList == [101, 120, 105, 115, 116, 115]) = false := by have := resB_no h; simp only [ByteArray.toList_eq]; exact this.2.2.2.2.1
  have f5 : (s.toList == [102, 111, 114, 97, 108, 108]) = false := by have := resB_no h; simp only [ByteArray.toList_eq]; exact this.2.2.2.2.2.1
  have f6 : (s.toList == [109, 97, 116, 99, 104]) = false := by have := resB_no h; simp only [ByteArray.toList_eq]; exact this.2.2.2.2.2.2.1
  have f7 : (s.toList == [112, 97, 114]) = false := by have := resB_no h; simp only [ByteArray.toList_eq]; exact this.2.2.2.2.2.2.2
  clear h
  go_enter Tryd.func81, Tryd.ntmps81
  go_wp2
  go_ret
  exact ⟨rfl, rfl⟩
theorem bytes_nil {s : ByteArray} : s.toList = [] ↔ s.size = 0 := by
  rw [ByteArray.toList_eq]
  have : s.data.toList.length = s.size := by simp
  rw [← List.length_eq_zero_iff, this]
end Go.Proofs.YtdeobdepepjbmaaDoor
