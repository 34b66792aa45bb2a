/- The method token and the function Next of package lex answer what the plain facts say. -/
import Derived.Test.YtdeobdepepjbmaaDoorLexTok2
namespace Go.Proofs.YtdeobdepepjbmaaDoor
open Go.RowKit
set_option linter.unusedVariables false
end Go.Proofs.YtdeobdepepjbmaaDoor
namespace Go.Proofs.YtdeobdepepjbmaaDoor
open Go.RowKit
set_option linter.unusedVariables false
end Go.Proofs.YtdeobdepepjbmaaDoor
namespace Go.Proofs.YtdeobdepepjbmaaDoor
open Go.RowKit
set_option linter.unusedVariables false
end Go.Proofs.YtdeobdepepjbmaaDoor
namespace Go.Proofs.YtdeobdepepjbmaaDoor
open Go.RowKit
def bytesL (t : List UInt8) : ByteArray := ⟨t.toArray⟩
theorem bytesL_size (t : List UInt8) : (bytesL t).size = t.length := by show t.toArray.size = _; simp
theorem bytesL_list (t : List UInt8) : (bytesL t).data.toList = t := by simp [bytesL]
theorem extract_bytes (s : ByteArray) (a m : Nat) : s.extract a (a + m) = bytesL ((s.data.toList.drop a).take m) := by
  apply ByteArray.ext
  apply Array.toList_inj.1
  rw [Lib.extract_data, bytesL_list]
  congr 1; omega
theorem at_get (s : ByteArray) (n : Nat) (hn : n < s.size) : s.data.toList[n]? = some s[n] := by
  rw [List.getElem?_eq_getElem (by simpa using hn)]; rfl
/-- A token, as the program holds it. -/
def tokV (t : Tok) : Value := .agg #[.int .i8 t.kind, .string (bytesL t.text), .int .i64 t.pos, .int .i64 t.stop]
def nxtV (x : Nxt) : Value := .tuple #[tokV x.tok, .bool x.ok, .int .i64 x.err]
theorem tokV_at (k : Nat) (t : List UInt8) (n m : Nat) : tokV ⟨k, t, n, m⟩ = .agg #[.int .i8 k, .string (bytesL t), .int .i64 n, .int .i64 m] := rfl
theorem nextA_end {l : List UInt8} {n : Nat} (h : n = l.length) : nextA l n = ⟨⟨0, [], 0, 0⟩, false, 0⟩ := by unfold nextA; rw [if_pos h]
theorem nextA_bad {l : List UInt8} {n : Nat} (h : ¬ n = l.length) (h2 : tokN (l.drop n) = none) : nextA l n = ⟨⟨0, [], n, 0⟩, false, 20⟩ := by unfold nextA; rw [if_neg h, h2]
theorem nextA_ok {l : List UInt8} {n k m : Nat} {t : List UInt8} (h : ¬ n = l.length) (h2 : tokN (l.drop n) = some (k, t, m)) : nextA l n = ⟨⟨k, t, n, n + m⟩, true, 0⟩ := by unfold nextA; rw [if_neg h, h2]
theorem set4 {w : World} {b : Nat} {t : TypeId} {a0 a1 a2 a3 v0 v1 v2 v3 : Value} (h : w.heap[b]? = some (.cells #[a0, a1, a2, a3] t (0, 0))) :
    ((((w.setCell ⟨b, 0, none⟩ v0).setCell ⟨b, 1, none⟩ v1).setCell ⟨b, 2, none⟩ v2).setCell ⟨b, 3, none⟩ v3).heap[b]? = some (.cells #[v0, v1, v2, v3] t (0, 0)) := by
  simp [World.setCell, Array.getElem?_modify, h]
end Go.Proofs.YtdeobdepepjbmaaDoor
