/- The names that are there, as a set; the iterator over them. -/
import Derived.Test.YtfhcmhlbidjjgaaDoorSgD
import Derived.Maps.OwnSet
import Derived.Maps.OwnIn
import Derived.DeepKeys4
import Derived.RangeFuncNested
import Derived.RangeFuncLeaves
import Derived.Shelf.Abstract
import Derived.OwnWalkIn
import Derived.TacticsInMore
import Derived.LoopNIn
import Derived.LoopIn
import Derived.WalkKit
namespace Go.Proofs.YtfhcmhlbidjjgaaDoor
open Go.RowKit Go.Shelf
open Go.Maps (Keyed)
set_option linter.unusedVariables false
attribute [local go_sem] Oper.semAt_some
abbrev Nm := ByteArray × Bool
abbrev NmS := { y : Nm // y.1.size ≤ maxLen }
theorem laidOut : laidOutB Tryd.prog = true := by kernel_rfl
theorem rowKn : (111 : TypeId) < Tryd.prog.types.size := of_decide_eq_true (by kernel_rfl)
theorem lawKn0 : WideMaps.KeyLaw Tryd.prog 111 := deep_law_laid laidOut (m := 3) (by omega) rowKn (by kernel_rfl) (by rw [Tryd.underlying111])
theorem lawKn : Keyed Tryd.prog 111 := .of_law lawKn0
theorem keyKn : Tryd.prog.keyType 111 = true := by kernel_rfl
theorem cellsKn : Tryd.prog.cellsOf 111 = 2 := by kernel_rfl
theorem cellsSt : Tryd.prog.cellsOf 9 = 1 := by kernel_rfl
theorem cellsBo : Tryd.prog.cellsOf 4 = 1 := by kernel_rfl
theorem two_le : (1 : Nat) < Tryd.prog.types.size := of_decide_eq_true (by kernel_rfl)
theorem sizeTy : ∃ m, Tryd.prog.types.size = m + 2 := ⟨_, (Nat.sub_add_cancel two_le).symm⟩
def kl (y : Nm) : Lit := .string (keyBytes [.string y.1.data.toList, .bool y.2])
theorem litS (m : Nat) (s : ByteArray) (hs : s.size ≤ maxLen) : Tryd.prog.keyLits (m + 1) 9 [.string s] = some [.string s.data.toList] := by
  unfold Program.keyLits
  rw [Tryd.underlying9]
  simp [hs]
theorem litB (m : Nat) (b : Bool) : Tryd.prog.keyLits (m + 1) 4 [.bool b] = some [.bool b] := by
  unfold Program.keyLits
  rw [Tryd.underlying4]
theorem litK (m : Nat) (s : ByteArray) (b : Bool) (hs : s.size ≤ maxLen) : Tryd.prog.keyLits (m + 2) 111 [.string s, .bool b] = some [.string s.data.toList, .bool b] := by
  unfold Program.keyLits
  rw [Tryd.underlying111, cellsKn]
  simp only [List.length_cons, List.length_nil, List.mapM_cons, List.mapM_nil, cellsSt, cellsBo, List.drop_zero, List.take_succ_cons, List.take_zero, List.drop_succ_cons, litS m s hs, litB m b]
  simp
theorem key_is (s : ByteArray) (b : Bool) (hs : s.size ≤ maxLen) : keyOf Tryd.prog 111 (.agg #[.string s, .bool b]) = some (kl (s, b)) := by
  obtain ⟨m, hm⟩ := sizeTy
  unfold keyOf
  rw [Tryd.underlying111]
  have hf : (Value.agg #[.string s, .bool b]).formed Tryd.prog 111 = true := by
    unfold Value.formed
    rw [Tryd.underlying111, cellsKn]
    rfl
  have hc : (Value.agg #[.string s, .bool b]).cells.toList = [.string s, .bool b] := rfl
  simp only [keyKn, hf, Bool.true_and, if_true, hc]
  rw [hm, litK (m + 1) s b hs]
  rfl
end Go.Proofs.YtfhcmhlbidjjgaaDoor
