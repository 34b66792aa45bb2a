/- The method token of package lex's places. -/
import Derived.Test.YthbgigjjmojgfaaDoorLexNum
import Derived.Lib.Strings
import Derived.Laws.EntriesVeiled
namespace Go.Proofs.YthbgigjjmojgfaaDoor
open Go.RowKit
def readersV : Value := .agg #[.func (.func 74) #[] #[], .func (.func 74) #[] #[], .func (.func 75) #[] #[], .func (.func 76) #[] #[], .func (.func 77) #[] #[]]
theorem readers_any (w : World) :
    Calls Tryd.prog 57 #[] w fun e w' => e = .returned (readersV) ∧ Below w.heap.size w w' := by
  go_enter Tryd.func57, Tryd.ntmps57
  go_wp2
  exact bodyPost_ret (v := readersV) (by simp [results, Tryd.results57, go_sem, readersV]) rfl ⟨rfl, (Below.refl _ _).alloc (Nat.le_refl _) _⟩
end Go.Proofs.YthbgigjjmojgfaaDoor
