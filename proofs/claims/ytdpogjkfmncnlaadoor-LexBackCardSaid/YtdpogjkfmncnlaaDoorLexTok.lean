/- The method token of package lex's places. -/
import Derived.Test.YtdpogjkfmncnlaaDoorLexNum
import Derived.Lib.Strings
import Derived.Laws.EntriesVeiled
namespace Go.Proofs.YtdpogjkfmncnlaaDoor
open Go.RowKit
def readersV : Value := .agg #[.func (.func 25) #[] #[], .func (.func 25) #[] #[], .func (.func 26) #[] #[], .func (.func 27) #[] #[], .func (.func 28) #[] #[]]
theorem readers_any (w : World) :
    Calls Tryd.prog 22 #[] w fun e w' => e = .returned (readersV) ∧ Below w.heap.size w w' := by
  go_enter Tryd.func22, Tryd.ntmps22
  go_wp2
  exact bodyPost_ret (v := readersV) (by simp [results, Tryd.results22, go_sem, readersV]) rfl ⟨rfl, (Below.refl _ _).alloc (Nat.le_refl _) _⟩
end Go.Proofs.YtdpogjkfmncnlaaDoor
