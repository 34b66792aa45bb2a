/- Package sig's Free. -/
import Derived.Test.YtfhcmhlbidjjgaaDoorSgH
namespace Go.Proofs.YtfhcmhlbidjjgaaDoor
open Go.RowKit Go.Shelf
set_option linter.unusedVariables false
attribute [local go_sem] Oper.semAt_some
def NfI (w : World) (pre : List NmS) (W : World) : Prop :=
  Boxed W (w.heap.size + 1 + 1) 106 (.map (some (w.heap.size + 1))) ∧ SetM W (w.heap.size + 1) (pre.map (·.1)) ∧ Below w.heap.size w W ∧ w.heap.size + 4 ≤ W.heap.size
theorem NfI_own (w : World) (D : Nat) (hD : w.heap.size + 4 ≤ D) : OwnFrom D (NfI w) := by
  rintro pre A B row ⟨h2, h3, h5, h6⟩ hg hr
  exact ⟨boxed_from h2 hg hr (by omega), SetM.kept h3 hg (fun e => by have := (hr _ e.symm).1; omega), h5.grown hg h5.size (fun k e => by have := (hr k e).1; omega), Nat.le_trans h6 hg.size⟩
def NfA (x : SigV) (s : ByteArray) (b : Bool) (w : World) (y : NmS) (a : Act) (W : World) : Prop :=
  ∃ Bx, w.heap.size + 4 ≤ Bx ∧ W.heap[Bx]? = some (.cells #[.string y.1.1, .bool y.1.2] 111 (0, 0)) ∧ a = { tmps := #[.agg #[.slice x.sa x.sorts.length x.sc, .slice x.fa x.funs.length x.fc, .slice x.ma x.macs.length x.mc], .string s, .bool b, .pointer (some ⟨w.heap.size, 0, none⟩), undef, undef, .int .i64 0, .pointer (some ⟨w.heap.size + 1 + 1, 0, none⟩), .pointer (some ⟨Bx, 0, none⟩), .map (some (w.heap.size + 1)), .agg #[.slice x.sa x.sorts.length x.sc, .slice x.fa x.funs.length x.fc, .slice x.ma x.macs.length x.mc], .func (.func 50) #[] #[.pointer (some ⟨w.heap.size + 1 + 1 + 1, 0, none⟩)], .agg #[.string y.1.1, .bool y.1.2], undef, undef, undef, undef, undef, undef, undef, undef], defers := [] }
theorem NfA_own (x : SigV) (s : ByteArray) (b : Bool) (w : World) (y : NmS) (a : Act) (D : Nat) : OwnFrom D (fun (_ : Unit) W => NfA x s b w y a W) := by
  rintro _ A B row ⟨Bx, hB, hb, ha⟩ hg hr
  refine ⟨Bx, hB, (hg.block Bx (Array.getElem?_eq_some_iff.1 hb).1 (fun e => ?_)).trans hb, ha⟩
  obtain ⟨_, o, ho, hc⟩ := hr Bx e.symm
  rw [hb] at ho; cases ho; cases hc
end Go.Proofs.YtfhcmhlbidjjgaaDoor
