/- Package term's Put. -/
import Derived.Test.YtaiabpbcipnjaaaDoorTmL
import Derived.Deep.RegionHeld3
namespace Go.Proofs.YtaiabpbcipnjaaaDoor.Tm
open Go.RowKit
set_option linter.unusedVariables false
/-- What Put answers. -/
def PutPost (w : World) (l : List NodeA) (n : NodeA) (most : Int) (e : Ending) (w' : World) : Prop :=
  Below w.heap.size w w' ∧
  ((¬ (mayT l = true ∧ standsB n l.length = true) ∧ e = .returned (.tuple #[.agg #[.slice none 0 0], .int .i64 0, .int .i64 2])) ∨
   (mayT l = true ∧ standsB n l.length = true ∧ n ∈ l ∧ ∃ a c, e = .returned (.tuple #[.agg #[.slice a l.length c], .int .i64 (fndN l n), .int .i64 0]) ∧ TabR w' l a c) ∨
   (mayT l = true ∧ standsB n l.length = true ∧ n ∉ l ∧ most ≤ l.length ∧ e = .returned (.tuple #[.agg #[.slice none 0 0], .int .i64 0, .int .i64 40])) ∨
   (mayT l = true ∧ standsB n l.length = true ∧ n ∉ l ∧ (l.length : Int) < most ∧ ∃ L a c, L = l ++ [n] ∧ e = .returned (.tuple #[.agg #[.slice a L.length c], .int .i64 l.length, .int .i64 0]) ∧ TabR w' L a c))
theorem node_news {w : World} {n : NodeA} {b : Nat} {ty : TypeId} (h : w.heap[b]? = some (.cells #[.int .i8 n.op, .int .i8 n.len, .int .i64 n.a0, .int .i64 n.a1, .int .i64 n.a2, .int .i64 n.sort, .int .i64 n.fn, .int .i64 n.num] ty (0, 0))) : ∀ j u, (nodeC n)[j]? = some u → w.cell? ((⟨b, 0, none⟩ : Addr).add j) = some u := fun j u hu => by
  rw [Addr.add_lit, Nat.zero_add, cell_of_row w b j _ _ _ h, ← Array.getElem?_toList]
  exact hu
end Go.Proofs.YtaiabpbcipnjaaaDoor.Tm
