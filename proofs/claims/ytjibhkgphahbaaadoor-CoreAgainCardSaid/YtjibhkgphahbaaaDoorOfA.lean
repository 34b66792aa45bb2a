/- Put in its cases; what a node that was put has come to. -/
import Derived.Test.YtjibhkgphahbaaaDoorTmK
import Derived.Deep.RegionHeld3
import Derived.Test.YtjibhkgphahbaaaDoorTmM
namespace Go.Proofs.YtjibhkgphahbaaaDoor.Tm
open Go.RowKit
set_option linter.unusedVariables false
def errB (b : Bool) : Int := if b = true then 0 else 2
theorem Check_any (l : List NodeA) (a : Option Addr) (c : Nat) (r : Int) (w : World) (hG : GT w) (hA : TabR w l a c) (hl : l.length ≤ 3000) (hr : errB (mayT l) = r) :
    Calls Tryd.prog 14 #[.agg #[.slice a l.length c]] w fun e w' => e = .returned (.int .i64 r) ∧ Below w.heap.size w w' := by
  obtain ⟨W0, hW0⟩ : ∃ W0, W0 = w.alloc (.cells #[.slice a l.length c] 24) := ⟨_, rfl⟩
  have hB0 : Below w.heap.size w W0 := by rw [hW0]; exact (Below.refl _ w).alloc (Nat.le_refl _) _
  have HI : Hid (Calls Tryd.prog 29 #[.agg #[.slice a l.length c]] W0 fun e w' => (∃ v, e = .returned (.tuple #[v, .bool (mayT l)])) ∧ Below W0.heap.size W0 w') := by
    refine (index_any l a c W0 (hG.below hB0) (hA.below hB0) hl).mono ?_
    rintro e w' ⟨hb, ⟨hm, b, rfl, _⟩ | ⟨hm, rfl⟩⟩
    · rw [hm]; exact ⟨⟨_, rfl⟩, hb⟩
    · rw [hm]; exact ⟨⟨_, rfl⟩, hb⟩
  have HB0 := Lib.hid hB0
  clear hG hA hB0
  cases hm : mayT l with
  | true =>
    rw [hm] at HI hr
    have h0 : (0 : Int) = r := hr
    subst h0
    clear hm hr
    go_enter Tryd.func14, Tryd.ntmps14
    go_wp2_with (go_at_call 29; rw [← hW0]; clear hW0; refine HI.out.mono ?_; rintro e w1 ⟨⟨v, rfl⟩, hb1⟩)
    go_ret
    exact ⟨rfl, HB0.out.trans (hb1.mono HB0.out.size)⟩
  | false =>
    rw [hm] at HI hr
    have h0 : (2 : Int) = r := hr
    subst h0
    clear hm hr
    go_enter Tryd.func14, Tryd.ntmps14
    go_wp2_with (go_at_call 29; rw [← hW0]; clear hW0; refine HI.out.mono ?_; rintro e w1 ⟨⟨v, rfl⟩, hb1⟩)
    go_ret
    exact ⟨rfl, HB0.out.trans (hb1.mono HB0.out.size)⟩
/-- What Cut answers of a table that may be, and a number of its nodes that may be. -/
def CutPost (w : World) (l : List NodeA) (n : Nat) (e : Ending) (w' : World) : Prop := ∃ L a c, L = l.take n ∧ e = .returned (.tuple #[.agg #[.slice a L.length c], .int .i64 0]) ∧ TabR w' L a c ∧ Below w.heap.size w w'
end Go.Proofs.YtjibhkgphahbaaaDoor.Tm
namespace Go.Proofs.YtjibhkgphahbaaaDoor.Tm
open Go.RowKit
set_option linter.unusedVariables false
/-- What Put answers. -/
def PutPost (w : World) (l : List NodeA) (n : NodeA) (most : Int) (e : Ending) (w' : World) : Prop :=
  Below w.heap.size w w' ∧
  ((¬ (mayT l = true ∧ standsB n l.length = true) ∧ e = .returned (.tuple #[.agg #[.slice none 0 0], .int .i64 0, .int .i64 2])) ∨
   (mayT l = true ∧ standsB n l.length = true ∧ n ∈ l ∧ ∃ a c, e = .returned (.tuple #[.agg #[.slice a l.length c], .int .i64 (fndN l n), .int .i64 0]) ∧ TabR w' l a c) ∨
   (mayT l = true ∧ standsB n l.length = true ∧ n ∉ l ∧ most ≤ l.length ∧ e = .returned (.tuple #[.agg #[.slice none 0 0], .int .i64 0, .int .i64 40])) ∨
   (mayT l = true ∧ standsB n l.length = true ∧ n ∉ l ∧ (l.length : Int) < most ∧ ∃ L a c, L = l ++ [n] ∧ e = .returned (.tuple #[.agg #[.slice a L.length c], .int .i64 l.length, .int .i64 0]) ∧ TabR w' L a c))
theorem node_news {w : World} {n : NodeA} {b : Nat} {ty : TypeId} (h : w.heap[b]? = some (.cells #[.int .i8 n.op, .int .i8 n.len, .int .i64 n.a0, .int .i64 n.a1, .int .i64 n.a2, .int .i64 n.sort, .int .i64 n.fn, .int .i64 n.num] ty (0, 0))) : ∀ j u, (nodeC n)[j]? = some u → w.cell? ((⟨b, 0, none⟩ : Addr).add j) = some u := fun j u hu => by
  rw [Addr.add_lit, Nat.zero_add, cell_of_row w b j _ _ _ h, ← Array.getElem?_toList]
  exact hu
end Go.Proofs.YtjibhkgphahbaaaDoor.Tm
namespace Go.Proofs.YtjibhkgphahbaaaDoor.Tm
open Go.RowKit
set_option linter.unusedVariables false
/-- What a node that was put has come to. -/
structure OnceP (l : List NodeA) (n : NodeA) (L : List NodeA) (k : Nat) : Prop where
  may : mayT L = true
  take : L.take l.length = l
  at_ : L[k]? = some n
  le : l.length ≤ L.length
  ge : L.length ≤ l.length + 1
  lt : k < L.length
  st : standsB n L.length = true
  fnd : fndN L n = k
theorem once_there {l : List NodeA} {n : NodeA} (hm : mayT l = true) (hs : standsB n l.length = true) (hi : n ∈ l) : OnceP l n l (fndN l n) :=
  ⟨hm, by simp, fndN_get hi, Nat.le_refl _, by omega, fndN_lt.1 hi, hs, rfl⟩
theorem once_new {l : List NodeA} {n : NodeA} (hm : mayT l = true) (hs : standsB n l.length = true) (hi : n ∉ l) : OnceP l n (l ++ [n]) l.length := by
  have hm2 := mayT_snoc hm hs hi
  have hg : (l ++ [n])[l.length]? = some n := by simp
  exact ⟨hm2, by simp, hg, by simp, by simp, by simp, stands_more hs (by simp), fndN_uni (mayT_ok hm2).2 hg⟩
end Go.Proofs.YtjibhkgphahbaaaDoor.Tm
