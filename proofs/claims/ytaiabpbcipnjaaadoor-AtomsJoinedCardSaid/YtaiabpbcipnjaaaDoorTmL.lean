/- Package term's Check, Same, Cut. -/
import Derived.Test.YtaiabpbcipnjaaaDoorTmK
namespace Go.Proofs.YtaiabpbcipnjaaaDoor.Tm
open Go.RowKit
set_option linter.unusedVariables false
def errB (b : Bool) : Int := if b = true then 0 else 2
theorem Check_any (l : List NodeA) (a : Option Addr) (c : Nat) (r : Int) (w : World) (hG : GT w) (hA : TabR w l a c) (hl : l.length ≤ 3000) (hr : errB (mayT l) = r) :
    Calls Tryd.prog 20 #[.agg #[.slice a l.length c]] w fun e w' => e = .returned (.int .i64 r) ∧ Below w.heap.size w w' := by
  obtain ⟨W0, hW0⟩ : ∃ W0, W0 = w.alloc (.cells #[.slice a l.length c] 24) := ⟨_, rfl⟩
  have hB0 : Below w.heap.size w W0 := by rw [hW0]; exact (Below.refl _ w).alloc (Nat.le_refl _) _
  have HI : Hid (Calls Tryd.prog 36 #[.agg #[.slice a l.length c]] W0 fun e w' => (∃ v, e = .returned (.tuple #[v, .bool (mayT l)])) ∧ Below W0.heap.size W0 w') := by
    refine (index_any l a c W0 (hG.below hB0) (hA.below hB0) hl).mono ?_
    rintro e w' ⟨hb, ⟨hm, b, rfl, _⟩ | ⟨hm, rfl⟩⟩
    · rw [hm]; exact ⟨⟨_, rfl⟩, hb⟩
    · rw [hm]; exact ⟨⟨_, rfl⟩, hb⟩
  have HB0 := Lib.hid hB0
  clear hG hA hB0
  cases hm : mayT l with
  | true =>
    rw [hm] at HI hr
    have h0 : (0 : Int) = r := hr
    subst h0
    clear hm hr
    go_enter Tryd.func20, Tryd.ntmps20
    go_wp2_with (go_at_call 36; rw [← hW0]; clear hW0; refine HI.out.mono ?_; rintro e w1 ⟨⟨v, rfl⟩, hb1⟩)
    go_ret
    exact ⟨rfl, HB0.out.trans (hb1.mono HB0.out.size)⟩
  | false =>
    rw [hm] at HI hr
    have h0 : (2 : Int) = r := hr
    subst h0
    clear hm hr
    go_enter Tryd.func20, Tryd.ntmps20
    go_wp2_with (go_at_call 36; rw [← hW0]; clear hW0; refine HI.out.mono ?_; rintro e w1 ⟨⟨v, rfl⟩, hb1⟩)
    go_ret
    exact ⟨rfl, HB0.out.trans (hb1.mono HB0.out.size)⟩
/-- What Cut answers of a table that may be, and a number of its nodes that may be. -/
def CutPost (w : World) (l : List NodeA) (n : Nat) (e : Ending) (w' : World) : Prop := ∃ L a c, L = l.take n ∧ e = .returned (.tuple #[.agg #[.slice a L.length c], .int .i64 0]) ∧ TabR w' L a c ∧ Below w.heap.size w w'
end Go.Proofs.YtaiabpbcipnjaaaDoor.Tm
