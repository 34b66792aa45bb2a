/- Package offset's sum in memory: a step of it. -/
import Derived.Test.YtfbjgadgfjnamaaGreatDoorZTmK
import Derived.Deep.RegionHeld3
import Derived.Test.YtfbjgadgfjnamaaGreatDoorZTmM
import Derived.Test.YtfbjgadgfjnamaaGreatDoorZTmB
import Derived.BigQuiet
namespace Go.Proofs.YtfbjgadgfjnamaaGreatDoor.Tm
open Go.RowKit
set_option linter.unusedVariables false
def errB (b : Bool) : Int := if b = true then 0 else 2
theorem Check_any (l : List NodeA) (a : Option Addr) (c : Nat) (r : Int) (w : World) (hG : GT w) (hA : TabR w l a c) (hl : l.length ≤ 3000) (hr : errB (mayT l) = r) :
    Calls Tryz.prog 33 #[.agg #[.slice a l.length c]] w fun e w' => e = .returned (.int .i64 r) ∧ Below w.heap.size w w' := by
  obtain ⟨W0, hW0⟩ : ∃ W0, W0 = w.alloc (.cells #[.slice a l.length c] 33) := ⟨_, rfl⟩
  have hB0 : Below w.heap.size w W0 := by rw [hW0]; exact (Below.refl _ w).alloc (Nat.le_refl _) _
  have HI : Hid (Calls Tryz.prog 66 #[.agg #[.slice a l.length c]] W0 fun e w' => (∃ v, e = .returned (.tuple #[v, .bool (mayT l)])) ∧ Below W0.heap.size W0 w') := by
    refine (index_any l a c W0 (hG.below hB0) (hA.below hB0) hl).mono ?_
    rintro e w' ⟨hb, ⟨hm, b, rfl, _⟩ | ⟨hm, rfl⟩⟩
    · rw [hm]; exact ⟨⟨_, rfl⟩, hb⟩
    · rw [hm]; exact ⟨⟨_, rfl⟩, hb⟩
  have HB0 := Lib.hid hB0
  clear hG hA hB0
  cases hm : mayT l with
  | true =>
    rw [hm] at HI hr
    have h0 : (0 : Int) = r := hr
    subst h0
    clear hm hr
    go_enter Tryz.func33, Tryz.ntmps33
    go_wp2_with (go_at_call 66; rw [← hW0]; clear hW0; refine HI.out.mono ?_; rintro e w1 ⟨⟨v, rfl⟩, hb1⟩)
    go_ret
    exact ⟨rfl, HB0.out.trans (hb1.mono HB0.out.size)⟩
  | false =>
    rw [hm] at HI hr
    have h0 : (2 : Int) = r := hr
    subst h0
    clear hm hr
    go_enter Tryz.func33, Tryz.ntmps33
    go_wp2_with (go_at_call 66; rw [← hW0]; clear hW0; refine HI.out.mono ?_; rintro e w1 ⟨⟨v, rfl⟩, hb1⟩)
    go_ret
    exact ⟨rfl, HB0.out.trans (hb1.mono HB0.out.size)⟩
end Go.Proofs.YtfbjgadgfjnamaaGreatDoor.Tm
namespace Go.Proofs.YtfbjgadgfjnamaaGreatDoor.Tm
open Go.RowKit
set_option linter.unusedVariables false
end Go.Proofs.YtfbjgadgfjnamaaGreatDoor.Tm
namespace Go.Proofs.YtfbjgadgfjnamaaGreatDoor.Tm
open Go.RowKit
set_option linter.unusedVariables false
/-- What a node that was put has come to. -/
structure OnceP (l : List NodeA) (n : NodeA) (L : List NodeA) (k : Nat) : Prop where
  may : mayT L = true
  take : L.take l.length = l
  at_ : L[k]? = some n
  le : l.length ≤ L.length
  ge : L.length ≤ l.length + 1
  lt : k < L.length
  st : standsB n L.length = true
  fnd : fndN L n = k
end Go.Proofs.YtfbjgadgfjnamaaGreatDoor.Tm
namespace Go.Proofs.YtfbjgadgfjnamaaGreatDoor.Tm
open Go.RowKit
set_option linter.unusedVariables false
/-- All old blocks but one are as they were. -/
structure But (b : Nat) (w w' : World) : Prop where
  os : w'.os = w.os
  tape : w'.tape = w.tape
  output : w'.output = w.output
  size : w.heap.size ≤ w'.heap.size
  block : ∀ k, k < w.heap.size → k ≠ b → w'.heap[k]? = w.heap[k]?
theorem But.refl (b : Nat) (w : World) : But b w w := ⟨rfl, rfl, rfl, Nat.le_refl _, fun _ _ _ => rfl⟩
theorem But.of {b : Nat} {w w' : World} (h : Below w.heap.size w w') : But b w w' := ⟨h.os, h.tape, h.output, h.size, fun k hk _ => h.block k hk⟩
theorem But.trans {b : Nat} {u v w : World} (h : But b u v) (k : But b v w) : But b u w :=
  ⟨k.os.trans h.os, k.tape.trans h.tape, k.output.trans h.output, Nat.le_trans h.size k.size, fun i hi hb => (k.block i (Nat.lt_of_lt_of_le hi h.size) hb).trans (h.block i hi hb)⟩
theorem But.set {b o : Nat} {u w : World} {v : Value} (h : But b u w) : But b u (w.setCell ⟨b, o, none⟩ v) :=
  ⟨h.os, h.tape, h.output, by simpa using h.size, fun i hi hb => (Below.heap_setCell _ _ _ _ hb).trans (h.block i hi hb)⟩
theorem But.alloc {b : Nat} {u w : World} (h : But b u w) (o : Obj) : But b u (w.alloc o) :=
  ⟨h.os, h.tape, h.output, by simpa using Nat.le_succ_of_le h.size, fun i hi hb => (Below.heap_alloc _ _ _ (Nat.lt_of_lt_of_le hi h.size)).trans (h.block i hi hb)⟩
theorem But.drew {b : Nat} {u w : World} (h : But b u w) : But b u w.drew := ⟨h.os, h.tape, h.output, h.size, h.block⟩
/-- What is below b is as it was. -/
theorem But.below {b : Nat} {u w w' : World} (hb : Below b u w) (h : But b w w') (hs : b ≤ u.heap.size) : Below b u w' :=
  ⟨h.os.trans hb.os, h.tape.trans hb.tape, h.output.trans hb.output, Nat.le_trans hb.size h.size, fun k hk => (h.block k (Nat.lt_of_lt_of_le (Nat.lt_of_lt_of_le hk hs) hb.size) (by omega)).trans (hb.block k hk)⟩
end Go.Proofs.YtfbjgadgfjnamaaGreatDoor.Tm
