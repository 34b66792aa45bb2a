/- Core: Of, walked. -/
import Derived.Test.YtpppfghdjbmbgaaGreatDoorZCoR
import Derived.Laws.CopyOwn
import Derived.Laws.MakeOwn
import Derived.Laws.EntriesVeiled
import Derived.Deep.RegionHeld3
import Derived.Test.YtpppfghdjbmbgaaGreatDoorZOfJ
import Derived.Deep.AppendLies
namespace Go.Proofs.YtpppfghdjbmbgaaGreatDoor.Tm
open Go.RowKit
set_option linter.unusedVariables false
def badP (N : Nat) (x : Int) : Bool := if x < 0 then true else decide ((N : Int) ≤ x)
end Go.Proofs.YtpppfghdjbmbgaaGreatDoor.Tm
namespace Go.Proofs.YtpppfghdjbmbgaaGreatDoor.Tm
open Go.RowKit
set_option linter.unusedVariables false
end Go.Proofs.YtpppfghdjbmbgaaGreatDoor.Tm
namespace Go.Proofs.YtpppfghdjbmbgaaGreatDoor.Tm
open Go.RowKit
set_option linter.unusedVariables false
theorem below_set {n b i : Nat} {w V : World} {v : Value} (h : Below n w V) (hb : n ≤ b) : Below n w (V.setCell ⟨b, i, none⟩ v) := h.setCell (p := ⟨b, i, none⟩) hb v
end Go.Proofs.YtpppfghdjbmbgaaGreatDoor.Tm
namespace Go.Proofs.YtpppfghdjbmbgaaGreatDoor.Tm
open Go.RowKit
set_option linter.unusedVariables false
end Go.Proofs.YtpppfghdjbmbgaaGreatDoor.Tm
namespace Go.Proofs.YtpppfghdjbmbgaaGreatDoor.Tm
open Go.RowKit
set_option linter.unusedVariables false
end Go.Proofs.YtpppfghdjbmbgaaGreatDoor.Tm
namespace Go.Proofs.YtpppfghdjbmbgaaGreatDoor.Tm
open Go.RowKit
set_option linter.unusedVariables false
end Go.Proofs.YtpppfghdjbmbgaaGreatDoor.Tm
namespace Go.Proofs.YtpppfghdjbmbgaaGreatDoor.Tm
open Go.RowKit
set_option linter.unusedVariables false
theorem res_cell3 {P : Program} {fn : Func} {p u v : Tmp} {ty : TypeId} (h : fn.results = #[.cell p ty, .tmp u, .tmp v]) (tmps : Array Value) (w : World) (g : Nat) (t : TypeId) (cs : Array Value) (fr : Nat × Nat) (d : TypeDesc)
    (hp : tmps.getD p undef = .pointer (some ⟨g, 0, none⟩)) (hg : w.heap[g]? = some (.cells cs t fr))
    (hu : P.underlying ty = some d) (hd : (match d with | .struct _ | .array _ _ => true | _ => false) = true) (hi : (P.info? ty).map (·.size) = some cs.size) :
    (results fn tmps).run P w = .ok (.tuple #[.agg cs, tmps.getD u undef, tmps.getD v undef]) w := by
  have hp' : tmps[p]?.getD undef = .pointer (some ⟨g, 0, none⟩) := by simpa using hp
  simp [results, h, hp', asAddr, run_loadVar_row w g t ty cs fr d hg hu hd hi]
theorem tabSize1 : (Tryz.prog.info? 33).map (·.size) = some 1 := by kernel_rfl
theorem setOne {w : World} {b : Nat} {t : TypeId} {z v : Value} (h : w.heap[b]? = some (.cells #[z] t (0, 0))) : (w.setCell ⟨b, 0, none⟩ v).heap[b]? = some (.cells #[v] t (0, 0)) := by
  simp [World.setCell, Array.getElem?_modify, h]
/-- Why Of answers an error. -/
def OfErr (Q : MkS → List Int → Prop) (most : Int) (l : List NodeA) (roots : List Int) (err : Int) : Prop :=
  (err = 2 ∧ (mayT l = false ∨ roots.any (badP l.length) = true)) ∨ (err = 33 ∧ mayT l = true ∧ l.any (badS l) = true) ∨ (∃ s', err = s'.e ∧ MkI s' ∧ FailP Q most l s')
/-- The images of the first roots, each told at its time. -/
def ImsP (Q : MkS → List Int → Prop) (l : List NodeA) (roots : List Int) (s : MkS) (ims : List Int) : Prop :=
  ∀ (j : Nat) (x r : Int), ims[j]? = some x → roots[j]? = some r → ∃ (s0 : MkS) (im0 : List Int), WkS Q l s0 im0 ∧ imA im0 r = x ∧ ¬ x = -1 ∧ Pre s0 s
theorem ImsP.up {Q : MkS → List Int → Prop} {l : List NodeA} {roots : List Int} {s s' : MkS} {ims : List Int} (h : ImsP Q l roots s ims) (hp : Pre s s') : ImsP Q l roots s' ims := fun j x r hx hr => by
  obtain ⟨s0, im0, h1, h2, h3, h4⟩ := h j x r hx hr
  exact ⟨s0, im0, h1, h2, h3, h4.trans hp⟩
theorem ImsP.pl {Q : MkS → List Int → Prop} {l : List NodeA} {roots : List Int} {s : MkS} {ims : List Int} (h : ImsP Q l roots s ims) {j : Nat} {x r : Int} (hx : ims[j]? = some x) (hr : roots[j]? = some r) : PlA s x := by
  obtain ⟨s0, im0, h1, h2, h3, h4⟩ := h j x r hx hr
  rw [← h2] at h3 ⊢
  exact (h1.imp.at h3).up h4
theorem WkS.less {Q Q' : MkS → List Int → Prop} {l : List NodeA} {s : MkS} {im : List Int} (h : WkS Q l s im) (hq : Q' s im) : WkS Q' l s im := ⟨hq, h.inv, h.ok, h.imp, h.len⟩
end Go.Proofs.YtpppfghdjbmbgaaGreatDoor.Tm
namespace Go.Proofs.YtpppfghdjbmbgaaGreatDoor.Tm
open Go.RowKit
set_option linter.unusedVariables false
theorem stands_in {l : List NodeA} {k : Nat} {n : NodeA} (h : okFrom [] l = true) (hk : l[k]? = some n) : InA l n := by
  have hlt := (List.getElem?_eq_some_iff.1 hk).1
  have h2 := (ok_at h hk).1
  unfold standsB at h2
  rw [decide_eq_true_eq] at h2
  have h4 := (stands_iff n k).1 h2
  refine ⟨h4.1.2.2.1, h4.1.2.2.2, fun j hj => ?_⟩
  have h5 := (h4.2.1 j (by have := h4.1.2.2.2; omega)).1 hj
  omega
end Go.Proofs.YtpppfghdjbmbgaaGreatDoor.Tm
