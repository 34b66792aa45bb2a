/- Core: Of. -/
import Derived.Test.YtjibhkgphahbaaaDoorCoT
import Derived.Test.YtjibhkgphahbaaaDoorCoY
import Derived.Test.YtjibhkgphahbaaaDoorCoL
import Derived.Test.YtjibhkgphahbaaaDoorOfA
import Derived.Deep.AppendLies
namespace Go.Proofs.YtjibhkgphahbaaaDoor.Tm
open Go.RowKit
set_option linter.unusedVariables false
theorem res_cell3 {P : Program} {fn : Func} {p u v : Tmp} {ty : TypeId} (h : fn.results = #[.cell p ty, .tmp u, .tmp v]) (tmps : Array Value) (w : World) (g : Nat) (t : TypeId) (cs : Array Value) (fr : Nat × Nat) (d : TypeDesc)
    (hp : tmps.getD p undef = .pointer (some ⟨g, 0, none⟩)) (hg : w.heap[g]? = some (.cells cs t fr))
    (hu : P.underlying ty = some d) (hd : (match d with | .struct _ | .array _ _ => true | _ => false) = true) (hi : (P.info? ty).map (·.size) = some cs.size) :
    (results fn tmps).run P w = .ok (.tuple #[.agg cs, tmps.getD u undef, tmps.getD v undef]) w := by
  have hp' : tmps[p]?.getD undef = .pointer (some ⟨g, 0, none⟩) := by simpa using hp
  simp [results, h, hp', asAddr, run_loadVar_row w g t ty cs fr d hg hu hd hi]
theorem tabSize1 : (Tryd.prog.info? 24).map (·.size) = some 1 := by kernel_rfl
theorem setOne {w : World} {b : Nat} {t : TypeId} {z v : Value} (h : w.heap[b]? = some (.cells #[z] t (0, 0))) : (w.setCell ⟨b, 0, none⟩ v).heap[b]? = some (.cells #[v] t (0, 0)) := by
  simp [World.setCell, Array.getElem?_modify, h]
/-- Why Of answers an error. -/
def OfErr (Q : MkS → List Int → Prop) (most : Int) (l : List NodeA) (roots : List Int) (err : Int) : Prop :=
  (err = 2 ∧ (mayT l = false ∨ roots.any (badP l.length) = true)) ∨ (err = 33 ∧ mayT l = true ∧ l.any (badS l) = true) ∨ (∃ s', err = s'.e ∧ MkI s' ∧ FailP Q most l s')
/-- The images of the first roots, each told at its time. -/
def ImsP (Q : MkS → List Int → Prop) (l : List NodeA) (roots : List Int) (s : MkS) (ims : List Int) : Prop :=
  ∀ (j : Nat) (x r : Int), ims[j]? = some x → roots[j]? = some r → ∃ (s0 : MkS) (im0 : List Int), WkS Q l s0 im0 ∧ imA im0 r = x ∧ ¬ x = -1 ∧ Pre s0 s
theorem ImsP.up {Q : MkS → List Int → Prop} {l : List NodeA} {roots : List Int} {s s' : MkS} {ims : List Int} (h : ImsP Q l roots s ims) (hp : Pre s s') : ImsP Q l roots s' ims := fun j x r hx hr => by
  obtain ⟨s0, im0, h1, h2, h3, h4⟩ := h j x r hx hr
  exact ⟨s0, im0, h1, h2, h3, h4.trans hp⟩
theorem ImsP.pl {Q : MkS → List Int → Prop} {l : List NodeA} {roots : List Int} {s : MkS} {ims : List Int} (h : ImsP Q l roots s ims) {j : Nat} {x r : Int} (hx : ims[j]? = some x) (hr : roots[j]? = some r) : PlA s x := by
  obtain ⟨s0, im0, h1, h2, h3, h4⟩ := h j x r hx hr
  rw [← h2] at h3 ⊢
  exact (h1.imp.at h3).up h4
def OfPost (Q : MkS → List Int → Prop) (most : Int) (l : List NodeA) (roots : List Int) (w : World) (e : Ending) (w' : World) : Prop :=
  Below w.heap.size w w' ∧ ((∃ err : Int, e = .returned (.tuple #[.agg #[.slice none 0 0], .slice none 0 0, .int .i64 err]) ∧ ¬ err = 0 ∧ OfErr Q most l roots err) ∨
    (∃ (s : MkS) (im ims : List Int) (a : Option Addr) (c : Nat) (b : Option Addr) (d : Nat), e = .returned (.tuple #[.agg #[.slice a s.l.length c], .slice b ims.length d, .int .i64 0]) ∧ TabR w' s.l a c ∧ IntsR w' ims b d ∧ WkS Q l s im ∧ ImsP Q l roots s ims ∧ ims.length = roots.length))
/-- Between two rounds of Of's loop. -/
structure OfR (Q : MkS → List Int → Prop) (w wr : World) (P : Nat → Prop) (X I M : Nat) (most : Int) (l : List NodeA) (a : Option Addr) (c : Nat) (roots : List Int) (s : MkS) (im ims : List Int) (v : Value) (R : Nat → Prop) : Prop where
  sub : ∀ k, P k → R k
  rg : ∀ g, v.ownBlock = some g → R g ∧ w.heap.size ≤ g
  mr : MkR wr R M most s
  wk : WkR wr X I M l a c im
  kp : Kp (fun k => P k ∧ k ≠ I) w wr
  row : wr.ownsRow w.heap.size 3 1 v ims.length (ims.map (Value.int .i64))
  wks : WkS Q l s im
  imp : ImsP Q l roots s ims
theorem WkS.less {Q Q' : MkS → List Int → Prop} {l : List NodeA} {s : MkS} {im : List Int} (h : WkS Q l s im) (hq : Q' s im) : WkS Q' l s im := ⟨hq, h.inv, h.ok, h.imp, h.len⟩
theorem step_pre {Q : MkS → List Int → Prop} {most : Int} {l : List NodeA} {s0 : MkS} (hQ : StepQ Q most l) (hm : most ≤ 2000) (hok : ∀ n ∈ l, NodeOk n) (hst : ∀ (k : Nat) (n : NodeA), l[k]? = some n → standsB n k = true) : StepQ (fun s im => Q s im ∧ Pre s0 s) most l := fun s im k n hw hk ha he => by
  have hw' : WkS Q l s im := hw.less hw.q.1
  obtain ⟨ho, _⟩ := step_wks hQ hw' hk ha hm (hok n (List.mem_of_getElem? hk)) (hst k n hk)
  exact ⟨hQ s im k n hw' hk ha he, hw.q.2.trans ho.pre⟩
theorem fail_less {Q : MkS → List Int → Prop} {most : Int} {l : List NodeA} {s0 s' : MkS} (h : FailP (fun s im => Q s im ∧ Pre s0 s) most l s') : FailP Q most l s' := by
  obtain ⟨h0, s, im, k, n, hw, h1, h2, h3⟩ := h
  exact ⟨h0, s, im, k, n, hw.less hw.q.1, h1, h2, h3⟩
/-- The next image is put behind. -/
theorem OfR.push {Q : MkS → List Int → Prop} {w w1 w9 : World} {P : Nat → Prop} {B0 X I M : Nat} {most : Int} {l : List NodeA} {a : Option Addr} {c : Nat} {roots : List Int} {s : MkS} {im ims : List Int} {v : Value} {R : Nat → Prop} (h : OfR Q w w1 P X I M most l a c roots s im ims v R) (hP : PkR w P B0 X I l a c) (hPl : ∀ k, P k → k < w.heap.size) (hB : B0 ≤ w.heap.size) (hI : B0 ≤ I) {o : Obj} {g9 c9 : Nat} {y : Int}
    (hrow : w9.ownsRow w.heap.size 3 1 (.slice (some ⟨g9, 0, none⟩) (ims.length + 1) c9) (ims.length + 1) (ims.map (Value.int .i64) ++ [.int .i64 y])) (hgr : (w1.alloc o).grownBy w9 v.ownBlock) (hat : v.ownBlock = some g9 ∨ g9 = w1.heap.size + 1) (hlt : g9 < w9.heap.size) (hq : ImsP Q l roots s (ims ++ [y])) :
    OfR Q w w9 P X I M most l a c roots s im (ims ++ [y]) (.slice (some ⟨g9, 0, none⟩) (ims.length + 1) c9) (fun k => R k ∨ k = g9) := by
  have hsz : (w1.alloc o).heap.size = w1.heap.size + 1 := by simp
  have hs9 := hgr.size
  have hblk : ∀ k, k < w1.heap.size → v.ownBlock ≠ some k → w9.heap[k]? = w1.heap[k]? := fun k hk hne => (hgr.block k (by omega) (fun e => hne e.symm)).trans (Below.heap_alloc w1 o k hk)
  have hold : ∀ k, k < w.heap.size → v.ownBlock ≠ some k := fun k hk e => by have := (h.rg k e).2; omega
  have hkp : Kp (fun k => P k ∧ k ≠ I) w w9 := h.kp.trans ⟨hgr.os, hgr.tape, hgr.output, by omega, fun k hk => hblk k (h.mr.lt (h.sub k hk.1)) (hold k (hPl k hk.1))⟩
  refine ⟨fun k hk => .inl (h.sub k hk), ?_, ?_, ?_, hkp, ?_, h.wks, hq⟩
  · intro g hg
    obtain rfl : g9 = g := by simpa [Value.ownBlock] using hg
    refine ⟨.inr rfl, ?_⟩
    rcases hat with e | e
    · exact (h.rg _ e).2
    · have := h.kp.size; omega
  · obtain ⟨a', c', b', hx⟩ := h.mr
    have hap : ∀ g, v.ownBlock = some g → g ≠ M ∧ g ≠ b' ∧ (Value.slice a' s.l.length c').ownBlock ≠ some g := fun g hg => (hx.apart g (h.rg g hg).1).2
    refine ⟨a', c', b', hx.move (hblk _ hx.lt (fun e => (hap _ e).1 rfl)) (hblk _ hx.map.lt (fun e => (hap _ e).2.1 rfl)) (fun k hk => hblk k (own_lt hx.own hk).2 (fun e => (hap _ e).2.2 hk)) (fun k hk => ?_)⟩
    rcases hk with hk | rfl
    · obtain ⟨h1, h2, h3, h4⟩ := hx.apart k hk
      exact ⟨by omega, h2, h3, h4⟩
    · rcases hat with e | e
      · exact ⟨hlt, hap _ e⟩
      · refine ⟨hlt, ?_, ?_, fun e' => ?_⟩
        · have := hx.lt; omega
        · have := hx.map.lt; omega
        · have := (own_lt hx.own e').2; omega
  · have h1 := h.mr.lt (h.sub X hP.px)
    have h2 := h.mr.lt (h.sub I hP.pi)
    exact h.wk.move (hblk X h1 (hold X (hPl X hP.px))) (hblk I h2 (hold I (hPl I hP.pi))) (hP.keepI hI hkp hB).2
  · rw [List.length_append, List.map_append]
    exact hrow
end Go.Proofs.YtjibhkgphahbaaaDoor.Tm
