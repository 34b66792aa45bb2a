/- Package command's parts: what keeps in a field what a reader tells. -/
import Derived.Test.YtodonngnigbpaaaGreatDoorCmJ5
import Derived.Shelf.Abstract
import Derived.Deep.RegionHeld3
namespace Go.Proofs.YtodonngnigbpaaaGreatDoor
open Go.RowKit
set_option linter.unusedVariables false
/-- No block that was there has changed, but for R. -/
def Oth (R : Nat) (w w' : World) : Prop := Kp (fun b => b < w.heap.size ∧ b ≠ R) w w'
theorem Oth.refl (R : Nat) (w : World) : Oth R w w := Kp.refl _ _
theorem Oth.size {R : Nat} {w w' : World} (h : Oth R w w') : w.heap.size ≤ w'.heap.size := h.2.2.2.1
theorem Oth.block {R : Nat} {w w' : World} (h : Oth R w w') (b : Nat) (hb : b < w.heap.size) (hne : b ≠ R) : w'.heap[b]? = w.heap[b]? := h.2.2.2.2 b ⟨hb, hne⟩
theorem Oth.trans {R : Nat} {a b c : World} (h : Oth R a b) (h' : Oth R b c) : Oth R a c := Kp.trans h (Kp.mono h' (fun k hk => ⟨Nat.lt_of_lt_of_le hk.1 h.size, hk.2⟩))
theorem Oth.of {R : Nat} {w w' : World} (h : Below w.heap.size w w') : Oth R w w' := ⟨h.os, h.tape, h.output, h.size, fun k hk => h.block k hk.1⟩
theorem Oth.set {R : Nat} {w w' : World} (h : Oth R w w') (i : Nat) (v : Value) : Oth R w (w'.setCell ⟨R, i, none⟩ v) := by
  refine h.trans ⟨rfl, rfl, rfl, by simp [World.setCell], fun k hk => Below.heap_setCell _ _ _ _ hk.2⟩
theorem Oth.below {R n : Nat} {w w' : World} (h : Oth R w w') (hn : n ≤ R) (hw : n ≤ w.heap.size) : Below n w w' := ⟨h.1, h.2.1, h.2.2.1, h.2.2.2.1, fun k hk => h.block k (by omega) (by omega)⟩
/-- The reader in block R: what stands behind its head is q; what has been read is x. -/
structure RdrS (W : World) (R N : Nat) (q : Value) (x : CmdV) : Prop where
  box : W.heap[R]? = some (.cells #[q, .int .i8 x.c.kind, .string (bytesL x.c.name), .int .i64 x.c.n, .slice x.la x.c.l.length x.lc, .slice x.aa x.c.args.length x.ac, .slice x.pa x.c.params.length x.pc, .string (bytesL x.c.res), .slice x.ta x.c.terms.length x.tc] 51 (0, 0))
  rn : R < N
  le : N ≤ W.heap.size
  new : CmdN W N x
theorem RdrS.lt {W : World} {R N : Nat} {q : Value} {x : CmdV} (h : RdrS W R N q x) : R < W.heap.size := (Array.getElem?_eq_some_iff.1 h.box).1
theorem RdrS.cells {W : World} {R N : Nat} {q : Value} {x : CmdV} (h : RdrS W R N q x) : W.cell? ⟨R, 0, none⟩ = some q ∧ W.cell? ⟨R, 1, none⟩ = some (.int .i8 x.c.kind) ∧ W.cell? ⟨R, 2, none⟩ = some (.string (bytesL x.c.name)) ∧ W.cell? ⟨R, 3, none⟩ = some (.int .i64 x.c.n) ∧ W.cell? ⟨R, 4, none⟩ = some (.slice x.la x.c.l.length x.lc) ∧ W.cell? ⟨R, 5, none⟩ = some (.slice x.aa x.c.args.length x.ac) ∧ W.cell? ⟨R, 6, none⟩ = some (.slice x.pa x.c.params.length x.pc) ∧ W.cell? ⟨R, 7, none⟩ = some (.string (bytesL x.c.res)) ∧ W.cell? ⟨R, 8, none⟩ = some (.slice x.ta x.c.terms.length x.tc) ∧ (∀ i, W.frozen? ⟨R, i, none⟩ = false) :=
  ⟨cell_of_row _ _ 0 _ _ _ h.box, cell_of_row _ _ 1 _ _ _ h.box, cell_of_row _ _ 2 _ _ _ h.box, cell_of_row _ _ 3 _ _ _ h.box, cell_of_row _ _ 4 _ _ _ h.box, cell_of_row _ _ 5 _ _ _ h.box, cell_of_row _ _ 6 _ _ _ h.box, cell_of_row _ _ 7 _ _ _ h.box, cell_of_row _ _ 8 _ _ _ h.box, fun i => by simp [World.frozen?, h.box]⟩
theorem RdrS.keep {W W' : World} {R N : Nat} {q : Value} {x : CmdV} (h : RdrS W R N q x) (hb : Below W.heap.size W W') : RdrS W' R N q x :=
  ⟨(hb.block _ h.lt).trans h.box, h.rn, Nat.le_trans h.le hb.size, h.new.keep hb.size (fun b _ hlt => hb.block b hlt)⟩
/-- It reads as y, below B. -/
def SxB (B : Nat) (W : World) (y : Tree) (yv : Value) : Prop := Rd W (fun b => B ≤ b) y yv
/-- A part's answer. -/
def PartP (R N : Nat) (q : Value) (p : PartM) (x : CmdV) (y : Tree) (W : World) (e : Ending) (w' : World) : Prop :=
  ∃ (b : Bool) (x' : CmdV), e = .returned (.bool b) ∧ RdrS w' R N q x' ∧ (p x.c y = if b = true then some x'.c else none) ∧ Oth R W w'
/-- The value pv is a part that does as p says, from W0 on. -/
def PartAt (B R : Nat) (q : Value) (W0 : World) (pv : Value) (p : PartM) : Prop :=
  ∃ (f : FuncId) (first cap : Array Value), pv = .func (.func f) first cap ∧ (∀ args w, (callFunc f args).run Tryz.prog w = .ok (.enter f args) w) ∧
    ∀ (N : Nat) (W : World) (x : CmdV) (y : Tree) (yv : Value), Oth R W0 W → RdrS W R N q x → SxB B W y yv → RowsT y → Calls Tryz.prog f (first ++ #[yv] ++ cap) W (PartP R N q p x y W)
theorem PartAt.keep {B R : Nat} {q pv : Value} {W0 W1 : World} {p : PartM} (h : PartAt B R q W0 pv p) (hk : Oth R W0 W1) : PartAt B R q W1 pv p := by
  obtain ⟨f, a, c, e, h1, h2⟩ := h
  exact ⟨f, a, c, e, h1, fun N W x y yv hW => h2 N W x y yv (hk.trans hW)⟩
/-- What a keeper's call leaves: the field is set. -/
def IntoP {α : Type} (R off : Nat) (m : Tree → Option α) (lies : Nat → World → α → Value → Prop) (W : World) (y : Tree) (e : Ending) (w' : World) : Prop :=
  ∃ (b : Bool) (v : Value) (a : α) (wi : World), e = .returned (.bool b) ∧ lies W.heap.size wi a v ∧ (m y = if b = true then some a else none) ∧ Below W.heap.size W wi ∧ w' = wi.setCell ⟨R, off, none⟩ v
set_option maxRecDepth 100000 in
theorem into_str (R off : Nat) (f : Value) (w : World) (fv : FuncId) (hf : f = .func (.func fv) #[] #[]) :
    Calls Tryz.prog 69 #[.pointer (some ⟨R, off, none⟩), f] w fun e w' => e = .returned (.func (.func 98) #[] #[.pointer (some ⟨w.heap.size + 1, 0, none⟩), .pointer (some ⟨w.heap.size, 0, none⟩)]) ∧
      w' = (w.alloc (.cells #[.pointer (some ⟨R, off, none⟩)] 99)).alloc (.cells #[f] 100) := by
  subst hf
  go_enter Tryz.func69, Tryz.ntmps69
  go_wp2
  go_ret
  exact ⟨rfl, rfl⟩
set_option maxRecDepth 100000 in
theorem into_strs (R off : Nat) (f : Value) (w : World) (fv : FuncId) (hf : f = .func (.func fv) #[] #[]) :
    Calls Tryz.prog 74 #[.pointer (some ⟨R, off, none⟩), f] w fun e w' => e = .returned (.func (.func 103) #[] #[.pointer (some ⟨w.heap.size + 1, 0, none⟩), .pointer (some ⟨w.heap.size, 0, none⟩)]) ∧
      w' = (w.alloc (.cells #[.pointer (some ⟨R, off, none⟩)] 102)).alloc (.cells #[f] 103) := by
  subst hf
  go_enter Tryz.func74, Tryz.ntmps74
  go_wp2
  go_ret
  exact ⟨rfl, rfl⟩
set_option maxRecDepth 100000 in
theorem into_pars (R off : Nat) (f : Value) (w : World) (fv : FuncId) (hf : f = .func (.func fv) #[] #[]) :
    Calls Tryz.prog 76 #[.pointer (some ⟨R, off, none⟩), f] w fun e w' => e = .returned (.func (.func 105) #[] #[.pointer (some ⟨w.heap.size + 1, 0, none⟩), .pointer (some ⟨w.heap.size, 0, none⟩)]) ∧
      w' = (w.alloc (.cells #[.pointer (some ⟨R, off, none⟩)] 105)).alloc (.cells #[f] 106) := by
  subst hf
  go_enter Tryz.func76, Tryz.ntmps76
  go_wp2
  go_ret
  exact ⟨rfl, rfl⟩
set_option maxRecDepth 100000 in
theorem into_trees (R off : Nat) (f : Value) (w : World) (fv : FuncId) (hf : f = .func (.func fv) #[] #[]) :
    Calls Tryz.prog 78 #[.pointer (some ⟨R, off, none⟩), f] w fun e w' => e = .returned (.func (.func 108) #[] #[.pointer (some ⟨w.heap.size + 1, 0, none⟩), .pointer (some ⟨w.heap.size, 0, none⟩)]) ∧
      w' = (w.alloc (.cells #[.pointer (some ⟨R, off, none⟩)] 108)).alloc (.cells #[f] 109) := by
  subst hf
  go_enter Tryz.func78, Tryz.ntmps78
  go_wp2
  go_ret
  exact ⟨rfl, rfl⟩
set_option maxRecDepth 100000 in
theorem into_int (R off : Nat) (f : Value) (w : World) (fv : FuncId) (hf : f = .func (.func fv) #[] #[]) :
    Calls Tryz.prog 80 #[.pointer (some ⟨R, off, none⟩), f] w fun e w' => e = .returned (.func (.func 109) #[] #[.pointer (some ⟨w.heap.size + 1, 0, none⟩), .pointer (some ⟨w.heap.size, 0, none⟩)]) ∧
      w' = (w.alloc (.cells #[.pointer (some ⟨R, off, none⟩)] 111)).alloc (.cells #[f] 112) := by
  subst hf
  go_enter Tryz.func80, Tryz.ntmps80
  go_wp2
  go_ret
  exact ⟨rfl, rfl⟩
set_option maxRecDepth 100000 in
theorem into_ints (R off : Nat) (f : Value) (w : World) (fv : FuncId) (hf : f = .func (.func fv) #[] #[]) :
    Calls Tryz.prog 100 #[.pointer (some ⟨R, off, none⟩), f] w fun e w' => e = .returned (.func (.func 119) #[] #[.pointer (some ⟨w.heap.size + 1, 0, none⟩), .pointer (some ⟨w.heap.size, 0, none⟩)]) ∧
      w' = (w.alloc (.cells #[.pointer (some ⟨R, off, none⟩)] 127)).alloc (.cells #[f] 128) := by
  subst hf
  go_enter Tryz.func100, Tryz.ntmps100
  go_wp2
  go_ret
  exact ⟨rfl, rfl⟩
set_option maxRecDepth 100000 in
set_option maxHeartbeats 2000000 in
theorem into1_name (R off Br Bf : Nat) (y : Tree) (yv u : Value) (w : World) (hR : w.heap[Br]? = some (.cells #[.func (.func 70) #[] #[]] 100 (0, 0))) (hF : w.heap[Bf]? = some (.cells #[.pointer (some ⟨R, off, none⟩)] 99 (0, 0)))
    (h1 : Br ≠ R) (h2 : Bf ≠ R) (hc : w.cell? ⟨R, off, none⟩ = some u) (hf : w.frozen? ⟨R, off, none⟩ = false) (hr : Sx w y yv) (hrt : RowsT y) :
    Calls Tryz.prog 98 #[yv, .pointer (some ⟨Br, 0, none⟩), .pointer (some ⟨Bf, 0, none⟩)] w (IntoP R off symM LStr w y) := by
  obtain ⟨a, cap, rfl, hl, hcc, hk, hb⟩ := sx_box hr
  obtain ⟨W0, hW0⟩ : ∃ W0, W0 = w.alloc (.cells #[.int .i8 y.kind, .string (bytesL y.text), .slice a y.kids.length cap] 35) := ⟨_, rfl⟩
  rw [← hW0] at hb
  have hX : W0.heap[w.heap.size]? = some (.cells #[.int .i8 y.kind, .string (bytesL y.text), .slice a y.kids.length cap] 35 (0, 0)) := by rw [hW0]; exact heap_alloc_new w _
  have hsz : W0.heap.size = w.heap.size + 1 := by rw [hW0]; simp
  have hRl : R < w.heap.size := World.block_lt_of_cell? (a := ⟨R, off, none⟩) w hc
  have hBr := (Array.getElem?_eq_some_iff.1 hR).1
  have hBf := (Array.getElem?_eq_some_iff.1 hF).1
  have HS : Hid (∀ W, Below W0.heap.size W0 W → ∀ V, (V = W ∨ ∃ vv, V = W.setCell ⟨R, off, none⟩ vv) → V.cell? ⟨w.heap.size, 0, none⟩ = some (.int .i8 y.kind) ∧ V.cell? ⟨w.heap.size, 1, none⟩ = some (.string (bytesL y.text)) ∧ V.cell? ⟨w.heap.size, 2, none⟩ = some (.slice a y.kids.length cap) ∧ V.cell? ⟨Br, 0, none⟩ = some (.func (.func 70) #[] #[]) ∧ V.cell? ⟨Bf, 0, none⟩ = some (.pointer (some ⟨R, off, none⟩))) := fun W hW V hV => by
    have hVb : ∀ b, b ≠ R → V.heap[b]? = W.heap[b]? := fun b hb => by
      rcases hV with rfl | ⟨vv, rfl⟩
      · rfl
      · exact Below.heap_setCell _ _ _ b hb
    have q1 := (hVb w.heap.size (by omega)).trans ((hW.block _ (by omega)).trans hX)
    have q2 := (hVb Br h1).trans ((hW.block _ (by omega)).trans ((hb.block _ hBr).trans hR))
    have q3 := (hVb Bf h2).trans ((hW.block _ (by omega)).trans ((hb.block _ hBf).trans hF))
    exact ⟨cell_of_row _ _ 0 _ _ _ q1, cell_of_row _ _ 1 _ _ _ q1, cell_of_row _ _ 2 _ _ _ q1, cell_of_row _ _ 0 _ _ _ q2, cell_of_row _ _ 0 _ _ _ q3⟩
  have HC : Hid (∀ W, Below W0.heap.size W0 W → Calls Tryz.prog 70 #[.agg #[.int .i8 y.kind, .string (bytesL y.text), .slice a y.kids.length cap]] W fun e w' => ∃ (b : Bool) (v : Value) (x : _), e = .returned (.tuple #[v, .bool b]) ∧ LStr w.heap.size w' x v ∧ (symM y = if b = true then some x else none) ∧ Below W0.heap.size W0 w') := fun W hW => by
    have hbw := hb.trans (hW.mono (by omega))
    refine (name_any y _ W (hr.below hbw)).mono ?_
    rintro e w' ⟨b, v, x, he, hl, hm, hb'⟩
    exact ⟨b, v, x, he, hl, hm, hW.trans (hb'.mono hW.size)⟩
  have HRc : Hid (∀ W, Below W0.heap.size W0 W → W.cell? ⟨R, off, none⟩ = some u ∧ W.frozen? ⟨R, off, none⟩ = false) := fun W hW => by
    have hbw := hb.trans (hW.mono (by omega))
    exact ⟨(hbw.cell (p := ⟨R, off, none⟩) hRl).trans hc, (hbw.frozen (p := ⟨R, off, none⟩) hRl).trans hf⟩
  have HB := Lib.hid hb
  have HL := Lib.hid hW0
  clear hr hrt hb hk hl hX hcc hR hF hc hf hW0
  go_enter Tryz.func98, Tryz.ntmps98
  go_wp2_with fail
  rw [← HL.out]
  clear HL
  have H0 := Lib.hid (HS.out W0 (Below.refl _ _) W0 (.inl rfl))
  go_region_held3 (fun W => W.cell? ⟨w.heap.size, 0, none⟩ = some (.int .i8 y.kind) ∧ W.cell? ⟨w.heap.size, 1, none⟩ = some (.string (bytesL y.text)) ∧ W.cell? ⟨w.heap.size, 2, none⟩ = some (.slice a y.kids.length cap) ∧ W.cell? ⟨Br, 0, none⟩ = some (.func (.func 70) #[] #[]) ∧ W.cell? ⟨Bf, 0, none⟩ = some (.pointer (some ⟨R, off, none⟩)))
    (first | exact H0.out | exact HS.out _ (Below.refl _ _).drew _ (.inl rfl) | exact HS.out _ (by assumption) _ (.inl rfl) | exact HS.out _ (by assumption) _ (.inr ⟨_, rfl⟩))
    (first | (go_at_call 70; refine (HC.out _ (by first | exact (Below.refl _ _).drew | exact Below.refl _ _)).mono ?_; rintro e w5 ⟨b, v, x, rfl, hlv, hm, hb5⟩; have HLv := Lib.hid hlv; have HM := Lib.hid hm; unfold LStr at hlv; subst hlv; clear hm; obtain ⟨rc, rf⟩ := HRc.out _ hb5))
  go_wp2
  go_ret
  exact ⟨b, _, x, w5, rfl, HLv.out, HM.out, HB.out.trans (hb5.mono (by omega)), rfl⟩
end Go.Proofs.YtodonngnigbpaaaGreatDoor
namespace Go.Proofs.YtodonngnigbpaaaGreatDoor
open Go.RowKit
set_option linter.unusedVariables false
set_option maxRecDepth 100000 in
set_option maxHeartbeats 2000000 in
theorem into1_keyword (R off Br Bf : Nat) (y : Tree) (yv u : Value) (w : World) (hR : w.heap[Br]? = some (.cells #[.func (.func 71) #[] #[]] 100 (0, 0))) (hF : w.heap[Bf]? = some (.cells #[.pointer (some ⟨R, off, none⟩)] 99 (0, 0)))
    (h1 : Br ≠ R) (h2 : Bf ≠ R) (hc : w.cell? ⟨R, off, none⟩ = some u) (hf : w.frozen? ⟨R, off, none⟩ = false) (hr : Sx w y yv) (hrt : RowsT y) :
    Calls Tryz.prog 98 #[yv, .pointer (some ⟨Br, 0, none⟩), .pointer (some ⟨Bf, 0, none⟩)] w (IntoP R off keyM LStr w y) := by
  obtain ⟨a, cap, rfl, hl, hcc, hk, hb⟩ := sx_box hr
  obtain ⟨W0, hW0⟩ : ∃ W0, W0 = w.alloc (.cells #[.int .i8 y.kind, .string (bytesL y.text), .slice a y.kids.length cap] 35) := ⟨_, rfl⟩
  rw [← hW0] at hb
  have hX : W0.heap[w.heap.size]? = some (.cells #[.int .i8 y.kind, .string (bytesL y.text), .slice a y.kids.length cap] 35 (0, 0)) := by rw [hW0]; exact heap_alloc_new w _
  have hsz : W0.heap.size = w.heap.size + 1 := by rw [hW0]; simp
  have hRl : R < w.heap.size := World.block_lt_of_cell? (a := ⟨R, off, none⟩) w hc
  have hBr := (Array.getElem?_eq_some_iff.1 hR).1
  have hBf := (Array.getElem?_eq_some_iff.1 hF).1
  have HS : Hid (∀ W, Below W0.heap.size W0 W → ∀ V, (V = W ∨ ∃ vv, V = W.setCell ⟨R, off, none⟩ vv) → V.cell? ⟨w.heap.size, 0, none⟩ = some (.int .i8 y.kind) ∧ V.cell? ⟨w.heap.size, 1, none⟩ = some (.string (bytesL y.text)) ∧ V.cell? ⟨w.heap.size, 2, none⟩ = some (.slice a y.kids.length cap) ∧ V.cell? ⟨Br, 0, none⟩ = some (.func (.func 71) #[] #[]) ∧ V.cell? ⟨Bf, 0, none⟩ = some (.pointer (some ⟨R, off, none⟩))) := fun W hW V hV => by
    have hVb : ∀ b, b ≠ R → V.heap[b]? = W.heap[b]? := fun b hb => by
      rcases hV with rfl | ⟨vv, rfl⟩
      · rfl
      · exact Below.heap_setCell _ _ _ b hb
    have q1 := (hVb w.heap.size (by omega)).trans ((hW.block _ (by omega)).trans hX)
    have q2 := (hVb Br h1).trans ((hW.block _ (by omega)).trans ((hb.block _ hBr).trans hR))
    have q3 := (hVb Bf h2).trans ((hW.block _ (by omega)).trans ((hb.block _ hBf).trans hF))
    exact ⟨cell_of_row _ _ 0 _ _ _ q1, cell_of_row _ _ 1 _ _ _ q1, cell_of_row _ _ 2 _ _ _ q1, cell_of_row _ _ 0 _ _ _ q2, cell_of_row _ _ 0 _ _ _ q3⟩
  have HC : Hid (∀ W, Below W0.heap.size W0 W → Calls Tryz.prog 71 #[.agg #[.int .i8 y.kind, .string (bytesL y.text), .slice a y.kids.length cap]] W fun e w' => ∃ (b : Bool) (v : Value) (x : _), e = .returned (.tuple #[v, .bool b]) ∧ LStr w.heap.size w' x v ∧ (keyM y = if b = true then some x else none) ∧ Below W0.heap.size W0 w') := fun W hW => by
    have hbw := hb.trans (hW.mono (by omega))
    refine (keyword_any y _ W (hr.below hbw)).mono ?_
    rintro e w' ⟨b, v, x, he, hl, hm, hb'⟩
    exact ⟨b, v, x, he, hl, hm, hW.trans (hb'.mono hW.size)⟩
  have HRc : Hid (∀ W, Below W0.heap.size W0 W → W.cell? ⟨R, off, none⟩ = some u ∧ W.frozen? ⟨R, off, none⟩ = false) := fun W hW => by
    have hbw := hb.trans (hW.mono (by omega))
    exact ⟨(hbw.cell (p := ⟨R, off, none⟩) hRl).trans hc, (hbw.frozen (p := ⟨R, off, none⟩) hRl).trans hf⟩
  have HB := Lib.hid hb
  have HL := Lib.hid hW0
  clear hr hrt hb hk hl hX hcc hR hF hc hf hW0
  go_enter Tryz.func98, Tryz.ntmps98
  go_wp2_with fail
  rw [← HL.out]
  clear HL
  have H0 := Lib.hid (HS.out W0 (Below.refl _ _) W0 (.inl rfl))
  go_region_held3 (fun W => W.cell? ⟨w.heap.size, 0, none⟩ = some (.int .i8 y.kind) ∧ W.cell? ⟨w.heap.size, 1, none⟩ = some (.string (bytesL y.text)) ∧ W.cell? ⟨w.heap.size, 2, none⟩ = some (.slice a y.kids.length cap) ∧ W.cell? ⟨Br, 0, none⟩ = some (.func (.func 71) #[] #[]) ∧ W.cell? ⟨Bf, 0, none⟩ = some (.pointer (some ⟨R, off, none⟩)))
    (first | exact H0.out | exact HS.out _ (Below.refl _ _).drew _ (.inl rfl) | exact HS.out _ (by assumption) _ (.inl rfl) | exact HS.out _ (by assumption) _ (.inr ⟨_, rfl⟩))
    (first | (go_at_call 71; refine (HC.out _ (by first | exact (Below.refl _ _).drew | exact Below.refl _ _)).mono ?_; rintro e w5 ⟨b, v, x, rfl, hlv, hm, hb5⟩; have HLv := Lib.hid hlv; have HM := Lib.hid hm; unfold LStr at hlv; subst hlv; clear hm; obtain ⟨rc, rf⟩ := HRc.out _ hb5))
  go_wp2
  go_ret
  exact ⟨b, _, x, w5, rfl, HLv.out, HM.out, HB.out.trans (hb5.mono (by omega)), rfl⟩
set_option maxRecDepth 100000 in
set_option maxHeartbeats 2000000 in
theorem into1_args (R off Br Bf : Nat) (y : Tree) (yv u : Value) (w : World) (hR : w.heap[Br]? = some (.cells #[.func (.func 75) #[] #[]] 103 (0, 0))) (hF : w.heap[Bf]? = some (.cells #[.pointer (some ⟨R, off, none⟩)] 102 (0, 0)))
    (h1 : Br ≠ R) (h2 : Bf ≠ R) (hc : w.cell? ⟨R, off, none⟩ = some u) (hf : w.frozen? ⟨R, off, none⟩ = false) (hr : Sx w y yv) (hrt : RowsT y) :
    Calls Tryz.prog 103 #[yv, .pointer (some ⟨Br, 0, none⟩), .pointer (some ⟨Bf, 0, none⟩)] w (IntoP R off (eachM 0 3 symM) (LRow strC) w y) := by
  obtain ⟨a, cap, rfl, hl, hcc, hk, hb⟩ := sx_box hr
  obtain ⟨W0, hW0⟩ : ∃ W0, W0 = w.alloc (.cells #[.int .i8 y.kind, .string (bytesL y.text), .slice a y.kids.length cap] 35) := ⟨_, rfl⟩
  rw [← hW0] at hb
  have hX : W0.heap[w.heap.size]? = some (.cells #[.int .i8 y.kind, .string (bytesL y.text), .slice a y.kids.length cap] 35 (0, 0)) := by rw [hW0]; exact heap_alloc_new w _
  have hsz : W0.heap.size = w.heap.size + 1 := by rw [hW0]; simp
  have hRl : R < w.heap.size := World.block_lt_of_cell? (a := ⟨R, off, none⟩) w hc
  have hBr := (Array.getElem?_eq_some_iff.1 hR).1
  have hBf := (Array.getElem?_eq_some_iff.1 hF).1
  have HS : Hid (∀ W, Below W0.heap.size W0 W → ∀ V, (V = W ∨ ∃ vv, V = W.setCell ⟨R, off, none⟩ vv) → V.cell? ⟨w.heap.size, 0, none⟩ = some (.int .i8 y.kind) ∧ V.cell? ⟨w.heap.size, 1, none⟩ = some (.string (bytesL y.text)) ∧ V.cell? ⟨w.heap.size, 2, none⟩ = some (.slice a y.kids.length cap) ∧ V.cell? ⟨Br, 0, none⟩ = some (.func (.func 75) #[] #[]) ∧ V.cell? ⟨Bf, 0, none⟩ = some (.pointer (some ⟨R, off, none⟩))) := fun W hW V hV => by
    have hVb : ∀ b, b ≠ R → V.heap[b]? = W.heap[b]? := fun b hb => by
      rcases hV with rfl | ⟨vv, rfl⟩
      · rfl
      · exact Below.heap_setCell _ _ _ b hb
    have q1 := (hVb w.heap.size (by omega)).trans ((hW.block _ (by omega)).trans hX)
    have q2 := (hVb Br h1).trans ((hW.block _ (by omega)).trans ((hb.block _ hBr).trans hR))
    have q3 := (hVb Bf h2).trans ((hW.block _ (by omega)).trans ((hb.block _ hBf).trans hF))
    exact ⟨cell_of_row _ _ 0 _ _ _ q1, cell_of_row _ _ 1 _ _ _ q1, cell_of_row _ _ 2 _ _ _ q1, cell_of_row _ _ 0 _ _ _ q2, cell_of_row _ _ 0 _ _ _ q3⟩
  have HC : Hid (∀ W, Below W0.heap.size W0 W → Calls Tryz.prog 75 #[.agg #[.int .i8 y.kind, .string (bytesL y.text), .slice a y.kids.length cap]] W fun e w' => ∃ (b : Bool) (v : Value) (x : _), e = .returned (.tuple #[v, .bool b]) ∧ (LRow strC) w.heap.size w' x v ∧ ((eachM 0 3 symM) y = if b = true then some x else none) ∧ Below W0.heap.size W0 w') := fun W hW => by
    have hbw := hb.trans (hW.mono (by omega))
    refine (args_any y _ W (hr.below hbw) hrt).mono ?_
    rintro e w' ⟨b, v, x, he, hl, hm, hb'⟩
    exact ⟨b, v, x, he, LRow.more hl (by have := hbw.size; omega), hm, hW.trans (hb'.mono hW.size)⟩
  have HRc : Hid (∀ W, Below W0.heap.size W0 W → W.cell? ⟨R, off, none⟩ = some u ∧ W.frozen? ⟨R, off, none⟩ = false) := fun W hW => by
    have hbw := hb.trans (hW.mono (by omega))
    exact ⟨(hbw.cell (p := ⟨R, off, none⟩) hRl).trans hc, (hbw.frozen (p := ⟨R, off, none⟩) hRl).trans hf⟩
  have HB := Lib.hid hb
  have HL := Lib.hid hW0
  clear hr hrt hb hk hl hX hcc hR hF hc hf hW0
  go_enter Tryz.func103, Tryz.ntmps103
  go_wp2_with fail
  rw [← HL.out]
  clear HL
  have H0 := Lib.hid (HS.out W0 (Below.refl _ _) W0 (.inl rfl))
  go_region_held3 (fun W => W.cell? ⟨w.heap.size, 0, none⟩ = some (.int .i8 y.kind) ∧ W.cell? ⟨w.heap.size, 1, none⟩ = some (.string (bytesL y.text)) ∧ W.cell? ⟨w.heap.size, 2, none⟩ = some (.slice a y.kids.length cap) ∧ W.cell? ⟨Br, 0, none⟩ = some (.func (.func 75) #[] #[]) ∧ W.cell? ⟨Bf, 0, none⟩ = some (.pointer (some ⟨R, off, none⟩)))
    (first | exact H0.out | exact HS.out _ (Below.refl _ _).drew _ (.inl rfl) | exact HS.out _ (by assumption) _ (.inl rfl) | exact HS.out _ (by assumption) _ (.inr ⟨_, rfl⟩))
    (first | (go_at_call 75; refine (HC.out _ (by first | exact (Below.refl _ _).drew | exact Below.refl _ _)).mono ?_; rintro e w5 ⟨b, v, x, rfl, hlv, hm, hb5⟩; have HLv := Lib.hid hlv; have HM := Lib.hid hm; obtain ⟨lad, lcc, rfl, lh⟩ := hlv; have LH := Lib.hid lh; clear lh; clear hm; obtain ⟨rc, rf⟩ := HRc.out _ hb5))
  go_wp2
  go_ret
  exact ⟨b, _, x, w5, rfl, HLv.out, HM.out, HB.out.trans (hb5.mono (by omega)), rfl⟩
set_option maxRecDepth 100000 in
set_option maxHeartbeats 2000000 in
theorem into1_params (R off Br Bf : Nat) (y : Tree) (yv u : Value) (w : World) (hR : w.heap[Br]? = some (.cells #[.func (.func 77) #[] #[]] 106 (0, 0))) (hF : w.heap[Bf]? = some (.cells #[.pointer (some ⟨R, off, none⟩)] 105 (0, 0)))
    (h1 : Br ≠ R) (h2 : Bf ≠ R) (hc : w.cell? ⟨R, off, none⟩ = some u) (hf : w.frozen? ⟨R, off, none⟩ = false) (hr : Sx w y yv) (hrt : RowsT y) :
    Calls Tryz.prog 105 #[yv, .pointer (some ⟨Br, 0, none⟩), .pointer (some ⟨Bf, 0, none⟩)] w (IntoP R off (eachM 0 3 parM) (LRow parC) w y) := by
  obtain ⟨a, cap, rfl, hl, hcc, hk, hb⟩ := sx_box hr
  obtain ⟨W0, hW0⟩ : ∃ W0, W0 = w.alloc (.cells #[.int .i8 y.kind, .string (bytesL y.text), .slice a y.kids.length cap] 35) := ⟨_, rfl⟩
  rw [← hW0] at hb
  have hX : W0.heap[w.heap.size]? = some (.cells #[.int .i8 y.kind, .string (bytesL y.text), .slice a y.kids.length cap] 35 (0, 0)) := by rw [hW0]; exact heap_alloc_new w _
  have hsz : W0.heap.size = w.heap.size + 1 := by rw [hW0]; simp
  have hRl : R < w.heap.size := World.block_lt_of_cell? (a := ⟨R, off, none⟩) w hc
  have hBr := (Array.getElem?_eq_some_iff.1 hR).1
  have hBf := (Array.getElem?_eq_some_iff.1 hF).1
  have HS : Hid (∀ W, Below W0.heap.size W0 W → ∀ V, (V = W ∨ ∃ vv, V = W.setCell ⟨R, off, none⟩ vv) → V.cell? ⟨w.heap.size, 0, none⟩ = some (.int .i8 y.kind) ∧ V.cell? ⟨w.heap.size, 1, none⟩ = some (.string (bytesL y.text)) ∧ V.cell? ⟨w.heap.size, 2, none⟩ = some (.slice a y.kids.length cap) ∧ V.cell? ⟨Br, 0, none⟩ = some (.func (.func 77) #[] #[]) ∧ V.cell? ⟨Bf, 0, none⟩ = some (.pointer (some ⟨R, off, none⟩))) := fun W hW V hV => by
    have hVb : ∀ b, b ≠ R → V.heap[b]? = W.heap[b]? := fun b hb => by
      rcases hV with rfl | ⟨vv, rfl⟩
      · rfl
      · exact Below.heap_setCell _ _ _ b hb
    have q1 := (hVb w.heap.size (by omega)).trans ((hW.block _ (by omega)).trans hX)
    have q2 := (hVb Br h1).trans ((hW.block _ (by omega)).trans ((hb.block _ hBr).trans hR))
    have q3 := (hVb Bf h2).trans ((hW.block _ (by omega)).trans ((hb.block _ hBf).trans hF))
    exact ⟨cell_of_row _ _ 0 _ _ _ q1, cell_of_row _ _ 1 _ _ _ q1, cell_of_row _ _ 2 _ _ _ q1, cell_of_row _ _ 0 _ _ _ q2, cell_of_row _ _ 0 _ _ _ q3⟩
  have HC : Hid (∀ W, Below W0.heap.size W0 W → Calls Tryz.prog 77 #[.agg #[.int .i8 y.kind, .string (bytesL y.text), .slice a y.kids.length cap]] W fun e w' => ∃ (b : Bool) (v : Value) (x : _), e = .returned (.tuple #[v, .bool b]) ∧ (LRow parC) w.heap.size w' x v ∧ ((eachM 0 3 parM) y = if b = true then some x else none) ∧ Below W0.heap.size W0 w') := fun W hW => by
    have hbw := hb.trans (hW.mono (by omega))
    refine (params_any y _ W (hr.below hbw) hrt).mono ?_
    rintro e w' ⟨b, v, x, he, hl, hm, hb'⟩
    exact ⟨b, v, x, he, LRow.more hl (by have := hbw.size; omega), hm, hW.trans (hb'.mono hW.size)⟩
  have HRc : Hid (∀ W, Below W0.heap.size W0 W → W.cell? ⟨R, off, none⟩ = some u ∧ W.frozen? ⟨R, off, none⟩ = false) := fun W hW => by
    have hbw := hb.trans (hW.mono (by omega))
    exact ⟨(hbw.cell (p := ⟨R, off, none⟩) hRl).trans hc, (hbw.frozen (p := ⟨R, off, none⟩) hRl).trans hf⟩
  have HB := Lib.hid hb
  have HL := Lib.hid hW0
  clear hr hrt hb hk hl hX hcc hR hF hc hf hW0
  go_enter Tryz.func105, Tryz.ntmps105
  go_wp2_with fail
  rw [← HL.out]
  clear HL
  have H0 := Lib.hid (HS.out W0 (Below.refl _ _) W0 (.inl rfl))
  go_region_held3 (fun W => W.cell? ⟨w.heap.size, 0, none⟩ = some (.int .i8 y.kind) ∧ W.cell? ⟨w.heap.size, 1, none⟩ = some (.string (bytesL y.text)) ∧ W.cell? ⟨w.heap.size, 2, none⟩ = some (.slice a y.kids.length cap) ∧ W.cell? ⟨Br, 0, none⟩ = some (.func (.func 77) #[] #[]) ∧ W.cell? ⟨Bf, 0, none⟩ = some (.pointer (some ⟨R, off, none⟩)))
    (first | exact H0.out | exact HS.out _ (Below.refl _ _).drew _ (.inl rfl) | exact HS.out _ (by assumption) _ (.inl rfl) | exact HS.out _ (by assumption) _ (.inr ⟨_, rfl⟩))
    (first | (go_at_call 77; refine (HC.out _ (by first | exact (Below.refl _ _).drew | exact Below.refl _ _)).mono ?_; rintro e w5 ⟨b, v, x, rfl, hlv, hm, hb5⟩; have HLv := Lib.hid hlv; have HM := Lib.hid hm; obtain ⟨lad, lcc, rfl, lh⟩ := hlv; have LH := Lib.hid lh; clear lh; clear hm; obtain ⟨rc, rf⟩ := HRc.out _ hb5))
  go_wp2
  go_ret
  exact ⟨b, _, x, w5, rfl, HLv.out, HM.out, HB.out.trans (hb5.mono (by omega)), rfl⟩
set_option maxRecDepth 100000 in
set_option maxHeartbeats 2000000 in
theorem into1_oneTerm (R off Br Bf : Nat) (y : Tree) (yv u : Value) (w : World) (hR : w.heap[Br]? = some (.cells #[.func (.func 79) #[] #[]] 109 (0, 0))) (hF : w.heap[Bf]? = some (.cells #[.pointer (some ⟨R, off, none⟩)] 108 (0, 0)))
    (h1 : Br ≠ R) (h2 : Bf ≠ R) (hc : w.cell? ⟨R, off, none⟩ = some u) (hf : w.frozen? ⟨R, off, none⟩ = false) (hr : Sx w y yv) (hrt : RowsT y) :
    Calls Tryz.prog 108 #[yv, .pointer (some ⟨Br, 0, none⟩), .pointer (some ⟨Bf, 0, none⟩)] w (IntoP R off (fun t => some [t]) LTrees w y) := by
  obtain ⟨a, cap, rfl, hl, hcc, hk, hb⟩ := sx_box hr
  obtain ⟨W0, hW0⟩ : ∃ W0, W0 = w.alloc (.cells #[.int .i8 y.kind, .string (bytesL y.text), .slice a y.kids.length cap] 35) := ⟨_, rfl⟩
  rw [← hW0] at hb
  have hX : W0.heap[w.heap.size]? = some (.cells #[.int .i8 y.kind, .string (bytesL y.text), .slice a y.kids.length cap] 35 (0, 0)) := by rw [hW0]; exact heap_alloc_new w _
  have hsz : W0.heap.size = w.heap.size + 1 := by rw [hW0]; simp
  have hRl : R < w.heap.size := World.block_lt_of_cell? (a := ⟨R, off, none⟩) w hc
  have hBr := (Array.getElem?_eq_some_iff.1 hR).1
  have hBf := (Array.getElem?_eq_some_iff.1 hF).1
  have HS : Hid (∀ W, Below W0.heap.size W0 W → ∀ V, (V = W ∨ ∃ vv, V = W.setCell ⟨R, off, none⟩ vv) → V.cell? ⟨w.heap.size, 0, none⟩ = some (.int .i8 y.kind) ∧ V.cell? ⟨w.heap.size, 1, none⟩ = some (.string (bytesL y.text)) ∧ V.cell? ⟨w.heap.size, 2, none⟩ = some (.slice a y.kids.length cap) ∧ V.cell? ⟨Br, 0, none⟩ = some (.func (.func 79) #[] #[]) ∧ V.cell? ⟨Bf, 0, none⟩ = some (.pointer (some ⟨R, off, none⟩))) := fun W hW V hV => by
    have hVb : ∀ b, b ≠ R → V.heap[b]? = W.heap[b]? := fun b hb => by
      rcases hV with rfl | ⟨vv, rfl⟩
      · rfl
      · exact Below.heap_setCell _ _ _ b hb
    have q1 := (hVb w.heap.size (by omega)).trans ((hW.block _ (by omega)).trans hX)
    have q2 := (hVb Br h1).trans ((hW.block _ (by omega)).trans ((hb.block _ hBr).trans hR))
    have q3 := (hVb Bf h2).trans ((hW.block _ (by omega)).trans ((hb.block _ hBf).trans hF))
    exact ⟨cell_of_row _ _ 0 _ _ _ q1, cell_of_row _ _ 1 _ _ _ q1, cell_of_row _ _ 2 _ _ _ q1, cell_of_row _ _ 0 _ _ _ q2, cell_of_row _ _ 0 _ _ _ q3⟩
  have HC : Hid (∀ W, Below W0.heap.size W0 W → Calls Tryz.prog 79 #[.agg #[.int .i8 y.kind, .string (bytesL y.text), .slice a y.kids.length cap]] W fun e w' => ∃ (b : Bool) (v : Value) (x : _), e = .returned (.tuple #[v, .bool b]) ∧ LTrees w.heap.size w' x v ∧ ((fun t => some [t]) y = if b = true then some x else none) ∧ Below W0.heap.size W0 w') := fun W hW => by
    have hbw := hb.trans (hW.mono (by omega))
    refine (oneTerm_any y _ W (hr.below hbw) hrt).mono ?_
    rintro e w' ⟨b, v, x, he, hl, hm, hb'⟩
    exact ⟨b, v, x, he, LTrees.more hl (by have := hbw.size; omega), hm, hW.trans (hb'.mono hW.size)⟩
  have HRc : Hid (∀ W, Below W0.heap.size W0 W → W.cell? ⟨R, off, none⟩ = some u ∧ W.frozen? ⟨R, off, none⟩ = false) := fun W hW => by
    have hbw := hb.trans (hW.mono (by omega))
    exact ⟨(hbw.cell (p := ⟨R, off, none⟩) hRl).trans hc, (hbw.frozen (p := ⟨R, off, none⟩) hRl).trans hf⟩
  have HB := Lib.hid hb
  have HL := Lib.hid hW0
  clear hr hrt hb hk hl hX hcc hR hF hc hf hW0
  go_enter Tryz.func108, Tryz.ntmps108
  go_wp2_with fail
  rw [← HL.out]
  clear HL
  have H0 := Lib.hid (HS.out W0 (Below.refl _ _) W0 (.inl rfl))
  go_region_held3 (fun W => W.cell? ⟨w.heap.size, 0, none⟩ = some (.int .i8 y.kind) ∧ W.cell? ⟨w.heap.size, 1, none⟩ = some (.string (bytesL y.text)) ∧ W.cell? ⟨w.heap.size, 2, none⟩ = some (.slice a y.kids.length cap) ∧ W.cell? ⟨Br, 0, none⟩ = some (.func (.func 79) #[] #[]) ∧ W.cell? ⟨Bf, 0, none⟩ = some (.pointer (some ⟨R, off, none⟩)))
    (first | exact H0.out | exact HS.out _ (Below.refl _ _).drew _ (.inl rfl) | exact HS.out _ (by assumption) _ (.inl rfl) | exact HS.out _ (by assumption) _ (.inr ⟨_, rfl⟩))
    (first | (go_at_call 79; refine (HC.out _ (by first | exact (Below.refl _ _).drew | exact Below.refl _ _)).mono ?_; rintro e w5 ⟨b, v, x, rfl, hlv, hm, hb5⟩; have HLv := Lib.hid hlv; have HM := Lib.hid hm; obtain ⟨lad, lcc, rfl, lh⟩ := hlv; have LH := Lib.hid lh; clear lh; clear hm; obtain ⟨rc, rf⟩ := HRc.out _ hb5))
  go_wp2
  go_ret
  exact ⟨b, _, x, w5, rfl, HLv.out, HM.out, HB.out.trans (hb5.mono (by omega)), rfl⟩
end Go.Proofs.YtodonngnigbpaaaGreatDoor
namespace Go.Proofs.YtodonngnigbpaaaGreatDoor
open Go.RowKit
set_option linter.unusedVariables false
set_option maxRecDepth 100000 in
set_option maxHeartbeats 2000000 in
theorem into1_terms (R off Br Bf : Nat) (y : Tree) (yv u : Value) (w : World) (hR : w.heap[Br]? = some (.cells #[.func (.func 82) #[] #[]] 109 (0, 0))) (hF : w.heap[Bf]? = some (.cells #[.pointer (some ⟨R, off, none⟩)] 108 (0, 0)))
    (h1 : Br ≠ R) (h2 : Bf ≠ R) (hc : w.cell? ⟨R, off, none⟩ = some u) (hf : w.frozen? ⟨R, off, none⟩ = false) (hr : Sx w y yv) (hrt : RowsT y) :
    Calls Tryz.prog 108 #[yv, .pointer (some ⟨Br, 0, none⟩), .pointer (some ⟨Bf, 0, none⟩)] w (IntoP R off (eachM 1 16 termM) LTrees w y) := by
  obtain ⟨a, cap, rfl, hl, hcc, hk, hb⟩ := sx_box hr
  obtain ⟨W0, hW0⟩ : ∃ W0, W0 = w.alloc (.cells #[.int .i8 y.kind, .string (bytesL y.text), .slice a y.kids.length cap] 35) := ⟨_, rfl⟩
  rw [← hW0] at hb
  have hX : W0.heap[w.heap.size]? = some (.cells #[.int .i8 y.kind, .string (bytesL y.text), .slice a y.kids.length cap] 35 (0, 0)) := by rw [hW0]; exact heap_alloc_new w _
  have hsz : W0.heap.size = w.heap.size + 1 := by rw [hW0]; simp
  have hRl : R < w.heap.size := World.block_lt_of_cell? (a := ⟨R, off, none⟩) w hc
  have hBr := (Array.getElem?_eq_some_iff.1 hR).1
  have hBf := (Array.getElem?_eq_some_iff.1 hF).1
  have HS : Hid (∀ W, Below W0.heap.size W0 W → ∀ V, (V = W ∨ ∃ vv, V = W.setCell ⟨R, off, none⟩ vv) → V.cell? ⟨w.heap.size, 0, none⟩ = some (.int .i8 y.kind) ∧ V.cell? ⟨w.heap.size, 1, none⟩ = some (.string (bytesL y.text)) ∧ V.cell? ⟨w.heap.size, 2, none⟩ = some (.slice a y.kids.length cap) ∧ V.cell? ⟨Br, 0, none⟩ = some (.func (.func 82) #[] #[]) ∧ V.cell? ⟨Bf, 0, none⟩ = some (.pointer (some ⟨R, off, none⟩))) := fun W hW V hV => by
    have hVb : ∀ b, b ≠ R → V.heap[b]? = W.heap[b]? := fun b hb => by
      rcases hV with rfl | ⟨vv, rfl⟩
      · rfl
      · exact Below.heap_setCell _ _ _ b hb
    have q1 := (hVb w.heap.size (by omega)).trans ((hW.block _ (by omega)).trans hX)
    have q2 := (hVb Br h1).trans ((hW.block _ (by omega)).trans ((hb.block _ hBr).trans hR))
    have q3 := (hVb Bf h2).trans ((hW.block _ (by omega)).trans ((hb.block _ hBf).trans hF))
    exact ⟨cell_of_row _ _ 0 _ _ _ q1, cell_of_row _ _ 1 _ _ _ q1, cell_of_row _ _ 2 _ _ _ q1, cell_of_row _ _ 0 _ _ _ q2, cell_of_row _ _ 0 _ _ _ q3⟩
  have HC : Hid (∀ W, Below W0.heap.size W0 W → Calls Tryz.prog 82 #[.agg #[.int .i8 y.kind, .string (bytesL y.text), .slice a y.kids.length cap]] W fun e w' => ∃ (b : Bool) (v : Value) (x : _), e = .returned (.tuple #[v, .bool b]) ∧ LTrees w.heap.size w' x v ∧ ((eachM 1 16 termM) y = if b = true then some x else none) ∧ Below W0.heap.size W0 w') := fun W hW => by
    have hbw := hb.trans (hW.mono (by omega))
    refine (terms_any y _ W (hr.below hbw) hrt).mono ?_
    rintro e w' ⟨b, v, x, he, hl, hm, hb'⟩
    exact ⟨b, v, x, he, LTrees.more hl (by have := hbw.size; omega), hm, hW.trans (hb'.mono hW.size)⟩
  have HRc : Hid (∀ W, Below W0.heap.size W0 W → W.cell? ⟨R, off, none⟩ = some u ∧ W.frozen? ⟨R, off, none⟩ = false) := fun W hW => by
    have hbw := hb.trans (hW.mono (by omega))
    exact ⟨(hbw.cell (p := ⟨R, off, none⟩) hRl).trans hc, (hbw.frozen (p := ⟨R, off, none⟩) hRl).trans hf⟩
  have HB := Lib.hid hb
  have HL := Lib.hid hW0
  clear hr hrt hb hk hl hX hcc hR hF hc hf hW0
  go_enter Tryz.func108, Tryz.ntmps108
  go_wp2_with fail
  rw [← HL.out]
  clear HL
  have H0 := Lib.hid (HS.out W0 (Below.refl _ _) W0 (.inl rfl))
  go_region_held3 (fun W => W.cell? ⟨w.heap.size, 0, none⟩ = some (.int .i8 y.kind) ∧ W.cell? ⟨w.heap.size, 1, none⟩ = some (.string (bytesL y.text)) ∧ W.cell? ⟨w.heap.size, 2, none⟩ = some (.slice a y.kids.length cap) ∧ W.cell? ⟨Br, 0, none⟩ = some (.func (.func 82) #[] #[]) ∧ W.cell? ⟨Bf, 0, none⟩ = some (.pointer (some ⟨R, off, none⟩)))
    (first | exact H0.out | exact HS.out _ (Below.refl _ _).drew _ (.inl rfl) | exact HS.out _ (by assumption) _ (.inl rfl) | exact HS.out _ (by assumption) _ (.inr ⟨_, rfl⟩))
    (first | (go_at_call 82; refine (HC.out _ (by first | exact (Below.refl _ _).drew | exact Below.refl _ _)).mono ?_; rintro e w5 ⟨b, v, x, rfl, hlv, hm, hb5⟩; have HLv := Lib.hid hlv; have HM := Lib.hid hm; obtain ⟨lad, lcc, rfl, lh⟩ := hlv; have LH := Lib.hid lh; clear lh; clear hm; obtain ⟨rc, rf⟩ := HRc.out _ hb5))
  go_wp2
  go_ret
  exact ⟨b, _, x, w5, rfl, HLv.out, HM.out, HB.out.trans (hb5.mono (by omega)), rfl⟩
set_option maxRecDepth 100000 in
set_option maxHeartbeats 2000000 in
theorem into1_marks (R off Br Bf : Nat) (y : Tree) (yv u : Value) (w : World) (hR : w.heap[Br]? = some (.cells #[.func (.func 81) #[] #[]] 112 (0, 0))) (hF : w.heap[Bf]? = some (.cells #[.pointer (some ⟨R, off, none⟩)] 111 (0, 0)))
    (h1 : Br ≠ R) (h2 : Bf ≠ R) (hc : w.cell? ⟨R, off, none⟩ = some u) (hf : w.frozen? ⟨R, off, none⟩ = false) (hr : Sx w y yv) (hrt : RowsT y) :
    Calls Tryz.prog 109 #[yv, .pointer (some ⟨Br, 0, none⟩), .pointer (some ⟨Bf, 0, none⟩)] w (IntoP R off (numM 8) LInt w y) := by
  obtain ⟨a, cap, rfl, hl, hcc, hk, hb⟩ := sx_box hr
  obtain ⟨W0, hW0⟩ : ∃ W0, W0 = w.alloc (.cells #[.int .i8 y.kind, .string (bytesL y.text), .slice a y.kids.length cap] 35) := ⟨_, rfl⟩
  rw [← hW0] at hb
  have hX : W0.heap[w.heap.size]? = some (.cells #[.int .i8 y.kind, .string (bytesL y.text), .slice a y.kids.length cap] 35 (0, 0)) := by rw [hW0]; exact heap_alloc_new w _
  have hsz : W0.heap.size = w.heap.size + 1 := by rw [hW0]; simp
  have hRl : R < w.heap.size := World.block_lt_of_cell? (a := ⟨R, off, none⟩) w hc
  have hBr := (Array.getElem?_eq_some_iff.1 hR).1
  have hBf := (Array.getElem?_eq_some_iff.1 hF).1
  have HS : Hid (∀ W, Below W0.heap.size W0 W → ∀ V, (V = W ∨ ∃ vv, V = W.setCell ⟨R, off, none⟩ vv) → V.cell? ⟨w.heap.size, 0, none⟩ = some (.int .i8 y.kind) ∧ V.cell? ⟨w.heap.size, 1, none⟩ = some (.string (bytesL y.text)) ∧ V.cell? ⟨w.heap.size, 2, none⟩ = some (.slice a y.kids.length cap) ∧ V.cell? ⟨Br, 0, none⟩ = some (.func (.func 81) #[] #[]) ∧ V.cell? ⟨Bf, 0, none⟩ = some (.pointer (some ⟨R, off, none⟩))) := fun W hW V hV => by
    have hVb : ∀ b, b ≠ R → V.heap[b]? = W.heap[b]? := fun b hb => by
      rcases hV with rfl | ⟨vv, rfl⟩
      · rfl
      · exact Below.heap_setCell _ _ _ b hb
    have q1 := (hVb w.heap.size (by omega)).trans ((hW.block _ (by omega)).trans hX)
    have q2 := (hVb Br h1).trans ((hW.block _ (by omega)).trans ((hb.block _ hBr).trans hR))
    have q3 := (hVb Bf h2).trans ((hW.block _ (by omega)).trans ((hb.block _ hBf).trans hF))
    exact ⟨cell_of_row _ _ 0 _ _ _ q1, cell_of_row _ _ 1 _ _ _ q1, cell_of_row _ _ 2 _ _ _ q1, cell_of_row _ _ 0 _ _ _ q2, cell_of_row _ _ 0 _ _ _ q3⟩
  have HC : Hid (∀ W, Below W0.heap.size W0 W → Calls Tryz.prog 81 #[.agg #[.int .i8 y.kind, .string (bytesL y.text), .slice a y.kids.length cap]] W fun e w' => ∃ (b : Bool) (v : Value) (x : _), e = .returned (.tuple #[v, .bool b]) ∧ LInt w.heap.size w' x v ∧ ((numM 8) y = if b = true then some x else none) ∧ Below W0.heap.size W0 w') := fun W hW => by
    have hbw := hb.trans (hW.mono (by omega))
    refine (marks_any y _ W (hr.below hbw)).mono ?_
    rintro e w' ⟨b, v, x, he, hl, hm, hb'⟩
    exact ⟨b, v, x, he, hl, hm, hW.trans (hb'.mono hW.size)⟩
  have HRc : Hid (∀ W, Below W0.heap.size W0 W → W.cell? ⟨R, off, none⟩ = some u ∧ W.frozen? ⟨R, off, none⟩ = false) := fun W hW => by
    have hbw := hb.trans (hW.mono (by omega))
    exact ⟨(hbw.cell (p := ⟨R, off, none⟩) hRl).trans hc, (hbw.frozen (p := ⟨R, off, none⟩) hRl).trans hf⟩
  have HB := Lib.hid hb
  have HL := Lib.hid hW0
  clear hr hrt hb hk hl hX hcc hR hF hc hf hW0
  go_enter Tryz.func109, Tryz.ntmps109
  go_wp2_with fail
  rw [← HL.out]
  clear HL
  have H0 := Lib.hid (HS.out W0 (Below.refl _ _) W0 (.inl rfl))
  go_region_held3 (fun W => W.cell? ⟨w.heap.size, 0, none⟩ = some (.int .i8 y.kind) ∧ W.cell? ⟨w.heap.size, 1, none⟩ = some (.string (bytesL y.text)) ∧ W.cell? ⟨w.heap.size, 2, none⟩ = some (.slice a y.kids.length cap) ∧ W.cell? ⟨Br, 0, none⟩ = some (.func (.func 81) #[] #[]) ∧ W.cell? ⟨Bf, 0, none⟩ = some (.pointer (some ⟨R, off, none⟩)))
    (first | exact H0.out | exact HS.out _ (Below.refl _ _).drew _ (.inl rfl) | exact HS.out _ (by assumption) _ (.inl rfl) | exact HS.out _ (by assumption) _ (.inr ⟨_, rfl⟩))
    (first | (go_at_call 81; refine (HC.out _ (by first | exact (Below.refl _ _).drew | exact Below.refl _ _)).mono ?_; rintro e w5 ⟨b, v, x, rfl, hlv, hm, hb5⟩; have HLv := Lib.hid hlv; have HM := Lib.hid hm; unfold LInt at hlv; subst hlv; clear hm; obtain ⟨rc, rf⟩ := HRc.out _ hb5))
  go_wp2
  go_ret
  exact ⟨b, _, x, w5, rfl, HLv.out, HM.out, HB.out.trans (hb5.mono (by omega)), rfl⟩
set_option maxRecDepth 100000 in
set_option maxHeartbeats 2000000 in
theorem into1_conflicts (R off Br Bf : Nat) (y : Tree) (yv u : Value) (w : World) (hR : w.heap[Br]? = some (.cells #[.func (.func 99) #[] #[]] 112 (0, 0))) (hF : w.heap[Bf]? = some (.cells #[.pointer (some ⟨R, off, none⟩)] 111 (0, 0)))
    (h1 : Br ≠ R) (h2 : Bf ≠ R) (hc : w.cell? ⟨R, off, none⟩ = some u) (hf : w.frozen? ⟨R, off, none⟩ = false) (hr : Sx w y yv) (hrt : RowsT y) :
    Calls Tryz.prog 109 #[yv, .pointer (some ⟨Br, 0, none⟩), .pointer (some ⟨Bf, 0, none⟩)] w (IntoP R off (numM 1048576) LInt w y) := by
  obtain ⟨a, cap, rfl, hl, hcc, hk, hb⟩ := sx_box hr
  obtain ⟨W0, hW0⟩ : ∃ W0, W0 = w.alloc (.cells #[.int .i8 y.kind, .string (bytesL y.text), .slice a y.kids.length cap] 35) := ⟨_, rfl⟩
  rw [← hW0] at hb
  have hX : W0.heap[w.heap.size]? = some (.cells #[.int .i8 y.kind, .string (bytesL y.text), .slice a y.kids.length cap] 35 (0, 0)) := by rw [hW0]; exact heap_alloc_new w _
  have hsz : W0.heap.size = w.heap.size + 1 := by rw [hW0]; simp
  have hRl : R < w.heap.size := World.block_lt_of_cell? (a := ⟨R, off, none⟩) w hc
  have hBr := (Array.getElem?_eq_some_iff.1 hR).1
  have hBf := (Array.getElem?_eq_some_iff.1 hF).1
  have HS : Hid (∀ W, Below W0.heap.size W0 W → ∀ V, (V = W ∨ ∃ vv, V = W.setCell ⟨R, off, none⟩ vv) → V.cell? ⟨w.heap.size, 0, none⟩ = some (.int .i8 y.kind) ∧ V.cell? ⟨w.heap.size, 1, none⟩ = some (.string (bytesL y.text)) ∧ V.cell? ⟨w.heap.size, 2, none⟩ = some (.slice a y.kids.length cap) ∧ V.cell? ⟨Br, 0, none⟩ = some (.func (.func 99) #[] #[]) ∧ V.cell? ⟨Bf, 0, none⟩ = some (.pointer (some ⟨R, off, none⟩))) := fun W hW V hV => by
    have hVb : ∀ b, b ≠ R → V.heap[b]? = W.heap[b]? := fun b hb => by
      rcases hV with rfl | ⟨vv, rfl⟩
      · rfl
      · exact Below.heap_setCell _ _ _ b hb
    have q1 := (hVb w.heap.size (by omega)).trans ((hW.block _ (by omega)).trans hX)
    have q2 := (hVb Br h1).trans ((hW.block _ (by omega)).trans ((hb.block _ hBr).trans hR))
    have q3 := (hVb Bf h2).trans ((hW.block _ (by omega)).trans ((hb.block _ hBf).trans hF))
    exact ⟨cell_of_row _ _ 0 _ _ _ q1, cell_of_row _ _ 1 _ _ _ q1, cell_of_row _ _ 2 _ _ _ q1, cell_of_row _ _ 0 _ _ _ q2, cell_of_row _ _ 0 _ _ _ q3⟩
  have HC : Hid (∀ W, Below W0.heap.size W0 W → Calls Tryz.prog 99 #[.agg #[.int .i8 y.kind, .string (bytesL y.text), .slice a y.kids.length cap]] W fun e w' => ∃ (b : Bool) (v : Value) (x : _), e = .returned (.tuple #[v, .bool b]) ∧ LInt w.heap.size w' x v ∧ ((numM 1048576) y = if b = true then some x else none) ∧ Below W0.heap.size W0 w') := fun W hW => by
    have hbw := hb.trans (hW.mono (by omega))
    refine (conflicts_any y _ W (hr.below hbw)).mono ?_
    rintro e w' ⟨b, v, x, he, hl, hm, hb'⟩
    exact ⟨b, v, x, he, hl, hm, hW.trans (hb'.mono hW.size)⟩
  have HRc : Hid (∀ W, Below W0.heap.size W0 W → W.cell? ⟨R, off, none⟩ = some u ∧ W.frozen? ⟨R, off, none⟩ = false) := fun W hW => by
    have hbw := hb.trans (hW.mono (by omega))
    exact ⟨(hbw.cell (p := ⟨R, off, none⟩) hRl).trans hc, (hbw.frozen (p := ⟨R, off, none⟩) hRl).trans hf⟩
  have HB := Lib.hid hb
  have HL := Lib.hid hW0
  clear hr hrt hb hk hl hX hcc hR hF hc hf hW0
  go_enter Tryz.func109, Tryz.ntmps109
  go_wp2_with fail
  rw [← HL.out]
  clear HL
  have H0 := Lib.hid (HS.out W0 (Below.refl _ _) W0 (.inl rfl))
  go_region_held3 (fun W => W.cell? ⟨w.heap.size, 0, none⟩ = some (.int .i8 y.kind) ∧ W.cell? ⟨w.heap.size, 1, none⟩ = some (.string (bytesL y.text)) ∧ W.cell? ⟨w.heap.size, 2, none⟩ = some (.slice a y.kids.length cap) ∧ W.cell? ⟨Br, 0, none⟩ = some (.func (.func 99) #[] #[]) ∧ W.cell? ⟨Bf, 0, none⟩ = some (.pointer (some ⟨R, off, none⟩)))
    (first | exact H0.out | exact HS.out _ (Below.refl _ _).drew _ (.inl rfl) | exact HS.out _ (by assumption) _ (.inl rfl) | exact HS.out _ (by assumption) _ (.inr ⟨_, rfl⟩))
    (first | (go_at_call 99; refine (HC.out _ (by first | exact (Below.refl _ _).drew | exact Below.refl _ _)).mono ?_; rintro e w5 ⟨b, v, x, rfl, hlv, hm, hb5⟩; have HLv := Lib.hid hlv; have HM := Lib.hid hm; unfold LInt at hlv; subst hlv; clear hm; obtain ⟨rc, rf⟩ := HRc.out _ hb5))
  go_wp2
  go_ret
  exact ⟨b, _, x, w5, rfl, HLv.out, HM.out, HB.out.trans (hb5.mono (by omega)), rfl⟩
set_option maxRecDepth 100000 in
set_option maxHeartbeats 2000000 in
theorem into1_numbers (R off Br Bf : Nat) (y : Tree) (yv u : Value) (w : World) (hR : w.heap[Br]? = some (.cells #[.func (.func 101) #[] #[]] 128 (0, 0))) (hF : w.heap[Bf]? = some (.cells #[.pointer (some ⟨R, off, none⟩)] 127 (0, 0)))
    (h1 : Br ≠ R) (h2 : Bf ≠ R) (hc : w.cell? ⟨R, off, none⟩ = some u) (hf : w.frozen? ⟨R, off, none⟩ = false) (hr : Sx w y yv) (hrt : RowsT y) :
    Calls Tryz.prog 119 #[yv, .pointer (some ⟨Br, 0, none⟩), .pointer (some ⟨Bf, 0, none⟩)] w (IntoP R off (eachM 0 64 (numM 1048576)) (LRow intC) w y) := by
  obtain ⟨a, cap, rfl, hl, hcc, hk, hb⟩ := sx_box hr
  obtain ⟨W0, hW0⟩ : ∃ W0, W0 = w.alloc (.cells #[.int .i8 y.kind, .string (bytesL y.text), .slice a y.kids.length cap] 35) := ⟨_, rfl⟩
  rw [← hW0] at hb
  have hX : W0.heap[w.heap.size]? = some (.cells #[.int .i8 y.kind, .string (bytesL y.text), .slice a y.kids.length cap] 35 (0, 0)) := by rw [hW0]; exact heap_alloc_new w _
  have hsz : W0.heap.size = w.heap.size + 1 := by rw [hW0]; simp
  have hRl : R < w.heap.size := World.block_lt_of_cell? (a := ⟨R, off, none⟩) w hc
  have hBr := (Array.getElem?_eq_some_iff.1 hR).1
  have hBf := (Array.getElem?_eq_some_iff.1 hF).1
  have HS : Hid (∀ W, Below W0.heap.size W0 W → ∀ V, (V = W ∨ ∃ vv, V = W.setCell ⟨R, off, none⟩ vv) → V.cell? ⟨w.heap.size, 0, none⟩ = some (.int .i8 y.kind) ∧ V.cell? ⟨w.heap.size, 1, none⟩ = some (.string (bytesL y.text)) ∧ V.cell? ⟨w.heap.size, 2, none⟩ = some (.slice a y.kids.length cap) ∧ V.cell? ⟨Br, 0, none⟩ = some (.func (.func 101) #[] #[]) ∧ V.cell? ⟨Bf, 0, none⟩ = some (.pointer (some ⟨R, off, none⟩))) := fun W hW V hV => by
    have hVb : ∀ b, b ≠ R → V.heap[b]? = W.heap[b]? := fun b hb => by
      rcases hV with rfl | ⟨vv, rfl⟩
      · rfl
      · exact Below.heap_setCell _ _ _ b hb
    have q1 := (hVb w.heap.size (by omega)).trans ((hW.block _ (by omega)).trans hX)
    have q2 := (hVb Br h1).trans ((hW.block _ (by omega)).trans ((hb.block _ hBr).trans hR))
    have q3 := (hVb Bf h2).trans ((hW.block _ (by omega)).trans ((hb.block _ hBf).trans hF))
    exact ⟨cell_of_row _ _ 0 _ _ _ q1, cell_of_row _ _ 1 _ _ _ q1, cell_of_row _ _ 2 _ _ _ q1, cell_of_row _ _ 0 _ _ _ q2, cell_of_row _ _ 0 _ _ _ q3⟩
  have HC : Hid (∀ W, Below W0.heap.size W0 W → Calls Tryz.prog 101 #[.agg #[.int .i8 y.kind, .string (bytesL y.text), .slice a y.kids.length cap]] W fun e w' => ∃ (b : Bool) (v : Value) (x : _), e = .returned (.tuple #[v, .bool b]) ∧ (LRow intC) w.heap.size w' x v ∧ ((eachM 0 64 (numM 1048576)) y = if b = true then some x else none) ∧ Below W0.heap.size W0 w') := fun W hW => by
    have hbw := hb.trans (hW.mono (by omega))
    refine (numbers_any y _ W (hr.below hbw) hrt).mono ?_
    rintro e w' ⟨b, v, x, he, hl, hm, hb'⟩
    exact ⟨b, v, x, he, LRow.more hl (by have := hbw.size; omega), hm, hW.trans (hb'.mono hW.size)⟩
  have HRc : Hid (∀ W, Below W0.heap.size W0 W → W.cell? ⟨R, off, none⟩ = some u ∧ W.frozen? ⟨R, off, none⟩ = false) := fun W hW => by
    have hbw := hb.trans (hW.mono (by omega))
    exact ⟨(hbw.cell (p := ⟨R, off, none⟩) hRl).trans hc, (hbw.frozen (p := ⟨R, off, none⟩) hRl).trans hf⟩
  have HB := Lib.hid hb
  have HL := Lib.hid hW0
  clear hr hrt hb hk hl hX hcc hR hF hc hf hW0
  go_enter Tryz.func119, Tryz.ntmps119
  go_wp2_with fail
  rw [← HL.out]
  clear HL
  have H0 := Lib.hid (HS.out W0 (Below.refl _ _) W0 (.inl rfl))
  go_region_held3 (fun W => W.cell? ⟨w.heap.size, 0, none⟩ = some (.int .i8 y.kind) ∧ W.cell? ⟨w.heap.size, 1, none⟩ = some (.string (bytesL y.text)) ∧ W.cell? ⟨w.heap.size, 2, none⟩ = some (.slice a y.kids.length cap) ∧ W.cell? ⟨Br, 0, none⟩ = some (.func (.func 101) #[] #[]) ∧ W.cell? ⟨Bf, 0, none⟩ = some (.pointer (some ⟨R, off, none⟩)))
    (first | exact H0.out | exact HS.out _ (Below.refl _ _).drew _ (.inl rfl) | exact HS.out _ (by assumption) _ (.inl rfl) | exact HS.out _ (by assumption) _ (.inr ⟨_, rfl⟩))
    (first | (go_at_call 101; refine (HC.out _ (by first | exact (Below.refl _ _).drew | exact Below.refl _ _)).mono ?_; rintro e w5 ⟨b, v, x, rfl, hlv, hm, hb5⟩; have HLv := Lib.hid hlv; have HM := Lib.hid hm; obtain ⟨lad, lcc, rfl, lh⟩ := hlv; have LH := Lib.hid lh; clear lh; clear hm; obtain ⟨rc, rf⟩ := HRc.out _ hb5))
  go_wp2
  go_ret
  exact ⟨b, _, x, w5, rfl, HLv.out, HM.out, HB.out.trans (hb5.mono (by omega)), rfl⟩
end Go.Proofs.YtodonngnigbpaaaGreatDoor
