/- Package command's forms. -/
import Derived.Test.YtodonngnigbpaaaGreatDoorCmN
namespace Go.Proofs.YtodonngnigbpaaaGreatDoor
open Go.RowKit
set_option linter.unusedVariables false
/-- A keeper as it is made. -/
def IntoPart (B R : Nat) (q : Value) (F1 : FuncId) (p : PartM) (W : World) (e : Ending) (w' : World) : Prop :=
  ∃ br bf : Nat, e = .returned (.func (.func F1) #[] #[.pointer (some ⟨br, 0, none⟩), .pointer (some ⟨bf, 0, none⟩)]) ∧ PartAt B R q w' (.func (.func F1) #[] #[.pointer (some ⟨br, 0, none⟩), .pointer (some ⟨bf, 0, none⟩)]) p ∧ Below W.heap.size W w'
def IntoA (B R : Nat) (q : Value) (F1 : FuncId) (p : PartM) (Wa W : World) (e : Ending) (w' : World) : Prop :=
  ∃ br bf : Nat, e = .returned (.func (.func F1) #[] #[.pointer (some ⟨br, 0, none⟩), .pointer (some ⟨bf, 0, none⟩)]) ∧ PartAt B R q w' (.func (.func F1) #[] #[.pointer (some ⟨br, 0, none⟩), .pointer (some ⟨bf, 0, none⟩)]) p ∧ Below W.heap.size W w' ∧ Below Wa.heap.size Wa w'
theorem IntoPart.a {B R : Nat} {q : Value} {F1 : FuncId} {p : PartM} {Wa W : World} {e : Ending} {w' : World} (h : IntoPart B R q F1 p W e w') (hb : Below Wa.heap.size Wa W) : IntoA B R q F1 p Wa W e w' := by
  obtain ⟨br, bf, h1, h2, h3⟩ := h
  exact ⟨br, bf, h1, h2, h3, hb.trans (h3.mono hb.size)⟩
theorem two_new (W : World) (o o' : Obj) : ((W.alloc o).alloc o').heap[W.heap.size]? = some o ∧ ((W.alloc o).alloc o').heap[W.heap.size + 1]? = some o' ∧ Below W.heap.size W ((W.alloc o).alloc o') := by
  refine ⟨(Below.heap_alloc _ _ _ (by simp)).trans (heap_alloc_new W _), ?_, ((Below.refl _ _).alloc (Nat.le_refl _) _).alloc (by simp) _⟩
  have := heap_alloc_new (W.alloc o) o'
  rwa [World.size_alloc] at this
theorem ip_pName (B R : Nat) (q : Value) (W : World) (hB : B ≤ R) (hR : R < W.heap.size) : Calls Tryz.prog 69 #[.pointer (some ⟨R, 2, none⟩), .func (.func 70) #[] #[]] W (IntoPart B R q 98 pName W) := by
  refine (into_str R 2 _ W _ rfl).mono ?_
  rintro e w' ⟨rfl, rfl⟩
  obtain ⟨h1, h2, h3⟩ := two_new W (.cells #[.pointer (some ⟨R, 2, none⟩)] 99) (.cells #[.func (.func 70) #[] #[]] 100)
  exact ⟨_, _, rfl, part_pName B R q _ _ _ hB h2 h1 (by omega) (by omega), h3⟩
theorem ip_pKey (B R : Nat) (q : Value) (W : World) (hB : B ≤ R) (hR : R < W.heap.size) : Calls Tryz.prog 69 #[.pointer (some ⟨R, 2, none⟩), .func (.func 71) #[] #[]] W (IntoPart B R q 98 pKey W) := by
  refine (into_str R 2 _ W _ rfl).mono ?_
  rintro e w' ⟨rfl, rfl⟩
  obtain ⟨h1, h2, h3⟩ := two_new W (.cells #[.pointer (some ⟨R, 2, none⟩)] 99) (.cells #[.func (.func 71) #[] #[]] 100)
  exact ⟨_, _, rfl, part_pKey B R q _ _ _ hB h2 h1 (by omega) (by omega), h3⟩
theorem ip_pRes (B R : Nat) (q : Value) (W : World) (hB : B ≤ R) (hR : R < W.heap.size) : Calls Tryz.prog 69 #[.pointer (some ⟨R, 7, none⟩), .func (.func 70) #[] #[]] W (IntoPart B R q 98 pRes W) := by
  refine (into_str R 7 _ W _ rfl).mono ?_
  rintro e w' ⟨rfl, rfl⟩
  obtain ⟨h1, h2, h3⟩ := two_new W (.cells #[.pointer (some ⟨R, 7, none⟩)] 99) (.cells #[.func (.func 70) #[] #[]] 100)
  exact ⟨_, _, rfl, part_pRes B R q _ _ _ hB h2 h1 (by omega) (by omega), h3⟩
theorem ip_pMarks (B R : Nat) (q : Value) (W : World) (hB : B ≤ R) (hR : R < W.heap.size) : Calls Tryz.prog 80 #[.pointer (some ⟨R, 3, none⟩), .func (.func 81) #[] #[]] W (IntoPart B R q 109 pMarks W) := by
  refine (into_int R 3 _ W _ rfl).mono ?_
  rintro e w' ⟨rfl, rfl⟩
  obtain ⟨h1, h2, h3⟩ := two_new W (.cells #[.pointer (some ⟨R, 3, none⟩)] 111) (.cells #[.func (.func 81) #[] #[]] 112)
  exact ⟨_, _, rfl, part_pMarks B R q _ _ _ hB h2 h1 (by omega) (by omega), h3⟩
theorem ip_pArgs (B R : Nat) (q : Value) (W : World) (hB : B ≤ R) (hR : R < W.heap.size) : Calls Tryz.prog 74 #[.pointer (some ⟨R, 5, none⟩), .func (.func 75) #[] #[]] W (IntoPart B R q 103 pArgs W) := by
  refine (into_strs R 5 _ W _ rfl).mono ?_
  rintro e w' ⟨rfl, rfl⟩
  obtain ⟨h1, h2, h3⟩ := two_new W (.cells #[.pointer (some ⟨R, 5, none⟩)] 102) (.cells #[.func (.func 75) #[] #[]] 103)
  exact ⟨_, _, rfl, part_pArgs B R q _ _ _ hB h2 h1 (by omega) (by omega), h3⟩
theorem ip_pPars (B R : Nat) (q : Value) (W : World) (hB : B ≤ R) (hR : R < W.heap.size) : Calls Tryz.prog 76 #[.pointer (some ⟨R, 6, none⟩), .func (.func 77) #[] #[]] W (IntoPart B R q 105 pPars W) := by
  refine (into_pars R 6 _ W _ rfl).mono ?_
  rintro e w' ⟨rfl, rfl⟩
  obtain ⟨h1, h2, h3⟩ := two_new W (.cells #[.pointer (some ⟨R, 6, none⟩)] 105) (.cells #[.func (.func 77) #[] #[]] 106)
  exact ⟨_, _, rfl, part_pPars B R q _ _ _ hB h2 h1 (by omega) (by omega), h3⟩
theorem ip_pTerms (B R : Nat) (q : Value) (W : World) (hB : B ≤ R) (hR : R < W.heap.size) : Calls Tryz.prog 78 #[.pointer (some ⟨R, 8, none⟩), .func (.func 82) #[] #[]] W (IntoPart B R q 108 pTerms W) := by
  refine (into_trees R 8 _ W _ rfl).mono ?_
  rintro e w' ⟨rfl, rfl⟩
  obtain ⟨h1, h2, h3⟩ := two_new W (.cells #[.pointer (some ⟨R, 8, none⟩)] 108) (.cells #[.func (.func 82) #[] #[]] 109)
  exact ⟨_, _, rfl, part_pTerms B R q _ _ _ hB h2 h1 (by omega) (by omega), h3⟩
theorem ip_pOne (B R : Nat) (q : Value) (W : World) (hB : B ≤ R) (hR : R < W.heap.size) : Calls Tryz.prog 78 #[.pointer (some ⟨R, 8, none⟩), .func (.func 79) #[] #[]] W (IntoPart B R q 108 pOne W) := by
  refine (into_trees R 8 _ W _ rfl).mono ?_
  rintro e w' ⟨rfl, rfl⟩
  obtain ⟨h1, h2, h3⟩ := two_new W (.cells #[.pointer (some ⟨R, 8, none⟩)] 108) (.cells #[.func (.func 79) #[] #[]] 109)
  exact ⟨_, _, rfl, part_pOne B R q _ _ _ hB h2 h1 (by omega) (by omega), h3⟩
def cmdK (k : Int) : CmdA := { cmd0 with kind := k }
/-- What a form is called with. -/
structure FormS (B R : Nat) (ra : Option Addr) (rc : Nat) (ys : List Tree) (w : World) : Prop where
  br : B ≤ R
  rdr : Rdr0 w R (.slice ra ys.length rc)
  row : RdL w (fun b => B ≤ b) ys ra
  rt : ∀ y ∈ ys, RowsT y
  y63 : ys.length ≤ 140737488355328
theorem FormS.keep {B R rc : Nat} {ra : Option Addr} {ys : List Tree} {w w' : World} (h : FormS B R ra rc ys w) (hb : Below w.heap.size w w') : FormS B R ra rc ys w' :=
  ⟨h.br, (hb.block R (Array.getElem?_eq_some_iff.1 h.rdr).1).trans h.rdr, RdL.keep (fun b hb' hlt => hb.block b hlt) _ _ h.row, h.rt, h.y63⟩
theorem FormS.lt {B R rc : Nat} {ra : Option Addr} {ys : List Tree} {w : World} (h : FormS B R ra rc ys w) : R < w.heap.size := (Array.getElem?_eq_some_iff.1 h.rdr).1
/-- The take of a form, its parts in a new row. -/
theorem take_row {B R rc : Nat} {ra : Option Addr} {ys : List Tree} {w W : World} (k : Int) (pvs : List Value) (ps : List PartM) (n : Nat) (hS : FormS B R ra rc ys w) (hW : Below w.heap.size w W) (hn : n = ps.length) (hpl : pvs.length = ps.length) (hp100 : ps.length ≤ 100)
    (hpp : ∀ (i : Nat) (pv : Value) (p : PartM), pvs[i]? = some pv → ps[i]? = some p → PartAt B R (.slice ra ys.length rc) W pv p) :
    Calls Tryz.prog 68 #[.pointer (some ⟨R, 0, none⟩), .int .i8 k, .slice (some ⟨W.heap.size, 0, none⟩) n n] (W.alloc (.cells pvs.toArray 97)) fun e w' => TakeP R (takeP (cmdK k) ps ys) (W.alloc (.cells pvs.toArray 97)) e w' := by
  subst hn
  have hb : Below W.heap.size W (W.alloc (.cells pvs.toArray 97)) := (Below.refl _ _).alloc (Nat.le_refl _) _
  have hS2 := (hS.keep hW).keep hb
  have hRW := (hS.keep hW).lt
  exact take_any B R k ra rc ys (some ⟨W.heap.size, 0, none⟩) ps.length pvs ps _ hS.br hS2.rdr hS2.row hS.rt hS.y63 hpl hp100 (fun _ => ⟨W.heap.size, 0, rfl, by omega, fun i v hv => by
    rw [cell_of_row _ _ _ _ _ _ (heap_alloc_new W _), Nat.zero_add, ← Array.getElem?_toList]
    exact hv⟩) (fun i pv p h1 h2 => (hpp i pv p h1 h2).keep (Oth.of hb))
/-- The end of a form. -/
theorem form_yes {R : Nat} {w Wt w5 : World} {x : CmdV} {u0 u1 u2 u3 u4 u5 u6 u7 : Value} (hRw : R < w.heap.size) (hW : Below w.heap.size w Wt) (hWs : w.heap.size < Wt.heap.size) (hO : Oth R Wt w5) (hx : CmdN w5 Wt.heap.size x) (hZ : w5.heap[w.heap.size]? = some (.cells #[u0, u1, u2, u3, u4, u5, u6, u7] 28 (0, 0))) :
    Oth R w ((((((((w5.setCell ⟨w.heap.size, 0, none⟩ (.int .i8 x.c.kind)).setCell ⟨w.heap.size, 1, none⟩ (.string (bytesL x.c.name))).setCell ⟨w.heap.size, 2, none⟩ (.int .i64 x.c.n)).setCell ⟨w.heap.size, 3, none⟩ (.slice x.la x.c.l.length x.lc)).setCell ⟨w.heap.size, 4, none⟩ (.slice x.aa x.c.args.length x.ac)).setCell ⟨w.heap.size, 5, none⟩ (.slice x.pa x.c.params.length x.pc)).setCell ⟨w.heap.size, 6, none⟩ (.string (bytesL x.c.res))).setCell ⟨w.heap.size, 7, none⟩ (.slice x.ta x.c.terms.length x.tc)) ∧
    CmdN ((((((((w5.setCell ⟨w.heap.size, 0, none⟩ (.int .i8 x.c.kind)).setCell ⟨w.heap.size, 1, none⟩ (.string (bytesL x.c.name))).setCell ⟨w.heap.size, 2, none⟩ (.int .i64 x.c.n)).setCell ⟨w.heap.size, 3, none⟩ (.slice x.la x.c.l.length x.lc)).setCell ⟨w.heap.size, 4, none⟩ (.slice x.aa x.c.args.length x.ac)).setCell ⟨w.heap.size, 5, none⟩ (.slice x.pa x.c.params.length x.pc)).setCell ⟨w.heap.size, 6, none⟩ (.string (bytesL x.c.res))).setCell ⟨w.heap.size, 7, none⟩ (.slice x.ta x.c.terms.length x.tc)) w.heap.size x :=
  ⟨Oth.far8 ((Oth.of hW).trans hO) (Nat.le_refl _), (hx.keep (by rw [size8]; exact Nat.le_refl _) (fun b hb _ => oth8 (by omega))).more (by omega)⟩
theorem TakeP.from {R : Nat} {r : Option CmdA} {Wa Wt : World} {e : Ending} {w' : World} (h : TakeP R r Wt e w') (hb : Below Wa.heap.size Wa Wt) : TakeP R r Wa e w' := by
  obtain ⟨h1, h2⟩ := h
  refine ⟨(Oth.of hb).trans h1, ?_⟩
  cases r with
  | none => exact h2
  | some c =>
    obtain ⟨x, q1, q2, q3⟩ := h2
    exact ⟨x, q1, q2, q3.more hb.size⟩
theorem TakeP.yes {R : Nat} {r : Option CmdA} {w : World} {e : Ending} {w' : World} {c : CmdA} (h : TakeP R r w e w') (hr : r = some c) : ∃ x : CmdV, x.c = c ∧ e = .returned (.tuple #[.agg #[.int .i8 x.c.kind, .string (bytesL x.c.name), .int .i64 x.c.n, .slice x.la x.c.l.length x.lc, .slice x.aa x.c.args.length x.ac, .slice x.pa x.c.params.length x.pc, .string (bytesL x.c.res), .slice x.ta x.c.terms.length x.tc], .int .i64 0]) ∧ CmdN w' w.heap.size x ∧ Oth R w w' := by
  subst hr
  obtain ⟨h1, x, h2, h3, h4⟩ := h
  exact ⟨x, h2, h3, h4, h1⟩
theorem TakeP.no {R : Nat} {r : Option CmdA} {w : World} {e : Ending} {w' : World} (h : TakeP R r w e w') (hr : r = none) : e = .returned (.tuple #[zCmV, .int .i64 30]) ∧ Oth R w w' := by
  subst hr
  exact ⟨h.2, h.1⟩
set_option maxRecDepth 100000 in
set_option maxHeartbeats 2000000 in
theorem form_check (B R rc : Nat) (ra : Option Addr) (ys : List Tree) (w : World) (hS0 : FormS B R ra rc ys w) :
    Calls Tryz.prog 46 #[.pointer (some ⟨R, 0, none⟩)] w (TakeP R (takeP (cmdK 8) [] ys) w) := by
  have hRw := hS0.lt
  obtain ⟨Wa, hWa⟩ : ∃ Wa, Wa = w.alloc zCm := ⟨_, rfl⟩
  have hba : Below w.heap.size w Wa := by rw [hWa]; exact (Below.refl _ _).alloc (Nat.le_refl _) _
  have hsa : Wa.heap.size = w.heap.size + 1 := by rw [hWa]; simp
  have hZa : Wa.heap[w.heap.size]? = some zCm := by rw [hWa]; exact heap_alloc_new w _
  have hS := hS0.keep hba
  have HL : Hid (Wa = w.alloc (.cells #[.int .i8 0, .string ⟨#[]⟩, .int .i64 0, .slice none 0 0, .slice none 0 0, .slice none 0 0, .string ⟨#[]⟩, .slice none 0 0] 28)) := hWa
  have HBa := Lib.hid hba
  have HZa := Lib.hid hZa
  obtain ⟨r, hr⟩ : ∃ r, r = takeP (cmdK 8) [] ys := ⟨_, rfl⟩
  have HTake : Hid (∀ (W : World), Below Wa.heap.size Wa W → Calls Tryz.prog 68 #[.pointer (some ⟨R, 0, none⟩), .int .i8 8, .slice none 0 0] W (TakeP R r Wa)) := fun W hW => by
    rw [hr]
    exact (take_any B R 8 ra rc ys none 0 [] [] W hS.br (hS.keep hW).rdr (hS.keep hW).row hS.rt hS.y63 rfl (by simp) (fun h => absurd h (by simp)) (fun i pv p h => by simp at h)).mono fun e w' h => h.from hW
  rw [← hr]
  clear hr hS hS0 hWa hba hZa
  cases hr : r with
  | none =>
    have HR := Lib.hid hr
    clear hr
    go_enter Tryz.func46, Tryz.ntmps46
    go_wp2_with (first | (go_at_call 68; rw [← HL.out]; clear HL; refine (HTake.out Wa (Below.refl _ _)).mono ?_; rintro e w9 hp9; obtain ⟨rfl, ho9⟩ := hp9.no HR.out; clear hp9; have hZ9 : w9.heap[w.heap.size]? = some zCm := (ho9.block _ (by omega) (by omega)).trans HZa.out; have HZ9 := Lib.hid hZ9; obtain ⟨d0, d1, d2, d3, d4, d5, d6, d7, fz, hzz⟩ := cells8b hZ9; clear hZ9; unfold zCmV))
    refine bodyPost_ret (res_cell_tmp rfl _ _ (w.heap.size) _ _ _ _ rfl (set8 HZ9.out) Tryz.underlying28 rfl cmdSize) rfl ?_
    exact ⟨Oth.far8 ((Oth.of HBa.out).trans ho9) (Nat.le_refl _), rfl⟩
  | some c =>
    have HR := Lib.hid hr
    clear hr
    go_enter Tryz.func46, Tryz.ntmps46
    go_wp2_with (first | (go_at_call 68; rw [← HL.out]; clear HL; refine (HTake.out Wa (Below.refl _ _)).mono ?_; rintro e w9 hp9; obtain ⟨x, hx, rfl, hn9, ho9⟩ := hp9.yes HR.out; clear hp9; have hZ9 : w9.heap[w.heap.size]? = some zCm := (ho9.block _ (by omega) (by omega)).trans HZa.out; have HZ9 := Lib.hid hZ9; obtain ⟨d0, d1, d2, d3, d4, d5, d6, d7, fz, hzz⟩ := cells8b hZ9; clear hZ9; have HN9 := Lib.hid hn9; have HX9 := Lib.hid hx; clear hn9 hx))
    refine bodyPost_ret (res_cell_tmp rfl _ _ (w.heap.size) _ _ _ _ rfl (set8 HZ9.out) Tryz.underlying28 rfl cmdSize) rfl ?_
    obtain ⟨q1, q2⟩ := form_yes hRw HBa.out (by omega) ho9 HN9.out HZ9.out
    refine ⟨q1, ?_⟩
    exact ⟨x, HX9.out, rfl, q2⟩
set_option maxRecDepth 100000 in
set_option maxHeartbeats 2000000 in
theorem form_logic (B R rc : Nat) (ra : Option Addr) (ys : List Tree) (w : World) (hS0 : FormS B R ra rc ys w) :
    Calls Tryz.prog 38 #[.pointer (some ⟨R, 0, none⟩)] w (TakeP R (takeP (cmdK 0) [pName] ys) w) := by
  have hRw := hS0.lt
  obtain ⟨Wa, hWa⟩ : ∃ Wa, Wa = w.alloc zCm := ⟨_, rfl⟩
  have hba : Below w.heap.size w Wa := by rw [hWa]; exact (Below.refl _ _).alloc (Nat.le_refl _) _
  have hsa : Wa.heap.size = w.heap.size + 1 := by rw [hWa]; simp
  have hZa : Wa.heap[w.heap.size]? = some zCm := by rw [hWa]; exact heap_alloc_new w _
  have hS := hS0.keep hba
  have HL : Hid (Wa = w.alloc (.cells #[.int .i8 0, .string ⟨#[]⟩, .int .i64 0, .slice none 0 0, .slice none 0 0, .slice none 0 0, .string ⟨#[]⟩, .slice none 0 0] 28)) := hWa
  have HBa := Lib.hid hba
  have HZa := Lib.hid hZa
  obtain ⟨r, hr⟩ : ∃ r, r = takeP (cmdK 0) [pName] ys := ⟨_, rfl⟩
  have HI1 : Hid (∀ W, Below Wa.heap.size Wa W → Calls Tryz.prog 69 #[.pointer (some ⟨R, 2, none⟩), .func (.func 70) #[] #[]] W (IntoA B R (.slice ra ys.length rc) 98 pName Wa W)) := fun W hW => (ip_pName B R _ W hS.br (Nat.lt_of_lt_of_le hS.lt hW.size)).mono fun e w' h => h.a hW
  have HTake : Hid (∀ (W : World) (br1 bf1 : Nat), Below Wa.heap.size Wa W → PartAt B R (.slice ra ys.length rc) W (.func (.func 98) #[] #[.pointer (some ⟨br1, 0, none⟩), .pointer (some ⟨bf1, 0, none⟩)]) pName → Calls Tryz.prog 68 #[.pointer (some ⟨R, 0, none⟩), .int .i8 0, .slice (some ⟨W.heap.size, 0, none⟩) 1 1] (W.alloc (.cells #[.func (.func 98) #[] #[.pointer (some ⟨br1, 0, none⟩), .pointer (some ⟨bf1, 0, none⟩)]] 97)) (TakeP R r Wa)) := by
    intro W br1 bf1 hW hp1
    rw [hr]
    refine (take_row 0 [.func (.func 98) #[] #[.pointer (some ⟨br1, 0, none⟩), .pointer (some ⟨bf1, 0, none⟩)]] [pName] 1 hS hW rfl rfl (by simp) (fun i pv p h1 h2 => ?_)).mono fun e w' h => h.from (hW.alloc hW.size _)
    match i with
    | 0 => simp only [List.getElem?_cons_zero, Option.some.injEq] at h1 h2; subst h1 h2; exact hp1
    | i + 1 => simp at h1
  rw [← hr]
  clear hr hS hS0 hWa hba hZa
  cases hr : r with
  | none =>
    have HR := Lib.hid hr
    clear hr
    go_enter Tryz.func38, Tryz.ntmps38
    go_wp2_with (first | (go_at_call 69; rw [← HL.out]; clear HL; refine (HI1.out _ (by first | exact Below.refl _ _ | exact (Below.refl _ _).drew)).mono ?_; rintro e w1 ⟨br1, bf1, rfl, hp1, hbn1, hba1⟩; have HP1 := Lib.hid hp1; clear hp1) | (go_at_call 68; refine (HTake.out w1 br1 bf1 hba1 HP1.out).mono ?_; rintro e w9 hp9; obtain ⟨rfl, ho9⟩ := hp9.no HR.out; clear hp9; have hZ9 : w9.heap[w.heap.size]? = some zCm := (ho9.block _ (by omega) (by omega)).trans HZa.out; have HZ9 := Lib.hid hZ9; obtain ⟨d0, d1, d2, d3, d4, d5, d6, d7, fz, hzz⟩ := cells8b hZ9; clear hZ9; unfold zCmV))
    refine bodyPost_ret (res_cell_tmp rfl _ _ (w.heap.size) _ _ _ _ rfl (set8 HZ9.out) Tryz.underlying28 rfl cmdSize) rfl ?_
    exact ⟨Oth.far8 ((Oth.of HBa.out).trans ho9) (Nat.le_refl _), rfl⟩
  | some c =>
    have HR := Lib.hid hr
    clear hr
    go_enter Tryz.func38, Tryz.ntmps38
    go_wp2_with (first | (go_at_call 69; rw [← HL.out]; clear HL; refine (HI1.out _ (by first | exact Below.refl _ _ | exact (Below.refl _ _).drew)).mono ?_; rintro e w1 ⟨br1, bf1, rfl, hp1, hbn1, hba1⟩; have HP1 := Lib.hid hp1; clear hp1) | (go_at_call 68; refine (HTake.out w1 br1 bf1 hba1 HP1.out).mono ?_; rintro e w9 hp9; obtain ⟨x, hx, rfl, hn9, ho9⟩ := hp9.yes HR.out; clear hp9; have hZ9 : w9.heap[w.heap.size]? = some zCm := (ho9.block _ (by omega) (by omega)).trans HZa.out; have HZ9 := Lib.hid hZ9; obtain ⟨d0, d1, d2, d3, d4, d5, d6, d7, fz, hzz⟩ := cells8b hZ9; clear hZ9; have HN9 := Lib.hid hn9; have HX9 := Lib.hid hx; clear hn9 hx))
    refine bodyPost_ret (res_cell_tmp rfl _ _ (w.heap.size) _ _ _ _ rfl (set8 HZ9.out) Tryz.underlying28 rfl cmdSize) rfl ?_
    obtain ⟨q1, q2⟩ := form_yes hRw HBa.out (by omega) ho9 HN9.out HZ9.out
    refine ⟨q1, ?_⟩
    exact ⟨x, HX9.out, rfl, q2⟩
end Go.Proofs.YtodonngnigbpaaaGreatDoor
namespace Go.Proofs.YtodonngnigbpaaaGreatDoor
open Go.RowKit
set_option linter.unusedVariables false
set_option maxRecDepth 100000 in
set_option maxHeartbeats 2000000 in
theorem form_option (B R rc : Nat) (ra : Option Addr) (ys : List Tree) (w : World) (hS0 : FormS B R ra rc ys w) :
    Calls Tryz.prog 39 #[.pointer (some ⟨R, 0, none⟩)] w (TakeP R (takeP (cmdK 1) [pKey, pSet] ys) w) := by
  have hRw := hS0.lt
  obtain ⟨Wa, hWa⟩ : ∃ Wa, Wa = w.alloc zCm := ⟨_, rfl⟩
  have hba : Below w.heap.size w Wa := by rw [hWa]; exact (Below.refl _ _).alloc (Nat.le_refl _) _
  have hsa : Wa.heap.size = w.heap.size + 1 := by rw [hWa]; simp
  have hZa : Wa.heap[w.heap.size]? = some zCm := by rw [hWa]; exact heap_alloc_new w _
  have hS := hS0.keep hba
  have HL : Hid (Wa = w.alloc (.cells #[.int .i8 0, .string ⟨#[]⟩, .int .i64 0, .slice none 0 0, .slice none 0 0, .slice none 0 0, .string ⟨#[]⟩, .slice none 0 0] 28)) := hWa
  have HBa := Lib.hid hba
  have HZa := Lib.hid hZa
  obtain ⟨r, hr⟩ : ∃ r, r = takeP (cmdK 1) [pKey, pSet] ys := ⟨_, rfl⟩
  have HI1 : Hid (∀ W, Below Wa.heap.size Wa W → Calls Tryz.prog 69 #[.pointer (some ⟨R, 2, none⟩), .func (.func 71) #[] #[]] W (IntoA B R (.slice ra ys.length rc) 98 pKey Wa W)) := fun W hW => (ip_pKey B R _ W hS.br (Nat.lt_of_lt_of_le hS.lt hW.size)).mono fun e w' h => h.a hW
  have HTake : Hid (∀ (W : World) (br1 bf1 : Nat), Below Wa.heap.size Wa W → PartAt B R (.slice ra ys.length rc) W (.func (.func 98) #[] #[.pointer (some ⟨br1, 0, none⟩), .pointer (some ⟨bf1, 0, none⟩)]) pKey → Calls Tryz.prog 68 #[.pointer (some ⟨R, 0, none⟩), .int .i8 1, .slice (some ⟨W.heap.size, 0, none⟩) 2 2] (W.alloc (.cells #[.func (.func 98) #[] #[.pointer (some ⟨br1, 0, none⟩), .pointer (some ⟨bf1, 0, none⟩)], .func (.func 72) #[.pointer (some ⟨R, 0, none⟩)] #[]] 97)) (TakeP R r Wa)) := by
    intro W br1 bf1 hW hp1
    rw [hr]
    refine (take_row 1 [.func (.func 98) #[] #[.pointer (some ⟨br1, 0, none⟩), .pointer (some ⟨bf1, 0, none⟩)], .func (.func 72) #[.pointer (some ⟨R, 0, none⟩)] #[]] [pKey, pSet] 2 hS hW rfl rfl (by simp) (fun i pv p h1 h2 => ?_)).mono fun e w' h => h.from (hW.alloc hW.size _)
    match i with
    | 0 => simp only [List.getElem?_cons_zero, Option.some.injEq] at h1 h2; subst h1 h2; exact hp1
    | 1 => simp only [List.getElem?_cons_zero, List.getElem?_cons_succ, Option.some.injEq] at h1 h2; subst h1 h2; exact part_pSet B R _ _ hS.br
    | i + 2 => simp at h1
  rw [← hr]
  clear hr hS hS0 hWa hba hZa
  cases hr : r with
  | none =>
    have HR := Lib.hid hr
    clear hr
    go_enter Tryz.func39, Tryz.ntmps39
    go_wp2_with (first | (go_at_call 69; rw [← HL.out]; clear HL; refine (HI1.out _ (by first | exact Below.refl _ _ | exact (Below.refl _ _).drew)).mono ?_; rintro e w1 ⟨br1, bf1, rfl, hp1, hbn1, hba1⟩; have HP1 := Lib.hid hp1; clear hp1) | (go_at_call 68; refine (HTake.out w1 br1 bf1 hba1 HP1.out).mono ?_; rintro e w9 hp9; obtain ⟨rfl, ho9⟩ := hp9.no HR.out; clear hp9; have hZ9 : w9.heap[w.heap.size]? = some zCm := (ho9.block _ (by omega) (by omega)).trans HZa.out; have HZ9 := Lib.hid hZ9; obtain ⟨d0, d1, d2, d3, d4, d5, d6, d7, fz, hzz⟩ := cells8b hZ9; clear hZ9; unfold zCmV))
    refine bodyPost_ret (res_cell_tmp rfl _ _ (w.heap.size) _ _ _ _ rfl (set8 HZ9.out) Tryz.underlying28 rfl cmdSize) rfl ?_
    exact ⟨Oth.far8 ((Oth.of HBa.out).trans ho9) (Nat.le_refl _), rfl⟩
  | some c =>
    have HR := Lib.hid hr
    clear hr
    go_enter Tryz.func39, Tryz.ntmps39
    go_wp2_with (first | (go_at_call 69; rw [← HL.out]; clear HL; refine (HI1.out _ (by first | exact Below.refl _ _ | exact (Below.refl _ _).drew)).mono ?_; rintro e w1 ⟨br1, bf1, rfl, hp1, hbn1, hba1⟩; have HP1 := Lib.hid hp1; clear hp1) | (go_at_call 68; refine (HTake.out w1 br1 bf1 hba1 HP1.out).mono ?_; rintro e w9 hp9; obtain ⟨x, hx, rfl, hn9, ho9⟩ := hp9.yes HR.out; clear hp9; have hZ9 : w9.heap[w.heap.size]? = some zCm := (ho9.block _ (by omega) (by omega)).trans HZa.out; have HZ9 := Lib.hid hZ9; obtain ⟨d0, d1, d2, d3, d4, d5, d6, d7, fz, hzz⟩ := cells8b hZ9; clear hZ9; have HN9 := Lib.hid hn9; have HX9 := Lib.hid hx; clear hn9 hx))
    refine bodyPost_ret (res_cell_tmp rfl _ _ (w.heap.size) _ _ _ _ rfl (set8 HZ9.out) Tryz.underlying28 rfl cmdSize) rfl ?_
    obtain ⟨q1, q2⟩ := form_yes hRw HBa.out (by omega) ho9 HN9.out HZ9.out
    refine ⟨q1, ?_⟩
    exact ⟨x, HX9.out, rfl, q2⟩
set_option maxRecDepth 100000 in
set_option maxHeartbeats 2000000 in
theorem form_sort (B R rc : Nat) (ra : Option Addr) (ys : List Tree) (w : World) (hS0 : FormS B R ra rc ys w) :
    Calls Tryz.prog 40 #[.pointer (some ⟨R, 0, none⟩)] w (TakeP R (takeP (cmdK 2) [pName, pZero] ys) w) := by
  have hRw := hS0.lt
  obtain ⟨Wa, hWa⟩ : ∃ Wa, Wa = w.alloc zCm := ⟨_, rfl⟩
  have hba : Below w.heap.size w Wa := by rw [hWa]; exact (Below.refl _ _).alloc (Nat.le_refl _) _
  have hsa : Wa.heap.size = w.heap.size + 1 := by rw [hWa]; simp
  have hZa : Wa.heap[w.heap.size]? = some zCm := by rw [hWa]; exact heap_alloc_new w _
  have hS := hS0.keep hba
  have HL : Hid (Wa = w.alloc (.cells #[.int .i8 0, .string ⟨#[]⟩, .int .i64 0, .slice none 0 0, .slice none 0 0, .slice none 0 0, .string ⟨#[]⟩, .slice none 0 0] 28)) := hWa
  have HBa := Lib.hid hba
  have HZa := Lib.hid hZa
  obtain ⟨r, hr⟩ : ∃ r, r = takeP (cmdK 2) [pName, pZero] ys := ⟨_, rfl⟩
  have HI1 : Hid (∀ W, Below Wa.heap.size Wa W → Calls Tryz.prog 69 #[.pointer (some ⟨R, 2, none⟩), .func (.func 70) #[] #[]] W (IntoA B R (.slice ra ys.length rc) 98 pName Wa W)) := fun W hW => (ip_pName B R _ W hS.br (Nat.lt_of_lt_of_le hS.lt hW.size)).mono fun e w' h => h.a hW
  have HTake : Hid (∀ (W : World) (br1 bf1 : Nat), Below Wa.heap.size Wa W → PartAt B R (.slice ra ys.length rc) W (.func (.func 98) #[] #[.pointer (some ⟨br1, 0, none⟩), .pointer (some ⟨bf1, 0, none⟩)]) pName → Calls Tryz.prog 68 #[.pointer (some ⟨R, 0, none⟩), .int .i8 2, .slice (some ⟨W.heap.size, 0, none⟩) 2 2] (W.alloc (.cells #[.func (.func 98) #[] #[.pointer (some ⟨br1, 0, none⟩), .pointer (some ⟨bf1, 0, none⟩)], .func (.func 73) #[] #[]] 97)) (TakeP R r Wa)) := by
    intro W br1 bf1 hW hp1
    rw [hr]
    refine (take_row 2 [.func (.func 98) #[] #[.pointer (some ⟨br1, 0, none⟩), .pointer (some ⟨bf1, 0, none⟩)], .func (.func 73) #[] #[]] [pName, pZero] 2 hS hW rfl rfl (by simp) (fun i pv p h1 h2 => ?_)).mono fun e w' h => h.from (hW.alloc hW.size _)
    match i with
    | 0 => simp only [List.getElem?_cons_zero, Option.some.injEq] at h1 h2; subst h1 h2; exact hp1
    | 1 => simp only [List.getElem?_cons_zero, List.getElem?_cons_succ, Option.some.injEq] at h1 h2; subst h1 h2; exact part_pZero B R _ _
    | i + 2 => simp at h1
  rw [← hr]
  clear hr hS hS0 hWa hba hZa
  cases hr : r with
  | none =>
    have HR := Lib.hid hr
    clear hr
    go_enter Tryz.func40, Tryz.ntmps40
    go_wp2_with (first | (go_at_call 69; rw [← HL.out]; clear HL; refine (HI1.out _ (by first | exact Below.refl _ _ | exact (Below.refl _ _).drew)).mono ?_; rintro e w1 ⟨br1, bf1, rfl, hp1, hbn1, hba1⟩; have HP1 := Lib.hid hp1; clear hp1) | (go_at_call 68; refine (HTake.out w1 br1 bf1 hba1 HP1.out).mono ?_; rintro e w9 hp9; obtain ⟨rfl, ho9⟩ := hp9.no HR.out; clear hp9; have hZ9 : w9.heap[w.heap.size]? = some zCm := (ho9.block _ (by omega) (by omega)).trans HZa.out; have HZ9 := Lib.hid hZ9; obtain ⟨d0, d1, d2, d3, d4, d5, d6, d7, fz, hzz⟩ := cells8b hZ9; clear hZ9; unfold zCmV))
    refine bodyPost_ret (res_cell_tmp rfl _ _ (w.heap.size) _ _ _ _ rfl (set8 HZ9.out) Tryz.underlying28 rfl cmdSize) rfl ?_
    exact ⟨Oth.far8 ((Oth.of HBa.out).trans ho9) (Nat.le_refl _), rfl⟩
  | some c =>
    have HR := Lib.hid hr
    clear hr
    go_enter Tryz.func40, Tryz.ntmps40
    go_wp2_with (first | (go_at_call 69; rw [← HL.out]; clear HL; refine (HI1.out _ (by first | exact Below.refl _ _ | exact (Below.refl _ _).drew)).mono ?_; rintro e w1 ⟨br1, bf1, rfl, hp1, hbn1, hba1⟩; have HP1 := Lib.hid hp1; clear hp1) | (go_at_call 68; refine (HTake.out w1 br1 bf1 hba1 HP1.out).mono ?_; rintro e w9 hp9; obtain ⟨x, hx, rfl, hn9, ho9⟩ := hp9.yes HR.out; clear hp9; have hZ9 : w9.heap[w.heap.size]? = some zCm := (ho9.block _ (by omega) (by omega)).trans HZa.out; have HZ9 := Lib.hid hZ9; obtain ⟨d0, d1, d2, d3, d4, d5, d6, d7, fz, hzz⟩ := cells8b hZ9; clear hZ9; have HN9 := Lib.hid hn9; have HX9 := Lib.hid hx; clear hn9 hx))
    refine bodyPost_ret (res_cell_tmp rfl _ _ (w.heap.size) _ _ _ _ rfl (set8 HZ9.out) Tryz.underlying28 rfl cmdSize) rfl ?_
    obtain ⟨q1, q2⟩ := form_yes hRw HBa.out (by omega) ho9 HN9.out HZ9.out
    refine ⟨q1, ?_⟩
    exact ⟨x, HX9.out, rfl, q2⟩
set_option maxRecDepth 100000 in
set_option maxHeartbeats 2000000 in
theorem form_fun (B R rc : Nat) (ra : Option Addr) (ys : List Tree) (w : World) (hS0 : FormS B R ra rc ys w) :
    Calls Tryz.prog 41 #[.pointer (some ⟨R, 0, none⟩)] w (TakeP R (takeP (cmdK 3) [pName, pArgs, pRes] ys) w) := by
  have hRw := hS0.lt
  obtain ⟨Wa, hWa⟩ : ∃ Wa, Wa = w.alloc zCm := ⟨_, rfl⟩
  have hba : Below w.heap.size w Wa := by rw [hWa]; exact (Below.refl _ _).alloc (Nat.le_refl _) _
  have hsa : Wa.heap.size = w.heap.size + 1 := by rw [hWa]; simp
  have hZa : Wa.heap[w.heap.size]? = some zCm := by rw [hWa]; exact heap_alloc_new w _
  have hS := hS0.keep hba
  have HL : Hid (Wa = w.alloc (.cells #[.int .i8 0, .string ⟨#[]⟩, .int .i64 0, .slice none 0 0, .slice none 0 0, .slice none 0 0, .string ⟨#[]⟩, .slice none 0 0] 28)) := hWa
  have HBa := Lib.hid hba
  have HZa := Lib.hid hZa
  obtain ⟨r, hr⟩ : ∃ r, r = takeP (cmdK 3) [pName, pArgs, pRes] ys := ⟨_, rfl⟩
  have HI1 : Hid (∀ W, Below Wa.heap.size Wa W → Calls Tryz.prog 69 #[.pointer (some ⟨R, 2, none⟩), .func (.func 70) #[] #[]] W (IntoA B R (.slice ra ys.length rc) 98 pName Wa W)) := fun W hW => (ip_pName B R _ W hS.br (Nat.lt_of_lt_of_le hS.lt hW.size)).mono fun e w' h => h.a hW
  have HI2 : Hid (∀ W, Below Wa.heap.size Wa W → Calls Tryz.prog 74 #[.pointer (some ⟨R, 5, none⟩), .func (.func 75) #[] #[]] W (IntoA B R (.slice ra ys.length rc) 103 pArgs Wa W)) := fun W hW => (ip_pArgs B R _ W hS.br (Nat.lt_of_lt_of_le hS.lt hW.size)).mono fun e w' h => h.a hW
  have HI3 : Hid (∀ W, Below Wa.heap.size Wa W → Calls Tryz.prog 69 #[.pointer (some ⟨R, 7, none⟩), .func (.func 70) #[] #[]] W (IntoA B R (.slice ra ys.length rc) 98 pRes Wa W)) := fun W hW => (ip_pRes B R _ W hS.br (Nat.lt_of_lt_of_le hS.lt hW.size)).mono fun e w' h => h.a hW
  have HTake : Hid (∀ (W : World) (br1 bf1 : Nat) (br2 bf2 : Nat) (br3 bf3 : Nat), Below Wa.heap.size Wa W → PartAt B R (.slice ra ys.length rc) W (.func (.func 98) #[] #[.pointer (some ⟨br1, 0, none⟩), .pointer (some ⟨bf1, 0, none⟩)]) pName → PartAt B R (.slice ra ys.length rc) W (.func (.func 103) #[] #[.pointer (some ⟨br2, 0, none⟩), .pointer (some ⟨bf2, 0, none⟩)]) pArgs → PartAt B R (.slice ra ys.length rc) W (.func (.func 98) #[] #[.pointer (some ⟨br3, 0, none⟩), .pointer (some ⟨bf3, 0, none⟩)]) pRes → Calls Tryz.prog 68 #[.pointer (some ⟨R, 0, none⟩), .int .i8 3, .slice (some ⟨W.heap.size, 0, none⟩) 3 3] (W.alloc (.cells #[.func (.func 98) #[] #[.pointer (some ⟨br1, 0, none⟩), .pointer (some ⟨bf1, 0, none⟩)], .func (.func 103) #[] #[.pointer (some ⟨br2, 0, none⟩), .pointer (some ⟨bf2, 0, none⟩)], .func (.func 98) #[] #[.pointer (some ⟨br3, 0, none⟩), .pointer (some ⟨bf3, 0, none⟩)]] 97)) (TakeP R r Wa)) := by
    intro W br1 bf1 br2 bf2 br3 bf3 hW hp1 hp2 hp3
    rw [hr]
    refine (take_row 3 [.func (.func 98) #[] #[.pointer (some ⟨br1, 0, none⟩), .pointer (some ⟨bf1, 0, none⟩)], .func (.func 103) #[] #[.pointer (some ⟨br2, 0, none⟩), .pointer (some ⟨bf2, 0, none⟩)], .func (.func 98) #[] #[.pointer (some ⟨br3, 0, none⟩), .pointer (some ⟨bf3, 0, none⟩)]] [pName, pArgs, pRes] 3 hS hW rfl rfl (by simp) (fun i pv p h1 h2 => ?_)).mono fun e w' h => h.from (hW.alloc hW.size _)
    match i with
    | 0 => simp only [List.getElem?_cons_zero, Option.some.injEq] at h1 h2; subst h1 h2; exact hp1
    | 1 => simp only [List.getElem?_cons_zero, List.getElem?_cons_succ, Option.some.injEq] at h1 h2; subst h1 h2; exact hp2
    | 2 => simp only [List.getElem?_cons_zero, List.getElem?_cons_succ, Option.some.injEq] at h1 h2; subst h1 h2; exact hp3
    | i + 3 => simp at h1
  rw [← hr]
  clear hr hS hS0 hWa hba hZa
  cases hr : r with
  | none =>
    have HR := Lib.hid hr
    clear hr
    go_enter Tryz.func41, Tryz.ntmps41
    go_wp2_with fail
    rw [← HL.out]
    clear HL
    go_region_held3 (fun _ => True) (first | exact trivial) (first | (go_at_call 69; refine (HI1.out _ (by first | exact Below.refl _ _ | exact (Below.refl _ _).drew)).mono ?_; rintro e w1 ⟨br1, bf1, rfl, hp1, hbn1, hba1⟩; have HP1 := Lib.hid hp1; clear hp1) | (go_at_call 74; refine (HI2.out _ (by first | exact hba1 | exact hba1.drew)).mono ?_; rintro e w2 ⟨br2, bf2, rfl, hp2, hbn2, hba2⟩; have HP1 := Lib.hid (HP1.out.keep (Oth.of (by first | exact hbn2 | exact (Below.refl _ _).drew.trans hbn2))); have HP2 := Lib.hid hp2; clear hp2) | (go_at_call 69; refine (HI3.out _ (by first | exact hba2 | exact hba2.drew)).mono ?_; rintro e w3 ⟨br3, bf3, rfl, hp3, hbn3, hba3⟩; have HP1 := Lib.hid (HP1.out.keep (Oth.of (by first | exact hbn3 | exact (Below.refl _ _).drew.trans hbn3))); have HP2 := Lib.hid (HP2.out.keep (Oth.of (by first | exact hbn3 | exact (Below.refl _ _).drew.trans hbn3))); have HP3 := Lib.hid hp3; clear hp3) | (go_at_call 68; refine (HTake.out w3 br1 bf1 br2 bf2 br3 bf3 hba3 HP1.out HP2.out HP3.out).mono ?_; rintro e w9 hp9; obtain ⟨rfl, ho9⟩ := hp9.no HR.out; clear hp9; have hZ9 : w9.heap[w.heap.size]? = some zCm := (ho9.block _ (by omega) (by omega)).trans HZa.out; have HZ9 := Lib.hid hZ9; obtain ⟨d0, d1, d2, d3, d4, d5, d6, d7, fz, hzz⟩ := cells8b hZ9; clear hZ9; unfold zCmV))
    go_wp2
    refine bodyPost_ret (res_cell_tmp rfl _ _ (w.heap.size) _ _ _ _ rfl (set8 HZ9.out) Tryz.underlying28 rfl cmdSize) rfl ?_
    exact ⟨Oth.far8 ((Oth.of HBa.out).trans ho9) (Nat.le_refl _), rfl⟩
  | some c =>
    have HR := Lib.hid hr
    clear hr
    go_enter Tryz.func41, Tryz.ntmps41
    go_wp2_with fail
    rw [← HL.out]
    clear HL
    go_region_held3 (fun _ => True) (first | exact trivial) (first | (go_at_call 69; refine (HI1.out _ (by first | exact Below.refl _ _ | exact (Below.refl _ _).drew)).mono ?_; rintro e w1 ⟨br1, bf1, rfl, hp1, hbn1, hba1⟩; have HP1 := Lib.hid hp1; clear hp1) | (go_at_call 74; refine (HI2.out _ (by first | exact hba1 | exact hba1.drew)).mono ?_; rintro e w2 ⟨br2, bf2, rfl, hp2, hbn2, hba2⟩; have HP1 := Lib.hid (HP1.out.keep (Oth.of (by first | exact hbn2 | exact (Below.refl _ _).drew.trans hbn2))); have HP2 := Lib.hid hp2; clear hp2) | (go_at_call 69; refine (HI3.out _ (by first | exact hba2 | exact hba2.drew)).mono ?_; rintro e w3 ⟨br3, bf3, rfl, hp3, hbn3, hba3⟩; have HP1 := Lib.hid (HP1.out.keep (Oth.of (by first | exact hbn3 | exact (Below.refl _ _).drew.trans hbn3))); have HP2 := Lib.hid (HP2.out.keep (Oth.of (by first | exact hbn3 | exact (Below.refl _ _).drew.trans hbn3))); have HP3 := Lib.hid hp3; clear hp3) | (go_at_call 68; refine (HTake.out w3 br1 bf1 br2 bf2 br3 bf3 hba3 HP1.out HP2.out HP3.out).mono ?_; rintro e w9 hp9; obtain ⟨x, hx, rfl, hn9, ho9⟩ := hp9.yes HR.out; clear hp9; have hZ9 : w9.heap[w.heap.size]? = some zCm := (ho9.block _ (by omega) (by omega)).trans HZa.out; have HZ9 := Lib.hid hZ9; obtain ⟨d0, d1, d2, d3, d4, d5, d6, d7, fz, hzz⟩ := cells8b hZ9; clear hZ9; have HN9 := Lib.hid hn9; have HX9 := Lib.hid hx; clear hn9 hx))
    go_wp2
    refine bodyPost_ret (res_cell_tmp rfl _ _ (w.heap.size) _ _ _ _ rfl (set8 HZ9.out) Tryz.underlying28 rfl cmdSize) rfl ?_
    obtain ⟨q1, q2⟩ := form_yes hRw HBa.out (by omega) ho9 HN9.out HZ9.out
    refine ⟨q1, ?_⟩
    exact ⟨x, HX9.out, rfl, q2⟩
end Go.Proofs.YtodonngnigbpaaaGreatDoor
namespace Go.Proofs.YtodonngnigbpaaaGreatDoor
open Go.RowKit
set_option linter.unusedVariables false
set_option maxRecDepth 100000 in
set_option maxHeartbeats 2000000 in
theorem form_define (B R rc : Nat) (ra : Option Addr) (ys : List Tree) (w : World) (hS0 : FormS B R ra rc ys w) :
    Calls Tryz.prog 42 #[.pointer (some ⟨R, 0, none⟩)] w (TakeP R (takeP (cmdK 4) [pName, pPars, pRes, pOne] ys) w) := by
  have hRw := hS0.lt
  obtain ⟨Wa, hWa⟩ : ∃ Wa, Wa = w.alloc zCm := ⟨_, rfl⟩
  have hba : Below w.heap.size w Wa := by rw [hWa]; exact (Below.refl _ _).alloc (Nat.le_refl _) _
  have hsa : Wa.heap.size = w.heap.size + 1 := by rw [hWa]; simp
  have hZa : Wa.heap[w.heap.size]? = some zCm := by rw [hWa]; exact heap_alloc_new w _
  have hS := hS0.keep hba
  have HL : Hid (Wa = w.alloc (.cells #[.int .i8 0, .string ⟨#[]⟩, .int .i64 0, .slice none 0 0, .slice none 0 0, .slice none 0 0, .string ⟨#[]⟩, .slice none 0 0] 28)) := hWa
  have HBa := Lib.hid hba
  have HZa := Lib.hid hZa
  obtain ⟨r, hr⟩ : ∃ r, r = takeP (cmdK 4) [pName, pPars, pRes, pOne] ys := ⟨_, rfl⟩
  have HI1 : Hid (∀ W, Below Wa.heap.size Wa W → Calls Tryz.prog 69 #[.pointer (some ⟨R, 2, none⟩), .func (.func 70) #[] #[]] W (IntoA B R (.slice ra ys.length rc) 98 pName Wa W)) := fun W hW => (ip_pName B R _ W hS.br (Nat.lt_of_lt_of_le hS.lt hW.size)).mono fun e w' h => h.a hW
  have HI2 : Hid (∀ W, Below Wa.heap.size Wa W → Calls Tryz.prog 76 #[.pointer (some ⟨R, 6, none⟩), .func (.func 77) #[] #[]] W (IntoA B R (.slice ra ys.length rc) 105 pPars Wa W)) := fun W hW => (ip_pPars B R _ W hS.br (Nat.lt_of_lt_of_le hS.lt hW.size)).mono fun e w' h => h.a hW
  have HI3 : Hid (∀ W, Below Wa.heap.size Wa W → Calls Tryz.prog 69 #[.pointer (some ⟨R, 7, none⟩), .func (.func 70) #[] #[]] W (IntoA B R (.slice ra ys.length rc) 98 pRes Wa W)) := fun W hW => (ip_pRes B R _ W hS.br (Nat.lt_of_lt_of_le hS.lt hW.size)).mono fun e w' h => h.a hW
  have HI4 : Hid (∀ W, Below Wa.heap.size Wa W → Calls Tryz.prog 78 #[.pointer (some ⟨R, 8, none⟩), .func (.func 79) #[] #[]] W (IntoA B R (.slice ra ys.length rc) 108 pOne Wa W)) := fun W hW => (ip_pOne B R _ W hS.br (Nat.lt_of_lt_of_le hS.lt hW.size)).mono fun e w' h => h.a hW
  have HTake : Hid (∀ (W : World) (br1 bf1 : Nat) (br2 bf2 : Nat) (br3 bf3 : Nat) (br4 bf4 : Nat), Below Wa.heap.size Wa W → PartAt B R (.slice ra ys.length rc) W (.func (.func 98) #[] #[.pointer (some ⟨br1, 0, none⟩), .pointer (some ⟨bf1, 0, none⟩)]) pName → PartAt B R (.slice ra ys.length rc) W (.func (.func 105) #[] #[.pointer (some ⟨br2, 0, none⟩), .pointer (some ⟨bf2, 0, none⟩)]) pPars → PartAt B R (.slice ra ys.length rc) W (.func (.func 98) #[] #[.pointer (some ⟨br3, 0, none⟩), .pointer (some ⟨bf3, 0, none⟩)]) pRes → PartAt B R (.slice ra ys.length rc) W (.func (.func 108) #[] #[.pointer (some ⟨br4, 0, none⟩), .pointer (some ⟨bf4, 0, none⟩)]) pOne → Calls Tryz.prog 68 #[.pointer (some ⟨R, 0, none⟩), .int .i8 4, .slice (some ⟨W.heap.size, 0, none⟩) 4 4] (W.alloc (.cells #[.func (.func 98) #[] #[.pointer (some ⟨br1, 0, none⟩), .pointer (some ⟨bf1, 0, none⟩)], .func (.func 105) #[] #[.pointer (some ⟨br2, 0, none⟩), .pointer (some ⟨bf2, 0, none⟩)], .func (.func 98) #[] #[.pointer (some ⟨br3, 0, none⟩), .pointer (some ⟨bf3, 0, none⟩)], .func (.func 108) #[] #[.pointer (some ⟨br4, 0, none⟩), .pointer (some ⟨bf4, 0, none⟩)]] 97)) (TakeP R r Wa)) := by
    intro W br1 bf1 br2 bf2 br3 bf3 br4 bf4 hW hp1 hp2 hp3 hp4
    rw [hr]
    refine (take_row 4 [.func (.func 98) #[] #[.pointer (some ⟨br1, 0, none⟩), .pointer (some ⟨bf1, 0, none⟩)], .func (.func 105) #[] #[.pointer (some ⟨br2, 0, none⟩), .pointer (some ⟨bf2, 0, none⟩)], .func (.func 98) #[] #[.pointer (some ⟨br3, 0, none⟩), .pointer (some ⟨bf3, 0, none⟩)], .func (.func 108) #[] #[.pointer (some ⟨br4, 0, none⟩), .pointer (some ⟨bf4, 0, none⟩)]] [pName, pPars, pRes, pOne] 4 hS hW rfl rfl (by simp) (fun i pv p h1 h2 => ?_)).mono fun e w' h => h.from (hW.alloc hW.size _)
    match i with
    | 0 => simp only [List.getElem?_cons_zero, Option.some.injEq] at h1 h2; subst h1 h2; exact hp1
    | 1 => simp only [List.getElem?_cons_zero, List.getElem?_cons_succ, Option.some.injEq] at h1 h2; subst h1 h2; exact hp2
    | 2 => simp only [List.getElem?_cons_zero, List.getElem?_cons_succ, Option.some.injEq] at h1 h2; subst h1 h2; exact hp3
    | 3 => simp only [List.getElem?_cons_zero, List.getElem?_cons_succ, Option.some.injEq] at h1 h2; subst h1 h2; exact hp4
    | i + 4 => simp at h1
  rw [← hr]
  clear hr hS hS0 hWa hba hZa
  cases hr : r with
  | none =>
    have HR := Lib.hid hr
    clear hr
    go_enter Tryz.func42, Tryz.ntmps42
    go_wp2_with fail
    rw [← HL.out]
    clear HL
    go_region_held3 (fun _ => True) (first | exact trivial) (first | (go_at_call 69; refine (HI1.out _ (by first | exact Below.refl _ _ | exact (Below.refl _ _).drew)).mono ?_; rintro e w1 ⟨br1, bf1, rfl, hp1, hbn1, hba1⟩; have HP1 := Lib.hid hp1; clear hp1) | (go_at_call 76; refine (HI2.out _ (by first | exact hba1 | exact hba1.drew)).mono ?_; rintro e w2 ⟨br2, bf2, rfl, hp2, hbn2, hba2⟩; have HP1 := Lib.hid (HP1.out.keep (Oth.of (by first | exact hbn2 | exact (Below.refl _ _).drew.trans hbn2))); have HP2 := Lib.hid hp2; clear hp2) | (go_at_call 69; refine (HI3.out _ (by first | exact hba2 | exact hba2.drew)).mono ?_; rintro e w3 ⟨br3, bf3, rfl, hp3, hbn3, hba3⟩; have HP1 := Lib.hid (HP1.out.keep (Oth.of (by first | exact hbn3 | exact (Below.refl _ _).drew.trans hbn3))); have HP2 := Lib.hid (HP2.out.keep (Oth.of (by first | exact hbn3 | exact (Below.refl _ _).drew.trans hbn3))); have HP3 := Lib.hid hp3; clear hp3) | (go_at_call 78; refine (HI4.out _ (by first | exact hba3 | exact hba3.drew)).mono ?_; rintro e w4 ⟨br4, bf4, rfl, hp4, hbn4, hba4⟩; have HP1 := Lib.hid (HP1.out.keep (Oth.of (by first | exact hbn4 | exact (Below.refl _ _).drew.trans hbn4))); have HP2 := Lib.hid (HP2.out.keep (Oth.of (by first | exact hbn4 | exact (Below.refl _ _).drew.trans hbn4))); have HP3 := Lib.hid (HP3.out.keep (Oth.of (by first | exact hbn4 | exact (Below.refl _ _).drew.trans hbn4))); have HP4 := Lib.hid hp4; clear hp4) | (go_at_call 68; refine (HTake.out w4 br1 bf1 br2 bf2 br3 bf3 br4 bf4 hba4 HP1.out HP2.out HP3.out HP4.out).mono ?_; rintro e w9 hp9; obtain ⟨rfl, ho9⟩ := hp9.no HR.out; clear hp9; have hZ9 : w9.heap[w.heap.size]? = some zCm := (ho9.block _ (by omega) (by omega)).trans HZa.out; have HZ9 := Lib.hid hZ9; obtain ⟨d0, d1, d2, d3, d4, d5, d6, d7, fz, hzz⟩ := cells8b hZ9; clear hZ9; unfold zCmV))
    go_wp2
    refine bodyPost_ret (res_cell_tmp rfl _ _ (w.heap.size) _ _ _ _ rfl (set8 HZ9.out) Tryz.underlying28 rfl cmdSize) rfl ?_
    exact ⟨Oth.far8 ((Oth.of HBa.out).trans ho9) (Nat.le_refl _), rfl⟩
  | some c =>
    have HR := Lib.hid hr
    clear hr
    go_enter Tryz.func42, Tryz.ntmps42
    go_wp2_with fail
    rw [← HL.out]
    clear HL
    go_region_held3 (fun _ => True) (first | exact trivial) (first | (go_at_call 69; refine (HI1.out _ (by first | exact Below.refl _ _ | exact (Below.refl _ _).drew)).mono ?_; rintro e w1 ⟨br1, bf1, rfl, hp1, hbn1, hba1⟩; have HP1 := Lib.hid hp1; clear hp1) | (go_at_call 76; refine (HI2.out _ (by first | exact hba1 | exact hba1.drew)).mono ?_; rintro e w2 ⟨br2, bf2, rfl, hp2, hbn2, hba2⟩; have HP1 := Lib.hid (HP1.out.keep (Oth.of (by first | exact hbn2 | exact (Below.refl _ _).drew.trans hbn2))); have HP2 := Lib.hid hp2; clear hp2) | (go_at_call 69; refine (HI3.out _ (by first | exact hba2 | exact hba2.drew)).mono ?_; rintro e w3 ⟨br3, bf3, rfl, hp3, hbn3, hba3⟩; have HP1 := Lib.hid (HP1.out.keep (Oth.of (by first | exact hbn3 | exact (Below.refl _ _).drew.trans hbn3))); have HP2 := Lib.hid (HP2.out.keep (Oth.of (by first | exact hbn3 | exact (Below.refl _ _).drew.trans hbn3))); have HP3 := Lib.hid hp3; clear hp3) | (go_at_call 78; refine (HI4.out _ (by first | exact hba3 | exact hba3.drew)).mono ?_; rintro e w4 ⟨br4, bf4, rfl, hp4, hbn4, hba4⟩; have HP1 := Lib.hid (HP1.out.keep (Oth.of (by first | exact hbn4 | exact (Below.refl _ _).drew.trans hbn4))); have HP2 := Lib.hid (HP2.out.keep (Oth.of (by first | exact hbn4 | exact (Below.refl _ _).drew.trans hbn4))); have HP3 := Lib.hid (HP3.out.keep (Oth.of (by first | exact hbn4 | exact (Below.refl _ _).drew.trans hbn4))); have HP4 := Lib.hid hp4; clear hp4) | (go_at_call 68; refine (HTake.out w4 br1 bf1 br2 bf2 br3 bf3 br4 bf4 hba4 HP1.out HP2.out HP3.out HP4.out).mono ?_; rintro e w9 hp9; obtain ⟨x, hx, rfl, hn9, ho9⟩ := hp9.yes HR.out; clear hp9; have hZ9 : w9.heap[w.heap.size]? = some zCm := (ho9.block _ (by omega) (by omega)).trans HZa.out; have HZ9 := Lib.hid hZ9; obtain ⟨d0, d1, d2, d3, d4, d5, d6, d7, fz, hzz⟩ := cells8b hZ9; clear hZ9; have HN9 := Lib.hid hn9; have HX9 := Lib.hid hx; clear hn9 hx))
    go_wp2
    refine bodyPost_ret (res_cell_tmp rfl _ _ (w.heap.size) _ _ _ _ rfl (set8 HZ9.out) Tryz.underlying28 rfl cmdSize) rfl ?_
    obtain ⟨q1, q2⟩ := form_yes hRw HBa.out (by omega) ho9 HN9.out HZ9.out
    refine ⟨q1, ?_⟩
    exact ⟨x, HX9.out, rfl, q2⟩
end Go.Proofs.YtodonngnigbpaaaGreatDoor
namespace Go.Proofs.YtodonngnigbpaaaGreatDoor
open Go.RowKit
set_option linter.unusedVariables false
set_option maxRecDepth 100000 in
set_option maxHeartbeats 2000000 in
theorem form_assert (B R rc : Nat) (ra : Option Addr) (ys : List Tree) (w : World) (hS0 : FormS B R ra rc ys w) :
    Calls Tryz.prog 43 #[.pointer (some ⟨R, 0, none⟩)] w (TakeP R (takeP (cmdK 5) [pOne] ys) w) := by
  have hRw := hS0.lt
  obtain ⟨Wa, hWa⟩ : ∃ Wa, Wa = w.alloc zCm := ⟨_, rfl⟩
  have hba : Below w.heap.size w Wa := by rw [hWa]; exact (Below.refl _ _).alloc (Nat.le_refl _) _
  have hsa : Wa.heap.size = w.heap.size + 1 := by rw [hWa]; simp
  have hZa : Wa.heap[w.heap.size]? = some zCm := by rw [hWa]; exact heap_alloc_new w _
  have hS := hS0.keep hba
  have HL : Hid (Wa = w.alloc (.cells #[.int .i8 0, .string ⟨#[]⟩, .int .i64 0, .slice none 0 0, .slice none 0 0, .slice none 0 0, .string ⟨#[]⟩, .slice none 0 0] 28)) := hWa
  have HBa := Lib.hid hba
  have HZa := Lib.hid hZa
  obtain ⟨r, hr⟩ : ∃ r, r = takeP (cmdK 5) [pOne] ys := ⟨_, rfl⟩
  have HI1 : Hid (∀ W, Below Wa.heap.size Wa W → Calls Tryz.prog 78 #[.pointer (some ⟨R, 8, none⟩), .func (.func 79) #[] #[]] W (IntoA B R (.slice ra ys.length rc) 108 pOne Wa W)) := fun W hW => (ip_pOne B R _ W hS.br (Nat.lt_of_lt_of_le hS.lt hW.size)).mono fun e w' h => h.a hW
  have HTake : Hid (∀ (W : World) (br1 bf1 : Nat), Below Wa.heap.size Wa W → PartAt B R (.slice ra ys.length rc) W (.func (.func 108) #[] #[.pointer (some ⟨br1, 0, none⟩), .pointer (some ⟨bf1, 0, none⟩)]) pOne → Calls Tryz.prog 68 #[.pointer (some ⟨R, 0, none⟩), .int .i8 5, .slice (some ⟨W.heap.size, 0, none⟩) 1 1] (W.alloc (.cells #[.func (.func 108) #[] #[.pointer (some ⟨br1, 0, none⟩), .pointer (some ⟨bf1, 0, none⟩)]] 97)) (TakeP R r Wa)) := by
    intro W br1 bf1 hW hp1
    rw [hr]
    refine (take_row 5 [.func (.func 108) #[] #[.pointer (some ⟨br1, 0, none⟩), .pointer (some ⟨bf1, 0, none⟩)]] [pOne] 1 hS hW rfl rfl (by simp) (fun i pv p h1 h2 => ?_)).mono fun e w' h => h.from (hW.alloc hW.size _)
    match i with
    | 0 => simp only [List.getElem?_cons_zero, Option.some.injEq] at h1 h2; subst h1 h2; exact hp1
    | i + 1 => simp at h1
  rw [← hr]
  clear hr hS hS0 hWa hba hZa
  cases hr : r with
  | none =>
    have HR := Lib.hid hr
    clear hr
    go_enter Tryz.func43, Tryz.ntmps43
    go_wp2_with (first | (go_at_call 78; rw [← HL.out]; clear HL; refine (HI1.out _ (by first | exact Below.refl _ _ | exact (Below.refl _ _).drew)).mono ?_; rintro e w1 ⟨br1, bf1, rfl, hp1, hbn1, hba1⟩; have HP1 := Lib.hid hp1; clear hp1) | (go_at_call 68; refine (HTake.out w1 br1 bf1 hba1 HP1.out).mono ?_; rintro e w9 hp9; obtain ⟨rfl, ho9⟩ := hp9.no HR.out; clear hp9; have hZ9 : w9.heap[w.heap.size]? = some zCm := (ho9.block _ (by omega) (by omega)).trans HZa.out; have HZ9 := Lib.hid hZ9; obtain ⟨d0, d1, d2, d3, d4, d5, d6, d7, fz, hzz⟩ := cells8b hZ9; clear hZ9; unfold zCmV))
    refine bodyPost_ret (res_cell_tmp rfl _ _ (w.heap.size) _ _ _ _ rfl (set8 HZ9.out) Tryz.underlying28 rfl cmdSize) rfl ?_
    exact ⟨Oth.far8 ((Oth.of HBa.out).trans ho9) (Nat.le_refl _), rfl⟩
  | some c =>
    have HR := Lib.hid hr
    clear hr
    go_enter Tryz.func43, Tryz.ntmps43
    go_wp2_with (first | (go_at_call 78; rw [← HL.out]; clear HL; refine (HI1.out _ (by first | exact Below.refl _ _ | exact (Below.refl _ _).drew)).mono ?_; rintro e w1 ⟨br1, bf1, rfl, hp1, hbn1, hba1⟩; have HP1 := Lib.hid hp1; clear hp1) | (go_at_call 68; refine (HTake.out w1 br1 bf1 hba1 HP1.out).mono ?_; rintro e w9 hp9; obtain ⟨x, hx, rfl, hn9, ho9⟩ := hp9.yes HR.out; clear hp9; have hZ9 : w9.heap[w.heap.size]? = some zCm := (ho9.block _ (by omega) (by omega)).trans HZa.out; have HZ9 := Lib.hid hZ9; obtain ⟨d0, d1, d2, d3, d4, d5, d6, d7, fz, hzz⟩ := cells8b hZ9; clear hZ9; have HN9 := Lib.hid hn9; have HX9 := Lib.hid hx; clear hn9 hx))
    refine bodyPost_ret (res_cell_tmp rfl _ _ (w.heap.size) _ _ _ _ rfl (set8 HZ9.out) Tryz.underlying28 rfl cmdSize) rfl ?_
    obtain ⟨q1, q2⟩ := form_yes hRw HBa.out (by omega) ho9 HN9.out HZ9.out
    refine ⟨q1, ?_⟩
    exact ⟨x, HX9.out, rfl, q2⟩
set_option maxRecDepth 100000 in
set_option maxHeartbeats 2000000 in
theorem form_push (B R rc : Nat) (ra : Option Addr) (ys : List Tree) (w : World) (hS0 : FormS B R ra rc ys w) :
    Calls Tryz.prog 44 #[.pointer (some ⟨R, 0, none⟩)] w (TakeP R (takeP (cmdK 6) [pMarks] ys) w) := by
  have hRw := hS0.lt
  obtain ⟨Wa, hWa⟩ : ∃ Wa, Wa = w.alloc zCm := ⟨_, rfl⟩
  have hba : Below w.heap.size w Wa := by rw [hWa]; exact (Below.refl _ _).alloc (Nat.le_refl _) _
  have hsa : Wa.heap.size = w.heap.size + 1 := by rw [hWa]; simp
  have hZa : Wa.heap[w.heap.size]? = some zCm := by rw [hWa]; exact heap_alloc_new w _
  have hS := hS0.keep hba
  have HL : Hid (Wa = w.alloc (.cells #[.int .i8 0, .string ⟨#[]⟩, .int .i64 0, .slice none 0 0, .slice none 0 0, .slice none 0 0, .string ⟨#[]⟩, .slice none 0 0] 28)) := hWa
  have HBa := Lib.hid hba
  have HZa := Lib.hid hZa
  obtain ⟨r, hr⟩ : ∃ r, r = takeP (cmdK 6) [pMarks] ys := ⟨_, rfl⟩
  have HI1 : Hid (∀ W, Below Wa.heap.size Wa W → Calls Tryz.prog 80 #[.pointer (some ⟨R, 3, none⟩), .func (.func 81) #[] #[]] W (IntoA B R (.slice ra ys.length rc) 109 pMarks Wa W)) := fun W hW => (ip_pMarks B R _ W hS.br (Nat.lt_of_lt_of_le hS.lt hW.size)).mono fun e w' h => h.a hW
  have HTake : Hid (∀ (W : World) (br1 bf1 : Nat), Below Wa.heap.size Wa W → PartAt B R (.slice ra ys.length rc) W (.func (.func 109) #[] #[.pointer (some ⟨br1, 0, none⟩), .pointer (some ⟨bf1, 0, none⟩)]) pMarks → Calls Tryz.prog 68 #[.pointer (some ⟨R, 0, none⟩), .int .i8 6, .slice (some ⟨W.heap.size, 0, none⟩) 1 1] (W.alloc (.cells #[.func (.func 109) #[] #[.pointer (some ⟨br1, 0, none⟩), .pointer (some ⟨bf1, 0, none⟩)]] 97)) (TakeP R r Wa)) := by
    intro W br1 bf1 hW hp1
    rw [hr]
    refine (take_row 6 [.func (.func 109) #[] #[.pointer (some ⟨br1, 0, none⟩), .pointer (some ⟨bf1, 0, none⟩)]] [pMarks] 1 hS hW rfl rfl (by simp) (fun i pv p h1 h2 => ?_)).mono fun e w' h => h.from (hW.alloc hW.size _)
    match i with
    | 0 => simp only [List.getElem?_cons_zero, Option.some.injEq] at h1 h2; subst h1 h2; exact hp1
    | i + 1 => simp at h1
  rw [← hr]
  clear hr hS hS0 hWa hba hZa
  cases hr : r with
  | none =>
    have HR := Lib.hid hr
    clear hr
    go_enter Tryz.func44, Tryz.ntmps44
    go_wp2_with (first | (go_at_call 80; rw [← HL.out]; clear HL; refine (HI1.out _ (by first | exact Below.refl _ _ | exact (Below.refl _ _).drew)).mono ?_; rintro e w1 ⟨br1, bf1, rfl, hp1, hbn1, hba1⟩; have HP1 := Lib.hid hp1; clear hp1) | (go_at_call 68; refine (HTake.out w1 br1 bf1 hba1 HP1.out).mono ?_; rintro e w9 hp9; obtain ⟨rfl, ho9⟩ := hp9.no HR.out; clear hp9; have hZ9 : w9.heap[w.heap.size]? = some zCm := (ho9.block _ (by omega) (by omega)).trans HZa.out; have HZ9 := Lib.hid hZ9; obtain ⟨d0, d1, d2, d3, d4, d5, d6, d7, fz, hzz⟩ := cells8b hZ9; clear hZ9; unfold zCmV))
    refine bodyPost_ret (res_cell_tmp rfl _ _ (w.heap.size) _ _ _ _ rfl (set8 HZ9.out) Tryz.underlying28 rfl cmdSize) rfl ?_
    exact ⟨Oth.far8 ((Oth.of HBa.out).trans ho9) (Nat.le_refl _), rfl⟩
  | some c =>
    have HR := Lib.hid hr
    clear hr
    go_enter Tryz.func44, Tryz.ntmps44
    go_wp2_with (first | (go_at_call 80; rw [← HL.out]; clear HL; refine (HI1.out _ (by first | exact Below.refl _ _ | exact (Below.refl _ _).drew)).mono ?_; rintro e w1 ⟨br1, bf1, rfl, hp1, hbn1, hba1⟩; have HP1 := Lib.hid hp1; clear hp1) | (go_at_call 68; refine (HTake.out w1 br1 bf1 hba1 HP1.out).mono ?_; rintro e w9 hp9; obtain ⟨x, hx, rfl, hn9, ho9⟩ := hp9.yes HR.out; clear hp9; have hZ9 : w9.heap[w.heap.size]? = some zCm := (ho9.block _ (by omega) (by omega)).trans HZa.out; have HZ9 := Lib.hid hZ9; obtain ⟨d0, d1, d2, d3, d4, d5, d6, d7, fz, hzz⟩ := cells8b hZ9; clear hZ9; have HN9 := Lib.hid hn9; have HX9 := Lib.hid hx; clear hn9 hx))
    refine bodyPost_ret (res_cell_tmp rfl _ _ (w.heap.size) _ _ _ _ rfl (set8 HZ9.out) Tryz.underlying28 rfl cmdSize) rfl ?_
    obtain ⟨q1, q2⟩ := form_yes hRw HBa.out (by omega) ho9 HN9.out HZ9.out
    refine ⟨q1, ?_⟩
    exact ⟨x, HX9.out, rfl, q2⟩
set_option maxRecDepth 100000 in
set_option maxHeartbeats 2000000 in
theorem form_pop (B R rc : Nat) (ra : Option Addr) (ys : List Tree) (w : World) (hS0 : FormS B R ra rc ys w) :
    Calls Tryz.prog 45 #[.pointer (some ⟨R, 0, none⟩)] w (TakeP R (takeP (cmdK 7) [pMarks] ys) w) := by
  have hRw := hS0.lt
  obtain ⟨Wa, hWa⟩ : ∃ Wa, Wa = w.alloc zCm := ⟨_, rfl⟩
  have hba : Below w.heap.size w Wa := by rw [hWa]; exact (Below.refl _ _).alloc (Nat.le_refl _) _
  have hsa : Wa.heap.size = w.heap.size + 1 := by rw [hWa]; simp
  have hZa : Wa.heap[w.heap.size]? = some zCm := by rw [hWa]; exact heap_alloc_new w _
  have hS := hS0.keep hba
  have HL : Hid (Wa = w.alloc (.cells #[.int .i8 0, .string ⟨#[]⟩, .int .i64 0, .slice none 0 0, .slice none 0 0, .slice none 0 0, .string ⟨#[]⟩, .slice none 0 0] 28)) := hWa
  have HBa := Lib.hid hba
  have HZa := Lib.hid hZa
  obtain ⟨r, hr⟩ : ∃ r, r = takeP (cmdK 7) [pMarks] ys := ⟨_, rfl⟩
  have HI1 : Hid (∀ W, Below Wa.heap.size Wa W → Calls Tryz.prog 80 #[.pointer (some ⟨R, 3, none⟩), .func (.func 81) #[] #[]] W (IntoA B R (.slice ra ys.length rc) 109 pMarks Wa W)) := fun W hW => (ip_pMarks B R _ W hS.br (Nat.lt_of_lt_of_le hS.lt hW.size)).mono fun e w' h => h.a hW
  have HTake : Hid (∀ (W : World) (br1 bf1 : Nat), Below Wa.heap.size Wa W → PartAt B R (.slice ra ys.length rc) W (.func (.func 109) #[] #[.pointer (some ⟨br1, 0, none⟩), .pointer (some ⟨bf1, 0, none⟩)]) pMarks → Calls Tryz.prog 68 #[.pointer (some ⟨R, 0, none⟩), .int .i8 7, .slice (some ⟨W.heap.size, 0, none⟩) 1 1] (W.alloc (.cells #[.func (.func 109) #[] #[.pointer (some ⟨br1, 0, none⟩), .pointer (some ⟨bf1, 0, none⟩)]] 97)) (TakeP R r Wa)) := by
    intro W br1 bf1 hW hp1
    rw [hr]
    refine (take_row 7 [.func (.func 109) #[] #[.pointer (some ⟨br1, 0, none⟩), .pointer (some ⟨bf1, 0, none⟩)]] [pMarks] 1 hS hW rfl rfl (by simp) (fun i pv p h1 h2 => ?_)).mono fun e w' h => h.from (hW.alloc hW.size _)
    match i with
    | 0 => simp only [List.getElem?_cons_zero, Option.some.injEq] at h1 h2; subst h1 h2; exact hp1
    | i + 1 => simp at h1
  rw [← hr]
  clear hr hS hS0 hWa hba hZa
  cases hr : r with
  | none =>
    have HR := Lib.hid hr
    clear hr
    go_enter Tryz.func45, Tryz.ntmps45
    go_wp2_with (first | (go_at_call 80; rw [← HL.out]; clear HL; refine (HI1.out _ (by first | exact Below.refl _ _ | exact (Below.refl _ _).drew)).mono ?_; rintro e w1 ⟨br1, bf1, rfl, hp1, hbn1, hba1⟩; have HP1 := Lib.hid hp1; clear hp1) | (go_at_call 68; refine (HTake.out w1 br1 bf1 hba1 HP1.out).mono ?_; rintro e w9 hp9; obtain ⟨rfl, ho9⟩ := hp9.no HR.out; clear hp9; have hZ9 : w9.heap[w.heap.size]? = some zCm := (ho9.block _ (by omega) (by omega)).trans HZa.out; have HZ9 := Lib.hid hZ9; obtain ⟨d0, d1, d2, d3, d4, d5, d6, d7, fz, hzz⟩ := cells8b hZ9; clear hZ9; unfold zCmV))
    refine bodyPost_ret (res_cell_tmp rfl _ _ (w.heap.size) _ _ _ _ rfl (set8 HZ9.out) Tryz.underlying28 rfl cmdSize) rfl ?_
    exact ⟨Oth.far8 ((Oth.of HBa.out).trans ho9) (Nat.le_refl _), rfl⟩
  | some c =>
    have HR := Lib.hid hr
    clear hr
    go_enter Tryz.func45, Tryz.ntmps45
    go_wp2_with (first | (go_at_call 80; rw [← HL.out]; clear HL; refine (HI1.out _ (by first | exact Below.refl _ _ | exact (Below.refl _ _).drew)).mono ?_; rintro e w1 ⟨br1, bf1, rfl, hp1, hbn1, hba1⟩; have HP1 := Lib.hid hp1; clear hp1) | (go_at_call 68; refine (HTake.out w1 br1 bf1 hba1 HP1.out).mono ?_; rintro e w9 hp9; obtain ⟨x, hx, rfl, hn9, ho9⟩ := hp9.yes HR.out; clear hp9; have hZ9 : w9.heap[w.heap.size]? = some zCm := (ho9.block _ (by omega) (by omega)).trans HZa.out; have HZ9 := Lib.hid hZ9; obtain ⟨d0, d1, d2, d3, d4, d5, d6, d7, fz, hzz⟩ := cells8b hZ9; clear hZ9; have HN9 := Lib.hid hn9; have HX9 := Lib.hid hx; clear hn9 hx))
    refine bodyPost_ret (res_cell_tmp rfl _ _ (w.heap.size) _ _ _ _ rfl (set8 HZ9.out) Tryz.underlying28 rfl cmdSize) rfl ?_
    obtain ⟨q1, q2⟩ := form_yes hRw HBa.out (by omega) ho9 HN9.out HZ9.out
    refine ⟨q1, ?_⟩
    exact ⟨x, HX9.out, rfl, q2⟩
set_option maxRecDepth 100000 in
set_option maxHeartbeats 2000000 in
theorem form_model (B R rc : Nat) (ra : Option Addr) (ys : List Tree) (w : World) (hS0 : FormS B R ra rc ys w) :
    Calls Tryz.prog 47 #[.pointer (some ⟨R, 0, none⟩)] w (TakeP R (takeP (cmdK 9) [] ys) w) := by
  have hRw := hS0.lt
  obtain ⟨Wa, hWa⟩ : ∃ Wa, Wa = w.alloc zCm := ⟨_, rfl⟩
  have hba : Below w.heap.size w Wa := by rw [hWa]; exact (Below.refl _ _).alloc (Nat.le_refl _) _
  have hsa : Wa.heap.size = w.heap.size + 1 := by rw [hWa]; simp
  have hZa : Wa.heap[w.heap.size]? = some zCm := by rw [hWa]; exact heap_alloc_new w _
  have hS := hS0.keep hba
  have HL : Hid (Wa = w.alloc (.cells #[.int .i8 0, .string ⟨#[]⟩, .int .i64 0, .slice none 0 0, .slice none 0 0, .slice none 0 0, .string ⟨#[]⟩, .slice none 0 0] 28)) := hWa
  have HBa := Lib.hid hba
  have HZa := Lib.hid hZa
  obtain ⟨r, hr⟩ : ∃ r, r = takeP (cmdK 9) [] ys := ⟨_, rfl⟩
  have HTake : Hid (∀ (W : World), Below Wa.heap.size Wa W → Calls Tryz.prog 68 #[.pointer (some ⟨R, 0, none⟩), .int .i8 9, .slice none 0 0] W (TakeP R r Wa)) := fun W hW => by
    rw [hr]
    exact (take_any B R 9 ra rc ys none 0 [] [] W hS.br (hS.keep hW).rdr (hS.keep hW).row hS.rt hS.y63 rfl (by simp) (fun h => absurd h (by simp)) (fun i pv p h => by simp at h)).mono fun e w' h => h.from hW
  rw [← hr]
  clear hr hS hS0 hWa hba hZa
  cases hr : r with
  | none =>
    have HR := Lib.hid hr
    clear hr
    go_enter Tryz.func47, Tryz.ntmps47
    go_wp2_with (first | (go_at_call 68; rw [← HL.out]; clear HL; refine (HTake.out Wa (Below.refl _ _)).mono ?_; rintro e w9 hp9; obtain ⟨rfl, ho9⟩ := hp9.no HR.out; clear hp9; have hZ9 : w9.heap[w.heap.size]? = some zCm := (ho9.block _ (by omega) (by omega)).trans HZa.out; have HZ9 := Lib.hid hZ9; obtain ⟨d0, d1, d2, d3, d4, d5, d6, d7, fz, hzz⟩ := cells8b hZ9; clear hZ9; unfold zCmV))
    refine bodyPost_ret (res_cell_tmp rfl _ _ (w.heap.size) _ _ _ _ rfl (set8 HZ9.out) Tryz.underlying28 rfl cmdSize) rfl ?_
    exact ⟨Oth.far8 ((Oth.of HBa.out).trans ho9) (Nat.le_refl _), rfl⟩
  | some c =>
    have HR := Lib.hid hr
    clear hr
    go_enter Tryz.func47, Tryz.ntmps47
    go_wp2_with (first | (go_at_call 68; rw [← HL.out]; clear HL; refine (HTake.out Wa (Below.refl _ _)).mono ?_; rintro e w9 hp9; obtain ⟨x, hx, rfl, hn9, ho9⟩ := hp9.yes HR.out; clear hp9; have hZ9 : w9.heap[w.heap.size]? = some zCm := (ho9.block _ (by omega) (by omega)).trans HZa.out; have HZ9 := Lib.hid hZ9; obtain ⟨d0, d1, d2, d3, d4, d5, d6, d7, fz, hzz⟩ := cells8b hZ9; clear hZ9; have HN9 := Lib.hid hn9; have HX9 := Lib.hid hx; clear hn9 hx))
    refine bodyPost_ret (res_cell_tmp rfl _ _ (w.heap.size) _ _ _ _ rfl (set8 HZ9.out) Tryz.underlying28 rfl cmdSize) rfl ?_
    obtain ⟨q1, q2⟩ := form_yes hRw HBa.out (by omega) ho9 HN9.out HZ9.out
    refine ⟨q1, ?_⟩
    exact ⟨x, HX9.out, rfl, q2⟩
set_option maxRecDepth 100000 in
set_option maxHeartbeats 2000000 in
theorem form_value (B R rc : Nat) (ra : Option Addr) (ys : List Tree) (w : World) (hS0 : FormS B R ra rc ys w) :
    Calls Tryz.prog 48 #[.pointer (some ⟨R, 0, none⟩)] w (TakeP R (takeP (cmdK 10) [pTerms] ys) w) := by
  have hRw := hS0.lt
  obtain ⟨Wa, hWa⟩ : ∃ Wa, Wa = w.alloc zCm := ⟨_, rfl⟩
  have hba : Below w.heap.size w Wa := by rw [hWa]; exact (Below.refl _ _).alloc (Nat.le_refl _) _
  have hsa : Wa.heap.size = w.heap.size + 1 := by rw [hWa]; simp
  have hZa : Wa.heap[w.heap.size]? = some zCm := by rw [hWa]; exact heap_alloc_new w _
  have hS := hS0.keep hba
  have HL : Hid (Wa = w.alloc (.cells #[.int .i8 0, .string ⟨#[]⟩, .int .i64 0, .slice none 0 0, .slice none 0 0, .slice none 0 0, .string ⟨#[]⟩, .slice none 0 0] 28)) := hWa
  have HBa := Lib.hid hba
  have HZa := Lib.hid hZa
  obtain ⟨r, hr⟩ : ∃ r, r = takeP (cmdK 10) [pTerms] ys := ⟨_, rfl⟩
  have HI1 : Hid (∀ W, Below Wa.heap.size Wa W → Calls Tryz.prog 78 #[.pointer (some ⟨R, 8, none⟩), .func (.func 82) #[] #[]] W (IntoA B R (.slice ra ys.length rc) 108 pTerms Wa W)) := fun W hW => (ip_pTerms B R _ W hS.br (Nat.lt_of_lt_of_le hS.lt hW.size)).mono fun e w' h => h.a hW
  have HTake : Hid (∀ (W : World) (br1 bf1 : Nat), Below Wa.heap.size Wa W → PartAt B R (.slice ra ys.length rc) W (.func (.func 108) #[] #[.pointer (some ⟨br1, 0, none⟩), .pointer (some ⟨bf1, 0, none⟩)]) pTerms → Calls Tryz.prog 68 #[.pointer (some ⟨R, 0, none⟩), .int .i8 10, .slice (some ⟨W.heap.size, 0, none⟩) 1 1] (W.alloc (.cells #[.func (.func 108) #[] #[.pointer (some ⟨br1, 0, none⟩), .pointer (some ⟨bf1, 0, none⟩)]] 97)) (TakeP R r Wa)) := by
    intro W br1 bf1 hW hp1
    rw [hr]
    refine (take_row 10 [.func (.func 108) #[] #[.pointer (some ⟨br1, 0, none⟩), .pointer (some ⟨bf1, 0, none⟩)]] [pTerms] 1 hS hW rfl rfl (by simp) (fun i pv p h1 h2 => ?_)).mono fun e w' h => h.from (hW.alloc hW.size _)
    match i with
    | 0 => simp only [List.getElem?_cons_zero, Option.some.injEq] at h1 h2; subst h1 h2; exact hp1
    | i + 1 => simp at h1
  rw [← hr]
  clear hr hS hS0 hWa hba hZa
  cases hr : r with
  | none =>
    have HR := Lib.hid hr
    clear hr
    go_enter Tryz.func48, Tryz.ntmps48
    go_wp2_with (first | (go_at_call 78; rw [← HL.out]; clear HL; refine (HI1.out _ (by first | exact Below.refl _ _ | exact (Below.refl _ _).drew)).mono ?_; rintro e w1 ⟨br1, bf1, rfl, hp1, hbn1, hba1⟩; have HP1 := Lib.hid hp1; clear hp1) | (go_at_call 68; refine (HTake.out w1 br1 bf1 hba1 HP1.out).mono ?_; rintro e w9 hp9; obtain ⟨rfl, ho9⟩ := hp9.no HR.out; clear hp9; have hZ9 : w9.heap[w.heap.size]? = some zCm := (ho9.block _ (by omega) (by omega)).trans HZa.out; have HZ9 := Lib.hid hZ9; obtain ⟨d0, d1, d2, d3, d4, d5, d6, d7, fz, hzz⟩ := cells8b hZ9; clear hZ9; unfold zCmV))
    refine bodyPost_ret (res_cell_tmp rfl _ _ (w.heap.size) _ _ _ _ rfl (set8 HZ9.out) Tryz.underlying28 rfl cmdSize) rfl ?_
    exact ⟨Oth.far8 ((Oth.of HBa.out).trans ho9) (Nat.le_refl _), rfl⟩
  | some c =>
    have HR := Lib.hid hr
    clear hr
    go_enter Tryz.func48, Tryz.ntmps48
    go_wp2_with (first | (go_at_call 78; rw [← HL.out]; clear HL; refine (HI1.out _ (by first | exact Below.refl _ _ | exact (Below.refl _ _).drew)).mono ?_; rintro e w1 ⟨br1, bf1, rfl, hp1, hbn1, hba1⟩; have HP1 := Lib.hid hp1; clear hp1) | (go_at_call 68; refine (HTake.out w1 br1 bf1 hba1 HP1.out).mono ?_; rintro e w9 hp9; obtain ⟨x, hx, rfl, hn9, ho9⟩ := hp9.yes HR.out; clear hp9; have hZ9 : w9.heap[w.heap.size]? = some zCm := (ho9.block _ (by omega) (by omega)).trans HZa.out; have HZ9 := Lib.hid hZ9; obtain ⟨d0, d1, d2, d3, d4, d5, d6, d7, fz, hzz⟩ := cells8b hZ9; clear hZ9; have HN9 := Lib.hid hn9; have HX9 := Lib.hid hx; clear hn9 hx))
    refine bodyPost_ret (res_cell_tmp rfl _ _ (w.heap.size) _ _ _ _ rfl (set8 HZ9.out) Tryz.underlying28 rfl cmdSize) rfl ?_
    obtain ⟨q1, q2⟩ := form_yes hRw HBa.out (by omega) ho9 HN9.out HZ9.out
    refine ⟨q1, ?_⟩
    exact ⟨x, HX9.out, rfl, q2⟩
set_option maxRecDepth 100000 in
set_option maxHeartbeats 2000000 in
theorem form_proof (B R rc : Nat) (ra : Option Addr) (ys : List Tree) (w : World) (hS0 : FormS B R ra rc ys w) :
    Calls Tryz.prog 49 #[.pointer (some ⟨R, 0, none⟩)] w (TakeP R (takeP (cmdK 11) [] ys) w) := by
  have hRw := hS0.lt
  obtain ⟨Wa, hWa⟩ : ∃ Wa, Wa = w.alloc zCm := ⟨_, rfl⟩
  have hba : Below w.heap.size w Wa := by rw [hWa]; exact (Below.refl _ _).alloc (Nat.le_refl _) _
  have hsa : Wa.heap.size = w.heap.size + 1 := by rw [hWa]; simp
  have hZa : Wa.heap[w.heap.size]? = some zCm := by rw [hWa]; exact heap_alloc_new w _
  have hS := hS0.keep hba
  have HL : Hid (Wa = w.alloc (.cells #[.int .i8 0, .string ⟨#[]⟩, .int .i64 0, .slice none 0 0, .slice none 0 0, .slice none 0 0, .string ⟨#[]⟩, .slice none 0 0] 28)) := hWa
  have HBa := Lib.hid hba
  have HZa := Lib.hid hZa
  obtain ⟨r, hr⟩ : ∃ r, r = takeP (cmdK 11) [] ys := ⟨_, rfl⟩
  have HTake : Hid (∀ (W : World), Below Wa.heap.size Wa W → Calls Tryz.prog 68 #[.pointer (some ⟨R, 0, none⟩), .int .i8 11, .slice none 0 0] W (TakeP R r Wa)) := fun W hW => by
    rw [hr]
    exact (take_any B R 11 ra rc ys none 0 [] [] W hS.br (hS.keep hW).rdr (hS.keep hW).row hS.rt hS.y63 rfl (by simp) (fun h => absurd h (by simp)) (fun i pv p h => by simp at h)).mono fun e w' h => h.from hW
  rw [← hr]
  clear hr hS hS0 hWa hba hZa
  cases hr : r with
  | none =>
    have HR := Lib.hid hr
    clear hr
    go_enter Tryz.func49, Tryz.ntmps49
    go_wp2_with (first | (go_at_call 68; rw [← HL.out]; clear HL; refine (HTake.out Wa (Below.refl _ _)).mono ?_; rintro e w9 hp9; obtain ⟨rfl, ho9⟩ := hp9.no HR.out; clear hp9; have hZ9 : w9.heap[w.heap.size]? = some zCm := (ho9.block _ (by omega) (by omega)).trans HZa.out; have HZ9 := Lib.hid hZ9; obtain ⟨d0, d1, d2, d3, d4, d5, d6, d7, fz, hzz⟩ := cells8b hZ9; clear hZ9; unfold zCmV))
    refine bodyPost_ret (res_cell_tmp rfl _ _ (w.heap.size) _ _ _ _ rfl (set8 HZ9.out) Tryz.underlying28 rfl cmdSize) rfl ?_
    exact ⟨Oth.far8 ((Oth.of HBa.out).trans ho9) (Nat.le_refl _), rfl⟩
  | some c =>
    have HR := Lib.hid hr
    clear hr
    go_enter Tryz.func49, Tryz.ntmps49
    go_wp2_with (first | (go_at_call 68; rw [← HL.out]; clear HL; refine (HTake.out Wa (Below.refl _ _)).mono ?_; rintro e w9 hp9; obtain ⟨x, hx, rfl, hn9, ho9⟩ := hp9.yes HR.out; clear hp9; have hZ9 : w9.heap[w.heap.size]? = some zCm := (ho9.block _ (by omega) (by omega)).trans HZa.out; have HZ9 := Lib.hid hZ9; obtain ⟨d0, d1, d2, d3, d4, d5, d6, d7, fz, hzz⟩ := cells8b hZ9; clear hZ9; have HN9 := Lib.hid hn9; have HX9 := Lib.hid hx; clear hn9 hx))
    refine bodyPost_ret (res_cell_tmp rfl _ _ (w.heap.size) _ _ _ _ rfl (set8 HZ9.out) Tryz.underlying28 rfl cmdSize) rfl ?_
    obtain ⟨q1, q2⟩ := form_yes hRw HBa.out (by omega) ho9 HN9.out HZ9.out
    refine ⟨q1, ?_⟩
    exact ⟨x, HX9.out, rfl, q2⟩
set_option maxRecDepth 100000 in
set_option maxHeartbeats 2000000 in
theorem form_exit (B R rc : Nat) (ra : Option Addr) (ys : List Tree) (w : World) (hS0 : FormS B R ra rc ys w) :
    Calls Tryz.prog 50 #[.pointer (some ⟨R, 0, none⟩)] w (TakeP R (takeP (cmdK 12) [] ys) w) := by
  have hRw := hS0.lt
  obtain ⟨Wa, hWa⟩ : ∃ Wa, Wa = w.alloc zCm := ⟨_, rfl⟩
  have hba : Below w.heap.size w Wa := by rw [hWa]; exact (Below.refl _ _).alloc (Nat.le_refl _) _
  have hsa : Wa.heap.size = w.heap.size + 1 := by rw [hWa]; simp
  have hZa : Wa.heap[w.heap.size]? = some zCm := by rw [hWa]; exact heap_alloc_new w _
  have hS := hS0.keep hba
  have HL : Hid (Wa = w.alloc (.cells #[.int .i8 0, .string ⟨#[]⟩, .int .i64 0, .slice none 0 0, .slice none 0 0, .slice none 0 0, .string ⟨#[]⟩, .slice none 0 0] 28)) := hWa
  have HBa := Lib.hid hba
  have HZa := Lib.hid hZa
  obtain ⟨r, hr⟩ : ∃ r, r = takeP (cmdK 12) [] ys := ⟨_, rfl⟩
  have HTake : Hid (∀ (W : World), Below Wa.heap.size Wa W → Calls Tryz.prog 68 #[.pointer (some ⟨R, 0, none⟩), .int .i8 12, .slice none 0 0] W (TakeP R r Wa)) := fun W hW => by
    rw [hr]
    exact (take_any B R 12 ra rc ys none 0 [] [] W hS.br (hS.keep hW).rdr (hS.keep hW).row hS.rt hS.y63 rfl (by simp) (fun h => absurd h (by simp)) (fun i pv p h => by simp at h)).mono fun e w' h => h.from hW
  rw [← hr]
  clear hr hS hS0 hWa hba hZa
  cases hr : r with
  | none =>
    have HR := Lib.hid hr
    clear hr
    go_enter Tryz.func50, Tryz.ntmps50
    go_wp2_with (first | (go_at_call 68; rw [← HL.out]; clear HL; refine (HTake.out Wa (Below.refl _ _)).mono ?_; rintro e w9 hp9; obtain ⟨rfl, ho9⟩ := hp9.no HR.out; clear hp9; have hZ9 : w9.heap[w.heap.size]? = some zCm := (ho9.block _ (by omega) (by omega)).trans HZa.out; have HZ9 := Lib.hid hZ9; obtain ⟨d0, d1, d2, d3, d4, d5, d6, d7, fz, hzz⟩ := cells8b hZ9; clear hZ9; unfold zCmV))
    refine bodyPost_ret (res_cell_tmp rfl _ _ (w.heap.size) _ _ _ _ rfl (set8 HZ9.out) Tryz.underlying28 rfl cmdSize) rfl ?_
    exact ⟨Oth.far8 ((Oth.of HBa.out).trans ho9) (Nat.le_refl _), rfl⟩
  | some c =>
    have HR := Lib.hid hr
    clear hr
    go_enter Tryz.func50, Tryz.ntmps50
    go_wp2_with (first | (go_at_call 68; rw [← HL.out]; clear HL; refine (HTake.out Wa (Below.refl _ _)).mono ?_; rintro e w9 hp9; obtain ⟨x, hx, rfl, hn9, ho9⟩ := hp9.yes HR.out; clear hp9; have hZ9 : w9.heap[w.heap.size]? = some zCm := (ho9.block _ (by omega) (by omega)).trans HZa.out; have HZ9 := Lib.hid hZ9; obtain ⟨d0, d1, d2, d3, d4, d5, d6, d7, fz, hzz⟩ := cells8b hZ9; clear hZ9; have HN9 := Lib.hid hn9; have HX9 := Lib.hid hx; clear hn9 hx))
    refine bodyPost_ret (res_cell_tmp rfl _ _ (w.heap.size) _ _ _ _ rfl (set8 HZ9.out) Tryz.underlying28 rfl cmdSize) rfl ?_
    obtain ⟨q1, q2⟩ := form_yes hRw HBa.out (by omega) ho9 HN9.out HZ9.out
    refine ⟨q1, ?_⟩
    exact ⟨x, HX9.out, rfl, q2⟩
end Go.Proofs.YtodonngnigbpaaaGreatDoor
