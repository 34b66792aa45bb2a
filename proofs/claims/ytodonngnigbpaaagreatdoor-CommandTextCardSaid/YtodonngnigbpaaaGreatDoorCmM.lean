/- Package command's setting, read; 0, read. -/
import Derived.Test.YtodonngnigbpaaaGreatDoorCmK3
import Derived.Test.YtodonngnigbpaaaGreatDoorCmF
namespace Go.Proofs.YtodonngnigbpaaaGreatDoor
open Go.RowKit
set_option linter.unusedVariables false
theorem CmdN.set {wi : World} {R i B : Nat} {v : Value} {x : CmdV} (h : CmdN wi B x) (hB : R < B) : CmdN (wi.setCell ⟨R, i, none⟩ v) B x :=
  h.keep (by simp [World.setCell]) (fun b hb _ => Below.heap_setCell _ _ _ _ (by simp; omega))
theorem part_pName (B R : Nat) (q : Value) (W0 : World) (Bf Br : Nat) (hB : B ≤ R) (hR : W0.heap[Br]? = some (.cells #[.func (.func 70) #[] #[]] 100 (0, 0))) (hF : W0.heap[Bf]? = some (.cells #[.pointer (some ⟨R, 2, none⟩)] 99 (0, 0))) (h1 : Br ≠ R) (h2 : Bf ≠ R) :
    PartAt B R q W0 (.func (.func 98) #[] #[.pointer (some ⟨Br, 0, none⟩), .pointer (some ⟨Bf, 0, none⟩)]) pName := by
  refine ⟨_, _, _, rfl, enters_of Tryz.func98 (by kernel_rfl) rfl, fun N W x y yv hW hS hy hrt => ?_⟩
  obtain ⟨c0, c1, c2, c3, c4, c5, c6, c7, c8, fz⟩ := hS.cells
  have hb1 := (hW.block Br (Array.getElem?_eq_some_iff.1 hR).1 h1).trans hR
  have hb2 := (hW.block Bf (Array.getElem?_eq_some_iff.1 hF).1 h2).trans hF
  refine (into1_name R 2 Br Bf y yv _ W hb1 hb2 h1 h2 c2 (fz _) (Rd.sx hy) hrt).mono ?_
  rintro e w' ⟨b, v, a, wi, rfl, hl, hm, hbi, rfl⟩
  have hlt := hS.lt
  have hbox := (hbi.block R hlt).trans hS.box
  have hrn := hS.rn
  have hle := hS.le
  have hnew : CmdN wi N x := hS.new.keep hbi.size (fun b _ hlt => hbi.block b hlt)
  have hoth : Oth R W (wi.setCell ⟨R, 2, none⟩ v) := (Oth.of hbi).set _ _
  unfold LStr at hl; subst hl
  have hbox' : (wi.setCell ⟨R, 2, none⟩ (.string (bytesL a))).heap[R]? = some (.cells #[q, .int .i8 x.c.kind, .string (bytesL a), .int .i64 x.c.n, .slice x.la x.c.l.length x.lc, .slice x.aa x.c.args.length x.ac, .slice x.pa x.c.params.length x.pc, .string (bytesL x.c.res), .slice x.ta x.c.terms.length x.tc] 51 (0, 0)) := by simp [World.setCell, Array.getElem?_modify, hbox]
  have hn2 := hnew.set (i := 2) (v := (.string (bytesL a))) hrn
  refine ⟨b, { x with c := { x.c with name := a } }, rfl, ⟨hbox', hrn, by simp only [World.setCell, Array.size_modify]; exact Nat.le_trans hle hbi.size, ⟨hn2.ll, hn2.lm, hn2.lat, hn2.al, hn2.am, hn2.aat, hn2.pl, hn2.pm, hn2.pat, hn2.tl, hn2.tm, hn2.tat⟩⟩, ?_, hoth⟩
  show (symM y).map _ = _
  rw [hm]
  cases b <;> rfl
theorem part_pKey (B R : Nat) (q : Value) (W0 : World) (Bf Br : Nat) (hB : B ≤ R) (hR : W0.heap[Br]? = some (.cells #[.func (.func 71) #[] #[]] 100 (0, 0))) (hF : W0.heap[Bf]? = some (.cells #[.pointer (some ⟨R, 2, none⟩)] 99 (0, 0))) (h1 : Br ≠ R) (h2 : Bf ≠ R) :
    PartAt B R q W0 (.func (.func 98) #[] #[.pointer (some ⟨Br, 0, none⟩), .pointer (some ⟨Bf, 0, none⟩)]) pKey := by
  refine ⟨_, _, _, rfl, enters_of Tryz.func98 (by kernel_rfl) rfl, fun N W x y yv hW hS hy hrt => ?_⟩
  obtain ⟨c0, c1, c2, c3, c4, c5, c6, c7, c8, fz⟩ := hS.cells
  have hb1 := (hW.block Br (Array.getElem?_eq_some_iff.1 hR).1 h1).trans hR
  have hb2 := (hW.block Bf (Array.getElem?_eq_some_iff.1 hF).1 h2).trans hF
  refine (into1_keyword R 2 Br Bf y yv _ W hb1 hb2 h1 h2 c2 (fz _) (Rd.sx hy) hrt).mono ?_
  rintro e w' ⟨b, v, a, wi, rfl, hl, hm, hbi, rfl⟩
  have hlt := hS.lt
  have hbox := (hbi.block R hlt).trans hS.box
  have hrn := hS.rn
  have hle := hS.le
  have hnew : CmdN wi N x := hS.new.keep hbi.size (fun b _ hlt => hbi.block b hlt)
  have hoth : Oth R W (wi.setCell ⟨R, 2, none⟩ v) := (Oth.of hbi).set _ _
  unfold LStr at hl; subst hl
  have hbox' : (wi.setCell ⟨R, 2, none⟩ (.string (bytesL a))).heap[R]? = some (.cells #[q, .int .i8 x.c.kind, .string (bytesL a), .int .i64 x.c.n, .slice x.la x.c.l.length x.lc, .slice x.aa x.c.args.length x.ac, .slice x.pa x.c.params.length x.pc, .string (bytesL x.c.res), .slice x.ta x.c.terms.length x.tc] 51 (0, 0)) := by simp [World.setCell, Array.getElem?_modify, hbox]
  have hn2 := hnew.set (i := 2) (v := (.string (bytesL a))) hrn
  refine ⟨b, { x with c := { x.c with name := a } }, rfl, ⟨hbox', hrn, by simp only [World.setCell, Array.size_modify]; exact Nat.le_trans hle hbi.size, ⟨hn2.ll, hn2.lm, hn2.lat, hn2.al, hn2.am, hn2.aat, hn2.pl, hn2.pm, hn2.pat, hn2.tl, hn2.tm, hn2.tat⟩⟩, ?_, hoth⟩
  show (keyM y).map _ = _
  rw [hm]
  cases b <;> rfl
theorem part_pRes (B R : Nat) (q : Value) (W0 : World) (Bf Br : Nat) (hB : B ≤ R) (hR : W0.heap[Br]? = some (.cells #[.func (.func 70) #[] #[]] 100 (0, 0))) (hF : W0.heap[Bf]? = some (.cells #[.pointer (some ⟨R, 7, none⟩)] 99 (0, 0))) (h1 : Br ≠ R) (h2 : Bf ≠ R) :
    PartAt B R q W0 (.func (.func 98) #[] #[.pointer (some ⟨Br, 0, none⟩), .pointer (some ⟨Bf, 0, none⟩)]) pRes := by
  refine ⟨_, _, _, rfl, enters_of Tryz.func98 (by kernel_rfl) rfl, fun N W x y yv hW hS hy hrt => ?_⟩
  obtain ⟨c0, c1, c2, c3, c4, c5, c6, c7, c8, fz⟩ := hS.cells
  have hb1 := (hW.block Br (Array.getElem?_eq_some_iff.1 hR).1 h1).trans hR
  have hb2 := (hW.block Bf (Array.getElem?_eq_some_iff.1 hF).1 h2).trans hF
  refine (into1_name R 7 Br Bf y yv _ W hb1 hb2 h1 h2 c7 (fz _) (Rd.sx hy) hrt).mono ?_
  rintro e w' ⟨b, v, a, wi, rfl, hl, hm, hbi, rfl⟩
  have hlt := hS.lt
  have hbox := (hbi.block R hlt).trans hS.box
  have hrn := hS.rn
  have hle := hS.le
  have hnew : CmdN wi N x := hS.new.keep hbi.size (fun b _ hlt => hbi.block b hlt)
  have hoth : Oth R W (wi.setCell ⟨R, 7, none⟩ v) := (Oth.of hbi).set _ _
  unfold LStr at hl; subst hl
  have hbox' : (wi.setCell ⟨R, 7, none⟩ (.string (bytesL a))).heap[R]? = some (.cells #[q, .int .i8 x.c.kind, .string (bytesL x.c.name), .int .i64 x.c.n, .slice x.la x.c.l.length x.lc, .slice x.aa x.c.args.length x.ac, .slice x.pa x.c.params.length x.pc, .string (bytesL a), .slice x.ta x.c.terms.length x.tc] 51 (0, 0)) := by simp [World.setCell, Array.getElem?_modify, hbox]
  have hn2 := hnew.set (i := 7) (v := (.string (bytesL a))) hrn
  refine ⟨b, { x with c := { x.c with res := a } }, rfl, ⟨hbox', hrn, by simp only [World.setCell, Array.size_modify]; exact Nat.le_trans hle hbi.size, ⟨hn2.ll, hn2.lm, hn2.lat, hn2.al, hn2.am, hn2.aat, hn2.pl, hn2.pm, hn2.pat, hn2.tl, hn2.tm, hn2.tat⟩⟩, ?_, hoth⟩
  show (symM y).map _ = _
  rw [hm]
  cases b <;> rfl
theorem part_pMarks (B R : Nat) (q : Value) (W0 : World) (Bf Br : Nat) (hB : B ≤ R) (hR : W0.heap[Br]? = some (.cells #[.func (.func 81) #[] #[]] 112 (0, 0))) (hF : W0.heap[Bf]? = some (.cells #[.pointer (some ⟨R, 3, none⟩)] 111 (0, 0))) (h1 : Br ≠ R) (h2 : Bf ≠ R) :
    PartAt B R q W0 (.func (.func 109) #[] #[.pointer (some ⟨Br, 0, none⟩), .pointer (some ⟨Bf, 0, none⟩)]) pMarks := by
  refine ⟨_, _, _, rfl, enters_of Tryz.func109 (by kernel_rfl) rfl, fun N W x y yv hW hS hy hrt => ?_⟩
  obtain ⟨c0, c1, c2, c3, c4, c5, c6, c7, c8, fz⟩ := hS.cells
  have hb1 := (hW.block Br (Array.getElem?_eq_some_iff.1 hR).1 h1).trans hR
  have hb2 := (hW.block Bf (Array.getElem?_eq_some_iff.1 hF).1 h2).trans hF
  refine (into1_marks R 3 Br Bf y yv _ W hb1 hb2 h1 h2 c3 (fz _) (Rd.sx hy) hrt).mono ?_
  rintro e w' ⟨b, v, a, wi, rfl, hl, hm, hbi, rfl⟩
  have hlt := hS.lt
  have hbox := (hbi.block R hlt).trans hS.box
  have hrn := hS.rn
  have hle := hS.le
  have hnew : CmdN wi N x := hS.new.keep hbi.size (fun b _ hlt => hbi.block b hlt)
  have hoth : Oth R W (wi.setCell ⟨R, 3, none⟩ v) := (Oth.of hbi).set _ _
  unfold LInt at hl; subst hl
  have hbox' : (wi.setCell ⟨R, 3, none⟩ (.int .i64 a)).heap[R]? = some (.cells #[q, .int .i8 x.c.kind, .string (bytesL x.c.name), .int .i64 a, .slice x.la x.c.l.length x.lc, .slice x.aa x.c.args.length x.ac, .slice x.pa x.c.params.length x.pc, .string (bytesL x.c.res), .slice x.ta x.c.terms.length x.tc] 51 (0, 0)) := by simp [World.setCell, Array.getElem?_modify, hbox]
  have hn2 := hnew.set (i := 3) (v := (.int .i64 a)) hrn
  refine ⟨b, { x with c := { x.c with n := a } }, rfl, ⟨hbox', hrn, by simp only [World.setCell, Array.size_modify]; exact Nat.le_trans hle hbi.size, ⟨hn2.ll, hn2.lm, hn2.lat, hn2.al, hn2.am, hn2.aat, hn2.pl, hn2.pm, hn2.pat, hn2.tl, hn2.tm, hn2.tat⟩⟩, ?_, hoth⟩
  show ((numM 8) y).map _ = _
  rw [hm]
  cases b <;> rfl
theorem part_pConf (B R : Nat) (q : Value) (W0 : World) (Bf Br : Nat) (hB : B ≤ R) (hR : W0.heap[Br]? = some (.cells #[.func (.func 99) #[] #[]] 112 (0, 0))) (hF : W0.heap[Bf]? = some (.cells #[.pointer (some ⟨R, 3, none⟩)] 111 (0, 0))) (h1 : Br ≠ R) (h2 : Bf ≠ R) :
    PartAt B R q W0 (.func (.func 109) #[] #[.pointer (some ⟨Br, 0, none⟩), .pointer (some ⟨Bf, 0, none⟩)]) pConf := by
  refine ⟨_, _, _, rfl, enters_of Tryz.func109 (by kernel_rfl) rfl, fun N W x y yv hW hS hy hrt => ?_⟩
  obtain ⟨c0, c1, c2, c3, c4, c5, c6, c7, c8, fz⟩ := hS.cells
  have hb1 := (hW.block Br (Array.getElem?_eq_some_iff.1 hR).1 h1).trans hR
  have hb2 := (hW.block Bf (Array.getElem?_eq_some_iff.1 hF).1 h2).trans hF
  refine (into1_conflicts R 3 Br Bf y yv _ W hb1 hb2 h1 h2 c3 (fz _) (Rd.sx hy) hrt).mono ?_
  rintro e w' ⟨b, v, a, wi, rfl, hl, hm, hbi, rfl⟩
  have hlt := hS.lt
  have hbox := (hbi.block R hlt).trans hS.box
  have hrn := hS.rn
  have hle := hS.le
  have hnew : CmdN wi N x := hS.new.keep hbi.size (fun b _ hlt => hbi.block b hlt)
  have hoth : Oth R W (wi.setCell ⟨R, 3, none⟩ v) := (Oth.of hbi).set _ _
  unfold LInt at hl; subst hl
  have hbox' : (wi.setCell ⟨R, 3, none⟩ (.int .i64 a)).heap[R]? = some (.cells #[q, .int .i8 x.c.kind, .string (bytesL x.c.name), .int .i64 a, .slice x.la x.c.l.length x.lc, .slice x.aa x.c.args.length x.ac, .slice x.pa x.c.params.length x.pc, .string (bytesL x.c.res), .slice x.ta x.c.terms.length x.tc] 51 (0, 0)) := by simp [World.setCell, Array.getElem?_modify, hbox]
  have hn2 := hnew.set (i := 3) (v := (.int .i64 a)) hrn
  refine ⟨b, { x with c := { x.c with n := a } }, rfl, ⟨hbox', hrn, by simp only [World.setCell, Array.size_modify]; exact Nat.le_trans hle hbi.size, ⟨hn2.ll, hn2.lm, hn2.lat, hn2.al, hn2.am, hn2.aat, hn2.pl, hn2.pm, hn2.pat, hn2.tl, hn2.tm, hn2.tat⟩⟩, ?_, hoth⟩
  show ((numM 1048576) y).map _ = _
  rw [hm]
  cases b <;> rfl
theorem part_pArgs (B R : Nat) (q : Value) (W0 : World) (Bf Br : Nat) (hB : B ≤ R) (hR : W0.heap[Br]? = some (.cells #[.func (.func 75) #[] #[]] 103 (0, 0))) (hF : W0.heap[Bf]? = some (.cells #[.pointer (some ⟨R, 5, none⟩)] 102 (0, 0))) (h1 : Br ≠ R) (h2 : Bf ≠ R) :
    PartAt B R q W0 (.func (.func 103) #[] #[.pointer (some ⟨Br, 0, none⟩), .pointer (some ⟨Bf, 0, none⟩)]) pArgs := by
  refine ⟨_, _, _, rfl, enters_of Tryz.func103 (by kernel_rfl) rfl, fun N W x y yv hW hS hy hrt => ?_⟩
  obtain ⟨c0, c1, c2, c3, c4, c5, c6, c7, c8, fz⟩ := hS.cells
  have hb1 := (hW.block Br (Array.getElem?_eq_some_iff.1 hR).1 h1).trans hR
  have hb2 := (hW.block Bf (Array.getElem?_eq_some_iff.1 hF).1 h2).trans hF
  refine (into1_args R 5 Br Bf y yv _ W hb1 hb2 h1 h2 c5 (fz _) (Rd.sx hy) hrt).mono ?_
  rintro e w' ⟨b, v, a, wi, rfl, hl, hm, hbi, rfl⟩
  have hlt := hS.lt
  have hbox := (hbi.block R hlt).trans hS.box
  have hrn := hS.rn
  have hle := hS.le
  have hnew : CmdN wi N x := hS.new.keep hbi.size (fun b _ hlt => hbi.block b hlt)
  have hoth : Oth R W (wi.setCell ⟨R, 5, none⟩ v) := (Oth.of hbi).set _ _
  obtain ⟨ad, cc, rfl, q1, q2, q3⟩ := hl
  have hat : AtI (wi.setCell ⟨R, 5, none⟩ (.slice ad a.length cc)) N (wi.setCell ⟨R, 5, none⟩ (.slice ad a.length cc)).heap.size _ ad := (q3.wide (by omega) (by simp [World.setCell])).keep (fun b hb _ => Below.heap_setCell _ _ _ _ (by simp; omega))
  have hbox' : (wi.setCell ⟨R, 5, none⟩ (.slice ad a.length cc)).heap[R]? = some (.cells #[q, .int .i8 x.c.kind, .string (bytesL x.c.name), .int .i64 x.c.n, .slice x.la x.c.l.length x.lc, .slice ad a.length cc, .slice x.pa x.c.params.length x.pc, .string (bytesL x.c.res), .slice x.ta x.c.terms.length x.tc] 51 (0, 0)) := by simp [World.setCell, Array.getElem?_modify, hbox]
  have hn2 := hnew.set (i := 5) (v := (.slice ad a.length cc)) hrn
  refine ⟨b, { x with c := { x.c with args := a }, aa := ad, ac := cc }, rfl, ⟨hbox', hrn, by simp only [World.setCell, Array.size_modify]; exact Nat.le_trans hle hbi.size, ⟨hn2.ll, hn2.lm, hn2.lat, q1, q2, hat, hn2.pl, hn2.pm, hn2.pat, hn2.tl, hn2.tm, hn2.tat⟩⟩, ?_, hoth⟩
  show ((eachM 0 3 symM) y).map _ = _
  rw [hm]
  cases b <;> rfl
theorem part_pPars (B R : Nat) (q : Value) (W0 : World) (Bf Br : Nat) (hB : B ≤ R) (hR : W0.heap[Br]? = some (.cells #[.func (.func 77) #[] #[]] 106 (0, 0))) (hF : W0.heap[Bf]? = some (.cells #[.pointer (some ⟨R, 6, none⟩)] 105 (0, 0))) (h1 : Br ≠ R) (h2 : Bf ≠ R) :
    PartAt B R q W0 (.func (.func 105) #[] #[.pointer (some ⟨Br, 0, none⟩), .pointer (some ⟨Bf, 0, none⟩)]) pPars := by
  refine ⟨_, _, _, rfl, enters_of Tryz.func105 (by kernel_rfl) rfl, fun N W x y yv hW hS hy hrt => ?_⟩
  obtain ⟨c0, c1, c2, c3, c4, c5, c6, c7, c8, fz⟩ := hS.cells
  have hb1 := (hW.block Br (Array.getElem?_eq_some_iff.1 hR).1 h1).trans hR
  have hb2 := (hW.block Bf (Array.getElem?_eq_some_iff.1 hF).1 h2).trans hF
  refine (into1_params R 6 Br Bf y yv _ W hb1 hb2 h1 h2 c6 (fz _) (Rd.sx hy) hrt).mono ?_
  rintro e w' ⟨b, v, a, wi, rfl, hl, hm, hbi, rfl⟩
  have hlt := hS.lt
  have hbox := (hbi.block R hlt).trans hS.box
  have hrn := hS.rn
  have hle := hS.le
  have hnew : CmdN wi N x := hS.new.keep hbi.size (fun b _ hlt => hbi.block b hlt)
  have hoth : Oth R W (wi.setCell ⟨R, 6, none⟩ v) := (Oth.of hbi).set _ _
  obtain ⟨ad, cc, rfl, q1, q2, q3⟩ := hl
  have hat : AtI (wi.setCell ⟨R, 6, none⟩ (.slice ad a.length cc)) N (wi.setCell ⟨R, 6, none⟩ (.slice ad a.length cc)).heap.size _ ad := (q3.wide (by omega) (by simp [World.setCell])).keep (fun b hb _ => Below.heap_setCell _ _ _ _ (by simp; omega))
  have hbox' : (wi.setCell ⟨R, 6, none⟩ (.slice ad a.length cc)).heap[R]? = some (.cells #[q, .int .i8 x.c.kind, .string (bytesL x.c.name), .int .i64 x.c.n, .slice x.la x.c.l.length x.lc, .slice x.aa x.c.args.length x.ac, .slice ad a.length cc, .string (bytesL x.c.res), .slice x.ta x.c.terms.length x.tc] 51 (0, 0)) := by simp [World.setCell, Array.getElem?_modify, hbox]
  have hn2 := hnew.set (i := 6) (v := (.slice ad a.length cc)) hrn
  refine ⟨b, { x with c := { x.c with params := a }, pa := ad, pc := cc }, rfl, ⟨hbox', hrn, by simp only [World.setCell, Array.size_modify]; exact Nat.le_trans hle hbi.size, ⟨hn2.ll, hn2.lm, hn2.lat, hn2.al, hn2.am, hn2.aat, q1, q2, hat, hn2.tl, hn2.tm, hn2.tat⟩⟩, ?_, hoth⟩
  show ((eachM 0 3 parM) y).map _ = _
  rw [hm]
  cases b <;> rfl
theorem part_pNums (B R : Nat) (q : Value) (W0 : World) (Bf Br : Nat) (hB : B ≤ R) (hR : W0.heap[Br]? = some (.cells #[.func (.func 101) #[] #[]] 128 (0, 0))) (hF : W0.heap[Bf]? = some (.cells #[.pointer (some ⟨R, 4, none⟩)] 127 (0, 0))) (h1 : Br ≠ R) (h2 : Bf ≠ R) :
    PartAt B R q W0 (.func (.func 119) #[] #[.pointer (some ⟨Br, 0, none⟩), .pointer (some ⟨Bf, 0, none⟩)]) pNums := by
  refine ⟨_, _, _, rfl, enters_of Tryz.func119 (by kernel_rfl) rfl, fun N W x y yv hW hS hy hrt => ?_⟩
  obtain ⟨c0, c1, c2, c3, c4, c5, c6, c7, c8, fz⟩ := hS.cells
  have hb1 := (hW.block Br (Array.getElem?_eq_some_iff.1 hR).1 h1).trans hR
  have hb2 := (hW.block Bf (Array.getElem?_eq_some_iff.1 hF).1 h2).trans hF
  refine (into1_numbers R 4 Br Bf y yv _ W hb1 hb2 h1 h2 c4 (fz _) (Rd.sx hy) hrt).mono ?_
  rintro e w' ⟨b, v, a, wi, rfl, hl, hm, hbi, rfl⟩
  have hlt := hS.lt
  have hbox := (hbi.block R hlt).trans hS.box
  have hrn := hS.rn
  have hle := hS.le
  have hnew : CmdN wi N x := hS.new.keep hbi.size (fun b _ hlt => hbi.block b hlt)
  have hoth : Oth R W (wi.setCell ⟨R, 4, none⟩ v) := (Oth.of hbi).set _ _
  obtain ⟨ad, cc, rfl, q1, q2, q3⟩ := hl
  have hat : AtI (wi.setCell ⟨R, 4, none⟩ (.slice ad a.length cc)) N (wi.setCell ⟨R, 4, none⟩ (.slice ad a.length cc)).heap.size _ ad := (q3.wide (by omega) (by simp [World.setCell])).keep (fun b hb _ => Below.heap_setCell _ _ _ _ (by simp; omega))
  have hbox' : (wi.setCell ⟨R, 4, none⟩ (.slice ad a.length cc)).heap[R]? = some (.cells #[q, .int .i8 x.c.kind, .string (bytesL x.c.name), .int .i64 x.c.n, .slice ad a.length cc, .slice x.aa x.c.args.length x.ac, .slice x.pa x.c.params.length x.pc, .string (bytesL x.c.res), .slice x.ta x.c.terms.length x.tc] 51 (0, 0)) := by simp [World.setCell, Array.getElem?_modify, hbox]
  have hn2 := hnew.set (i := 4) (v := (.slice ad a.length cc)) hrn
  refine ⟨b, { x with c := { x.c with l := a }, la := ad, lc := cc }, rfl, ⟨hbox', hrn, by simp only [World.setCell, Array.size_modify]; exact Nat.le_trans hle hbi.size, ⟨q1, q2, hat, hn2.al, hn2.am, hn2.aat, hn2.pl, hn2.pm, hn2.pat, hn2.tl, hn2.tm, hn2.tat⟩⟩, ?_, hoth⟩
  show ((eachM 0 64 (numM 1048576)) y).map _ = _
  rw [hm]
  cases b <;> rfl
theorem part_pTerms (B R : Nat) (q : Value) (W0 : World) (Bf Br : Nat) (hB : B ≤ R) (hR : W0.heap[Br]? = some (.cells #[.func (.func 82) #[] #[]] 109 (0, 0))) (hF : W0.heap[Bf]? = some (.cells #[.pointer (some ⟨R, 8, none⟩)] 108 (0, 0))) (h1 : Br ≠ R) (h2 : Bf ≠ R) :
    PartAt B R q W0 (.func (.func 108) #[] #[.pointer (some ⟨Br, 0, none⟩), .pointer (some ⟨Bf, 0, none⟩)]) pTerms := by
  refine ⟨_, _, _, rfl, enters_of Tryz.func108 (by kernel_rfl) rfl, fun N W x y yv hW hS hy hrt => ?_⟩
  obtain ⟨c0, c1, c2, c3, c4, c5, c6, c7, c8, fz⟩ := hS.cells
  have hb1 := (hW.block Br (Array.getElem?_eq_some_iff.1 hR).1 h1).trans hR
  have hb2 := (hW.block Bf (Array.getElem?_eq_some_iff.1 hF).1 h2).trans hF
  refine (into1_terms R 8 Br Bf y yv _ W hb1 hb2 h1 h2 c8 (fz _) (Rd.sx hy) hrt).mono ?_
  rintro e w' ⟨b, v, a, wi, rfl, hl, hm, hbi, rfl⟩
  have hlt := hS.lt
  have hbox := (hbi.block R hlt).trans hS.box
  have hrn := hS.rn
  have hle := hS.le
  have hnew : CmdN wi N x := hS.new.keep hbi.size (fun b _ hlt => hbi.block b hlt)
  have hoth : Oth R W (wi.setCell ⟨R, 8, none⟩ v) := (Oth.of hbi).set _ _
  obtain ⟨ad, cc, rfl, q1, q2, q3⟩ := hl
  have hat : RdL (wi.setCell ⟨R, 8, none⟩ (.slice ad a.length cc)) (newBad N (wi.setCell ⟨R, 8, none⟩ (.slice ad a.length cc))) a ad := newL_keep (newL_more q3 (by omega)) (fun b hb _ => Below.heap_setCell _ _ _ _ (by simp; omega))
  have hbox' : (wi.setCell ⟨R, 8, none⟩ (.slice ad a.length cc)).heap[R]? = some (.cells #[q, .int .i8 x.c.kind, .string (bytesL x.c.name), .int .i64 x.c.n, .slice x.la x.c.l.length x.lc, .slice x.aa x.c.args.length x.ac, .slice x.pa x.c.params.length x.pc, .string (bytesL x.c.res), .slice ad a.length cc] 51 (0, 0)) := by simp [World.setCell, Array.getElem?_modify, hbox]
  have hn2 := hnew.set (i := 8) (v := (.slice ad a.length cc)) hrn
  refine ⟨b, { x with c := { x.c with terms := a }, ta := ad, tc := cc }, rfl, ⟨hbox', hrn, by simp only [World.setCell, Array.size_modify]; exact Nat.le_trans hle hbi.size, ⟨hn2.ll, hn2.lm, hn2.lat, hn2.al, hn2.am, hn2.aat, hn2.pl, hn2.pm, hn2.pat, q1, q2, hat⟩⟩, ?_, hoth⟩
  show ((eachM 1 16 termM) y).map _ = _
  rw [hm]
  cases b <;> rfl
theorem part_pOne (B R : Nat) (q : Value) (W0 : World) (Bf Br : Nat) (hB : B ≤ R) (hR : W0.heap[Br]? = some (.cells #[.func (.func 79) #[] #[]] 109 (0, 0))) (hF : W0.heap[Bf]? = some (.cells #[.pointer (some ⟨R, 8, none⟩)] 108 (0, 0))) (h1 : Br ≠ R) (h2 : Bf ≠ R) :
    PartAt B R q W0 (.func (.func 108) #[] #[.pointer (some ⟨Br, 0, none⟩), .pointer (some ⟨Bf, 0, none⟩)]) pOne := by
  refine ⟨_, _, _, rfl, enters_of Tryz.func108 (by kernel_rfl) rfl, fun N W x y yv hW hS hy hrt => ?_⟩
  obtain ⟨c0, c1, c2, c3, c4, c5, c6, c7, c8, fz⟩ := hS.cells
  have hb1 := (hW.block Br (Array.getElem?_eq_some_iff.1 hR).1 h1).trans hR
  have hb2 := (hW.block Bf (Array.getElem?_eq_some_iff.1 hF).1 h2).trans hF
  refine (into1_oneTerm R 8 Br Bf y yv _ W hb1 hb2 h1 h2 c8 (fz _) (Rd.sx hy) hrt).mono ?_
  rintro e w' ⟨b, v, a, wi, rfl, hl, hm, hbi, rfl⟩
  have hlt := hS.lt
  have hbox := (hbi.block R hlt).trans hS.box
  have hrn := hS.rn
  have hle := hS.le
  have hnew : CmdN wi N x := hS.new.keep hbi.size (fun b _ hlt => hbi.block b hlt)
  have hoth : Oth R W (wi.setCell ⟨R, 8, none⟩ v) := (Oth.of hbi).set _ _
  obtain ⟨ad, cc, rfl, q1, q2, q3⟩ := hl
  have hat : RdL (wi.setCell ⟨R, 8, none⟩ (.slice ad a.length cc)) (newBad N (wi.setCell ⟨R, 8, none⟩ (.slice ad a.length cc))) a ad := newL_keep (newL_more q3 (by omega)) (fun b hb _ => Below.heap_setCell _ _ _ _ (by simp; omega))
  have hbox' : (wi.setCell ⟨R, 8, none⟩ (.slice ad a.length cc)).heap[R]? = some (.cells #[q, .int .i8 x.c.kind, .string (bytesL x.c.name), .int .i64 x.c.n, .slice x.la x.c.l.length x.lc, .slice x.aa x.c.args.length x.ac, .slice x.pa x.c.params.length x.pc, .string (bytesL x.c.res), .slice ad a.length cc] 51 (0, 0)) := by simp [World.setCell, Array.getElem?_modify, hbox]
  have hn2 := hnew.set (i := 8) (v := (.slice ad a.length cc)) hrn
  refine ⟨b, { x with c := { x.c with terms := a }, ta := ad, tc := cc }, rfl, ⟨hbox', hrn, by simp only [World.setCell, Array.size_modify]; exact Nat.le_trans hle hbi.size, ⟨hn2.ll, hn2.lm, hn2.lat, hn2.al, hn2.am, hn2.aat, hn2.pl, hn2.pm, hn2.pat, q1, q2, hat⟩⟩, ?_, hoth⟩
  cases b with
  | true => simp only [if_true, Option.some.injEq] at hm; subst hm; rfl
  | false => simp at hm
end Go.Proofs.YtodonngnigbpaaaGreatDoor
namespace Go.Proofs.YtodonngnigbpaaaGreatDoor
open Go.RowKit
set_option linter.unusedVariables false
theorem part_pZero (B R : Nat) (q : Value) (W0 : World) : PartAt B R q W0 (.func (.func 73) #[] #[]) pZero := by
  refine ⟨_, _, _, rfl, enters_of Tryz.func73 (by kernel_rfl) rfl, fun N W x y yv hW hS hy hrt => ?_⟩
  refine (isZero_any y yv W (Rd.sx hy)).mono ?_
  rintro e w' ⟨rfl, hb⟩
  refine ⟨numB3 0 y, x, rfl, hS.keep hb, ?_, Oth.of hb⟩
  unfold pZero
  rw [numM_b]
  cases numB3 0 y <;> rfl
theorem PartAt.call {B R : Nat} {q : Value} {W0 : World} {f : FuncId} {first cap : Array Value} {p : PartM} {N : Nat} (h : PartAt B R q W0 (.func (.func f) first cap) p) {W : World} {x : CmdV} {y : Tree} {yv : Value} (h1 : Oth R W0 W) (h2 : RdrS W R N q x) (h3 : SxB B W y yv) (h4 : RowsT y) : Calls Tryz.prog f (first ++ #[yv] ++ cap) W (PartP R N q p x y W) := by
  obtain ⟨f', a', c', e, _, h⟩ := h
  cases e
  exact h N W x y yv h1 h2 h3 h4
theorem PartP.from {R N : Nat} {q : Value} {p : PartM} {x : CmdV} {y : Tree} {W W1 : World} {e : Ending} {w' : World} (h : PartP R N q p x y W1 e w') (hW : Oth R W W1) : PartP R N q p x y W e w' := by
  obtain ⟨b, x', h1, h2, h3, h4⟩ := h
  exact ⟨b, x', h1, h2, h3, hW.trans h4⟩
theorem ball2 {W0 W : World} (h : Below W0.heap.size W0 W) (o o' : Obj) : Below W0.heap.size W0 ((W.alloc o).alloc o') := (h.alloc h.size o).alloc (by have := h.size; simp; omega) o'
set_option maxRecDepth 100000 in
set_option maxHeartbeats 1000000 in
theorem rset_any (B R N : Nat) (q : Value) (x : CmdV) (y : Tree) (yv : Value) (w : World) (hB : B ≤ R) (hS : RdrS w R N q x) (hy : SxB B w y yv) (hrt : RowsT y) :
    Calls Tryz.prog 72 #[.pointer (some ⟨R, 0, none⟩), yv] w (PartP R N q pSet x y w) := by
  obtain ⟨a, cap, rfl, hl, hc, hk, hb⟩ := sx_box (Rd.sx hy)
  obtain ⟨W0, hW0⟩ : ∃ W0, W0 = w.alloc (.cells #[.int .i8 y.kind, .string (bytesL y.text), .slice a y.kids.length cap] 35) := ⟨_, rfl⟩
  rw [← hW0] at hb
  have hX : W0.heap[w.heap.size]? = some (.cells #[.int .i8 y.kind, .string (bytesL y.text), .slice a y.kids.length cap] 35 (0, 0)) := by rw [hW0]; exact heap_alloc_new w _
  have hsz : W0.heap.size = w.heap.size + 1 := by rw [hW0]; simp
  have hRl := hS.lt
  have hS0 := hS.keep hb
  have hy0 : SxB B W0 y _ := Rd.below hy (hb.mono (by omega))
  obtain ⟨c0, c1, c2, c3, c4, c5, c6, c7, c8, fz⟩ := hS.cells
  have HL := Lib.hid hW0
  have HK : Hid (∀ W, Below W0.heap.size W0 W → W.cell? ⟨w.heap.size, 0, none⟩ = some (.int .i8 y.kind) ∧ W.cell? ⟨w.heap.size, 1, none⟩ = some (.string (bytesL y.text)) ∧ W.cell? ⟨w.heap.size, 2, none⟩ = some (.slice a y.kids.length cap)) := fun W hW => by
    have q1 := (hW.block w.heap.size (by omega)).trans hX
    exact ⟨cell_of_row _ _ 0 _ _ _ q1, cell_of_row _ _ 1 _ _ _ q1, cell_of_row _ _ 2 _ _ _ q1⟩
  have HOth : Hid (Oth R w W0) := Oth.of hb
  have HN1 : Hid (∀ W, Below W0.heap.size W0 W → Calls Tryz.prog 109 #[.agg #[.int .i8 y.kind, .string (bytesL y.text), .slice a y.kids.length cap], .pointer (some ⟨W.heap.size + 1, 0, none⟩), .pointer (some ⟨W.heap.size, 0, none⟩)] ((W.alloc (.cells #[.pointer (some ⟨R, 3, none⟩)] 111)).alloc (.cells #[.func (.func 99) #[] #[]] 112)) (fun e w' => PartP R N q pConf x y w e w' ∧ (w'.cell? ⟨w.heap.size, 0, none⟩ = some (.int .i8 y.kind) ∧ w'.cell? ⟨w.heap.size, 1, none⟩ = some (.string (bytesL y.text)) ∧ w'.cell? ⟨w.heap.size, 2, none⟩ = some (.slice a y.kids.length cap)))) := fun W hW => by
    have hb2 : Below W.heap.size W ((W.alloc (.cells #[.pointer (some ⟨R, 3, none⟩)] 111)).alloc (.cells #[.func (.func 99) #[] #[]] 112)) := ((Below.refl _ _).alloc (Nat.le_refl _) _).alloc (by simp) _
    have hw := hW.size
    have h2 := heap_alloc_new (W.alloc (.cells #[.pointer (some ⟨R, 3, none⟩)] 111)) (.cells #[.func (.func 99) #[] #[]] 112)
    rw [World.size_alloc] at h2
    have h1 := (Below.heap_alloc (W.alloc (.cells #[.pointer (some ⟨R, 3, none⟩)] 111)) (.cells #[.func (.func 99) #[] #[]] 112) W.heap.size (by simp)).trans (heap_alloc_new W _)
    have hP := part_pConf B R q _ W.heap.size (W.heap.size + 1) hB h2 h1 (by omega) (by omega)
    have hbw := hW.trans (hb2.mono hw)
    have := hP.call (Oth.refl _ _) (hS0.keep hbw) (Rd.below hy0 (hbw.mono (by omega))) hrt
    refine this.mono fun e w' h => ⟨h.from (HOth.out.trans (Oth.of hbw)), ?_⟩
    obtain ⟨_, _, _, _, _, ho⟩ := h
    have hbs := hbw.size
    have q1 := (ho.block w.heap.size (by omega) (by omega)).trans ((hbw.block w.heap.size (by omega)).trans hX)
    exact ⟨cell_of_row _ _ 0 _ _ _ q1, cell_of_row _ _ 1 _ _ _ q1, cell_of_row _ _ 2 _ _ _ q1⟩
  have HN2 : Hid (∀ W, Below W0.heap.size W0 W → Calls Tryz.prog 119 #[.agg #[.int .i8 y.kind, .string (bytesL y.text), .slice a y.kids.length cap], .pointer (some ⟨W.heap.size + 1, 0, none⟩), .pointer (some ⟨W.heap.size, 0, none⟩)] ((W.alloc (.cells #[.pointer (some ⟨R, 4, none⟩)] 127)).alloc (.cells #[.func (.func 101) #[] #[]] 128)) (fun e w' => PartP R N q pNums x y w e w' ∧ (w'.cell? ⟨w.heap.size, 0, none⟩ = some (.int .i8 y.kind) ∧ w'.cell? ⟨w.heap.size, 1, none⟩ = some (.string (bytesL y.text)) ∧ w'.cell? ⟨w.heap.size, 2, none⟩ = some (.slice a y.kids.length cap)))) := fun W hW => by
    have hb2 : Below W.heap.size W ((W.alloc (.cells #[.pointer (some ⟨R, 4, none⟩)] 127)).alloc (.cells #[.func (.func 101) #[] #[]] 128)) := ((Below.refl _ _).alloc (Nat.le_refl _) _).alloc (by simp) _
    have hw := hW.size
    have h2 := heap_alloc_new (W.alloc (.cells #[.pointer (some ⟨R, 4, none⟩)] 127)) (.cells #[.func (.func 101) #[] #[]] 128)
    rw [World.size_alloc] at h2
    have h1 := (Below.heap_alloc (W.alloc (.cells #[.pointer (some ⟨R, 4, none⟩)] 127)) (.cells #[.func (.func 101) #[] #[]] 128) W.heap.size (by simp)).trans (heap_alloc_new W _)
    have hP := part_pNums B R q _ W.heap.size (W.heap.size + 1) hB h2 h1 (by omega) (by omega)
    have hbw := hW.trans (hb2.mono hw)
    have := hP.call (Oth.refl _ _) (hS0.keep hbw) (Rd.below hy0 (hbw.mono (by omega))) hrt
    refine this.mono fun e w' h => ⟨h.from (HOth.out.trans (Oth.of hbw)), ?_⟩
    obtain ⟨_, _, _, _, _, ho⟩ := h
    have hbs := hbw.size
    have q1 := (ho.block w.heap.size (by omega) (by omega)).trans ((hbw.block w.heap.size (by omega)).trans hX)
    exact ⟨cell_of_row _ _ 0 _ _ _ q1, cell_of_row _ _ 1 _ _ _ q1, cell_of_row _ _ 2 _ _ _ q1⟩
  have HI1 : Hid (∀ W, Below W0.heap.size W0 W → Calls Tryz.prog 80 #[.pointer (some ⟨R, 3, none⟩), .func (.func 99) #[] #[]] W fun e w5 => ∃ br bf, e = .returned (.func (.func 109) #[] #[.pointer (some ⟨br, 0, none⟩), .pointer (some ⟨bf, 0, none⟩)]) ∧ (w5.cell? ⟨w.heap.size, 0, none⟩ = some (.int .i8 y.kind) ∧ w5.cell? ⟨w.heap.size, 1, none⟩ = some (.string (bytesL y.text)) ∧ w5.cell? ⟨w.heap.size, 2, none⟩ = some (.slice a y.kids.length cap)) ∧ Calls Tryz.prog 109 #[.agg #[.int .i8 y.kind, .string (bytesL y.text), .slice a y.kids.length cap], .pointer (some ⟨br, 0, none⟩), .pointer (some ⟨bf, 0, none⟩)] w5 (fun e w' => PartP R N q pConf x y w e w' ∧ (w'.cell? ⟨w.heap.size, 0, none⟩ = some (.int .i8 y.kind) ∧ w'.cell? ⟨w.heap.size, 1, none⟩ = some (.string (bytesL y.text)) ∧ w'.cell? ⟨w.heap.size, 2, none⟩ = some (.slice a y.kids.length cap)))) := fun W hW => by
    refine (into_int R 3 _ W _ rfl).mono ?_
    rintro e w5 ⟨rfl, h5⟩
    refine ⟨_, _, rfl, HK.out w5 (by rw [h5]; exact ball2 hW _ _), ?_⟩
    rw [h5]
    exact HN1.out W hW
  have HI2 : Hid (∀ W, Below W0.heap.size W0 W → Calls Tryz.prog 100 #[.pointer (some ⟨R, 4, none⟩), .func (.func 101) #[] #[]] W fun e w5 => ∃ br bf, e = .returned (.func (.func 119) #[] #[.pointer (some ⟨br, 0, none⟩), .pointer (some ⟨bf, 0, none⟩)]) ∧ (w5.cell? ⟨w.heap.size, 0, none⟩ = some (.int .i8 y.kind) ∧ w5.cell? ⟨w.heap.size, 1, none⟩ = some (.string (bytesL y.text)) ∧ w5.cell? ⟨w.heap.size, 2, none⟩ = some (.slice a y.kids.length cap)) ∧ Calls Tryz.prog 119 #[.agg #[.int .i8 y.kind, .string (bytesL y.text), .slice a y.kids.length cap], .pointer (some ⟨br, 0, none⟩), .pointer (some ⟨bf, 0, none⟩)] w5 (fun e w' => PartP R N q pNums x y w e w' ∧ (w'.cell? ⟨w.heap.size, 0, none⟩ = some (.int .i8 y.kind) ∧ w'.cell? ⟨w.heap.size, 1, none⟩ = some (.string (bytesL y.text)) ∧ w'.cell? ⟨w.heap.size, 2, none⟩ = some (.slice a y.kids.length cap)))) := fun W hW => by
    refine (into_ints R 4 _ W _ rfl).mono ?_
    rintro e w5 ⟨rfl, h5⟩
    refine ⟨_, _, rfl, HK.out w5 (by rw [h5]; exact ball2 hW _ _), ?_⟩
    rw [h5]
    exact HN2.out W hW
  have HS0 := Lib.hid hS0
  clear hy hy0 hS hS0 hk hb hX hW0 hl hc hrt
  by_cases h1 : x.c.name = budgetL
  · have e1 : ((bytesL x.c.name).toList == [98, 117, 100, 103, 101, 116]) = true := bl_yes h1
    have HP : Hid (pSet x.c y = pConf x.c y) := by show _ = _; unfold pSet; rw [if_pos h1]
    clear h1
    go_enter Tryz.func72, Tryz.ntmps72
    go_wp2_with fail
    rw [← HL.out]
    clear HL
    have H0 := HK.out W0 (Below.refl _ _)
    have H1 := HK.out W0.drew (Below.refl _ _).drew
    go_region_held3 (fun W => W.cell? ⟨w.heap.size, 0, none⟩ = some (.int .i8 y.kind) ∧ W.cell? ⟨w.heap.size, 1, none⟩ = some (.string (bytesL y.text)) ∧ W.cell? ⟨w.heap.size, 2, none⟩ = some (.slice a y.kids.length cap))
      (first | with_reducible exact H0 | with_reducible exact H1 | with_reducible exact hs5 | with_reducible exact hs6)
      (first | (go_at_call 80; refine (HI1.out W0.drew (Below.refl _ _).drew).mono ?_; rintro e w5 ⟨br, bf, rfl, hs5, hc5⟩; have HC5 := Lib.hid hc5; clear hc5) | (go_at_call 109; refine HC5.out.mono ?_; rintro e w6 ⟨⟨b, x', rfl, hS', hm, ho⟩, hs6⟩; have HS' := Lib.hid hS'; have HM := Lib.hid hm; have HO := Lib.hid ho; clear hS' hm ho))
    go_wp2
    go_ret
    exact ⟨b, x', rfl, HS'.out, by rw [HP.out]; exact HM.out, HO.out⟩
  · have e1 : ((bytesL x.c.name).toList == [98, 117, 100, 103, 101, 116]) = false := bl_no h1
    by_cases h2 : x.c.name = seedsL
    · have e2 : ((bytesL x.c.name).toList == [115, 101, 101, 100, 115]) = true := bl_yes h2
      have HP : Hid (pSet x.c y = pNums x.c y) := by show _ = _; unfold pSet; rw [if_neg h1, if_pos h2]
      clear h1 h2
      go_enter Tryz.func72, Tryz.ntmps72
      go_wp2_with fail
      rw [← HL.out]
      clear HL
      have H0 := HK.out W0 (Below.refl _ _)
      have H1 := HK.out W0.drew (Below.refl _ _).drew
      go_region_held3 (fun W => W.cell? ⟨w.heap.size, 0, none⟩ = some (.int .i8 y.kind) ∧ W.cell? ⟨w.heap.size, 1, none⟩ = some (.string (bytesL y.text)) ∧ W.cell? ⟨w.heap.size, 2, none⟩ = some (.slice a y.kids.length cap))
        (first | with_reducible exact H0 | with_reducible exact H1 | with_reducible exact hs5 | with_reducible exact hs6)
        (first | (go_at_call 100; refine (HI2.out W0.drew (Below.refl _ _).drew).mono ?_; rintro e w5 ⟨br, bf, rfl, hs5, hc5⟩; have HC5 := Lib.hid hc5; clear hc5) | (go_at_call 119; refine HC5.out.mono ?_; rintro e w6 ⟨⟨b, x', rfl, hS', hm, ho⟩, hs6⟩; have HS' := Lib.hid hS'; have HM := Lib.hid hm; have HO := Lib.hid ho; clear hS' hm ho))
      go_wp2
      go_ret
      exact ⟨b, x', rfl, HS'.out, by rw [HP.out]; exact HM.out, HO.out⟩
    · have e2 : ((bytesL x.c.name).toList == [115, 101, 101, 100, 115]) = false := bl_no h2
      have HP : Hid (pSet x.c y = none) := by show _ = _; unfold pSet; rw [if_neg h1, if_neg h2]
      clear h1 h2
      go_enter Tryz.func72, Tryz.ntmps72
      go_wp2
      rw [← HL.out]
      go_ret
      exact ⟨false, x, rfl, HS0.out, by rw [HP.out]; rfl, HOth.out⟩
theorem part_pSet (B R : Nat) (q : Value) (W0 : World) (hB : B ≤ R) : PartAt B R q W0 (.func (.func 72) #[.pointer (some ⟨R, 0, none⟩)] #[]) pSet :=
  ⟨_, _, _, rfl, enters_of Tryz.func72 (by kernel_rfl) rfl, fun N W x y yv hW hS hy hrt => rset_any B R N q x y yv W hB hS hy hrt⟩
end Go.Proofs.YtodonngnigbpaaaGreatDoor
