/- Package command's list. -/
import Derived.Test.YtodonngnigbpaaaGreatDoorCmG
namespace Go.Proofs.YtodonngnigbpaaaGreatDoor
open Go.RowKit
set_option linter.unusedVariables false
set_option maxRecDepth 100000 in
set_option maxHeartbeats 8000000 in
theorem list_1 (x : CmdV) (w : World) (hG : GH w) (hr : CmdS w x) (hF : Fair x.c) (hk : x.c.kind = 1) :
    Calls Tryz.prog 18 #[.agg #[.int .i8 x.c.kind, .string (bytesL x.c.name), .int .i64 x.c.n, .slice x.la x.c.l.length x.lc, .slice x.aa x.c.args.length x.ac, .slice x.pa x.c.params.length x.pc, .string (bytesL x.c.res), .slice x.ta x.c.terms.length x.tc]] w (SxPost NoH w (rowT (symT (headsL.getD 1 []) :: partsT x.c))) := by
  obtain ⟨W0, hW0⟩ : ∃ W0, W0 = (w.alloc (.cells #[.int .i8 x.c.kind, .string (bytesL x.c.name), .int .i64 x.c.n, .slice x.la x.c.l.length x.lc, .slice x.aa x.c.args.length x.ac, .slice x.pa x.c.params.length x.pc, .string (bytesL x.c.res), .slice x.ta x.c.terms.length x.tc] 28)).alloc zSx := ⟨_, rfl⟩
  obtain ⟨hB0, hX0, hY0, hsz⟩ := boxed hW0
  have HI2 : Hid (In W0 (Own2 NoH w.heap.size)) := own2_in (fun b hb => hb.elim) (by omega)
  have HL : Hid (W0 = (w.alloc (.cells #[.int .i8 x.c.kind, .string (bytesL x.c.name), .int .i64 x.c.n, .slice x.la x.c.l.length x.lc, .slice x.aa x.c.args.length x.ac, .slice x.pa x.c.params.length x.pc, .string (bytesL x.c.res), .slice x.ta x.c.terms.length x.tc] 28)).alloc (.cells #[.int .i8 0, .string ⟨#[]⟩, .slice none 0 0] 35)) := hW0
  have HK8 : Hid (∀ W, Below W0.heap.size W0 W → W.cell? ⟨w.heap.size, 0, none⟩ = some (.int .i8 1) ∧ W.cell? ⟨w.heap.size, 1, none⟩ = some (.string (bytesL x.c.name)) ∧ W.cell? ⟨w.heap.size, 2, none⟩ = some (.int .i64 x.c.n) ∧ W.cell? ⟨w.heap.size, 3, none⟩ = some (.slice x.la x.c.l.length x.lc) ∧ W.cell? ⟨w.heap.size, 4, none⟩ = some (.slice x.aa x.c.args.length x.ac) ∧ W.cell? ⟨w.heap.size, 5, none⟩ = some (.slice x.pa x.c.params.length x.pc) ∧ W.cell? ⟨w.heap.size, 6, none⟩ = some (.string (bytesL x.c.res)) ∧ W.cell? ⟨w.heap.size, 7, none⟩ = some (.slice x.ta x.c.terms.length x.tc)) := fun W hW => by
    have hb : Box8 W w.heap.size x := (hW.block _ (by omega)).trans hX0
    have h := hb.cells
    rw [hk] at h
    exact h
  have HKS : Hid (∀ W0', Below W0.heap.size W0 W0' → ∀ v0 v1 v2 W, W = ((W0'.setCell ⟨w.heap.size + 1, 0, none⟩ v0).setCell ⟨w.heap.size + 1, 1, none⟩ v1).setCell ⟨w.heap.size + 1, 2, none⟩ v2 → W.cell? ⟨w.heap.size, 0, none⟩ = some (.int .i8 1) ∧ W.cell? ⟨w.heap.size, 1, none⟩ = some (.string (bytesL x.c.name)) ∧ W.cell? ⟨w.heap.size, 2, none⟩ = some (.int .i64 x.c.n) ∧ W.cell? ⟨w.heap.size, 3, none⟩ = some (.slice x.la x.c.l.length x.lc) ∧ W.cell? ⟨w.heap.size, 4, none⟩ = some (.slice x.aa x.c.args.length x.ac) ∧ W.cell? ⟨w.heap.size, 5, none⟩ = some (.slice x.pa x.c.params.length x.pc) ∧ W.cell? ⟨w.heap.size, 6, none⟩ = some (.string (bytesL x.c.res)) ∧ W.cell? ⟨w.heap.size, 7, none⟩ = some (.slice x.ta x.c.terms.length x.tc)) := fun W0' hW v0 v1 v2 W hWe => by
    subst hWe
    have hne : w.heap.size ≠ w.heap.size + 1 := by omega
    have hb : Box8 (((W0'.setCell ⟨w.heap.size + 1, 0, none⟩ v0).setCell ⟨w.heap.size + 1, 1, none⟩ v1).setCell ⟨w.heap.size + 1, 2, none⟩ v2) w.heap.size x := (((Below.heap_setCell _ _ _ _ hne).trans (Below.heap_setCell _ _ _ _ hne)).trans (Below.heap_setCell _ _ _ _ hne)).trans ((hW.block _ (by omega)).trans hX0)
    have h := hb.cells
    rw [hk] at h
    exact h
  have HFz : Hid (∀ W, Below W0.heap.size W0 W → ∀ i, W.frozen? ⟨w.heap.size, i, none⟩ = false ∧ W.frozen? ⟨w.heap.size + 1, i, none⟩ = false) := fun W hW i => by
    have h1 := (hW.block w.heap.size (by omega)).trans hX0
    have h2 := (hW.block (w.heap.size + 1) (by omega)).trans hY0
    exact ⟨by simp [World.frozen?, h1], by simp [World.frozen?, h2, zSx]⟩
  have HZ3 : Hid (∀ W, Below W0.heap.size W0 W → W.cell? ⟨w.heap.size + 1, 0, none⟩ = some (.int .i8 0) ∧ W.cell? ⟨w.heap.size + 1, 1, none⟩ = some (.string ⟨#[]⟩) ∧ W.cell? ⟨w.heap.size + 1, 2, none⟩ = some (.slice none 0 0)) := fun W hW => by
    have h2 : W.heap[w.heap.size + 1]? = some zSx := (hW.block (w.heap.size + 1) (by omega)).trans hY0
    exact ⟨cell_of_row _ _ 0 _ _ _ h2, cell_of_row _ _ 1 _ _ _ h2, cell_of_row _ _ 2 _ _ _ h2⟩
  have HSym : Hid (∀ (s : List UInt8) (W : World), s.length ≤ maxLen → Below W0.heap.size W0 W → Calls Tryz.prog 29 #[.string (bytesL s)] W (RPost (Own2 NoH w.heap.size) W0 W (symT s))) := fun s W hs hW => (symbol_any _ s W hs).mono fun e w' h => h.r hW
  have HNum : Hid (∀ (n : Int) (W : World), I64 n → Below W0.heap.size W0 W → Calls Tryz.prog 31 #[.int .i64 n] W (RPost (Own2 NoH w.heap.size) W0 W (numT n))) := fun n W hn hW => (numeral_c _ n W hn).mono fun e w' h => h.r hW
  have HRow : Hid (∀ (l : List Tree) (a : Option Addr) (c : Nat) (W : World), l.length ≤ c → c ≤ maxLen → SxLS (Own2 NoH w.heap.size) W l a → Below W0.heap.size W0 W → Calls Tryz.prog 35 #[.slice a l.length c] W (RPost (Own2 NoH w.heap.size) W0 W (rowT l))) := fun l a c W h1 h2 h3 hW => (row_any _ l a c W h1 h2 h3).mono fun e w' h => h.r hW
  have HForm : Hid (∀ (l : List Tree) (a : Option Addr) (c n : Nat) (W : World), n = l.length → l.length ≤ c → c ≤ maxLen → l.length ≤ 100 → SxLS (Own2 NoH w.heap.size) W l a → Below W0.heap.size W0 W → Calls Tryz.prog 28 #[.agg #[.int .i8 1, .string (bytesL x.c.name), .int .i64 x.c.n, .slice x.la x.c.l.length x.lc, .slice x.aa x.c.args.length x.ac, .slice x.pa x.c.params.length x.pc, .string (bytesL x.c.res), .slice x.ta x.c.terms.length x.tc], .slice a n c] W (RPost (Own2 NoH w.heap.size) W0 W (rowT (symT (headsL.getD 1 []) :: l)))) := fun l a c n W hn h1 h2 h3 h4 hW => by
    subst hn
    have hGW : GH W := (hG.below hB0).below hW
    have := form_any (Own2 NoH w.heap.size) x l a c 1 W hGW (fun b hb => Nat.lt_of_lt_of_le (HI2.out b hb) hW.size) hk (by omega) h1 h2 h3 h4
    rw [hk] at this
    exact this.mono fun e w' h => h.r hW
  have HArgs : Hid (∀ W, Below W0.heap.size W0 W → Calls Tryz.prog 32 #[.slice x.aa x.c.args.length x.ac, .func (.func 29) #[] #[]] W (RPost (Own2 NoH w.heap.size) W0 W (rowT (x.c.args.map symT)))) := fun W hW => by
    have hbw := hB0.trans (hW.mono (by omega))
    exact (rowOf_str _ x.c.args x.aa x.ac W (fun b hb => Nat.lt_of_lt_of_le (HI2.out b hb) hW.size) ((hr.aat.at.below hbw).more hbw.size) (by have := hF.a; omega) hF.ai).mono fun e w' h => h.r hW
  have HPars : Hid (∀ W, Below W0.heap.size W0 W → Calls Tryz.prog 33 #[.slice x.pa x.c.params.length x.pc, .func (.func 34) #[] #[]] W (RPost (Own2 NoH w.heap.size) W0 W (rowT (x.c.params.map pairT)))) := fun W hW => by
    have hbw := hB0.trans (hW.mono (by omega))
    exact (rowOf_par _ x.c.params x.pa x.pc W (fun b hb => Nat.lt_of_lt_of_le (HI2.out b hb) hW.size) ((hr.pat.at.below hbw).more hbw.size) (by have := hF.p; omega) hF.pi).mono fun e w' h => h.r hW
  have HSet : Hid (∀ W, Below W0.heap.size W0 W → Calls Tryz.prog 30 #[.agg #[.int .i8 1, .string (bytesL x.c.name), .int .i64 x.c.n, .slice x.la x.c.l.length x.lc, .slice x.aa x.c.args.length x.ac, .slice x.pa x.c.params.length x.pc, .string (bytesL x.c.res), .slice x.ta x.c.terms.length x.tc]] W (RPost (Own2 NoH w.heap.size) W0 W (setT x.c))) := fun W hW => by
    have hbw := hB0.trans (hW.mono (by omega))
    have := setting_any (Own2 NoH w.heap.size) x W (fun b hb => Nat.lt_of_lt_of_le (HI2.out b hb) hW.size) (hr.below hbw) hF.l hF.n hF.li
    rw [hk] at this
    exact this.mono fun e w' h => h.r hW
  have HTerms : Hid (∀ W, Below W0.heap.size W0 W → SxLS (Own2 NoH w.heap.size) W x.c.terms x.ta) := fun W hW => by
    have hbw := hB0.trans (hW.mono (by omega))
    have h0 : SxLS NoH w x.c.terms x.ta := RdL.mono (fun b _ hb => by rcases hb with hb | hb; exact hb.elim; exact hb) _ _ hr.tat
    exact h0.to hbw.size (fun b hlt _ => hbw.block b hlt) (fun b hb => by rcases hb with hb | hb | hb; exact .inl hb; exact .inr (by omega); exact .inr (by omega))
  have HT : Hid (x.c.terms.length ≤ x.tc ∧ x.tc ≤ maxLen ∧ x.c.terms.length ≤ 40) := ⟨hr.tl, hr.tm, hF.t⟩
  have HFair := Lib.hid hF
  have HB0 := Lib.hid hB0
  have HY0 := Lib.hid hY0
  have HR0 := HK8.out W0 (Below.refl _ _)
  have HP : Hid (partsT x.c = [.node 2 x.c.name [], setT x.c]) := by show _ = _; unfold partsT; simp [hk]
  rw [HP.out]
  rw [hk] at HL ⊢
  clear hW0 hB0 hX0 hY0 hr hF hk hG HR0
  go_enter Tryz.func18, Tryz.ntmps18
  go_wp2_with fail
  rw [← HL.out]
  clear HL
  obtain ⟨c0, c1, c2, c3, c4, c5, c6, c7⟩ := HK8.out W0 (Below.refl _ _)
  have fz := fun i => (HFz.out W0 (Below.refl _ _) i).1
  go_region_held3 (fun W => W.cell? ⟨w.heap.size, 0, none⟩ = some (.int .i8 1) ∧ W.cell? ⟨w.heap.size, 1, none⟩ = some (.string (bytesL x.c.name)) ∧ W.cell? ⟨w.heap.size, 2, none⟩ = some (.int .i64 x.c.n) ∧ W.cell? ⟨w.heap.size, 3, none⟩ = some (.slice x.la x.c.l.length x.lc) ∧ W.cell? ⟨w.heap.size, 4, none⟩ = some (.slice x.aa x.c.args.length x.ac) ∧ W.cell? ⟨w.heap.size, 5, none⟩ = some (.slice x.pa x.c.params.length x.pc) ∧ W.cell? ⟨w.heap.size, 6, none⟩ = some (.string (bytesL x.c.res)) ∧ W.cell? ⟨w.heap.size, 7, none⟩ = some (.slice x.ta x.c.terms.length x.tc))
    (first | exact HK8.out _ (by assumption) | exact HK8.out _ (Below.refl _ _) | exact HK8.out _ (Below.refl _ _).drew | exact HK8.out _ (ball (by assumption) _) | exact HKS.out _ (by assumption) _ _ _ _ rfl)
    (first | (go_at_call 30; refine (HSet.out _ (by first | assumption | exact Below.drew (by assumption) | exact (Below.refl _ _).drew | exact Below.refl _ _)).mono ?_; rintro e w1 ⟨s1, hst1, rfl, hs1, hb1, hc1⟩; unfold sexV; have HST1 := Lib.hid hst1; have HS1 := Lib.hid hs1; clear hst1 hs1 hc1) | (go_at_call 28; refine (HForm.out [.node 2 x.c.name [], setT x.c] _ 2 2 _ rfl (by simp) (by simp [maxLen]) (by simp) (lit2 (s0 := ⟨.node 2 x.c.name [], none, 0⟩) rfl HST1.out HI2.out hb1 (sx_leaf HFair.out.name) HS1.out).2 (lit2 (s0 := ⟨.node 2 x.c.name [], none, 0⟩) rfl HST1.out HI2.out hb1 (sx_leaf HFair.out.name) HS1.out).1).mono ?_; rintro e w9 ⟨s9, hst9, rfl, hs9, hb9, hc9⟩; unfold sexV; have HST9 := Lib.hid hst9; have HS9 := Lib.hid hs9; clear hst9 hs9 hc9; have hx9 := (hb9.block (w.heap.size + 1) (by omega)).trans HY0.out; obtain ⟨d0, d1, d2, fz9, hz9⟩ := cells3b hx9; clear hx9))
  go_wp2
  obtain ⟨h1, h2, h3⟩ := list_end hsz HB0.out HY0.out hb9 HS9.out
  refine bodyPost_ret (results_cell_row rfl _ _ (w.heap.size + 1) _ _ _ _ rfl (h1) Tryz.underlying35 rfl sexSize3) rfl ?_
  exact ⟨s9, HST9.out, rfl, h2, h3⟩
end Go.Proofs.YtodonngnigbpaaaGreatDoor
namespace Go.Proofs.YtodonngnigbpaaaGreatDoor
open Go.RowKit
set_option linter.unusedVariables false
set_option maxRecDepth 100000 in
set_option maxHeartbeats 8000000 in
theorem list_2 (x : CmdV) (w : World) (hG : GH w) (hr : CmdS w x) (hF : Fair x.c) (hk : x.c.kind = 2) :
    Calls Tryz.prog 18 #[.agg #[.int .i8 x.c.kind, .string (bytesL x.c.name), .int .i64 x.c.n, .slice x.la x.c.l.length x.lc, .slice x.aa x.c.args.length x.ac, .slice x.pa x.c.params.length x.pc, .string (bytesL x.c.res), .slice x.ta x.c.terms.length x.tc]] w (SxPost NoH w (rowT (symT (headsL.getD 2 []) :: partsT x.c))) := by
  obtain ⟨W0, hW0⟩ : ∃ W0, W0 = (w.alloc (.cells #[.int .i8 x.c.kind, .string (bytesL x.c.name), .int .i64 x.c.n, .slice x.la x.c.l.length x.lc, .slice x.aa x.c.args.length x.ac, .slice x.pa x.c.params.length x.pc, .string (bytesL x.c.res), .slice x.ta x.c.terms.length x.tc] 28)).alloc zSx := ⟨_, rfl⟩
  obtain ⟨hB0, hX0, hY0, hsz⟩ := boxed hW0
  have HI2 : Hid (In W0 (Own2 NoH w.heap.size)) := own2_in (fun b hb => hb.elim) (by omega)
  have HL : Hid (W0 = (w.alloc (.cells #[.int .i8 x.c.kind, .string (bytesL x.c.name), .int .i64 x.c.n, .slice x.la x.c.l.length x.lc, .slice x.aa x.c.args.length x.ac, .slice x.pa x.c.params.length x.pc, .string (bytesL x.c.res), .slice x.ta x.c.terms.length x.tc] 28)).alloc (.cells #[.int .i8 0, .string ⟨#[]⟩, .slice none 0 0] 35)) := hW0
  have HK8 : Hid (∀ W, Below W0.heap.size W0 W → W.cell? ⟨w.heap.size, 0, none⟩ = some (.int .i8 2) ∧ W.cell? ⟨w.heap.size, 1, none⟩ = some (.string (bytesL x.c.name)) ∧ W.cell? ⟨w.heap.size, 2, none⟩ = some (.int .i64 x.c.n) ∧ W.cell? ⟨w.heap.size, 3, none⟩ = some (.slice x.la x.c.l.length x.lc) ∧ W.cell? ⟨w.heap.size, 4, none⟩ = some (.slice x.aa x.c.args.length x.ac) ∧ W.cell? ⟨w.heap.size, 5, none⟩ = some (.slice x.pa x.c.params.length x.pc) ∧ W.cell? ⟨w.heap.size, 6, none⟩ = some (.string (bytesL x.c.res)) ∧ W.cell? ⟨w.heap.size, 7, none⟩ = some (.slice x.ta x.c.terms.length x.tc)) := fun W hW => by
    have hb : Box8 W w.heap.size x := (hW.block _ (by omega)).trans hX0
    have h := hb.cells
    rw [hk] at h
    exact h
  have HKS : Hid (∀ W0', Below W0.heap.size W0 W0' → ∀ v0 v1 v2 W, W = ((W0'.setCell ⟨w.heap.size + 1, 0, none⟩ v0).setCell ⟨w.heap.size + 1, 1, none⟩ v1).setCell ⟨w.heap.size + 1, 2, none⟩ v2 → W.cell? ⟨w.heap.size, 0, none⟩ = some (.int .i8 2) ∧ W.cell? ⟨w.heap.size, 1, none⟩ = some (.string (bytesL x.c.name)) ∧ W.cell? ⟨w.heap.size, 2, none⟩ = some (.int .i64 x.c.n) ∧ W.cell? ⟨w.heap.size, 3, none⟩ = some (.slice x.la x.c.l.length x.lc) ∧ W.cell? ⟨w.heap.size, 4, none⟩ = some (.slice x.aa x.c.args.length x.ac) ∧ W.cell? ⟨w.heap.size, 5, none⟩ = some (.slice x.pa x.c.params.length x.pc) ∧ W.cell? ⟨w.heap.size, 6, none⟩ = some (.string (bytesL x.c.res)) ∧ W.cell? ⟨w.heap.size, 7, none⟩ = some (.slice x.ta x.c.terms.length x.tc)) := fun W0' hW v0 v1 v2 W hWe => by
    subst hWe
    have hne : w.heap.size ≠ w.heap.size + 1 := by omega
    have hb : Box8 (((W0'.setCell ⟨w.heap.size + 1, 0, none⟩ v0).setCell ⟨w.heap.size + 1, 1, none⟩ v1).setCell ⟨w.heap.size + 1, 2, none⟩ v2) w.heap.size x := (((Below.heap_setCell _ _ _ _ hne).trans (Below.heap_setCell _ _ _ _ hne)).trans (Below.heap_setCell _ _ _ _ hne)).trans ((hW.block _ (by omega)).trans hX0)
    have h := hb.cells
    rw [hk] at h
    exact h
  have HFz : Hid (∀ W, Below W0.heap.size W0 W → ∀ i, W.frozen? ⟨w.heap.size, i, none⟩ = false ∧ W.frozen? ⟨w.heap.size + 1, i, none⟩ = false) := fun W hW i => by
    have h1 := (hW.block w.heap.size (by omega)).trans hX0
    have h2 := (hW.block (w.heap.size + 1) (by omega)).trans hY0
    exact ⟨by simp [World.frozen?, h1], by simp [World.frozen?, h2, zSx]⟩
  have HZ3 : Hid (∀ W, Below W0.heap.size W0 W → W.cell? ⟨w.heap.size + 1, 0, none⟩ = some (.int .i8 0) ∧ W.cell? ⟨w.heap.size + 1, 1, none⟩ = some (.string ⟨#[]⟩) ∧ W.cell? ⟨w.heap.size + 1, 2, none⟩ = some (.slice none 0 0)) := fun W hW => by
    have h2 : W.heap[w.heap.size + 1]? = some zSx := (hW.block (w.heap.size + 1) (by omega)).trans hY0
    exact ⟨cell_of_row _ _ 0 _ _ _ h2, cell_of_row _ _ 1 _ _ _ h2, cell_of_row _ _ 2 _ _ _ h2⟩
  have HSym : Hid (∀ (s : List UInt8) (W : World), s.length ≤ maxLen → Below W0.heap.size W0 W → Calls Tryz.prog 29 #[.string (bytesL s)] W (RPost (Own2 NoH w.heap.size) W0 W (symT s))) := fun s W hs hW => (symbol_any _ s W hs).mono fun e w' h => h.r hW
  have HNum : Hid (∀ (n : Int) (W : World), I64 n → Below W0.heap.size W0 W → Calls Tryz.prog 31 #[.int .i64 n] W (RPost (Own2 NoH w.heap.size) W0 W (numT n))) := fun n W hn hW => (numeral_c _ n W hn).mono fun e w' h => h.r hW
  have HRow : Hid (∀ (l : List Tree) (a : Option Addr) (c : Nat) (W : World), l.length ≤ c → c ≤ maxLen → SxLS (Own2 NoH w.heap.size) W l a → Below W0.heap.size W0 W → Calls Tryz.prog 35 #[.slice a l.length c] W (RPost (Own2 NoH w.heap.size) W0 W (rowT l))) := fun l a c W h1 h2 h3 hW => (row_any _ l a c W h1 h2 h3).mono fun e w' h => h.r hW
  have HForm : Hid (∀ (l : List Tree) (a : Option Addr) (c n : Nat) (W : World), n = l.length → l.length ≤ c → c ≤ maxLen → l.length ≤ 100 → SxLS (Own2 NoH w.heap.size) W l a → Below W0.heap.size W0 W → Calls Tryz.prog 28 #[.agg #[.int .i8 2, .string (bytesL x.c.name), .int .i64 x.c.n, .slice x.la x.c.l.length x.lc, .slice x.aa x.c.args.length x.ac, .slice x.pa x.c.params.length x.pc, .string (bytesL x.c.res), .slice x.ta x.c.terms.length x.tc], .slice a n c] W (RPost (Own2 NoH w.heap.size) W0 W (rowT (symT (headsL.getD 2 []) :: l)))) := fun l a c n W hn h1 h2 h3 h4 hW => by
    subst hn
    have hGW : GH W := (hG.below hB0).below hW
    have := form_any (Own2 NoH w.heap.size) x l a c 2 W hGW (fun b hb => Nat.lt_of_lt_of_le (HI2.out b hb) hW.size) hk (by omega) h1 h2 h3 h4
    rw [hk] at this
    exact this.mono fun e w' h => h.r hW
  have HArgs : Hid (∀ W, Below W0.heap.size W0 W → Calls Tryz.prog 32 #[.slice x.aa x.c.args.length x.ac, .func (.func 29) #[] #[]] W (RPost (Own2 NoH w.heap.size) W0 W (rowT (x.c.args.map symT)))) := fun W hW => by
    have hbw := hB0.trans (hW.mono (by omega))
    exact (rowOf_str _ x.c.args x.aa x.ac W (fun b hb => Nat.lt_of_lt_of_le (HI2.out b hb) hW.size) ((hr.aat.at.below hbw).more hbw.size) (by have := hF.a; omega) hF.ai).mono fun e w' h => h.r hW
  have HPars : Hid (∀ W, Below W0.heap.size W0 W → Calls Tryz.prog 33 #[.slice x.pa x.c.params.length x.pc, .func (.func 34) #[] #[]] W (RPost (Own2 NoH w.heap.size) W0 W (rowT (x.c.params.map pairT)))) := fun W hW => by
    have hbw := hB0.trans (hW.mono (by omega))
    exact (rowOf_par _ x.c.params x.pa x.pc W (fun b hb => Nat.lt_of_lt_of_le (HI2.out b hb) hW.size) ((hr.pat.at.below hbw).more hbw.size) (by have := hF.p; omega) hF.pi).mono fun e w' h => h.r hW
  have HSet : Hid (∀ W, Below W0.heap.size W0 W → Calls Tryz.prog 30 #[.agg #[.int .i8 2, .string (bytesL x.c.name), .int .i64 x.c.n, .slice x.la x.c.l.length x.lc, .slice x.aa x.c.args.length x.ac, .slice x.pa x.c.params.length x.pc, .string (bytesL x.c.res), .slice x.ta x.c.terms.length x.tc]] W (RPost (Own2 NoH w.heap.size) W0 W (setT x.c))) := fun W hW => by
    have hbw := hB0.trans (hW.mono (by omega))
    have := setting_any (Own2 NoH w.heap.size) x W (fun b hb => Nat.lt_of_lt_of_le (HI2.out b hb) hW.size) (hr.below hbw) hF.l hF.n hF.li
    rw [hk] at this
    exact this.mono fun e w' h => h.r hW
  have HTerms : Hid (∀ W, Below W0.heap.size W0 W → SxLS (Own2 NoH w.heap.size) W x.c.terms x.ta) := fun W hW => by
    have hbw := hB0.trans (hW.mono (by omega))
    have h0 : SxLS NoH w x.c.terms x.ta := RdL.mono (fun b _ hb => by rcases hb with hb | hb; exact hb.elim; exact hb) _ _ hr.tat
    exact h0.to hbw.size (fun b hlt _ => hbw.block b hlt) (fun b hb => by rcases hb with hb | hb | hb; exact .inl hb; exact .inr (by omega); exact .inr (by omega))
  have HT : Hid (x.c.terms.length ≤ x.tc ∧ x.tc ≤ maxLen ∧ x.c.terms.length ≤ 40) := ⟨hr.tl, hr.tm, hF.t⟩
  have HFair := Lib.hid hF
  have HB0 := Lib.hid hB0
  have HY0 := Lib.hid hY0
  have HR0 := HK8.out W0 (Below.refl _ _)
  have HP : Hid (partsT x.c = [symT x.c.name, numT 0]) := by show _ = _; unfold partsT; simp [hk]
  rw [HP.out]
  rw [hk] at HL ⊢
  clear hW0 hB0 hX0 hY0 hr hF hk hG HR0
  go_enter Tryz.func18, Tryz.ntmps18
  go_wp2_with fail
  rw [← HL.out]
  clear HL
  obtain ⟨c0, c1, c2, c3, c4, c5, c6, c7⟩ := HK8.out W0 (Below.refl _ _)
  have fz := fun i => (HFz.out W0 (Below.refl _ _) i).1
  go_region_held3 (fun W => W.cell? ⟨w.heap.size, 0, none⟩ = some (.int .i8 2) ∧ W.cell? ⟨w.heap.size, 1, none⟩ = some (.string (bytesL x.c.name)) ∧ W.cell? ⟨w.heap.size, 2, none⟩ = some (.int .i64 x.c.n) ∧ W.cell? ⟨w.heap.size, 3, none⟩ = some (.slice x.la x.c.l.length x.lc) ∧ W.cell? ⟨w.heap.size, 4, none⟩ = some (.slice x.aa x.c.args.length x.ac) ∧ W.cell? ⟨w.heap.size, 5, none⟩ = some (.slice x.pa x.c.params.length x.pc) ∧ W.cell? ⟨w.heap.size, 6, none⟩ = some (.string (bytesL x.c.res)) ∧ W.cell? ⟨w.heap.size, 7, none⟩ = some (.slice x.ta x.c.terms.length x.tc))
    (first | exact HK8.out _ (by assumption) | exact HK8.out _ (Below.refl _ _) | exact HK8.out _ (Below.refl _ _).drew | exact HK8.out _ (ball (by assumption) _) | exact HKS.out _ (by assumption) _ _ _ _ rfl)
    (first | (go_at_call 29; refine (HSym.out _ _ HFair.out.name (by first | assumption | exact Below.drew (by assumption) | exact (Below.refl _ _).drew | exact Below.refl _ _)).mono ?_; rintro e w1 ⟨s1, hst1, rfl, hs1, hb1, hc1⟩; unfold sexV; have HST1 := Lib.hid hst1; have HS1 := Lib.hid hs1; clear hst1 hs1 hc1) | (go_at_call 31; refine (HNum.out 0 _ ⟨by omega, by omega⟩ (by first | assumption | exact Below.drew (by assumption) | exact (Below.refl _ _).drew | exact Below.refl _ _)).mono ?_; rintro e w2 ⟨s2, hst2, rfl, hs2, hb2, hc2⟩; unfold sexV; have HST2 := Lib.hid hst2; have HS2 := Lib.hid hs2; have HS1_2 := Lib.hid (HS1.out.below (by first | exact hc2 | exact (Below.refl _ _).drew.trans hc2)); clear hst2 hs2 hc2) | (go_at_call 28; refine (HForm.out [symT x.c.name, numT 0] _ 2 2 _ rfl (by simp) (by simp [maxLen]) (by simp) (lit2 HST1.out HST2.out HI2.out hb2 HS1_2.out HS2.out).2 (lit2 HST1.out HST2.out HI2.out hb2 HS1_2.out HS2.out).1).mono ?_; rintro e w9 ⟨s9, hst9, rfl, hs9, hb9, hc9⟩; unfold sexV; have HST9 := Lib.hid hst9; have HS9 := Lib.hid hs9; clear hst9 hs9 hc9; have hx9 := (hb9.block (w.heap.size + 1) (by omega)).trans HY0.out; obtain ⟨d0, d1, d2, fz9, hz9⟩ := cells3b hx9; clear hx9))
  go_wp2
  obtain ⟨h1, h2, h3⟩ := list_end hsz HB0.out HY0.out hb9 HS9.out
  refine bodyPost_ret (results_cell_row rfl _ _ (w.heap.size + 1) _ _ _ _ rfl (h1) Tryz.underlying35 rfl sexSize3) rfl ?_
  exact ⟨s9, HST9.out, rfl, h2, h3⟩
end Go.Proofs.YtodonngnigbpaaaGreatDoor
namespace Go.Proofs.YtodonngnigbpaaaGreatDoor
open Go.RowKit
set_option linter.unusedVariables false
set_option maxRecDepth 100000 in
set_option maxHeartbeats 8000000 in
theorem list_3 (x : CmdV) (w : World) (hG : GH w) (hr : CmdS w x) (hF : Fair x.c) (hk : x.c.kind = 3) :
    Calls Tryz.prog 18 #[.agg #[.int .i8 x.c.kind, .string (bytesL x.c.name), .int .i64 x.c.n, .slice x.la x.c.l.length x.lc, .slice x.aa x.c.args.length x.ac, .slice x.pa x.c.params.length x.pc, .string (bytesL x.c.res), .slice x.ta x.c.terms.length x.tc]] w (SxPost NoH w (rowT (symT (headsL.getD 3 []) :: partsT x.c))) := by
  obtain ⟨W0, hW0⟩ : ∃ W0, W0 = (w.alloc (.cells #[.int .i8 x.c.kind, .string (bytesL x.c.name), .int .i64 x.c.n, .slice x.la x.c.l.length x.lc, .slice x.aa x.c.args.length x.ac, .slice x.pa x.c.params.length x.pc, .string (bytesL x.c.res), .slice x.ta x.c.terms.length x.tc] 28)).alloc zSx := ⟨_, rfl⟩
  obtain ⟨hB0, hX0, hY0, hsz⟩ := boxed hW0
  have HI2 : Hid (In W0 (Own2 NoH w.heap.size)) := own2_in (fun b hb => hb.elim) (by omega)
  have HL : Hid (W0 = (w.alloc (.cells #[.int .i8 x.c.kind, .string (bytesL x.c.name), .int .i64 x.c.n, .slice x.la x.c.l.length x.lc, .slice x.aa x.c.args.length x.ac, .slice x.pa x.c.params.length x.pc, .string (bytesL x.c.res), .slice x.ta x.c.terms.length x.tc] 28)).alloc (.cells #[.int .i8 0, .string ⟨#[]⟩, .slice none 0 0] 35)) := hW0
  have HK8 : Hid (∀ W, Below W0.heap.size W0 W → W.cell? ⟨w.heap.size, 0, none⟩ = some (.int .i8 3) ∧ W.cell? ⟨w.heap.size, 1, none⟩ = some (.string (bytesL x.c.name)) ∧ W.cell? ⟨w.heap.size, 2, none⟩ = some (.int .i64 x.c.n) ∧ W.cell? ⟨w.heap.size, 3, none⟩ = some (.slice x.la x.c.l.length x.lc) ∧ W.cell? ⟨w.heap.size, 4, none⟩ = some (.slice x.aa x.c.args.length x.ac) ∧ W.cell? ⟨w.heap.size, 5, none⟩ = some (.slice x.pa x.c.params.length x.pc) ∧ W.cell? ⟨w.heap.size, 6, none⟩ = some (.string (bytesL x.c.res)) ∧ W.cell? ⟨w.heap.size, 7, none⟩ = some (.slice x.ta x.c.terms.length x.tc)) := fun W hW => by
    have hb : Box8 W w.heap.size x := (hW.block _ (by omega)).trans hX0
    have h := hb.cells
    rw [hk] at h
    exact h
  have HKS : Hid (∀ W0', Below W0.heap.size W0 W0' → ∀ v0 v1 v2 W, W = ((W0'.setCell ⟨w.heap.size + 1, 0, none⟩ v0).setCell ⟨w.heap.size + 1, 1, none⟩ v1).setCell ⟨w.heap.size + 1, 2, none⟩ v2 → W.cell? ⟨w.heap.size, 0, none⟩ = some (.int .i8 3) ∧ W.cell? ⟨w.heap.size, 1, none⟩ = some (.string (bytesL x.c.name)) ∧ W.cell? ⟨w.heap.size, 2, none⟩ = some (.int .i64 x.c.n) ∧ W.cell? ⟨w.heap.size, 3, none⟩ = some (.slice x.la x.c.l.length x.lc) ∧ W.cell? ⟨w.heap.size, 4, none⟩ = some (.slice x.aa x.c.args.length x.ac) ∧ W.cell? ⟨w.heap.size, 5, none⟩ = some (.slice x.pa x.c.params.length x.pc) ∧ W.cell? ⟨w.heap.size, 6, none⟩ = some (.string (bytesL x.c.res)) ∧ W.cell? ⟨w.heap.size, 7, none⟩ = some (.slice x.ta x.c.terms.length x.tc)) := fun W0' hW v0 v1 v2 W hWe => by
    subst hWe
    have hne : w.heap.size ≠ w.heap.size + 1 := by omega
    have hb : Box8 (((W0'.setCell ⟨w.heap.size + 1, 0, none⟩ v0).setCell ⟨w.heap.size + 1, 1, none⟩ v1).setCell ⟨w.heap.size + 1, 2, none⟩ v2) w.heap.size x := (((Below.heap_setCell _ _ _ _ hne).trans (Below.heap_setCell _ _ _ _ hne)).trans (Below.heap_setCell _ _ _ _ hne)).trans ((hW.block _ (by omega)).trans hX0)
    have h := hb.cells
    rw [hk] at h
    exact h
  have HFz : Hid (∀ W, Below W0.heap.size W0 W → ∀ i, W.frozen? ⟨w.heap.size, i, none⟩ = false ∧ W.frozen? ⟨w.heap.size + 1, i, none⟩ = false) := fun W hW i => by
    have h1 := (hW.block w.heap.size (by omega)).trans hX0
    have h2 := (hW.block (w.heap.size + 1) (by omega)).trans hY0
    exact ⟨by simp [World.frozen?, h1], by simp [World.frozen?, h2, zSx]⟩
  have HZ3 : Hid (∀ W, Below W0.heap.size W0 W → W.cell? ⟨w.heap.size + 1, 0, none⟩ = some (.int .i8 0) ∧ W.cell? ⟨w.heap.size + 1, 1, none⟩ = some (.string ⟨#[]⟩) ∧ W.cell? ⟨w.heap.size + 1, 2, none⟩ = some (.slice none 0 0)) := fun W hW => by
    have h2 : W.heap[w.heap.size + 1]? = some zSx := (hW.block (w.heap.size + 1) (by omega)).trans hY0
    exact ⟨cell_of_row _ _ 0 _ _ _ h2, cell_of_row _ _ 1 _ _ _ h2, cell_of_row _ _ 2 _ _ _ h2⟩
  have HSym : Hid (∀ (s : List UInt8) (W : World), s.length ≤ maxLen → Below W0.heap.size W0 W → Calls Tryz.prog 29 #[.string (bytesL s)] W (RPost (Own2 NoH w.heap.size) W0 W (symT s))) := fun s W hs hW => (symbol_any _ s W hs).mono fun e w' h => h.r hW
  have HNum : Hid (∀ (n : Int) (W : World), I64 n → Below W0.heap.size W0 W → Calls Tryz.prog 31 #[.int .i64 n] W (RPost (Own2 NoH w.heap.size) W0 W (numT n))) := fun n W hn hW => (numeral_c _ n W hn).mono fun e w' h => h.r hW
  have HRow : Hid (∀ (l : List Tree) (a : Option Addr) (c : Nat) (W : World), l.length ≤ c → c ≤ maxLen → SxLS (Own2 NoH w.heap.size) W l a → Below W0.heap.size W0 W → Calls Tryz.prog 35 #[.slice a l.length c] W (RPost (Own2 NoH w.heap.size) W0 W (rowT l))) := fun l a c W h1 h2 h3 hW => (row_any _ l a c W h1 h2 h3).mono fun e w' h => h.r hW
  have HForm : Hid (∀ (l : List Tree) (a : Option Addr) (c n : Nat) (W : World), n = l.length → l.length ≤ c → c ≤ maxLen → l.length ≤ 100 → SxLS (Own2 NoH w.heap.size) W l a → Below W0.heap.size W0 W → Calls Tryz.prog 28 #[.agg #[.int .i8 3, .string (bytesL x.c.name), .int .i64 x.c.n, .slice x.la x.c.l.length x.lc, .slice x.aa x.c.args.length x.ac, .slice x.pa x.c.params.length x.pc, .string (bytesL x.c.res), .slice x.ta x.c.terms.length x.tc], .slice a n c] W (RPost (Own2 NoH w.heap.size) W0 W (rowT (symT (headsL.getD 3 []) :: l)))) := fun l a c n W hn h1 h2 h3 h4 hW => by
    subst hn
    have hGW : GH W := (hG.below hB0).below hW
    have := form_any (Own2 NoH w.heap.size) x l a c 3 W hGW (fun b hb => Nat.lt_of_lt_of_le (HI2.out b hb) hW.size) hk (by omega) h1 h2 h3 h4
    rw [hk] at this
    exact this.mono fun e w' h => h.r hW
  have HArgs : Hid (∀ W, Below W0.heap.size W0 W → Calls Tryz.prog 32 #[.slice x.aa x.c.args.length x.ac, .func (.func 29) #[] #[]] W (RPost (Own2 NoH w.heap.size) W0 W (rowT (x.c.args.map symT)))) := fun W hW => by
    have hbw := hB0.trans (hW.mono (by omega))
    exact (rowOf_str _ x.c.args x.aa x.ac W (fun b hb => Nat.lt_of_lt_of_le (HI2.out b hb) hW.size) ((hr.aat.at.below hbw).more hbw.size) (by have := hF.a; omega) hF.ai).mono fun e w' h => h.r hW
  have HPars : Hid (∀ W, Below W0.heap.size W0 W → Calls Tryz.prog 33 #[.slice x.pa x.c.params.length x.pc, .func (.func 34) #[] #[]] W (RPost (Own2 NoH w.heap.size) W0 W (rowT (x.c.params.map pairT)))) := fun W hW => by
    have hbw := hB0.trans (hW.mono (by omega))
    exact (rowOf_par _ x.c.params x.pa x.pc W (fun b hb => Nat.lt_of_lt_of_le (HI2.out b hb) hW.size) ((hr.pat.at.below hbw).more hbw.size) (by have := hF.p; omega) hF.pi).mono fun e w' h => h.r hW
  have HSet : Hid (∀ W, Below W0.heap.size W0 W → Calls Tryz.prog 30 #[.agg #[.int .i8 3, .string (bytesL x.c.name), .int .i64 x.c.n, .slice x.la x.c.l.length x.lc, .slice x.aa x.c.args.length x.ac, .slice x.pa x.c.params.length x.pc, .string (bytesL x.c.res), .slice x.ta x.c.terms.length x.tc]] W (RPost (Own2 NoH w.heap.size) W0 W (setT x.c))) := fun W hW => by
    have hbw := hB0.trans (hW.mono (by omega))
    have := setting_any (Own2 NoH w.heap.size) x W (fun b hb => Nat.lt_of_lt_of_le (HI2.out b hb) hW.size) (hr.below hbw) hF.l hF.n hF.li
    rw [hk] at this
    exact this.mono fun e w' h => h.r hW
  have HTerms : Hid (∀ W, Below W0.heap.size W0 W → SxLS (Own2 NoH w.heap.size) W x.c.terms x.ta) := fun W hW => by
    have hbw := hB0.trans (hW.mono (by omega))
    have h0 : SxLS NoH w x.c.terms x.ta := RdL.mono (fun b _ hb => by rcases hb with hb | hb; exact hb.elim; exact hb) _ _ hr.tat
    exact h0.to hbw.size (fun b hlt _ => hbw.block b hlt) (fun b hb => by rcases hb with hb | hb | hb; exact .inl hb; exact .inr (by omega); exact .inr (by omega))
  have HT : Hid (x.c.terms.length ≤ x.tc ∧ x.tc ≤ maxLen ∧ x.c.terms.length ≤ 40) := ⟨hr.tl, hr.tm, hF.t⟩
  have HFair := Lib.hid hF
  have HB0 := Lib.hid hB0
  have HY0 := Lib.hid hY0
  have HR0 := HK8.out W0 (Below.refl _ _)
  have HP : Hid (partsT x.c = [symT x.c.name, rowT (x.c.args.map symT), symT x.c.res]) := by show _ = _; unfold partsT; simp [hk]
  rw [HP.out]
  rw [hk] at HL ⊢
  clear hW0 hB0 hX0 hY0 hr hF hk hG HR0
  go_enter Tryz.func18, Tryz.ntmps18
  go_wp2_with fail
  rw [← HL.out]
  clear HL
  obtain ⟨c0, c1, c2, c3, c4, c5, c6, c7⟩ := HK8.out W0 (Below.refl _ _)
  have fz := fun i => (HFz.out W0 (Below.refl _ _) i).1
  go_region_held3 (fun W => W.cell? ⟨w.heap.size, 0, none⟩ = some (.int .i8 3) ∧ W.cell? ⟨w.heap.size, 1, none⟩ = some (.string (bytesL x.c.name)) ∧ W.cell? ⟨w.heap.size, 2, none⟩ = some (.int .i64 x.c.n) ∧ W.cell? ⟨w.heap.size, 3, none⟩ = some (.slice x.la x.c.l.length x.lc) ∧ W.cell? ⟨w.heap.size, 4, none⟩ = some (.slice x.aa x.c.args.length x.ac) ∧ W.cell? ⟨w.heap.size, 5, none⟩ = some (.slice x.pa x.c.params.length x.pc) ∧ W.cell? ⟨w.heap.size, 6, none⟩ = some (.string (bytesL x.c.res)) ∧ W.cell? ⟨w.heap.size, 7, none⟩ = some (.slice x.ta x.c.terms.length x.tc))
    (first | exact HK8.out _ (by assumption) | exact HK8.out _ (Below.refl _ _) | exact HK8.out _ (Below.refl _ _).drew | exact HK8.out _ (ball (by assumption) _) | exact HKS.out _ (by assumption) _ _ _ _ rfl)
    (first | (go_at_call 29; refine (HSym.out _ _ HFair.out.name (by first | assumption | exact Below.drew (by assumption) | exact (Below.refl _ _).drew | exact Below.refl _ _)).mono ?_; rintro e w1 ⟨s1, hst1, rfl, hs1, hb1, hc1⟩; unfold sexV; have HST1 := Lib.hid hst1; have HS1 := Lib.hid hs1; clear hst1 hs1 hc1) | (go_at_call 32; refine (HArgs.out _ (by first | assumption | exact Below.drew (by assumption) | exact (Below.refl _ _).drew | exact Below.refl _ _)).mono ?_; rintro e w2 ⟨s2, hst2, rfl, hs2, hb2, hc2⟩; unfold sexV; have HST2 := Lib.hid hst2; have HS2 := Lib.hid hs2; have HS1_2 := Lib.hid (HS1.out.below (by first | exact hc2 | exact (Below.refl _ _).drew.trans hc2)); clear hst2 hs2 hc2) | (go_at_call 29; refine (HSym.out _ _ HFair.out.res (by first | assumption | exact Below.drew (by assumption) | exact (Below.refl _ _).drew | exact Below.refl _ _)).mono ?_; rintro e w3 ⟨s3, hst3, rfl, hs3, hb3, hc3⟩; unfold sexV; have HST3 := Lib.hid hst3; have HS3 := Lib.hid hs3; have HS1_3 := Lib.hid (HS1_2.out.below (by first | exact hc3 | exact (Below.refl _ _).drew.trans hc3)); have HS2_3 := Lib.hid (HS2.out.below (by first | exact hc3 | exact (Below.refl _ _).drew.trans hc3)); clear hst3 hs3 hc3) | (go_at_call 28; refine (HForm.out [symT x.c.name, rowT (x.c.args.map symT), symT x.c.res] _ 3 3 _ rfl (by simp) (by simp [maxLen]) (by simp) (lit3 HST1.out HST2.out HST3.out HI2.out hb3 HS1_3.out HS2_3.out HS3.out).2 (lit3 HST1.out HST2.out HST3.out HI2.out hb3 HS1_3.out HS2_3.out HS3.out).1).mono ?_; rintro e w9 ⟨s9, hst9, rfl, hs9, hb9, hc9⟩; unfold sexV; have HST9 := Lib.hid hst9; have HS9 := Lib.hid hs9; clear hst9 hs9 hc9; have hx9 := (hb9.block (w.heap.size + 1) (by omega)).trans HY0.out; obtain ⟨d0, d1, d2, fz9, hz9⟩ := cells3b hx9; clear hx9))
  go_wp2
  obtain ⟨h1, h2, h3⟩ := list_end hsz HB0.out HY0.out hb9 HS9.out
  refine bodyPost_ret (results_cell_row rfl _ _ (w.heap.size + 1) _ _ _ _ rfl (h1) Tryz.underlying35 rfl sexSize3) rfl ?_
  exact ⟨s9, HST9.out, rfl, h2, h3⟩
end Go.Proofs.YtodonngnigbpaaaGreatDoor
namespace Go.Proofs.YtodonngnigbpaaaGreatDoor
open Go.RowKit
set_option linter.unusedVariables false
set_option maxRecDepth 100000 in
set_option maxHeartbeats 8000000 in
theorem list_5 (x : CmdV) (w : World) (hG : GH w) (hr : CmdS w x) (hF : Fair x.c) (hk : x.c.kind = 5) :
    Calls Tryz.prog 18 #[.agg #[.int .i8 x.c.kind, .string (bytesL x.c.name), .int .i64 x.c.n, .slice x.la x.c.l.length x.lc, .slice x.aa x.c.args.length x.ac, .slice x.pa x.c.params.length x.pc, .string (bytesL x.c.res), .slice x.ta x.c.terms.length x.tc]] w (SxPost NoH w (rowT (symT (headsL.getD 5 []) :: partsT x.c))) := by
  obtain ⟨W0, hW0⟩ : ∃ W0, W0 = (w.alloc (.cells #[.int .i8 x.c.kind, .string (bytesL x.c.name), .int .i64 x.c.n, .slice x.la x.c.l.length x.lc, .slice x.aa x.c.args.length x.ac, .slice x.pa x.c.params.length x.pc, .string (bytesL x.c.res), .slice x.ta x.c.terms.length x.tc] 28)).alloc zSx := ⟨_, rfl⟩
  obtain ⟨hB0, hX0, hY0, hsz⟩ := boxed hW0
  have HI2 : Hid (In W0 (Own2 NoH w.heap.size)) := own2_in (fun b hb => hb.elim) (by omega)
  have HL : Hid (W0 = (w.alloc (.cells #[.int .i8 x.c.kind, .string (bytesL x.c.name), .int .i64 x.c.n, .slice x.la x.c.l.length x.lc, .slice x.aa x.c.args.length x.ac, .slice x.pa x.c.params.length x.pc, .string (bytesL x.c.res), .slice x.ta x.c.terms.length x.tc] 28)).alloc (.cells #[.int .i8 0, .string ⟨#[]⟩, .slice none 0 0] 35)) := hW0
  have HK8 : Hid (∀ W, Below W0.heap.size W0 W → W.cell? ⟨w.heap.size, 0, none⟩ = some (.int .i8 5) ∧ W.cell? ⟨w.heap.size, 1, none⟩ = some (.string (bytesL x.c.name)) ∧ W.cell? ⟨w.heap.size, 2, none⟩ = some (.int .i64 x.c.n) ∧ W.cell? ⟨w.heap.size, 3, none⟩ = some (.slice x.la x.c.l.length x.lc) ∧ W.cell? ⟨w.heap.size, 4, none⟩ = some (.slice x.aa x.c.args.length x.ac) ∧ W.cell? ⟨w.heap.size, 5, none⟩ = some (.slice x.pa x.c.params.length x.pc) ∧ W.cell? ⟨w.heap.size, 6, none⟩ = some (.string (bytesL x.c.res)) ∧ W.cell? ⟨w.heap.size, 7, none⟩ = some (.slice x.ta x.c.terms.length x.tc)) := fun W hW => by
    have hb : Box8 W w.heap.size x := (hW.block _ (by omega)).trans hX0
    have h := hb.cells
    rw [hk] at h
    exact h
  have HKS : Hid (∀ W0', Below W0.heap.size W0 W0' → ∀ v0 v1 v2 W, W = ((W0'.setCell ⟨w.heap.size + 1, 0, none⟩ v0).setCell ⟨w.heap.size + 1, 1, none⟩ v1).setCell ⟨w.heap.size + 1, 2, none⟩ v2 → W.cell? ⟨w.heap.size, 0, none⟩ = some (.int .i8 5) ∧ W.cell? ⟨w.heap.size, 1, none⟩ = some (.string (bytesL x.c.name)) ∧ W.cell? ⟨w.heap.size, 2, none⟩ = some (.int .i64 x.c.n) ∧ W.cell? ⟨w.heap.size, 3, none⟩ = some (.slice x.la x.c.l.length x.lc) ∧ W.cell? ⟨w.heap.size, 4, none⟩ = some (.slice x.aa x.c.args.length x.ac) ∧ W.cell? ⟨w.heap.size, 5, none⟩ = some (.slice x.pa x.c.params.length x.pc) ∧ W.cell? ⟨w.heap.size, 6, none⟩ = some (.string (bytesL x.c.res)) ∧ W.cell? ⟨w.heap.size, 7, none⟩ = some (.slice x.ta x.c.terms.length x.tc)) := fun W0' hW v0 v1 v2 W hWe => by
    subst hWe
    have hne : w.heap.size ≠ w.heap.size + 1 := by omega
    have hb : Box8 (((W0'.setCell ⟨w.heap.size + 1, 0, none⟩ v0).setCell ⟨w.heap.size + 1, 1, none⟩ v1).setCell ⟨w.heap.size + 1, 2, none⟩ v2) w.heap.size x := (((Below.heap_setCell _ _ _ _ hne).trans (Below.heap_setCell _ _ _ _ hne)).trans (Below.heap_setCell _ _ _ _ hne)).trans ((hW.block _ (by omega)).trans hX0)
    have h := hb.cells
    rw [hk] at h
    exact h
  have HFz : Hid (∀ W, Below W0.heap.size W0 W → ∀ i, W.frozen? ⟨w.heap.size, i, none⟩ = false ∧ W.frozen? ⟨w.heap.size + 1, i, none⟩ = false) := fun W hW i => by
    have h1 := (hW.block w.heap.size (by omega)).trans hX0
    have h2 := (hW.block (w.heap.size + 1) (by omega)).trans hY0
    exact ⟨by simp [World.frozen?, h1], by simp [World.frozen?, h2, zSx]⟩
  have HZ3 : Hid (∀ W, Below W0.heap.size W0 W → W.cell? ⟨w.heap.size + 1, 0, none⟩ = some (.int .i8 0) ∧ W.cell? ⟨w.heap.size + 1, 1, none⟩ = some (.string ⟨#[]⟩) ∧ W.cell? ⟨w.heap.size + 1, 2, none⟩ = some (.slice none 0 0)) := fun W hW => by
    have h2 : W.heap[w.heap.size + 1]? = some zSx := (hW.block (w.heap.size + 1) (by omega)).trans hY0
    exact ⟨cell_of_row _ _ 0 _ _ _ h2, cell_of_row _ _ 1 _ _ _ h2, cell_of_row _ _ 2 _ _ _ h2⟩
  have HSym : Hid (∀ (s : List UInt8) (W : World), s.length ≤ maxLen → Below W0.heap.size W0 W → Calls Tryz.prog 29 #[.string (bytesL s)] W (RPost (Own2 NoH w.heap.size) W0 W (symT s))) := fun s W hs hW => (symbol_any _ s W hs).mono fun e w' h => h.r hW
  have HNum : Hid (∀ (n : Int) (W : World), I64 n → Below W0.heap.size W0 W → Calls Tryz.prog 31 #[.int .i64 n] W (RPost (Own2 NoH w.heap.size) W0 W (numT n))) := fun n W hn hW => (numeral_c _ n W hn).mono fun e w' h => h.r hW
  have HRow : Hid (∀ (l : List Tree) (a : Option Addr) (c : Nat) (W : World), l.length ≤ c → c ≤ maxLen → SxLS (Own2 NoH w.heap.size) W l a → Below W0.heap.size W0 W → Calls Tryz.prog 35 #[.slice a l.length c] W (RPost (Own2 NoH w.heap.size) W0 W (rowT l))) := fun l a c W h1 h2 h3 hW => (row_any _ l a c W h1 h2 h3).mono fun e w' h => h.r hW
  have HForm : Hid (∀ (l : List Tree) (a : Option Addr) (c n : Nat) (W : World), n = l.length → l.length ≤ c → c ≤ maxLen → l.length ≤ 100 → SxLS (Own2 NoH w.heap.size) W l a → Below W0.heap.size W0 W → Calls Tryz.prog 28 #[.agg #[.int .i8 5, .string (bytesL x.c.name), .int .i64 x.c.n, .slice x.la x.c.l.length x.lc, .slice x.aa x.c.args.length x.ac, .slice x.pa x.c.params.length x.pc, .string (bytesL x.c.res), .slice x.ta x.c.terms.length x.tc], .slice a n c] W (RPost (Own2 NoH w.heap.size) W0 W (rowT (symT (headsL.getD 5 []) :: l)))) := fun l a c n W hn h1 h2 h3 h4 hW => by
    subst hn
    have hGW : GH W := (hG.below hB0).below hW
    have := form_any (Own2 NoH w.heap.size) x l a c 5 W hGW (fun b hb => Nat.lt_of_lt_of_le (HI2.out b hb) hW.size) hk (by omega) h1 h2 h3 h4
    rw [hk] at this
    exact this.mono fun e w' h => h.r hW
  have HArgs : Hid (∀ W, Below W0.heap.size W0 W → Calls Tryz.prog 32 #[.slice x.aa x.c.args.length x.ac, .func (.func 29) #[] #[]] W (RPost (Own2 NoH w.heap.size) W0 W (rowT (x.c.args.map symT)))) := fun W hW => by
    have hbw := hB0.trans (hW.mono (by omega))
    exact (rowOf_str _ x.c.args x.aa x.ac W (fun b hb => Nat.lt_of_lt_of_le (HI2.out b hb) hW.size) ((hr.aat.at.below hbw).more hbw.size) (by have := hF.a; omega) hF.ai).mono fun e w' h => h.r hW
  have HPars : Hid (∀ W, Below W0.heap.size W0 W → Calls Tryz.prog 33 #[.slice x.pa x.c.params.length x.pc, .func (.func 34) #[] #[]] W (RPost (Own2 NoH w.heap.size) W0 W (rowT (x.c.params.map pairT)))) := fun W hW => by
    have hbw := hB0.trans (hW.mono (by omega))
    exact (rowOf_par _ x.c.params x.pa x.pc W (fun b hb => Nat.lt_of_lt_of_le (HI2.out b hb) hW.size) ((hr.pat.at.below hbw).more hbw.size) (by have := hF.p; omega) hF.pi).mono fun e w' h => h.r hW
  have HSet : Hid (∀ W, Below W0.heap.size W0 W → Calls Tryz.prog 30 #[.agg #[.int .i8 5, .string (bytesL x.c.name), .int .i64 x.c.n, .slice x.la x.c.l.length x.lc, .slice x.aa x.c.args.length x.ac, .slice x.pa x.c.params.length x.pc, .string (bytesL x.c.res), .slice x.ta x.c.terms.length x.tc]] W (RPost (Own2 NoH w.heap.size) W0 W (setT x.c))) := fun W hW => by
    have hbw := hB0.trans (hW.mono (by omega))
    have := setting_any (Own2 NoH w.heap.size) x W (fun b hb => Nat.lt_of_lt_of_le (HI2.out b hb) hW.size) (hr.below hbw) hF.l hF.n hF.li
    rw [hk] at this
    exact this.mono fun e w' h => h.r hW
  have HTerms : Hid (∀ W, Below W0.heap.size W0 W → SxLS (Own2 NoH w.heap.size) W x.c.terms x.ta) := fun W hW => by
    have hbw := hB0.trans (hW.mono (by omega))
    have h0 : SxLS NoH w x.c.terms x.ta := RdL.mono (fun b _ hb => by rcases hb with hb | hb; exact hb.elim; exact hb) _ _ hr.tat
    exact h0.to hbw.size (fun b hlt _ => hbw.block b hlt) (fun b hb => by rcases hb with hb | hb | hb; exact .inl hb; exact .inr (by omega); exact .inr (by omega))
  have HT : Hid (x.c.terms.length ≤ x.tc ∧ x.tc ≤ maxLen ∧ x.c.terms.length ≤ 40) := ⟨hr.tl, hr.tm, hF.t⟩
  have HFair := Lib.hid hF
  have HB0 := Lib.hid hB0
  have HY0 := Lib.hid hY0
  have HR0 := HK8.out W0 (Below.refl _ _)
  have HP : Hid (partsT x.c = x.c.terms) := by show _ = _; unfold partsT; simp [hk]
  rw [HP.out]
  rw [hk] at HL ⊢
  clear hW0 hB0 hX0 hY0 hr hF hk hG HR0
  go_enter Tryz.func18, Tryz.ntmps18
  go_wp2_with fail
  rw [← HL.out]
  clear HL
  obtain ⟨c0, c1, c2, c3, c4, c5, c6, c7⟩ := HK8.out W0 (Below.refl _ _)
  have fz := fun i => (HFz.out W0 (Below.refl _ _) i).1
  obtain ⟨d0, d1, d2⟩ := HZ3.out W0 (Below.refl _ _)
  go_wp2_with (first | (go_at_call 28; refine (HForm.out x.c.terms x.ta x.tc _ _ rfl HT.out.1 HT.out.2.1 (by have := HT.out.2.2; omega) (HTerms.out _ (Below.refl _ _)) (Below.refl _ _)).mono ?_; rintro e w9 ⟨s9, hst9, rfl, hs9, hb9, hc9⟩; unfold sexV; have HST9 := Lib.hid hst9; have HS9 := Lib.hid hs9; clear hst9 hs9 hc9; have hx9 := (hb9.block (w.heap.size + 1) (by omega)).trans HY0.out; obtain ⟨d0, d1, d2, fz9, hz9⟩ := cells3b hx9; clear hx9))
  obtain ⟨h1, h2, h3⟩ := list_end hsz HB0.out HY0.out hb9 HS9.out
  refine bodyPost_ret (results_cell_row rfl _ _ (w.heap.size + 1) _ _ _ _ rfl (h1) Tryz.underlying35 rfl sexSize3) rfl ?_
  exact ⟨s9, HST9.out, rfl, h2, h3⟩
end Go.Proofs.YtodonngnigbpaaaGreatDoor
namespace Go.Proofs.YtodonngnigbpaaaGreatDoor
open Go.RowKit
set_option linter.unusedVariables false
set_option maxRecDepth 100000 in
set_option maxHeartbeats 8000000 in
theorem list_10 (x : CmdV) (w : World) (hG : GH w) (hr : CmdS w x) (hF : Fair x.c) (hk : x.c.kind = 10) :
    Calls Tryz.prog 18 #[.agg #[.int .i8 x.c.kind, .string (bytesL x.c.name), .int .i64 x.c.n, .slice x.la x.c.l.length x.lc, .slice x.aa x.c.args.length x.ac, .slice x.pa x.c.params.length x.pc, .string (bytesL x.c.res), .slice x.ta x.c.terms.length x.tc]] w (SxPost NoH w (rowT (symT (headsL.getD 10 []) :: partsT x.c))) := by
  obtain ⟨W0, hW0⟩ : ∃ W0, W0 = (w.alloc (.cells #[.int .i8 x.c.kind, .string (bytesL x.c.name), .int .i64 x.c.n, .slice x.la x.c.l.length x.lc, .slice x.aa x.c.args.length x.ac, .slice x.pa x.c.params.length x.pc, .string (bytesL x.c.res), .slice x.ta x.c.terms.length x.tc] 28)).alloc zSx := ⟨_, rfl⟩
  obtain ⟨hB0, hX0, hY0, hsz⟩ := boxed hW0
  have HI2 : Hid (In W0 (Own2 NoH w.heap.size)) := own2_in (fun b hb => hb.elim) (by omega)
  have HL : Hid (W0 = (w.alloc (.cells #[.int .i8 x.c.kind, .string (bytesL x.c.name), .int .i64 x.c.n, .slice x.la x.c.l.length x.lc, .slice x.aa x.c.args.length x.ac, .slice x.pa x.c.params.length x.pc, .string (bytesL x.c.res), .slice x.ta x.c.terms.length x.tc] 28)).alloc (.cells #[.int .i8 0, .string ⟨#[]⟩, .slice none 0 0] 35)) := hW0
  have HK8 : Hid (∀ W, Below W0.heap.size W0 W → W.cell? ⟨w.heap.size, 0, none⟩ = some (.int .i8 10) ∧ W.cell? ⟨w.heap.size, 1, none⟩ = some (.string (bytesL x.c.name)) ∧ W.cell? ⟨w.heap.size, 2, none⟩ = some (.int .i64 x.c.n) ∧ W.cell? ⟨w.heap.size, 3, none⟩ = some (.slice x.la x.c.l.length x.lc) ∧ W.cell? ⟨w.heap.size, 4, none⟩ = some (.slice x.aa x.c.args.length x.ac) ∧ W.cell? ⟨w.heap.size, 5, none⟩ = some (.slice x.pa x.c.params.length x.pc) ∧ W.cell? ⟨w.heap.size, 6, none⟩ = some (.string (bytesL x.c.res)) ∧ W.cell? ⟨w.heap.size, 7, none⟩ = some (.slice x.ta x.c.terms.length x.tc)) := fun W hW => by
    have hb : Box8 W w.heap.size x := (hW.block _ (by omega)).trans hX0
    have h := hb.cells
    rw [hk] at h
    exact h
  have HKS : Hid (∀ W0', Below W0.heap.size W0 W0' → ∀ v0 v1 v2 W, W = ((W0'.setCell ⟨w.heap.size + 1, 0, none⟩ v0).setCell ⟨w.heap.size + 1, 1, none⟩ v1).setCell ⟨w.heap.size + 1, 2, none⟩ v2 → W.cell? ⟨w.heap.size, 0, none⟩ = some (.int .i8 10) ∧ W.cell? ⟨w.heap.size, 1, none⟩ = some (.string (bytesL x.c.name)) ∧ W.cell? ⟨w.heap.size, 2, none⟩ = some (.int .i64 x.c.n) ∧ W.cell? ⟨w.heap.size, 3, none⟩ = some (.slice x.la x.c.l.length x.lc) ∧ W.cell? ⟨w.heap.size, 4, none⟩ = some (.slice x.aa x.c.args.length x.ac) ∧ W.cell? ⟨w.heap.size, 5, none⟩ = some (.slice x.pa x.c.params.length x.pc) ∧ W.cell? ⟨w.heap.size, 6, none⟩ = some (.string (bytesL x.c.res)) ∧ W.cell? ⟨w.heap.size, 7, none⟩ = some (.slice x.ta x.c.terms.length x.tc)) := fun W0' hW v0 v1 v2 W hWe => by
    subst hWe
    have hne : w.heap.size ≠ w.heap.size + 1 := by omega
    have hb : Box8 (((W0'.setCell ⟨w.heap.size + 1, 0, none⟩ v0).setCell ⟨w.heap.size + 1, 1, none⟩ v1).setCell ⟨w.heap.size + 1, 2, none⟩ v2) w.heap.size x := (((Below.heap_setCell _ _ _ _ hne).trans (Below.heap_setCell _ _ _ _ hne)).trans (Below.heap_setCell _ _ _ _ hne)).trans ((hW.block _ (by omega)).trans hX0)
    have h := hb.cells
    rw [hk] at h
    exact h
  have HFz : Hid (∀ W, Below W0.heap.size W0 W → ∀ i, W.frozen? ⟨w.heap.size, i, none⟩ = false ∧ W.frozen? ⟨w.heap.size + 1, i, none⟩ = false) := fun W hW i => by
    have h1 := (hW.block w.heap.size (by omega)).trans hX0
    have h2 := (hW.block (w.heap.size + 1) (by omega)).trans hY0
    exact ⟨by simp [World.frozen?, h1], by simp [World.frozen?, h2, zSx]⟩
  have HZ3 : Hid (∀ W, Below W0.heap.size W0 W → W.cell? ⟨w.heap.size + 1, 0, none⟩ = some (.int .i8 0) ∧ W.cell? ⟨w.heap.size + 1, 1, none⟩ = some (.string ⟨#[]⟩) ∧ W.cell? ⟨w.heap.size + 1, 2, none⟩ = some (.slice none 0 0)) := fun W hW => by
    have h2 : W.heap[w.heap.size + 1]? = some zSx := (hW.block (w.heap.size + 1) (by omega)).trans hY0
    exact ⟨cell_of_row _ _ 0 _ _ _ h2, cell_of_row _ _ 1 _ _ _ h2, cell_of_row _ _ 2 _ _ _ h2⟩
  have HSym : Hid (∀ (s : List UInt8) (W : World), s.length ≤ maxLen → Below W0.heap.size W0 W → Calls Tryz.prog 29 #[.string (bytesL s)] W (RPost (Own2 NoH w.heap.size) W0 W (symT s))) := fun s W hs hW => (symbol_any _ s W hs).mono fun e w' h => h.r hW
  have HNum : Hid (∀ (n : Int) (W : World), I64 n → Below W0.heap.size W0 W → Calls Tryz.prog 31 #[.int .i64 n] W (RPost (Own2 NoH w.heap.size) W0 W (numT n))) := fun n W hn hW => (numeral_c _ n W hn).mono fun e w' h => h.r hW
  have HRow : Hid (∀ (l : List Tree) (a : Option Addr) (c : Nat) (W : World), l.length ≤ c → c ≤ maxLen → SxLS (Own2 NoH w.heap.size) W l a → Below W0.heap.size W0 W → Calls Tryz.prog 35 #[.slice a l.length c] W (RPost (Own2 NoH w.heap.size) W0 W (rowT l))) := fun l a c W h1 h2 h3 hW => (row_any _ l a c W h1 h2 h3).mono fun e w' h => h.r hW
  have HForm : Hid (∀ (l : List Tree) (a : Option Addr) (c n : Nat) (W : World), n = l.length → l.length ≤ c → c ≤ maxLen → l.length ≤ 100 → SxLS (Own2 NoH w.heap.size) W l a → Below W0.heap.size W0 W → Calls Tryz.prog 28 #[.agg #[.int .i8 10, .string (bytesL x.c.name), .int .i64 x.c.n, .slice x.la x.c.l.length x.lc, .slice x.aa x.c.args.length x.ac, .slice x.pa x.c.params.length x.pc, .string (bytesL x.c.res), .slice x.ta x.c.terms.length x.tc], .slice a n c] W (RPost (Own2 NoH w.heap.size) W0 W (rowT (symT (headsL.getD 10 []) :: l)))) := fun l a c n W hn h1 h2 h3 h4 hW => by
    subst hn
    have hGW : GH W := (hG.below hB0).below hW
    have := form_any (Own2 NoH w.heap.size) x l a c 10 W hGW (fun b hb => Nat.lt_of_lt_of_le (HI2.out b hb) hW.size) hk (by omega) h1 h2 h3 h4
    rw [hk] at this
    exact this.mono fun e w' h => h.r hW
  have HArgs : Hid (∀ W, Below W0.heap.size W0 W → Calls Tryz.prog 32 #[.slice x.aa x.c.args.length x.ac, .func (.func 29) #[] #[]] W (RPost (Own2 NoH w.heap.size) W0 W (rowT (x.c.args.map symT)))) := fun W hW => by
    have hbw := hB0.trans (hW.mono (by omega))
    exact (rowOf_str _ x.c.args x.aa x.ac W (fun b hb => Nat.lt_of_lt_of_le (HI2.out b hb) hW.size) ((hr.aat.at.below hbw).more hbw.size) (by have := hF.a; omega) hF.ai).mono fun e w' h => h.r hW
  have HPars : Hid (∀ W, Below W0.heap.size W0 W → Calls Tryz.prog 33 #[.slice x.pa x.c.params.length x.pc, .func (.func 34) #[] #[]] W (RPost (Own2 NoH w.heap.size) W0 W (rowT (x.c.params.map pairT)))) := fun W hW => by
    have hbw := hB0.trans (hW.mono (by omega))
    exact (rowOf_par _ x.c.params x.pa x.pc W (fun b hb => Nat.lt_of_lt_of_le (HI2.out b hb) hW.size) ((hr.pat.at.below hbw).more hbw.size) (by have := hF.p; omega) hF.pi).mono fun e w' h => h.r hW
  have HSet : Hid (∀ W, Below W0.heap.size W0 W → Calls Tryz.prog 30 #[.agg #[.int .i8 10, .string (bytesL x.c.name), .int .i64 x.c.n, .slice x.la x.c.l.length x.lc, .slice x.aa x.c.args.length x.ac, .slice x.pa x.c.params.length x.pc, .string (bytesL x.c.res), .slice x.ta x.c.terms.length x.tc]] W (RPost (Own2 NoH w.heap.size) W0 W (setT x.c))) := fun W hW => by
    have hbw := hB0.trans (hW.mono (by omega))
    have := setting_any (Own2 NoH w.heap.size) x W (fun b hb => Nat.lt_of_lt_of_le (HI2.out b hb) hW.size) (hr.below hbw) hF.l hF.n hF.li
    rw [hk] at this
    exact this.mono fun e w' h => h.r hW
  have HTerms : Hid (∀ W, Below W0.heap.size W0 W → SxLS (Own2 NoH w.heap.size) W x.c.terms x.ta) := fun W hW => by
    have hbw := hB0.trans (hW.mono (by omega))
    have h0 : SxLS NoH w x.c.terms x.ta := RdL.mono (fun b _ hb => by rcases hb with hb | hb; exact hb.elim; exact hb) _ _ hr.tat
    exact h0.to hbw.size (fun b hlt _ => hbw.block b hlt) (fun b hb => by rcases hb with hb | hb | hb; exact .inl hb; exact .inr (by omega); exact .inr (by omega))
  have HT : Hid (x.c.terms.length ≤ x.tc ∧ x.tc ≤ maxLen ∧ x.c.terms.length ≤ 40) := ⟨hr.tl, hr.tm, hF.t⟩
  have HFair := Lib.hid hF
  have HB0 := Lib.hid hB0
  have HY0 := Lib.hid hY0
  have HR0 := HK8.out W0 (Below.refl _ _)
  have HP : Hid (partsT x.c = [rowT x.c.terms]) := by show _ = _; unfold partsT; simp [hk]
  rw [HP.out]
  rw [hk] at HL ⊢
  clear hW0 hB0 hX0 hY0 hr hF hk hG HR0
  go_enter Tryz.func18, Tryz.ntmps18
  go_wp2_with fail
  rw [← HL.out]
  clear HL
  obtain ⟨c0, c1, c2, c3, c4, c5, c6, c7⟩ := HK8.out W0 (Below.refl _ _)
  have fz := fun i => (HFz.out W0 (Below.refl _ _) i).1
  go_region_held3 (fun W => W.cell? ⟨w.heap.size, 0, none⟩ = some (.int .i8 10) ∧ W.cell? ⟨w.heap.size, 1, none⟩ = some (.string (bytesL x.c.name)) ∧ W.cell? ⟨w.heap.size, 2, none⟩ = some (.int .i64 x.c.n) ∧ W.cell? ⟨w.heap.size, 3, none⟩ = some (.slice x.la x.c.l.length x.lc) ∧ W.cell? ⟨w.heap.size, 4, none⟩ = some (.slice x.aa x.c.args.length x.ac) ∧ W.cell? ⟨w.heap.size, 5, none⟩ = some (.slice x.pa x.c.params.length x.pc) ∧ W.cell? ⟨w.heap.size, 6, none⟩ = some (.string (bytesL x.c.res)) ∧ W.cell? ⟨w.heap.size, 7, none⟩ = some (.slice x.ta x.c.terms.length x.tc))
    (first | exact HK8.out _ (by assumption) | exact HK8.out _ (Below.refl _ _) | exact HK8.out _ (Below.refl _ _).drew | exact HK8.out _ (ball (by assumption) _) | exact HKS.out _ (by assumption) _ _ _ _ rfl)
    (first | (go_at_call 35; refine (HRow.out x.c.terms x.ta x.tc _ HT.out.1 HT.out.2.1 (HTerms.out _ (by first | assumption | exact Below.drew (by assumption) | exact (Below.refl _ _).drew | exact Below.refl _ _)) (by first | assumption | exact Below.drew (by assumption) | exact (Below.refl _ _).drew | exact Below.refl _ _)).mono ?_; rintro e w1 ⟨s1, hst1, rfl, hs1, hb1, hc1⟩; unfold sexV; have HST1 := Lib.hid hst1; have HS1 := Lib.hid hs1; clear hst1 hs1 hc1) | (go_at_call 28; refine (HForm.out [rowT x.c.terms] _ 1 1 _ rfl (by simp) (by simp [maxLen]) (by simp) (lit1 HST1.out HI2.out hb1 HS1.out).2 (lit1 HST1.out HI2.out hb1 HS1.out).1).mono ?_; rintro e w9 ⟨s9, hst9, rfl, hs9, hb9, hc9⟩; unfold sexV; have HST9 := Lib.hid hst9; have HS9 := Lib.hid hs9; clear hst9 hs9 hc9; have hx9 := (hb9.block (w.heap.size + 1) (by omega)).trans HY0.out; obtain ⟨d0, d1, d2, fz9, hz9⟩ := cells3b hx9; clear hx9))
  go_wp2
  obtain ⟨h1, h2, h3⟩ := list_end hsz HB0.out HY0.out hb9 HS9.out
  refine bodyPost_ret (results_cell_row rfl _ _ (w.heap.size + 1) _ _ _ _ rfl (h1) Tryz.underlying35 rfl sexSize3) rfl ?_
  exact ⟨s9, HST9.out, rfl, h2, h3⟩
end Go.Proofs.YtodonngnigbpaaaGreatDoor
