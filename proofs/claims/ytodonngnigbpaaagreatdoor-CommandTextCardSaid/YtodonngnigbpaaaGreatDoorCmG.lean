/- Package command's list. -/
import Derived.Test.YtodonngnigbpaaaGreatDoorCmF
import Derived.Deep.RegionHeldLaw
namespace Go.Proofs.YtodonngnigbpaaaGreatDoor
open Go.RowKit
set_option linter.unusedVariables false
/-- What is asked of a command that is not too great. -/
structure Fair (c : CmdA) : Prop where
  name : c.name.length ≤ maxLen
  res : c.res.length ≤ maxLen
  n : I64 c.n
  l : c.l.length ≤ 200
  li : ∀ n ∈ c.l, I64 n
  a : c.args.length ≤ 40
  ai : ∀ s ∈ c.args, s.length ≤ maxLen
  p : c.params.length ≤ 40
  pi : ∀ s ∈ c.params, s.1.length ≤ maxLen ∧ s.2.length ≤ maxLen
  t : c.terms.length ≤ 40
def NoH : Nat → Prop := fun _ => False
/-- A call's answer, of the world ahead. -/
def RPost (H : Nat → Prop) (W0 W : World) (t : Tree) (e : Ending) (w' : World) : Prop := ∃ s : SexV, s.t = t ∧ e = .returned (sexV s) ∧ SxS H w' t (sexV s) ∧ Below W0.heap.size W0 w' ∧ Below W.heap.size W w'
theorem SxPost.r {H : Nat → Prop} {W0 W : World} {t : Tree} {e : Ending} {w' : World} (hW : Below W0.heap.size W0 W) (h : SxPost H W t e w') : RPost H W0 W t e w' := by
  obtain ⟨s, h1, h2, h3, h4⟩ := h
  exact ⟨s, h1, h2, h3, hW.trans (h4.mono hW.size), h4⟩
theorem list_end {w W0 w5 : World} {s5 : SexV} {t : Tree} (hsz : W0.heap.size = w.heap.size + 2) (hB0 : Below w.heap.size w W0) (hY0 : W0.heap[w.heap.size + 1]? = some zSx) (hb5 : Below W0.heap.size W0 w5) (hs5 : SxS (Own2 NoH w.heap.size) w5 t (sexV s5)) :
    (((w5.setCell ⟨w.heap.size + 1, 0, none⟩ (.int .i8 s5.t.kind)).setCell ⟨w.heap.size + 1, 1, none⟩ (.string (bytesL s5.t.text))).setCell ⟨w.heap.size + 1, 2, none⟩ (.slice s5.a s5.t.kids.length s5.c)).heap[w.heap.size + 1]? = some (.cells #[.int .i8 s5.t.kind, .string (bytesL s5.t.text), .slice s5.a s5.t.kids.length s5.c] 35 (0, 0)) ∧
    SxS NoH (((w5.setCell ⟨w.heap.size + 1, 0, none⟩ (.int .i8 s5.t.kind)).setCell ⟨w.heap.size + 1, 1, none⟩ (.string (bytesL s5.t.text))).setCell ⟨w.heap.size + 1, 2, none⟩ (.slice s5.a s5.t.kids.length s5.c)) t (sexV s5) ∧
    Below w.heap.size w (((w5.setCell ⟨w.heap.size + 1, 0, none⟩ (.int .i8 s5.t.kind)).setCell ⟨w.heap.size + 1, 1, none⟩ (.string (bytesL s5.t.text))).setCell ⟨w.heap.size + 1, 2, none⟩ (.slice s5.a s5.t.kids.length s5.c)) :=
  sx_store (H := NoH) (H' := Own2 NoH w.heap.size) (hB0.trans (hb5.mono (by omega))) ((hb5.block _ (by omega)).trans hY0) (Nat.le_succ _) hs5 (.inr (.inr rfl)) (fun b hb => .inl hb)
theorem step_run {P : Program} {ops : Array Oper} {o : Oper} {a : Act} {K : Act → World → Prop} {Q : Exit → Act → World → Prop} {E : Prop} (w : World) (hgd : o.guard = none) (s x : Operand) (t : TypeId)
    (ho : o.op = .call { callee := .builtin .append, args := #[s, x], argTypes := #[t, t] }) (v1 v2 : Value) (hs : a.eval s = v1) (hx : a.eval x = v2) (ty : TypeId) (hty : o.type = ty) {v : Value} {w' : World} (hr : (Builtin.append_ #[t, t] ty #[v1, v2]).run P w = .ok v w') (h : K (a.put o.dst v) w') :
    if Region.wanted o (yielded ops a.tmps) = true then Oper.wp P o a w K Q else E := by
  subst hty
  have hw : Region.wanted o (yielded ops a.tmps) = true := by simp [Region.wanted, hgd]
  rw [if_pos hw]
  unfold Oper.wp execOp
  simp only [ho, resolve, invoke, builtin, Sem.run_bind, Sem.run_pure, Result.andThen_ok, List.map_toArray, List.map_cons, List.map_nil, hs, hx, hr]
  exact h
theorem ball {W0 W : World} (h : Below W0.heap.size W0 W) (o : Obj) : Below W0.heap.size W0 (W.alloc o) := h.alloc h.size o
theorem lit1 {H : Nat → Prop} {W0 W : World} {s : SexV} {t : Tree} (hst : s.t = t) (hI : In W0 H) (hW : Below W0.heap.size W0 W) (hs : SxS H W t (sexV s)) : Below W0.heap.size W0 (W.alloc (.cells (sexC s).toArray 35)) ∧ SxLS H (W.alloc (.cells (sexC s).toArray 35)) [t] (some ⟨W.heap.size, 0, none⟩) := by
  refine ⟨hW.alloc hW.size _, ?_⟩
  have := lit_rdl (H := H) (xs := [s]) (heap_alloc_new W (.cells (sexC s).toArray 35)) (by simp) (fun h => by have := hI _ h; have := hW.size; omega) (fun s' hs' => by
    simp only [List.mem_singleton] at hs'
    subst hs'
    rw [hst]
    exact hs.below ((Below.refl _ _).alloc (Nat.le_refl _) _))
  simpa [hst] using this
theorem lit2 {H : Nat → Prop} {W0 W : World} {s0 s1 : SexV} {t0 t1 : Tree} (h0 : s0.t = t0) (h1 : s1.t = t1) (hI : In W0 H) (hW : Below W0.heap.size W0 W) (hs0 : SxS H W t0 (sexV s0)) (hs1 : SxS H W t1 (sexV s1)) :
    Below W0.heap.size W0 (W.alloc (.cells (sexC s0 ++ sexC s1).toArray 35)) ∧ SxLS H (W.alloc (.cells (sexC s0 ++ sexC s1).toArray 35)) [t0, t1] (some ⟨W.heap.size, 0, none⟩) := by
  refine ⟨hW.alloc hW.size _, ?_⟩
  have := lit_rdl (H := H) (xs := [s0, s1]) (heap_alloc_new W (.cells (sexC s0 ++ sexC s1).toArray 35)) (by simp) (fun h => by have := hI _ h; have := hW.size; omega) (fun s' hs' => by
    simp only [List.mem_cons, List.not_mem_nil, or_false] at hs'
    rcases hs' with rfl | rfl
    · rw [h0]; exact hs0.below ((Below.refl _ _).alloc (Nat.le_refl _) _)
    · rw [h1]; exact hs1.below ((Below.refl _ _).alloc (Nat.le_refl _) _))
  simpa [h0, h1] using this
theorem lit3 {H : Nat → Prop} {W0 W : World} {s0 s1 s2 : SexV} {t0 t1 t2 : Tree} (h0 : s0.t = t0) (h1 : s1.t = t1) (h2 : s2.t = t2) (hI : In W0 H) (hW : Below W0.heap.size W0 W) (hs0 : SxS H W t0 (sexV s0)) (hs1 : SxS H W t1 (sexV s1)) (hs2 : SxS H W t2 (sexV s2)) :
    Below W0.heap.size W0 (W.alloc (.cells (sexC s0 ++ sexC s1 ++ sexC s2).toArray 35)) ∧ SxLS H (W.alloc (.cells (sexC s0 ++ sexC s1 ++ sexC s2).toArray 35)) [t0, t1, t2] (some ⟨W.heap.size, 0, none⟩) := by
  refine ⟨hW.alloc hW.size _, ?_⟩
  have := lit_rdl (H := H) (xs := [s0, s1, s2]) (heap_alloc_new W (.cells (sexC s0 ++ sexC s1 ++ sexC s2).toArray 35)) (by simp) (fun h => by have := hI _ h; have := hW.size; omega) (fun s' hs' => by
    simp only [List.mem_cons, List.not_mem_nil, or_false] at hs'
    rcases hs' with rfl | rfl | rfl
    · rw [h0]; exact hs0.below ((Below.refl _ _).alloc (Nat.le_refl _) _)
    · rw [h1]; exact hs1.below ((Below.refl _ _).alloc (Nat.le_refl _) _)
    · rw [h2]; exact hs2.below ((Below.refl _ _).alloc (Nat.le_refl _) _))
  simpa [h0, h1, h2] using this
set_option maxRecDepth 100000 in
set_option maxHeartbeats 8000000 in
theorem list_0 (x : CmdV) (w : World) (hG : GH w) (hr : CmdS w x) (hF : Fair x.c) (hk : x.c.kind = 0) :
    Calls Tryz.prog 18 #[.agg #[.int .i8 x.c.kind, .string (bytesL x.c.name), .int .i64 x.c.n, .slice x.la x.c.l.length x.lc, .slice x.aa x.c.args.length x.ac, .slice x.pa x.c.params.length x.pc, .string (bytesL x.c.res), .slice x.ta x.c.terms.length x.tc]] w (SxPost NoH w (rowT (symT (headsL.getD 0 []) :: partsT x.c))) := by
  obtain ⟨W0, hW0⟩ : ∃ W0, W0 = (w.alloc (.cells #[.int .i8 x.c.kind, .string (bytesL x.c.name), .int .i64 x.c.n, .slice x.la x.c.l.length x.lc, .slice x.aa x.c.args.length x.ac, .slice x.pa x.c.params.length x.pc, .string (bytesL x.c.res), .slice x.ta x.c.terms.length x.tc] 28)).alloc zSx := ⟨_, rfl⟩
  obtain ⟨hB0, hX0, hY0, hsz⟩ := boxed hW0
  have HI2 : Hid (In W0 (Own2 NoH w.heap.size)) := own2_in (fun b hb => hb.elim) (by omega)
  have HL : Hid (W0 = (w.alloc (.cells #[.int .i8 x.c.kind, .string (bytesL x.c.name), .int .i64 x.c.n, .slice x.la x.c.l.length x.lc, .slice x.aa x.c.args.length x.ac, .slice x.pa x.c.params.length x.pc, .string (bytesL x.c.res), .slice x.ta x.c.terms.length x.tc] 28)).alloc (.cells #[.int .i8 0, .string ⟨#[]⟩, .slice none 0 0] 35)) := hW0
  have HK8 : Hid (∀ W, Below W0.heap.size W0 W → W.cell? ⟨w.heap.size, 0, none⟩ = some (.int .i8 0) ∧ W.cell? ⟨w.heap.size, 1, none⟩ = some (.string (bytesL x.c.name)) ∧ W.cell? ⟨w.heap.size, 2, none⟩ = some (.int .i64 x.c.n) ∧ W.cell? ⟨w.heap.size, 3, none⟩ = some (.slice x.la x.c.l.length x.lc) ∧ W.cell? ⟨w.heap.size, 4, none⟩ = some (.slice x.aa x.c.args.length x.ac) ∧ W.cell? ⟨w.heap.size, 5, none⟩ = some (.slice x.pa x.c.params.length x.pc) ∧ W.cell? ⟨w.heap.size, 6, none⟩ = some (.string (bytesL x.c.res)) ∧ W.cell? ⟨w.heap.size, 7, none⟩ = some (.slice x.ta x.c.terms.length x.tc)) := fun W hW => by
    have hb : Box8 W w.heap.size x := (hW.block _ (by omega)).trans hX0
    have h := hb.cells
    rw [hk] at h
    exact h
  have HKS : Hid (∀ W0', Below W0.heap.size W0 W0' → ∀ v0 v1 v2 W, W = ((W0'.setCell ⟨w.heap.size + 1, 0, none⟩ v0).setCell ⟨w.heap.size + 1, 1, none⟩ v1).setCell ⟨w.heap.size + 1, 2, none⟩ v2 → W.cell? ⟨w.heap.size, 0, none⟩ = some (.int .i8 0) ∧ W.cell? ⟨w.heap.size, 1, none⟩ = some (.string (bytesL x.c.name)) ∧ W.cell? ⟨w.heap.size, 2, none⟩ = some (.int .i64 x.c.n) ∧ W.cell? ⟨w.heap.size, 3, none⟩ = some (.slice x.la x.c.l.length x.lc) ∧ W.cell? ⟨w.heap.size, 4, none⟩ = some (.slice x.aa x.c.args.length x.ac) ∧ W.cell? ⟨w.heap.size, 5, none⟩ = some (.slice x.pa x.c.params.length x.pc) ∧ W.cell? ⟨w.heap.size, 6, none⟩ = some (.string (bytesL x.c.res)) ∧ W.cell? ⟨w.heap.size, 7, none⟩ = some (.slice x.ta x.c.terms.length x.tc)) := fun W0' hW v0 v1 v2 W hWe => by
    subst hWe
    have hne : w.heap.size ≠ w.heap.size + 1 := by omega
    have hb : Box8 (((W0'.setCell ⟨w.heap.size + 1, 0, none⟩ v0).setCell ⟨w.heap.size + 1, 1, none⟩ v1).setCell ⟨w.heap.size + 1, 2, none⟩ v2) w.heap.size x := (((Below.heap_setCell _ _ _ _ hne).trans (Below.heap_setCell _ _ _ _ hne)).trans (Below.heap_setCell _ _ _ _ hne)).trans ((hW.block _ (by omega)).trans hX0)
    have h := hb.cells
    rw [hk] at h
    exact h
  have HFz : Hid (∀ W, Below W0.heap.size W0 W → ∀ i, W.frozen? ⟨w.heap.size, i, none⟩ = false ∧ W.frozen? ⟨w.heap.size + 1, i, none⟩ = false) := fun W hW i => by
    have h1 := (hW.block w.heap.size (by omega)).trans hX0
    have h2 := (hW.block (w.heap.size + 1) (by omega)).trans hY0
    exact ⟨by simp [World.frozen?, h1], by simp [World.frozen?, h2, zSx]⟩
  have HZ3 : Hid (∀ W, Below W0.heap.size W0 W → W.cell? ⟨w.heap.size + 1, 0, none⟩ = some (.int .i8 0) ∧ W.cell? ⟨w.heap.size + 1, 1, none⟩ = some (.string ⟨#[]⟩) ∧ W.cell? ⟨w.heap.size + 1, 2, none⟩ = some (.slice none 0 0)) := fun W hW => by
    have h2 : W.heap[w.heap.size + 1]? = some zSx := (hW.block (w.heap.size + 1) (by omega)).trans hY0
    exact ⟨cell_of_row _ _ 0 _ _ _ h2, cell_of_row _ _ 1 _ _ _ h2, cell_of_row _ _ 2 _ _ _ h2⟩
  have HSym : Hid (∀ (s : List UInt8) (W : World), s.length ≤ maxLen → Below W0.heap.size W0 W → Calls Tryz.prog 29 #[.string (bytesL s)] W (RPost (Own2 NoH w.heap.size) W0 W (symT s))) := fun s W hs hW => (symbol_any _ s W hs).mono fun e w' h => h.r hW
  have HNum : Hid (∀ (n : Int) (W : World), I64 n → Below W0.heap.size W0 W → Calls Tryz.prog 31 #[.int .i64 n] W (RPost (Own2 NoH w.heap.size) W0 W (numT n))) := fun n W hn hW => (numeral_c _ n W hn).mono fun e w' h => h.r hW
  have HRow : Hid (∀ (l : List Tree) (a : Option Addr) (c : Nat) (W : World), l.length ≤ c → c ≤ maxLen → SxLS (Own2 NoH w.heap.size) W l a → Below W0.heap.size W0 W → Calls Tryz.prog 35 #[.slice a l.length c] W (RPost (Own2 NoH w.heap.size) W0 W (rowT l))) := fun l a c W h1 h2 h3 hW => (row_any _ l a c W h1 h2 h3).mono fun e w' h => h.r hW
  have HForm : Hid (∀ (l : List Tree) (a : Option Addr) (c n : Nat) (W : World), n = l.length → l.length ≤ c → c ≤ maxLen → l.length ≤ 100 → SxLS (Own2 NoH w.heap.size) W l a → Below W0.heap.size W0 W → Calls Tryz.prog 28 #[.agg #[.int .i8 0, .string (bytesL x.c.name), .int .i64 x.c.n, .slice x.la x.c.l.length x.lc, .slice x.aa x.c.args.length x.ac, .slice x.pa x.c.params.length x.pc, .string (bytesL x.c.res), .slice x.ta x.c.terms.length x.tc], .slice a n c] W (RPost (Own2 NoH w.heap.size) W0 W (rowT (symT (headsL.getD 0 []) :: l)))) := fun l a c n W hn h1 h2 h3 h4 hW => by
    subst hn
    have hGW : GH W := (hG.below hB0).below hW
    have := form_any (Own2 NoH w.heap.size) x l a c 0 W hGW (fun b hb => Nat.lt_of_lt_of_le (HI2.out b hb) hW.size) hk (by omega) h1 h2 h3 h4
    rw [hk] at this
    exact this.mono fun e w' h => h.r hW
  have HArgs : Hid (∀ W, Below W0.heap.size W0 W → Calls Tryz.prog 32 #[.slice x.aa x.c.args.length x.ac, .func (.func 29) #[] #[]] W (RPost (Own2 NoH w.heap.size) W0 W (rowT (x.c.args.map symT)))) := fun W hW => by
    have hbw := hB0.trans (hW.mono (by omega))
    exact (rowOf_str _ x.c.args x.aa x.ac W (fun b hb => Nat.lt_of_lt_of_le (HI2.out b hb) hW.size) ((hr.aat.at.below hbw).more hbw.size) (by have := hF.a; omega) hF.ai).mono fun e w' h => h.r hW
  have HPars : Hid (∀ W, Below W0.heap.size W0 W → Calls Tryz.prog 33 #[.slice x.pa x.c.params.length x.pc, .func (.func 34) #[] #[]] W (RPost (Own2 NoH w.heap.size) W0 W (rowT (x.c.params.map pairT)))) := fun W hW => by
    have hbw := hB0.trans (hW.mono (by omega))
    exact (rowOf_par _ x.c.params x.pa x.pc W (fun b hb => Nat.lt_of_lt_of_le (HI2.out b hb) hW.size) ((hr.pat.at.below hbw).more hbw.size) (by have := hF.p; omega) hF.pi).mono fun e w' h => h.r hW
  have HSet : Hid (∀ W, Below W0.heap.size W0 W → Calls Tryz.prog 30 #[.agg #[.int .i8 0, .string (bytesL x.c.name), .int .i64 x.c.n, .slice x.la x.c.l.length x.lc, .slice x.aa x.c.args.length x.ac, .slice x.pa x.c.params.length x.pc, .string (bytesL x.c.res), .slice x.ta x.c.terms.length x.tc]] W (RPost (Own2 NoH w.heap.size) W0 W (setT x.c))) := fun W hW => by
    have hbw := hB0.trans (hW.mono (by omega))
    have := setting_any (Own2 NoH w.heap.size) x W (fun b hb => Nat.lt_of_lt_of_le (HI2.out b hb) hW.size) (hr.below hbw) hF.l hF.n hF.li
    rw [hk] at this
    exact this.mono fun e w' h => h.r hW
  have HTerms : Hid (∀ W, Below W0.heap.size W0 W → SxLS (Own2 NoH w.heap.size) W x.c.terms x.ta) := fun W hW => by
    have hbw := hB0.trans (hW.mono (by omega))
    have h0 : SxLS NoH w x.c.terms x.ta := RdL.mono (fun b _ hb => by rcases hb with hb | hb; exact hb.elim; exact hb) _ _ hr.tat
    exact h0.to hbw.size (fun b hlt _ => hbw.block b hlt) (fun b hb => by rcases hb with hb | hb | hb; exact .inl hb; exact .inr (by omega); exact .inr (by omega))
  have HT : Hid (x.c.terms.length ≤ x.tc ∧ x.tc ≤ maxLen ∧ x.c.terms.length ≤ 40) := ⟨hr.tl, hr.tm, hF.t⟩
  have HFair := Lib.hid hF
  have HB0 := Lib.hid hB0
  have HY0 := Lib.hid hY0
  have HR0 := HK8.out W0 (Below.refl _ _)
  have HP : Hid (partsT x.c = [symT x.c.name]) := by show _ = _; unfold partsT; simp [hk]
  rw [HP.out]
  rw [hk] at HL ⊢
  clear hW0 hB0 hX0 hY0 hr hF hk hG HR0
  go_enter Tryz.func18, Tryz.ntmps18
  go_wp2_with fail
  rw [← HL.out]
  clear HL
  obtain ⟨c0, c1, c2, c3, c4, c5, c6, c7⟩ := HK8.out W0 (Below.refl _ _)
  have fz := fun i => (HFz.out W0 (Below.refl _ _) i).1
  go_region_held3 (fun W => W.cell? ⟨w.heap.size, 0, none⟩ = some (.int .i8 0) ∧ W.cell? ⟨w.heap.size, 1, none⟩ = some (.string (bytesL x.c.name)) ∧ W.cell? ⟨w.heap.size, 2, none⟩ = some (.int .i64 x.c.n) ∧ W.cell? ⟨w.heap.size, 3, none⟩ = some (.slice x.la x.c.l.length x.lc) ∧ W.cell? ⟨w.heap.size, 4, none⟩ = some (.slice x.aa x.c.args.length x.ac) ∧ W.cell? ⟨w.heap.size, 5, none⟩ = some (.slice x.pa x.c.params.length x.pc) ∧ W.cell? ⟨w.heap.size, 6, none⟩ = some (.string (bytesL x.c.res)) ∧ W.cell? ⟨w.heap.size, 7, none⟩ = some (.slice x.ta x.c.terms.length x.tc))
    (first | exact HK8.out _ (by assumption) | exact HK8.out _ (Below.refl _ _) | exact HK8.out _ (Below.refl _ _).drew | exact HK8.out _ (ball (by assumption) _) | exact HKS.out _ (by assumption) _ _ _ _ rfl)
    (first | (go_at_call 29; refine (HSym.out _ _ HFair.out.name (by first | assumption | exact Below.drew (by assumption) | exact (Below.refl _ _).drew | exact Below.refl _ _)).mono ?_; rintro e w1 ⟨s1, hst1, rfl, hs1, hb1, hc1⟩; unfold sexV; have HST1 := Lib.hid hst1; have HS1 := Lib.hid hs1; clear hst1 hs1 hc1) | (go_at_call 28; refine (HForm.out [symT x.c.name] _ 1 1 _ rfl (by simp) (by simp [maxLen]) (by simp) (lit1 HST1.out HI2.out hb1 HS1.out).2 (lit1 HST1.out HI2.out hb1 HS1.out).1).mono ?_; rintro e w9 ⟨s9, hst9, rfl, hs9, hb9, hc9⟩; unfold sexV; have HST9 := Lib.hid hst9; have HS9 := Lib.hid hs9; clear hst9 hs9 hc9; have hx9 := (hb9.block (w.heap.size + 1) (by omega)).trans HY0.out; obtain ⟨d0, d1, d2, fz9, hz9⟩ := cells3b hx9; clear hx9))
  go_wp2
  obtain ⟨h1, h2, h3⟩ := list_end hsz HB0.out HY0.out hb9 HS9.out
  refine bodyPost_ret (results_cell_row rfl _ _ (w.heap.size + 1) _ _ _ _ rfl (h1) Tryz.underlying35 rfl sexSize3) rfl ?_
  exact ⟨s9, HST9.out, rfl, h2, h3⟩
set_option maxRecDepth 100000 in
set_option maxHeartbeats 8000000 in
theorem list_8 (x : CmdV) (w : World) (hG : GH w) (hr : CmdS w x) (hF : Fair x.c) (hk : x.c.kind = 8) :
    Calls Tryz.prog 18 #[.agg #[.int .i8 x.c.kind, .string (bytesL x.c.name), .int .i64 x.c.n, .slice x.la x.c.l.length x.lc, .slice x.aa x.c.args.length x.ac, .slice x.pa x.c.params.length x.pc, .string (bytesL x.c.res), .slice x.ta x.c.terms.length x.tc]] w (SxPost NoH w (rowT (symT (headsL.getD 8 []) :: partsT x.c))) := by
  obtain ⟨W0, hW0⟩ : ∃ W0, W0 = (w.alloc (.cells #[.int .i8 x.c.kind, .string (bytesL x.c.name), .int .i64 x.c.n, .slice x.la x.c.l.length x.lc, .slice x.aa x.c.args.length x.ac, .slice x.pa x.c.params.length x.pc, .string (bytesL x.c.res), .slice x.ta x.c.terms.length x.tc] 28)).alloc zSx := ⟨_, rfl⟩
  obtain ⟨hB0, hX0, hY0, hsz⟩ := boxed hW0
  have HI2 : Hid (In W0 (Own2 NoH w.heap.size)) := own2_in (fun b hb => hb.elim) (by omega)
  have HL : Hid (W0 = (w.alloc (.cells #[.int .i8 x.c.kind, .string (bytesL x.c.name), .int .i64 x.c.n, .slice x.la x.c.l.length x.lc, .slice x.aa x.c.args.length x.ac, .slice x.pa x.c.params.length x.pc, .string (bytesL x.c.res), .slice x.ta x.c.terms.length x.tc] 28)).alloc (.cells #[.int .i8 0, .string ⟨#[]⟩, .slice none 0 0] 35)) := hW0
  have HK8 : Hid (∀ W, Below W0.heap.size W0 W → W.cell? ⟨w.heap.size, 0, none⟩ = some (.int .i8 8) ∧ W.cell? ⟨w.heap.size, 1, none⟩ = some (.string (bytesL x.c.name)) ∧ W.cell? ⟨w.heap.size, 2, none⟩ = some (.int .i64 x.c.n) ∧ W.cell? ⟨w.heap.size, 3, none⟩ = some (.slice x.la x.c.l.length x.lc) ∧ W.cell? ⟨w.heap.size, 4, none⟩ = some (.slice x.aa x.c.args.length x.ac) ∧ W.cell? ⟨w.heap.size, 5, none⟩ = some (.slice x.pa x.c.params.length x.pc) ∧ W.cell? ⟨w.heap.size, 6, none⟩ = some (.string (bytesL x.c.res)) ∧ W.cell? ⟨w.heap.size, 7, none⟩ = some (.slice x.ta x.c.terms.length x.tc)) := fun W hW => by
    have hb : Box8 W w.heap.size x := (hW.block _ (by omega)).trans hX0
    have h := hb.cells
    rw [hk] at h
    exact h
  have HKS : Hid (∀ W0', Below W0.heap.size W0 W0' → ∀ v0 v1 v2 W, W = ((W0'.setCell ⟨w.heap.size + 1, 0, none⟩ v0).setCell ⟨w.heap.size + 1, 1, none⟩ v1).setCell ⟨w.heap.size + 1, 2, none⟩ v2 → W.cell? ⟨w.heap.size, 0, none⟩ = some (.int .i8 8) ∧ W.cell? ⟨w.heap.size, 1, none⟩ = some (.string (bytesL x.c.name)) ∧ W.cell? ⟨w.heap.size, 2, none⟩ = some (.int .i64 x.c.n) ∧ W.cell? ⟨w.heap.size, 3, none⟩ = some (.slice x.la x.c.l.length x.lc) ∧ W.cell? ⟨w.heap.size, 4, none⟩ = some (.slice x.aa x.c.args.length x.ac) ∧ W.cell? ⟨w.heap.size, 5, none⟩ = some (.slice x.pa x.c.params.length x.pc) ∧ W.cell? ⟨w.heap.size, 6, none⟩ = some (.string (bytesL x.c.res)) ∧ W.cell? ⟨w.heap.size, 7, none⟩ = some (.slice x.ta x.c.terms.length x.tc)) := fun W0' hW v0 v1 v2 W hWe => by
    subst hWe
    have hne : w.heap.size ≠ w.heap.size + 1 := by omega
    have hb : Box8 (((W0'.setCell ⟨w.heap.size + 1, 0, none⟩ v0).setCell ⟨w.heap.size + 1, 1, none⟩ v1).setCell ⟨w.heap.size + 1, 2, none⟩ v2) w.heap.size x := (((Below.heap_setCell _ _ _ _ hne).trans (Below.heap_setCell _ _ _ _ hne)).trans (Below.heap_setCell _ _ _ _ hne)).trans ((hW.block _ (by omega)).trans hX0)
    have h := hb.cells
    rw [hk] at h
    exact h
  have HFz : Hid (∀ W, Below W0.heap.size W0 W → ∀ i, W.frozen? ⟨w.heap.size, i, none⟩ = false ∧ W.frozen? ⟨w.heap.size + 1, i, none⟩ = false) := fun W hW i => by
    have h1 := (hW.block w.heap.size (by omega)).trans hX0
    have h2 := (hW.block (w.heap.size + 1) (by omega)).trans hY0
    exact ⟨by simp [World.frozen?, h1], by simp [World.frozen?, h2, zSx]⟩
  have HZ3 : Hid (∀ W, Below W0.heap.size W0 W → W.cell? ⟨w.heap.size + 1, 0, none⟩ = some (.int .i8 0) ∧ W.cell? ⟨w.heap.size + 1, 1, none⟩ = some (.string ⟨#[]⟩) ∧ W.cell? ⟨w.heap.size + 1, 2, none⟩ = some (.slice none 0 0)) := fun W hW => by
    have h2 : W.heap[w.heap.size + 1]? = some zSx := (hW.block (w.heap.size + 1) (by omega)).trans hY0
    exact ⟨cell_of_row _ _ 0 _ _ _ h2, cell_of_row _ _ 1 _ _ _ h2, cell_of_row _ _ 2 _ _ _ h2⟩
  have HSym : Hid (∀ (s : List UInt8) (W : World), s.length ≤ maxLen → Below W0.heap.size W0 W → Calls Tryz.prog 29 #[.string (bytesL s)] W (RPost (Own2 NoH w.heap.size) W0 W (symT s))) := fun s W hs hW => (symbol_any _ s W hs).mono fun e w' h => h.r hW
  have HNum : Hid (∀ (n : Int) (W : World), I64 n → Below W0.heap.size W0 W → Calls Tryz.prog 31 #[.int .i64 n] W (RPost (Own2 NoH w.heap.size) W0 W (numT n))) := fun n W hn hW => (numeral_c _ n W hn).mono fun e w' h => h.r hW
  have HRow : Hid (∀ (l : List Tree) (a : Option Addr) (c : Nat) (W : World), l.length ≤ c → c ≤ maxLen → SxLS (Own2 NoH w.heap.size) W l a → Below W0.heap.size W0 W → Calls Tryz.prog 35 #[.slice a l.length c] W (RPost (Own2 NoH w.heap.size) W0 W (rowT l))) := fun l a c W h1 h2 h3 hW => (row_any _ l a c W h1 h2 h3).mono fun e w' h => h.r hW
  have HForm : Hid (∀ (l : List Tree) (a : Option Addr) (c n : Nat) (W : World), n = l.length → l.length ≤ c → c ≤ maxLen → l.length ≤ 100 → SxLS (Own2 NoH w.heap.size) W l a → Below W0.heap.size W0 W → Calls Tryz.prog 28 #[.agg #[.int .i8 8, .string (bytesL x.c.name), .int .i64 x.c.n, .slice x.la x.c.l.length x.lc, .slice x.aa x.c.args.length x.ac, .slice x.pa x.c.params.length x.pc, .string (bytesL x.c.res), .slice x.ta x.c.terms.length x.tc], .slice a n c] W (RPost (Own2 NoH w.heap.size) W0 W (rowT (symT (headsL.getD 8 []) :: l)))) := fun l a c n W hn h1 h2 h3 h4 hW => by
    subst hn
    have hGW : GH W := (hG.below hB0).below hW
    have := form_any (Own2 NoH w.heap.size) x l a c 8 W hGW (fun b hb => Nat.lt_of_lt_of_le (HI2.out b hb) hW.size) hk (by omega) h1 h2 h3 h4
    rw [hk] at this
    exact this.mono fun e w' h => h.r hW
  have HArgs : Hid (∀ W, Below W0.heap.size W0 W → Calls Tryz.prog 32 #[.slice x.aa x.c.args.length x.ac, .func (.func 29) #[] #[]] W (RPost (Own2 NoH w.heap.size) W0 W (rowT (x.c.args.map symT)))) := fun W hW => by
    have hbw := hB0.trans (hW.mono (by omega))
    exact (rowOf_str _ x.c.args x.aa x.ac W (fun b hb => Nat.lt_of_lt_of_le (HI2.out b hb) hW.size) ((hr.aat.at.below hbw).more hbw.size) (by have := hF.a; omega) hF.ai).mono fun e w' h => h.r hW
  have HPars : Hid (∀ W, Below W0.heap.size W0 W → Calls Tryz.prog 33 #[.slice x.pa x.c.params.length x.pc, .func (.func 34) #[] #[]] W (RPost (Own2 NoH w.heap.size) W0 W (rowT (x.c.params.map pairT)))) := fun W hW => by
    have hbw := hB0.trans (hW.mono (by omega))
    exact (rowOf_par _ x.c.params x.pa x.pc W (fun b hb => Nat.lt_of_lt_of_le (HI2.out b hb) hW.size) ((hr.pat.at.below hbw).more hbw.size) (by have := hF.p; omega) hF.pi).mono fun e w' h => h.r hW
  have HSet : Hid (∀ W, Below W0.heap.size W0 W → Calls Tryz.prog 30 #[.agg #[.int .i8 8, .string (bytesL x.c.name), .int .i64 x.c.n, .slice x.la x.c.l.length x.lc, .slice x.aa x.c.args.length x.ac, .slice x.pa x.c.params.length x.pc, .string (bytesL x.c.res), .slice x.ta x.c.terms.length x.tc]] W (RPost (Own2 NoH w.heap.size) W0 W (setT x.c))) := fun W hW => by
    have hbw := hB0.trans (hW.mono (by omega))
    have := setting_any (Own2 NoH w.heap.size) x W (fun b hb => Nat.lt_of_lt_of_le (HI2.out b hb) hW.size) (hr.below hbw) hF.l hF.n hF.li
    rw [hk] at this
    exact this.mono fun e w' h => h.r hW
  have HTerms : Hid (∀ W, Below W0.heap.size W0 W → SxLS (Own2 NoH w.heap.size) W x.c.terms x.ta) := fun W hW => by
    have hbw := hB0.trans (hW.mono (by omega))
    have h0 : SxLS NoH w x.c.terms x.ta := RdL.mono (fun b _ hb => by rcases hb with hb | hb; exact hb.elim; exact hb) _ _ hr.tat
    exact h0.to hbw.size (fun b hlt _ => hbw.block b hlt) (fun b hb => by rcases hb with hb | hb | hb; exact .inl hb; exact .inr (by omega); exact .inr (by omega))
  have HT : Hid (x.c.terms.length ≤ x.tc ∧ x.tc ≤ maxLen ∧ x.c.terms.length ≤ 40) := ⟨hr.tl, hr.tm, hF.t⟩
  have HFair := Lib.hid hF
  have HB0 := Lib.hid hB0
  have HY0 := Lib.hid hY0
  have HR0 := HK8.out W0 (Below.refl _ _)
  have HP : Hid (partsT x.c = []) := by show _ = _; unfold partsT; simp [hk]
  rw [HP.out]
  rw [hk] at HL ⊢
  clear hW0 hB0 hX0 hY0 hr hF hk hG HR0
  go_enter Tryz.func18, Tryz.ntmps18
  go_wp2_with fail
  rw [← HL.out]
  clear HL
  obtain ⟨c0, c1, c2, c3, c4, c5, c6, c7⟩ := HK8.out W0 (Below.refl _ _)
  have fz := fun i => (HFz.out W0 (Below.refl _ _) i).1
  go_wp2_with (first | (go_at_call 28; refine (HForm.out [] none 0 0 _ rfl (by simp) (by simp [maxLen]) (by simp) trivial (Below.refl _ _)).mono ?_; rintro e w9 ⟨s9, hst9, rfl, hs9, hb9, hc9⟩; unfold sexV; have HST9 := Lib.hid hst9; have HS9 := Lib.hid hs9; clear hst9 hs9 hc9; have hx9 := (hb9.block (w.heap.size + 1) (by omega)).trans HY0.out; obtain ⟨d0, d1, d2, fz9, hz9⟩ := cells3b hx9; clear hx9))
  obtain ⟨h1, h2, h3⟩ := list_end hsz HB0.out HY0.out hb9 HS9.out
  refine bodyPost_ret (results_cell_row rfl _ _ (w.heap.size + 1) _ _ _ _ rfl (h1) Tryz.underlying35 rfl sexSize3) rfl ?_
  exact ⟨s9, HST9.out, rfl, h2, h3⟩
set_option maxRecDepth 100000 in
set_option maxHeartbeats 8000000 in
theorem list_9 (x : CmdV) (w : World) (hG : GH w) (hr : CmdS w x) (hF : Fair x.c) (hk : x.c.kind = 9) :
    Calls Tryz.prog 18 #[.agg #[.int .i8 x.c.kind, .string (bytesL x.c.name), .int .i64 x.c.n, .slice x.la x.c.l.length x.lc, .slice x.aa x.c.args.length x.ac, .slice x.pa x.c.params.length x.pc, .string (bytesL x.c.res), .slice x.ta x.c.terms.length x.tc]] w (SxPost NoH w (rowT (symT (headsL.getD 9 []) :: partsT x.c))) := by
  obtain ⟨W0, hW0⟩ : ∃ W0, W0 = (w.alloc (.cells #[.int .i8 x.c.kind, .string (bytesL x.c.name), .int .i64 x.c.n, .slice x.la x.c.l.length x.lc, .slice x.aa x.c.args.length x.ac, .slice x.pa x.c.params.length x.pc, .string (bytesL x.c.res), .slice x.ta x.c.terms.length x.tc] 28)).alloc zSx := ⟨_, rfl⟩
  obtain ⟨hB0, hX0, hY0, hsz⟩ := boxed hW0
  have HI2 : Hid (In W0 (Own2 NoH w.heap.size)) := own2_in (fun b hb => hb.elim) (by omega)
  have HL : Hid (W0 = (w.alloc (.cells #[.int .i8 x.c.kind, .string (bytesL x.c.name), .int .i64 x.c.n, .slice x.la x.c.l.length x.lc, .slice x.aa x.c.args.length x.ac, .slice x.pa x.c.params.length x.pc, .string (bytesL x.c.res), .slice x.ta x.c.terms.length x.tc] 28)).alloc (.cells #[.int .i8 0, .string ⟨#[]⟩, .slice none 0 0] 35)) := hW0
  have HK8 : Hid (∀ W, Below W0.heap.size W0 W → W.cell? ⟨w.heap.size, 0, none⟩ = some (.int .i8 9) ∧ W.cell? ⟨w.heap.size, 1, none⟩ = some (.string (bytesL x.c.name)) ∧ W.cell? ⟨w.heap.size, 2, none⟩ = some (.int .i64 x.c.n) ∧ W.cell? ⟨w.heap.size, 3, none⟩ = some (.slice x.la x.c.l.length x.lc) ∧ W.cell? ⟨w.heap.size, 4, none⟩ = some (.slice x.aa x.c.args.length x.ac) ∧ W.cell? ⟨w.heap.size, 5, none⟩ = some (.slice x.pa x.c.params.length x.pc) ∧ W.cell? ⟨w.heap.size, 6, none⟩ = some (.string (bytesL x.c.res)) ∧ W.cell? ⟨w.heap.size, 7, none⟩ = some (.slice x.ta x.c.terms.length x.tc)) := fun W hW => by
    have hb : Box8 W w.heap.size x := (hW.block _ (by omega)).trans hX0
    have h := hb.cells
    rw [hk] at h
    exact h
  have HKS : Hid (∀ W0', Below W0.heap.size W0 W0' → ∀ v0 v1 v2 W, W = ((W0'.setCell ⟨w.heap.size + 1, 0, none⟩ v0).setCell ⟨w.heap.size + 1, 1, none⟩ v1).setCell ⟨w.heap.size + 1, 2, none⟩ v2 → W.cell? ⟨w.heap.size, 0, none⟩ = some (.int .i8 9) ∧ W.cell? ⟨w.heap.size, 1, none⟩ = some (.string (bytesL x.c.name)) ∧ W.cell? ⟨w.heap.size, 2, none⟩ = some (.int .i64 x.c.n) ∧ W.cell? ⟨w.heap.size, 3, none⟩ = some (.slice x.la x.c.l.length x.lc) ∧ W.cell? ⟨w.heap.size, 4, none⟩ = some (.slice x.aa x.c.args.length x.ac) ∧ W.cell? ⟨w.heap.size, 5, none⟩ = some (.slice x.pa x.c.params.length x.pc) ∧ W.cell? ⟨w.heap.size, 6, none⟩ = some (.string (bytesL x.c.res)) ∧ W.cell? ⟨w.heap.size, 7, none⟩ = some (.slice x.ta x.c.terms.length x.tc)) := fun W0' hW v0 v1 v2 W hWe => by
    subst hWe
    have hne : w.heap.size ≠ w.heap.size + 1 := by omega
    have hb : Box8 (((W0'.setCell ⟨w.heap.size + 1, 0, none⟩ v0).setCell ⟨w.heap.size + 1, 1, none⟩ v1).setCell ⟨w.heap.size + 1, 2, none⟩ v2) w.heap.size x := (((Below.heap_setCell _ _ _ _ hne).trans (Below.heap_setCell _ _ _ _ hne)).trans (Below.heap_setCell _ _ _ _ hne)).trans ((hW.block _ (by omega)).trans hX0)
    have h := hb.cells
    rw [hk] at h
    exact h
  have HFz : Hid (∀ W, Below W0.heap.size W0 W → ∀ i, W.frozen? ⟨w.heap.size, i, none⟩ = false ∧ W.frozen? ⟨w.heap.size + 1, i, none⟩ = false) := fun W hW i => by
    have h1 := (hW.block w.heap.size (by omega)).trans hX0
    have h2 := (hW.block (w.heap.size + 1) (by omega)).trans hY0
    exact ⟨by simp [World.frozen?, h1], by simp [World.frozen?, h2, zSx]⟩
  have HZ3 : Hid (∀ W, Below W0.heap.size W0 W → W.cell? ⟨w.heap.size + 1, 0, none⟩ = some (.int .i8 0) ∧ W.cell? ⟨w.heap.size + 1, 1, none⟩ = some (.string ⟨#[]⟩) ∧ W.cell? ⟨w.heap.size + 1, 2, none⟩ = some (.slice none 0 0)) := fun W hW => by
    have h2 : W.heap[w.heap.size + 1]? = some zSx := (hW.block (w.heap.size + 1) (by omega)).trans hY0
    exact ⟨cell_of_row _ _ 0 _ _ _ h2, cell_of_row _ _ 1 _ _ _ h2, cell_of_row _ _ 2 _ _ _ h2⟩
  have HSym : Hid (∀ (s : List UInt8) (W : World), s.length ≤ maxLen → Below W0.heap.size W0 W → Calls Tryz.prog 29 #[.string (bytesL s)] W (RPost (Own2 NoH w.heap.size) W0 W (symT s))) := fun s W hs hW => (symbol_any _ s W hs).mono fun e w' h => h.r hW
  have HNum : Hid (∀ (n : Int) (W : World), I64 n → Below W0.heap.size W0 W → Calls Tryz.prog 31 #[.int .i64 n] W (RPost (Own2 NoH w.heap.size) W0 W (numT n))) := fun n W hn hW => (numeral_c _ n W hn).mono fun e w' h => h.r hW
  have HRow : Hid (∀ (l : List Tree) (a : Option Addr) (c : Nat) (W : World), l.length ≤ c → c ≤ maxLen → SxLS (Own2 NoH w.heap.size) W l a → Below W0.heap.size W0 W → Calls Tryz.prog 35 #[.slice a l.length c] W (RPost (Own2 NoH w.heap.size) W0 W (rowT l))) := fun l a c W h1 h2 h3 hW => (row_any _ l a c W h1 h2 h3).mono fun e w' h => h.r hW
  have HForm : Hid (∀ (l : List Tree) (a : Option Addr) (c n : Nat) (W : World), n = l.length → l.length ≤ c → c ≤ maxLen → l.length ≤ 100 → SxLS (Own2 NoH w.heap.size) W l a → Below W0.heap.size W0 W → Calls Tryz.prog 28 #[.agg #[.int .i8 9, .string (bytesL x.c.name), .int .i64 x.c.n, .slice x.la x.c.l.length x.lc, .slice x.aa x.c.args.length x.ac, .slice x.pa x.c.params.length x.pc, .string (bytesL x.c.res), .slice x.ta x.c.terms.length x.tc], .slice a n c] W (RPost (Own2 NoH w.heap.size) W0 W (rowT (symT (headsL.getD 9 []) :: l)))) := fun l a c n W hn h1 h2 h3 h4 hW => by
    subst hn
    have hGW : GH W := (hG.below hB0).below hW
    have := form_any (Own2 NoH w.heap.size) x l a c 9 W hGW (fun b hb => Nat.lt_of_lt_of_le (HI2.out b hb) hW.size) hk (by omega) h1 h2 h3 h4
    rw [hk] at this
    exact this.mono fun e w' h => h.r hW
  have HArgs : Hid (∀ W, Below W0.heap.size W0 W → Calls Tryz.prog 32 #[.slice x.aa x.c.args.length x.ac, .func (.func 29) #[] #[]] W (RPost (Own2 NoH w.heap.size) W0 W (rowT (x.c.args.map symT)))) := fun W hW => by
    have hbw := hB0.trans (hW.mono (by omega))
    exact (rowOf_str _ x.c.args x.aa x.ac W (fun b hb => Nat.lt_of_lt_of_le (HI2.out b hb) hW.size) ((hr.aat.at.below hbw).more hbw.size) (by have := hF.a; omega) hF.ai).mono fun e w' h => h.r hW
  have HPars : Hid (∀ W, Below W0.heap.size W0 W → Calls Tryz.prog 33 #[.slice x.pa x.c.params.length x.pc, .func (.func 34) #[] #[]] W (RPost (Own2 NoH w.heap.size) W0 W (rowT (x.c.params.map pairT)))) := fun W hW => by
    have hbw := hB0.trans (hW.mono (by omega))
    exact (rowOf_par _ x.c.params x.pa x.pc W (fun b hb => Nat.lt_of_lt_of_le (HI2.out b hb) hW.size) ((hr.pat.at.below hbw).more hbw.size) (by have := hF.p; omega) hF.pi).mono fun e w' h => h.r hW
  have HSet : Hid (∀ W, Below W0.heap.size W0 W → Calls Tryz.prog 30 #[.agg #[.int .i8 9, .string (bytesL x.c.name), .int .i64 x.c.n, .slice x.la x.c.l.length x.lc, .slice x.aa x.c.args.length x.ac, .slice x.pa x.c.params.length x.pc, .string (bytesL x.c.res), .slice x.ta x.c.terms.length x.tc]] W (RPost (Own2 NoH w.heap.size) W0 W (setT x.c))) := fun W hW => by
    have hbw := hB0.trans (hW.mono (by omega))
    have := setting_any (Own2 NoH w.heap.size) x W (fun b hb => Nat.lt_of_lt_of_le (HI2.out b hb) hW.size) (hr.below hbw) hF.l hF.n hF.li
    rw [hk] at this
    exact this.mono fun e w' h => h.r hW
  have HTerms : Hid (∀ W, Below W0.heap.size W0 W → SxLS (Own2 NoH w.heap.size) W x.c.terms x.ta) := fun W hW => by
    have hbw := hB0.trans (hW.mono (by omega))
    have h0 : SxLS NoH w x.c.terms x.ta := RdL.mono (fun b _ hb => by rcases hb with hb | hb; exact hb.elim; exact hb) _ _ hr.tat
    exact h0.to hbw.size (fun b hlt _ => hbw.block b hlt) (fun b hb => by rcases hb with hb | hb | hb; exact .inl hb; exact .inr (by omega); exact .inr (by omega))
  have HT : Hid (x.c.terms.length ≤ x.tc ∧ x.tc ≤ maxLen ∧ x.c.terms.length ≤ 40) := ⟨hr.tl, hr.tm, hF.t⟩
  have HFair := Lib.hid hF
  have HB0 := Lib.hid hB0
  have HY0 := Lib.hid hY0
  have HR0 := HK8.out W0 (Below.refl _ _)
  have HP : Hid (partsT x.c = []) := by show _ = _; unfold partsT; simp [hk]
  rw [HP.out]
  rw [hk] at HL ⊢
  clear hW0 hB0 hX0 hY0 hr hF hk hG HR0
  go_enter Tryz.func18, Tryz.ntmps18
  go_wp2_with fail
  rw [← HL.out]
  clear HL
  obtain ⟨c0, c1, c2, c3, c4, c5, c6, c7⟩ := HK8.out W0 (Below.refl _ _)
  have fz := fun i => (HFz.out W0 (Below.refl _ _) i).1
  go_wp2_with (first | (go_at_call 28; refine (HForm.out [] none 0 0 _ rfl (by simp) (by simp [maxLen]) (by simp) trivial (Below.refl _ _)).mono ?_; rintro e w9 ⟨s9, hst9, rfl, hs9, hb9, hc9⟩; unfold sexV; have HST9 := Lib.hid hst9; have HS9 := Lib.hid hs9; clear hst9 hs9 hc9; have hx9 := (hb9.block (w.heap.size + 1) (by omega)).trans HY0.out; obtain ⟨d0, d1, d2, fz9, hz9⟩ := cells3b hx9; clear hx9))
  obtain ⟨h1, h2, h3⟩ := list_end hsz HB0.out HY0.out hb9 HS9.out
  refine bodyPost_ret (results_cell_row rfl _ _ (w.heap.size + 1) _ _ _ _ rfl (h1) Tryz.underlying35 rfl sexSize3) rfl ?_
  exact ⟨s9, HST9.out, rfl, h2, h3⟩
set_option maxRecDepth 100000 in
set_option maxHeartbeats 8000000 in
theorem list_11 (x : CmdV) (w : World) (hG : GH w) (hr : CmdS w x) (hF : Fair x.c) (hk : x.c.kind = 11) :
    Calls Tryz.prog 18 #[.agg #[.int .i8 x.c.kind, .string (bytesL x.c.name), .int .i64 x.c.n, .slice x.la x.c.l.length x.lc, .slice x.aa x.c.args.length x.ac, .slice x.pa x.c.params.length x.pc, .string (bytesL x.c.res), .slice x.ta x.c.terms.length x.tc]] w (SxPost NoH w (rowT (symT (headsL.getD 11 []) :: partsT x.c))) := by
  obtain ⟨W0, hW0⟩ : ∃ W0, W0 = (w.alloc (.cells #[.int .i8 x.c.kind, .string (bytesL x.c.name), .int .i64 x.c.n, .slice x.la x.c.l.length x.lc, .slice x.aa x.c.args.length x.ac, .slice x.pa x.c.params.length x.pc, .string (bytesL x.c.res), .slice x.ta x.c.terms.length x.tc] 28)).alloc zSx := ⟨_, rfl⟩
  obtain ⟨hB0, hX0, hY0, hsz⟩ := boxed hW0
  have HI2 : Hid (In W0 (Own2 NoH w.heap.size)) := own2_in (fun b hb => hb.elim) (by omega)
  have HL : Hid (W0 = (w.alloc (.cells #[.int .i8 x.c.kind, .string (bytesL x.c.name), .int .i64 x.c.n, .slice x.la x.c.l.length x.lc, .slice x.aa x.c.args.length x.ac, .slice x.pa x.c.params.length x.pc, .string (bytesL x.c.res), .slice x.ta x.c.terms.length x.tc] 28)).alloc (.cells #[.int .i8 0, .string ⟨#[]⟩, .slice none 0 0] 35)) := hW0
  have HK8 : Hid (∀ W, Below W0.heap.size W0 W → W.cell? ⟨w.heap.size, 0, none⟩ = some (.int .i8 11) ∧ W.cell? ⟨w.heap.size, 1, none⟩ = some (.string (bytesL x.c.name)) ∧ W.cell? ⟨w.heap.size, 2, none⟩ = some (.int .i64 x.c.n) ∧ W.cell? ⟨w.heap.size, 3, none⟩ = some (.slice x.la x.c.l.length x.lc) ∧ W.cell? ⟨w.heap.size, 4, none⟩ = some (.slice x.aa x.c.args.length x.ac) ∧ W.cell? ⟨w.heap.size, 5, none⟩ = some (.slice x.pa x.c.params.length x.pc) ∧ W.cell? ⟨w.heap.size, 6, none⟩ = some (.string (bytesL x.c.res)) ∧ W.cell? ⟨w.heap.size, 7, none⟩ = some (.slice x.ta x.c.terms.length x.tc)) := fun W hW => by
    have hb : Box8 W w.heap.size x := (hW.block _ (by omega)).trans hX0
    have h := hb.cells
    rw [hk] at h
    exact h
  have HKS : Hid (∀ W0', Below W0.heap.size W0 W0' → ∀ v0 v1 v2 W, W = ((W0'.setCell ⟨w.heap.size + 1, 0, none⟩ v0).setCell ⟨w.heap.size + 1, 1, none⟩ v1).setCell ⟨w.heap.size + 1, 2, none⟩ v2 → W.cell? ⟨w.heap.size, 0, none⟩ = some (.int .i8 11) ∧ W.cell? ⟨w.heap.size, 1, none⟩ = some (.string (bytesL x.c.name)) ∧ W.cell? ⟨w.heap.size, 2, none⟩ = some (.int .i64 x.c.n) ∧ W.cell? ⟨w.heap.size, 3, none⟩ = some (.slice x.la x.c.l.length x.lc) ∧ W.cell? ⟨w.heap.size, 4, none⟩ = some (.slice x.aa x.c.args.length x.ac) ∧ W.cell? ⟨w.heap.size, 5, none⟩ = some (.slice x.pa x.c.params.length x.pc) ∧ W.cell? ⟨w.heap.size, 6, none⟩ = some (.string (bytesL x.c.res)) ∧ W.cell? ⟨w.heap.size, 7, none⟩ = some (.slice x.ta x.c.terms.length x.tc)) := fun W0' hW v0 v1 v2 W hWe => by
    subst hWe
    have hne : w.heap.size ≠ w.heap.size + 1 := by omega
    have hb : Box8 (((W0'.setCell ⟨w.heap.size + 1, 0, none⟩ v0).setCell ⟨w.heap.size + 1, 1, none⟩ v1).setCell ⟨w.heap.size + 1, 2, none⟩ v2) w.heap.size x := (((Below.heap_setCell _ _ _ _ hne).trans (Below.heap_setCell _ _ _ _ hne)).trans (Below.heap_setCell _ _ _ _ hne)).trans ((hW.block _ (by omega)).trans hX0)
    have h := hb.cells
    rw [hk] at h
    exact h
  have HFz : Hid (∀ W, Below W0.heap.size W0 W → ∀ i, W.frozen? ⟨w.heap.size, i, none⟩ = false ∧ W.frozen? ⟨w.heap.size + 1, i, none⟩ = false) := fun W hW i => by
    have h1 := (hW.block w.heap.size (by omega)).trans hX0
    have h2 := (hW.block (w.heap.size + 1) (by omega)).trans hY0
    exact ⟨by simp [World.frozen?, h1], by simp [World.frozen?, h2, zSx]⟩
  have HZ3 : Hid (∀ W, Below W0.heap.size W0 W → W.cell? ⟨w.heap.size + 1, 0, none⟩ = some (.int .i8 0) ∧ W.cell? ⟨w.heap.size + 1, 1, none⟩ = some (.string ⟨#[]⟩) ∧ W.cell? ⟨w.heap.size + 1, 2, none⟩ = some (.slice none 0 0)) := fun W hW => by
    have h2 : W.heap[w.heap.size + 1]? = some zSx := (hW.block (w.heap.size + 1) (by omega)).trans hY0
    exact ⟨cell_of_row _ _ 0 _ _ _ h2, cell_of_row _ _ 1 _ _ _ h2, cell_of_row _ _ 2 _ _ _ h2⟩
  have HSym : Hid (∀ (s : List UInt8) (W : World), s.length ≤ maxLen → Below W0.heap.size W0 W → Calls Tryz.prog 29 #[.string (bytesL s)] W (RPost (Own2 NoH w.heap.size) W0 W (symT s))) := fun s W hs hW => (symbol_any _ s W hs).mono fun e w' h => h.r hW
  have HNum : Hid (∀ (n : Int) (W : World), I64 n → Below W0.heap.size W0 W → Calls Tryz.prog 31 #[.int .i64 n] W (RPost (Own2 NoH w.heap.size) W0 W (numT n))) := fun n W hn hW => (numeral_c _ n W hn).mono fun e w' h => h.r hW
  have HRow : Hid (∀ (l : List Tree) (a : Option Addr) (c : Nat) (W : World), l.length ≤ c → c ≤ maxLen → SxLS (Own2 NoH w.heap.size) W l a → Below W0.heap.size W0 W → Calls Tryz.prog 35 #[.slice a l.length c] W (RPost (Own2 NoH w.heap.size) W0 W (rowT l))) := fun l a c W h1 h2 h3 hW => (row_any _ l a c W h1 h2 h3).mono fun e w' h => h.r hW
  have HForm : Hid (∀ (l : List Tree) (a : Option Addr) (c n : Nat) (W : World), n = l.length → l.length ≤ c → c ≤ maxLen → l.length ≤ 100 → SxLS (Own2 NoH w.heap.size) W l a → Below W0.heap.size W0 W → Calls Tryz.prog 28 #[.agg #[.int .i8 11, .string (bytesL x.c.name), .int .i64 x.c.n, .slice x.la x.c.l.length x.lc, .slice x.aa x.c.args.length x.ac, .slice x.pa x.c.params.length x.pc, .string (bytesL x.c.res), .slice x.ta x.c.terms.length x.tc], .slice a n c] W (RPost (Own2 NoH w.heap.size) W0 W (rowT (symT (headsL.getD 11 []) :: l)))) := fun l a c n W hn h1 h2 h3 h4 hW => by
    subst hn
    have hGW : GH W := (hG.below hB0).below hW
    have := form_any (Own2 NoH w.heap.size) x l a c 11 W hGW (fun b hb => Nat.lt_of_lt_of_le (HI2.out b hb) hW.size) hk (by omega) h1 h2 h3 h4
    rw [hk] at this
    exact this.mono fun e w' h => h.r hW
  have HArgs : Hid (∀ W, Below W0.heap.size W0 W → Calls Tryz.prog 32 #[.slice x.aa x.c.args.length x.ac, .func (.func 29) #[] #[]] W (RPost (Own2 NoH w.heap.size) W0 W (rowT (x.c.args.map symT)))) := fun W hW => by
    have hbw := hB0.trans (hW.mono (by omega))
    exact (rowOf_str _ x.c.args x.aa x.ac W (fun b hb => Nat.lt_of_lt_of_le (HI2.out b hb) hW.size) ((hr.aat.at.below hbw).more hbw.size) (by have := hF.a; omega) hF.ai).mono fun e w' h => h.r hW
  have HPars : Hid (∀ W, Below W0.heap.size W0 W → Calls Tryz.prog 33 #[.slice x.pa x.c.params.length x.pc, .func (.func 34) #[] #[]] W (RPost (Own2 NoH w.heap.size) W0 W (rowT (x.c.params.map pairT)))) := fun W hW => by
    have hbw := hB0.trans (hW.mono (by omega))
    exact (rowOf_par _ x.c.params x.pa x.pc W (fun b hb => Nat.lt_of_lt_of_le (HI2.out b hb) hW.size) ((hr.pat.at.below hbw).more hbw.size) (by have := hF.p; omega) hF.pi).mono fun e w' h => h.r hW
  have HSet : Hid (∀ W, Below W0.heap.size W0 W → Calls Tryz.prog 30 #[.agg #[.int .i8 11, .string (bytesL x.c.name), .int .i64 x.c.n, .slice x.la x.c.l.length x.lc, .slice x.aa x.c.args.length x.ac, .slice x.pa x.c.params.length x.pc, .string (bytesL x.c.res), .slice x.ta x.c.terms.length x.tc]] W (RPost (Own2 NoH w.heap.size) W0 W (setT x.c))) := fun W hW => by
    have hbw := hB0.trans (hW.mono (by omega))
    have := setting_any (Own2 NoH w.heap.size) x W (fun b hb => Nat.lt_of_lt_of_le (HI2.out b hb) hW.size) (hr.below hbw) hF.l hF.n hF.li
    rw [hk] at this
    exact this.mono fun e w' h => h.r hW
  have HTerms : Hid (∀ W, Below W0.heap.size W0 W → SxLS (Own2 NoH w.heap.size) W x.c.terms x.ta) := fun W hW => by
    have hbw := hB0.trans (hW.mono (by omega))
    have h0 : SxLS NoH w x.c.terms x.ta := RdL.mono (fun b _ hb => by rcases hb with hb | hb; exact hb.elim; exact hb) _ _ hr.tat
    exact h0.to hbw.size (fun b hlt _ => hbw.block b hlt) (fun b hb => by rcases hb with hb | hb | hb; exact .inl hb; exact .inr (by omega); exact .inr (by omega))
  have HT : Hid (x.c.terms.length ≤ x.tc ∧ x.tc ≤ maxLen ∧ x.c.terms.length ≤ 40) := ⟨hr.tl, hr.tm, hF.t⟩
  have HFair := Lib.hid hF
  have HB0 := Lib.hid hB0
  have HY0 := Lib.hid hY0
  have HR0 := HK8.out W0 (Below.refl _ _)
  have HP : Hid (partsT x.c = []) := by show _ = _; unfold partsT; simp [hk]
  rw [HP.out]
  rw [hk] at HL ⊢
  clear hW0 hB0 hX0 hY0 hr hF hk hG HR0
  go_enter Tryz.func18, Tryz.ntmps18
  go_wp2_with fail
  rw [← HL.out]
  clear HL
  obtain ⟨c0, c1, c2, c3, c4, c5, c6, c7⟩ := HK8.out W0 (Below.refl _ _)
  have fz := fun i => (HFz.out W0 (Below.refl _ _) i).1
  go_wp2_with (first | (go_at_call 28; refine (HForm.out [] none 0 0 _ rfl (by simp) (by simp [maxLen]) (by simp) trivial (Below.refl _ _)).mono ?_; rintro e w9 ⟨s9, hst9, rfl, hs9, hb9, hc9⟩; unfold sexV; have HST9 := Lib.hid hst9; have HS9 := Lib.hid hs9; clear hst9 hs9 hc9; have hx9 := (hb9.block (w.heap.size + 1) (by omega)).trans HY0.out; obtain ⟨d0, d1, d2, fz9, hz9⟩ := cells3b hx9; clear hx9))
  obtain ⟨h1, h2, h3⟩ := list_end hsz HB0.out HY0.out hb9 HS9.out
  refine bodyPost_ret (results_cell_row rfl _ _ (w.heap.size + 1) _ _ _ _ rfl (h1) Tryz.underlying35 rfl sexSize3) rfl ?_
  exact ⟨s9, HST9.out, rfl, h2, h3⟩
set_option maxRecDepth 100000 in
set_option maxHeartbeats 8000000 in
theorem list_12 (x : CmdV) (w : World) (hG : GH w) (hr : CmdS w x) (hF : Fair x.c) (hk : x.c.kind = 12) :
    Calls Tryz.prog 18 #[.agg #[.int .i8 x.c.kind, .string (bytesL x.c.name), .int .i64 x.c.n, .slice x.la x.c.l.length x.lc, .slice x.aa x.c.args.length x.ac, .slice x.pa x.c.params.length x.pc, .string (bytesL x.c.res), .slice x.ta x.c.terms.length x.tc]] w (SxPost NoH w (rowT (symT (headsL.getD 12 []) :: partsT x.c))) := by
  obtain ⟨W0, hW0⟩ : ∃ W0, W0 = (w.alloc (.cells #[.int .i8 x.c.kind, .string (bytesL x.c.name), .int .i64 x.c.n, .slice x.la x.c.l.length x.lc, .slice x.aa x.c.args.length x.ac, .slice x.pa x.c.params.length x.pc, .string (bytesL x.c.res), .slice x.ta x.c.terms.length x.tc] 28)).alloc zSx := ⟨_, rfl⟩
  obtain ⟨hB0, hX0, hY0, hsz⟩ := boxed hW0
  have HI2 : Hid (In W0 (Own2 NoH w.heap.size)) := own2_in (fun b hb => hb.elim) (by omega)
  have HL : Hid (W0 = (w.alloc (.cells #[.int .i8 x.c.kind, .string (bytesL x.c.name), .int .i64 x.c.n, .slice x.la x.c.l.length x.lc, .slice x.aa x.c.args.length x.ac, .slice x.pa x.c.params.length x.pc, .string (bytesL x.c.res), .slice x.ta x.c.terms.length x.tc] 28)).alloc (.cells #[.int .i8 0, .string ⟨#[]⟩, .slice none 0 0] 35)) := hW0
  have HK8 : Hid (∀ W, Below W0.heap.size W0 W → W.cell? ⟨w.heap.size, 0, none⟩ = some (.int .i8 12) ∧ W.cell? ⟨w.heap.size, 1, none⟩ = some (.string (bytesL x.c.name)) ∧ W.cell? ⟨w.heap.size, 2, none⟩ = some (.int .i64 x.c.n) ∧ W.cell? ⟨w.heap.size, 3, none⟩ = some (.slice x.la x.c.l.length x.lc) ∧ W.cell? ⟨w.heap.size, 4, none⟩ = some (.slice x.aa x.c.args.length x.ac) ∧ W.cell? ⟨w.heap.size, 5, none⟩ = some (.slice x.pa x.c.params.length x.pc) ∧ W.cell? ⟨w.heap.size, 6, none⟩ = some (.string (bytesL x.c.res)) ∧ W.cell? ⟨w.heap.size, 7, none⟩ = some (.slice x.ta x.c.terms.length x.tc)) := fun W hW => by
    have hb : Box8 W w.heap.size x := (hW.block _ (by omega)).trans hX0
    have h := hb.cells
    rw [hk] at h
    exact h
  have HKS : Hid (∀ W0', Below W0.heap.size W0 W0' → ∀ v0 v1 v2 W, W = ((W0'.setCell ⟨w.heap.size + 1, 0, none⟩ v0).setCell ⟨w.heap.size + 1, 1, none⟩ v1).setCell ⟨w.heap.size + 1, 2, none⟩ v2 → W.cell? ⟨w.heap.size, 0, none⟩ = some (.int .i8 12) ∧ W.cell? ⟨w.heap.size, 1, none⟩ = some (.string (bytesL x.c.name)) ∧ W.cell? ⟨w.heap.size, 2, none⟩ = some (.int .i64 x.c.n) ∧ W.cell? ⟨w.heap.size, 3, none⟩ = some (.slice x.la x.c.l.length x.lc) ∧ W.cell? ⟨w.heap.size, 4, none⟩ = some (.slice x.aa x.c.args.length x.ac) ∧ W.cell? ⟨w.heap.size, 5, none⟩ = some (.slice x.pa x.c.params.length x.pc) ∧ W.cell? ⟨w.heap.size, 6, none⟩ = some (.string (bytesL x.c.res)) ∧ W.cell? ⟨w.heap.size, 7, none⟩ = some (.slice x.ta x.c.terms.length x.tc)) := fun W0' hW v0 v1 v2 W hWe => by
    subst hWe
    have hne : w.heap.size ≠ w.heap.size + 1 := by omega
    have hb : Box8 (((W0'.setCell ⟨w.heap.size + 1, 0, none⟩ v0).setCell ⟨w.heap.size + 1, 1, none⟩ v1).setCell ⟨w.heap.size + 1, 2, none⟩ v2) w.heap.size x := (((Below.heap_setCell _ _ _ _ hne).trans (Below.heap_setCell _ _ _ _ hne)).trans (Below.heap_setCell _ _ _ _ hne)).trans ((hW.block _ (by omega)).trans hX0)
    have h := hb.cells
    rw [hk] at h
    exact h
  have HFz : Hid (∀ W, Below W0.heap.size W0 W → ∀ i, W.frozen? ⟨w.heap.size, i, none⟩ = false ∧ W.frozen? ⟨w.heap.size + 1, i, none⟩ = false) := fun W hW i => by
    have h1 := (hW.block w.heap.size (by omega)).trans hX0
    have h2 := (hW.block (w.heap.size + 1) (by omega)).trans hY0
    exact ⟨by simp [World.frozen?, h1], by simp [World.frozen?, h2, zSx]⟩
  have HZ3 : Hid (∀ W, Below W0.heap.size W0 W → W.cell? ⟨w.heap.size + 1, 0, none⟩ = some (.int .i8 0) ∧ W.cell? ⟨w.heap.size + 1, 1, none⟩ = some (.string ⟨#[]⟩) ∧ W.cell? ⟨w.heap.size + 1, 2, none⟩ = some (.slice none 0 0)) := fun W hW => by
    have h2 : W.heap[w.heap.size + 1]? = some zSx := (hW.block (w.heap.size + 1) (by omega)).trans hY0
    exact ⟨cell_of_row _ _ 0 _ _ _ h2, cell_of_row _ _ 1 _ _ _ h2, cell_of_row _ _ 2 _ _ _ h2⟩
  have HSym : Hid (∀ (s : List UInt8) (W : World), s.length ≤ maxLen → Below W0.heap.size W0 W → Calls Tryz.prog 29 #[.string (bytesL s)] W (RPost (Own2 NoH w.heap.size) W0 W (symT s))) := fun s W hs hW => (symbol_any _ s W hs).mono fun e w' h => h.r hW
  have HNum : Hid (∀ (n : Int) (W : World), I64 n → Below W0.heap.size W0 W → Calls Tryz.prog 31 #[.int .i64 n] W (RPost (Own2 NoH w.heap.size) W0 W (numT n))) := fun n W hn hW => (numeral_c _ n W hn).mono fun e w' h => h.r hW
  have HRow : Hid (∀ (l : List Tree) (a : Option Addr) (c : Nat) (W : World), l.length ≤ c → c ≤ maxLen → SxLS (Own2 NoH w.heap.size) W l a → Below W0.heap.size W0 W → Calls Tryz.prog 35 #[.slice a l.length c] W (RPost (Own2 NoH w.heap.size) W0 W (rowT l))) := fun l a c W h1 h2 h3 hW => (row_any _ l a c W h1 h2 h3).mono fun e w' h => h.r hW
  have HForm : Hid (∀ (l : List Tree) (a : Option Addr) (c n : Nat) (W : World), n = l.length → l.length ≤ c → c ≤ maxLen → l.length ≤ 100 → SxLS (Own2 NoH w.heap.size) W l a → Below W0.heap.size W0 W → Calls Tryz.prog 28 #[.agg #[.int .i8 12, .string (bytesL x.c.name), .int .i64 x.c.n, .slice x.la x.c.l.length x.lc, .slice x.aa x.c.args.length x.ac, .slice x.pa x.c.params.length x.pc, .string (bytesL x.c.res), .slice x.ta x.c.terms.length x.tc], .slice a n c] W (RPost (Own2 NoH w.heap.size) W0 W (rowT (symT (headsL.getD 12 []) :: l)))) := fun l a c n W hn h1 h2 h3 h4 hW => by
    subst hn
    have hGW : GH W := (hG.below hB0).below hW
    have := form_any (Own2 NoH w.heap.size) x l a c 12 W hGW (fun b hb => Nat.lt_of_lt_of_le (HI2.out b hb) hW.size) hk (by omega) h1 h2 h3 h4
    rw [hk] at this
    exact this.mono fun e w' h => h.r hW
  have HArgs : Hid (∀ W, Below W0.heap.size W0 W → Calls Tryz.prog 32 #[.slice x.aa x.c.args.length x.ac, .func (.func 29) #[] #[]] W (RPost (Own2 NoH w.heap.size) W0 W (rowT (x.c.args.map symT)))) := fun W hW => by
    have hbw := hB0.trans (hW.mono (by omega))
    exact (rowOf_str _ x.c.args x.aa x.ac W (fun b hb => Nat.lt_of_lt_of_le (HI2.out b hb) hW.size) ((hr.aat.at.below hbw).more hbw.size) (by have := hF.a; omega) hF.ai).mono fun e w' h => h.r hW
  have HPars : Hid (∀ W, Below W0.heap.size W0 W → Calls Tryz.prog 33 #[.slice x.pa x.c.params.length x.pc, .func (.func 34) #[] #[]] W (RPost (Own2 NoH w.heap.size) W0 W (rowT (x.c.params.map pairT)))) := fun W hW => by
    have hbw := hB0.trans (hW.mono (by omega))
    exact (rowOf_par _ x.c.params x.pa x.pc W (fun b hb => Nat.lt_of_lt_of_le (HI2.out b hb) hW.size) ((hr.pat.at.below hbw).more hbw.size) (by have := hF.p; omega) hF.pi).mono fun e w' h => h.r hW
  have HSet : Hid (∀ W, Below W0.heap.size W0 W → Calls Tryz.prog 30 #[.agg #[.int .i8 12, .string (bytesL x.c.name), .int .i64 x.c.n, .slice x.la x.c.l.length x.lc, .slice x.aa x.c.args.length x.ac, .slice x.pa x.c.params.length x.pc, .string (bytesL x.c.res), .slice x.ta x.c.terms.length x.tc]] W (RPost (Own2 NoH w.heap.size) W0 W (setT x.c))) := fun W hW => by
    have hbw := hB0.trans (hW.mono (by omega))
    have := setting_any (Own2 NoH w.heap.size) x W (fun b hb => Nat.lt_of_lt_of_le (HI2.out b hb) hW.size) (hr.below hbw) hF.l hF.n hF.li
    rw [hk] at this
    exact this.mono fun e w' h => h.r hW
  have HTerms : Hid (∀ W, Below W0.heap.size W0 W → SxLS (Own2 NoH w.heap.size) W x.c.terms x.ta) := fun W hW => by
    have hbw := hB0.trans (hW.mono (by omega))
    have h0 : SxLS NoH w x.c.terms x.ta := RdL.mono (fun b _ hb => by rcases hb with hb | hb; exact hb.elim; exact hb) _ _ hr.tat
    exact h0.to hbw.size (fun b hlt _ => hbw.block b hlt) (fun b hb => by rcases hb with hb | hb | hb; exact .inl hb; exact .inr (by omega); exact .inr (by omega))
  have HT : Hid (x.c.terms.length ≤ x.tc ∧ x.tc ≤ maxLen ∧ x.c.terms.length ≤ 40) := ⟨hr.tl, hr.tm, hF.t⟩
  have HFair := Lib.hid hF
  have HB0 := Lib.hid hB0
  have HY0 := Lib.hid hY0
  have HR0 := HK8.out W0 (Below.refl _ _)
  have HP : Hid (partsT x.c = []) := by show _ = _; unfold partsT; simp [hk]
  rw [HP.out]
  rw [hk] at HL ⊢
  clear hW0 hB0 hX0 hY0 hr hF hk hG HR0
  go_enter Tryz.func18, Tryz.ntmps18
  go_wp2_with fail
  rw [← HL.out]
  clear HL
  obtain ⟨c0, c1, c2, c3, c4, c5, c6, c7⟩ := HK8.out W0 (Below.refl _ _)
  have fz := fun i => (HFz.out W0 (Below.refl _ _) i).1
  go_wp2_with (first | (go_at_call 28; refine (HForm.out [] none 0 0 _ rfl (by simp) (by simp [maxLen]) (by simp) trivial (Below.refl _ _)).mono ?_; rintro e w9 ⟨s9, hst9, rfl, hs9, hb9, hc9⟩; unfold sexV; have HST9 := Lib.hid hst9; have HS9 := Lib.hid hs9; clear hst9 hs9 hc9; have hx9 := (hb9.block (w.heap.size + 1) (by omega)).trans HY0.out; obtain ⟨d0, d1, d2, fz9, hz9⟩ := cells3b hx9; clear hx9))
  obtain ⟨h1, h2, h3⟩ := list_end hsz HB0.out HY0.out hb9 HS9.out
  refine bodyPost_ret (results_cell_row rfl _ _ (w.heap.size + 1) _ _ _ _ rfl (h1) Tryz.underlying35 rfl sexSize3) rfl ?_
  exact ⟨s9, HST9.out, rfl, h2, h3⟩
end Go.Proofs.YtodonngnigbpaaaGreatDoor
