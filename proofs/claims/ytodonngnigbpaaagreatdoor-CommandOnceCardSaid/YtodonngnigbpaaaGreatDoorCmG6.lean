/- Package command's list. -/
import Derived.Test.YtodonngnigbpaaaGreatDoorCmG
import Derived.Deep.RegionHeldLaw
namespace Go.Proofs.YtodonngnigbpaaaGreatDoor
open Go.RowKit
set_option linter.unusedVariables false
set_option maxRecDepth 100000 in
set_option maxHeartbeats 2000000 in
theorem list_4 (x : CmdV) (w : World) (hG : GH w) (hr : CmdS w x) (hF : Fair x.c) (hk : x.c.kind = 4) :
    Calls Tryz.prog 18 #[.agg #[.int .i8 x.c.kind, .string (bytesL x.c.name), .int .i64 x.c.n, .slice x.la x.c.l.length x.lc, .slice x.aa x.c.args.length x.ac, .slice x.pa x.c.params.length x.pc, .string (bytesL x.c.res), .slice x.ta x.c.terms.length x.tc]] w (SxPost NoH w (rowT (symT (headsL.getD 4 []) :: partsT x.c))) := by
  obtain ⟨W0, hW0⟩ : ∃ W0, W0 = (w.alloc (.cells #[.int .i8 x.c.kind, .string (bytesL x.c.name), .int .i64 x.c.n, .slice x.la x.c.l.length x.lc, .slice x.aa x.c.args.length x.ac, .slice x.pa x.c.params.length x.pc, .string (bytesL x.c.res), .slice x.ta x.c.terms.length x.tc] 28)).alloc zSx := ⟨_, rfl⟩
  obtain ⟨hB0, hX0, hY0, hsz⟩ := boxed hW0
  have HI2 : Hid (In W0 (Own2 NoH w.heap.size)) := own2_in (fun b hb => hb.elim) (by omega)
  have HL : Hid (W0 = (w.alloc (.cells #[.int .i8 x.c.kind, .string (bytesL x.c.name), .int .i64 x.c.n, .slice x.la x.c.l.length x.lc, .slice x.aa x.c.args.length x.ac, .slice x.pa x.c.params.length x.pc, .string (bytesL x.c.res), .slice x.ta x.c.terms.length x.tc] 28)).alloc (.cells #[.int .i8 0, .string ⟨#[]⟩, .slice none 0 0] 35)) := hW0
  have HK8 : Hid (∀ W, Below W0.heap.size W0 W → W.cell? ⟨w.heap.size, 0, none⟩ = some (.int .i8 4) ∧ W.cell? ⟨w.heap.size, 1, none⟩ = some (.string (bytesL x.c.name)) ∧ W.cell? ⟨w.heap.size, 2, none⟩ = some (.int .i64 x.c.n) ∧ W.cell? ⟨w.heap.size, 3, none⟩ = some (.slice x.la x.c.l.length x.lc) ∧ W.cell? ⟨w.heap.size, 4, none⟩ = some (.slice x.aa x.c.args.length x.ac) ∧ W.cell? ⟨w.heap.size, 5, none⟩ = some (.slice x.pa x.c.params.length x.pc) ∧ W.cell? ⟨w.heap.size, 6, none⟩ = some (.string (bytesL x.c.res)) ∧ W.cell? ⟨w.heap.size, 7, none⟩ = some (.slice x.ta x.c.terms.length x.tc)) := fun W hW => by
    have hb : Box8 W w.heap.size x := (hW.block _ (by omega)).trans hX0
    have h := hb.cells
    rw [hk] at h
    exact h
  have HKS : Hid (∀ W0', Below W0.heap.size W0 W0' → ∀ v0 v1 v2 W, W = ((W0'.setCell ⟨w.heap.size + 1, 0, none⟩ v0).setCell ⟨w.heap.size + 1, 1, none⟩ v1).setCell ⟨w.heap.size + 1, 2, none⟩ v2 → W.cell? ⟨w.heap.size, 0, none⟩ = some (.int .i8 4) ∧ W.cell? ⟨w.heap.size, 1, none⟩ = some (.string (bytesL x.c.name)) ∧ W.cell? ⟨w.heap.size, 2, none⟩ = some (.int .i64 x.c.n) ∧ W.cell? ⟨w.heap.size, 3, none⟩ = some (.slice x.la x.c.l.length x.lc) ∧ W.cell? ⟨w.heap.size, 4, none⟩ = some (.slice x.aa x.c.args.length x.ac) ∧ W.cell? ⟨w.heap.size, 5, none⟩ = some (.slice x.pa x.c.params.length x.pc) ∧ W.cell? ⟨w.heap.size, 6, none⟩ = some (.string (bytesL x.c.res)) ∧ W.cell? ⟨w.heap.size, 7, none⟩ = some (.slice x.ta x.c.terms.length x.tc)) := fun W0' hW v0 v1 v2 W hWe => by
    subst hWe
    have hne : w.heap.size ≠ w.heap.size + 1 := by omega
    have hb : Box8 (((W0'.setCell ⟨w.heap.size + 1, 0, none⟩ v0).setCell ⟨w.heap.size + 1, 1, none⟩ v1).setCell ⟨w.heap.size + 1, 2, none⟩ v2) w.heap.size x := (((Below.heap_setCell _ _ _ _ hne).trans (Below.heap_setCell _ _ _ _ hne)).trans (Below.heap_setCell _ _ _ _ hne)).trans ((hW.block _ (by omega)).trans hX0)
    have h := hb.cells
    rw [hk] at h
    exact h
  have HFz : Hid (∀ W, Below W0.heap.size W0 W → ∀ i, W.frozen? ⟨w.heap.size, i, none⟩ = false ∧ W.frozen? ⟨w.heap.size + 1, i, none⟩ = false) := fun W hW i => by
    have h1 := (hW.block w.heap.size (by omega)).trans hX0
    have h2 := (hW.block (w.heap.size + 1) (by omega)).trans hY0
    exact ⟨by simp [World.frozen?, h1], by simp [World.frozen?, h2, zSx]⟩
  have HZ3 : Hid (∀ W, Below W0.heap.size W0 W → W.cell? ⟨w.heap.size + 1, 0, none⟩ = some (.int .i8 0) ∧ W.cell? ⟨w.heap.size + 1, 1, none⟩ = some (.string ⟨#[]⟩) ∧ W.cell? ⟨w.heap.size + 1, 2, none⟩ = some (.slice none 0 0)) := fun W hW => by
    have h2 : W.heap[w.heap.size + 1]? = some zSx := (hW.block (w.heap.size + 1) (by omega)).trans hY0
    exact ⟨cell_of_row _ _ 0 _ _ _ h2, cell_of_row _ _ 1 _ _ _ h2, cell_of_row _ _ 2 _ _ _ h2⟩
  have HSym : Hid (∀ (s : List UInt8) (W : World), s.length ≤ maxLen → Below W0.heap.size W0 W → Calls Tryz.prog 29 #[.string (bytesL s)] W (RPost (Own2 NoH w.heap.size) W0 W (symT s))) := fun s W hs hW => (symbol_any _ s W hs).mono fun e w' h => h.r hW
  have HNum : Hid (∀ (n : Int) (W : World), I64 n → Below W0.heap.size W0 W → Calls Tryz.prog 31 #[.int .i64 n] W (RPost (Own2 NoH w.heap.size) W0 W (numT n))) := fun n W hn hW => (numeral_c _ n W hn).mono fun e w' h => h.r hW
  have HRow : Hid (∀ (l : List Tree) (a : Option Addr) (c : Nat) (W : World), l.length ≤ c → c ≤ maxLen → SxLS (Own2 NoH w.heap.size) W l a → Below W0.heap.size W0 W → Calls Tryz.prog 35 #[.slice a l.length c] W (RPost (Own2 NoH w.heap.size) W0 W (rowT l))) := fun l a c W h1 h2 h3 hW => (row_any _ l a c W h1 h2 h3).mono fun e w' h => h.r hW
  have HForm : Hid (∀ (l : List Tree) (a : Option Addr) (c n : Nat) (W : World), n = l.length → l.length ≤ c → c ≤ maxLen → l.length ≤ 100 → SxLS (Own2 NoH w.heap.size) W l a → Below W0.heap.size W0 W → Calls Tryz.prog 28 #[.agg #[.int .i8 4, .string (bytesL x.c.name), .int .i64 x.c.n, .slice x.la x.c.l.length x.lc, .slice x.aa x.c.args.length x.ac, .slice x.pa x.c.params.length x.pc, .string (bytesL x.c.res), .slice x.ta x.c.terms.length x.tc], .slice a n c] W (RPost (Own2 NoH w.heap.size) W0 W (rowT (symT (headsL.getD 4 []) :: l)))) := fun l a c n W hn h1 h2 h3 h4 hW => by
    subst hn
    have hGW : GH W := (hG.below hB0).below hW
    have := form_any (Own2 NoH w.heap.size) x l a c 4 W hGW (fun b hb => Nat.lt_of_lt_of_le (HI2.out b hb) hW.size) hk (by omega) h1 h2 h3 h4
    rw [hk] at this
    exact this.mono fun e w' h => h.r hW
  have HArgs : Hid (∀ W, Below W0.heap.size W0 W → Calls Tryz.prog 32 #[.slice x.aa x.c.args.length x.ac, .func (.func 29) #[] #[]] W (RPost (Own2 NoH w.heap.size) W0 W (rowT (x.c.args.map symT)))) := fun W hW => by
    have hbw := hB0.trans (hW.mono (by omega))
    exact (rowOf_str _ x.c.args x.aa x.ac W (fun b hb => Nat.lt_of_lt_of_le (HI2.out b hb) hW.size) ((hr.aat.at.below hbw).more hbw.size) (by have := hF.a; omega) hF.ai).mono fun e w' h => h.r hW
  have HPars : Hid (∀ W, Below W0.heap.size W0 W → Calls Tryz.prog 33 #[.slice x.pa x.c.params.length x.pc, .func (.func 34) #[] #[]] W (RPost (Own2 NoH w.heap.size) W0 W (rowT (x.c.params.map pairT)))) := fun W hW => by
    have hbw := hB0.trans (hW.mono (by omega))
    exact (rowOf_par _ x.c.params x.pa x.pc W (fun b hb => Nat.lt_of_lt_of_le (HI2.out b hb) hW.size) ((hr.pat.at.below hbw).more hbw.size) (by have := hF.p; omega) hF.pi).mono fun e w' h => h.r hW
  have HSet : Hid (∀ W, Below W0.heap.size W0 W → Calls Tryz.prog 30 #[.agg #[.int .i8 4, .string (bytesL x.c.name), .int .i64 x.c.n, .slice x.la x.c.l.length x.lc, .slice x.aa x.c.args.length x.ac, .slice x.pa x.c.params.length x.pc, .string (bytesL x.c.res), .slice x.ta x.c.terms.length x.tc]] W (RPost (Own2 NoH w.heap.size) W0 W (setT x.c))) := fun W hW => by
    have hbw := hB0.trans (hW.mono (by omega))
    have := setting_any (Own2 NoH w.heap.size) x W (fun b hb => Nat.lt_of_lt_of_le (HI2.out b hb) hW.size) (hr.below hbw) hF.l hF.n hF.li
    rw [hk] at this
    exact this.mono fun e w' h => h.r hW
  have HTerms : Hid (∀ W, Below W0.heap.size W0 W → SxLS (Own2 NoH w.heap.size) W x.c.terms x.ta) := fun W hW => by
    have hbw := hB0.trans (hW.mono (by omega))
    have h0 : SxLS NoH w x.c.terms x.ta := RdL.mono (fun b _ hb => by rcases hb with hb | hb; exact hb.elim; exact hb) _ _ hr.tat
    exact h0.to hbw.size (fun b hlt _ => hbw.block b hlt) (fun b hb => by rcases hb with hb | hb | hb; exact .inl hb; exact .inr (by omega); exact .inr (by omega))
  have HT : Hid (x.c.terms.length ≤ x.tc ∧ x.tc ≤ maxLen ∧ x.c.terms.length ≤ 40) := ⟨hr.tl, hr.tm, hF.t⟩
  have HFair := Lib.hid hF
  have HB0 := Lib.hid hB0
  have HY0 := Lib.hid hY0
  have HR0 := HK8.out W0 (Below.refl _ _)
  have HP : Hid (partsT x.c = [symT x.c.name, rowT (x.c.params.map pairT), symT x.c.res] ++ x.c.terms) := by show _ = _; unfold partsT; simp [hk]
  rw [HP.out]
  rw [hk] at HL ⊢
  clear hW0 hB0 hX0 hY0 hr hF hk hG HR0
  go_enter Tryz.func18, Tryz.ntmps18
  go_wp2_with fail
  rw [← HL.out]
  clear HL
  obtain ⟨c0, c1, c2, c3, c4, c5, c6, c7⟩ := HK8.out W0 (Below.refl _ _)
  have fz := fun i => (HFz.out W0 (Below.refl _ _) i).1
  go_region_held3 (fun W => W.cell? ⟨w.heap.size, 0, none⟩ = some (.int .i8 4) ∧ W.cell? ⟨w.heap.size, 1, none⟩ = some (.string (bytesL x.c.name)) ∧ W.cell? ⟨w.heap.size, 2, none⟩ = some (.int .i64 x.c.n) ∧ W.cell? ⟨w.heap.size, 3, none⟩ = some (.slice x.la x.c.l.length x.lc) ∧ W.cell? ⟨w.heap.size, 4, none⟩ = some (.slice x.aa x.c.args.length x.ac) ∧ W.cell? ⟨w.heap.size, 5, none⟩ = some (.slice x.pa x.c.params.length x.pc) ∧ W.cell? ⟨w.heap.size, 6, none⟩ = some (.string (bytesL x.c.res)) ∧ W.cell? ⟨w.heap.size, 7, none⟩ = some (.slice x.ta x.c.terms.length x.tc))
    (first | exact HK8.out _ (by assumption) | exact HK8.out _ (Below.refl _ _) | exact HK8.out _ (Below.refl _ _).drew | exact HK8.out _ (ball (by assumption) _) | exact HKS.out _ (by assumption) _ _ _ _ rfl)
    (first | (go_at_call 29; refine (HSym.out _ _ HFair.out.name (by first | assumption | exact Below.drew (by assumption) | exact (Below.refl _ _).drew | exact Below.refl _ _)).mono ?_; rintro e w1 ⟨s1, hst1, rfl, hs1, hb1, hc1⟩; unfold sexV; have HST1 := Lib.hid hst1; have HS1 := Lib.hid hs1; clear hst1 hs1 hc1) | (go_at_call 33; refine (HPars.out _ (by first | assumption | exact Below.drew (by assumption) | exact (Below.refl _ _).drew | exact Below.refl _ _)).mono ?_; rintro e w2 ⟨s2, hst2, rfl, hs2, hb2, hc2⟩; unfold sexV; have HST2 := Lib.hid hst2; have HS2 := Lib.hid hs2; have HS1_2 := Lib.hid (HS1.out.below (by first | exact hc2 | exact (Below.refl _ _).drew.trans hc2)); clear hst2 hs2 hc2) | (go_at_call 29; refine (HSym.out _ _ HFair.out.res (by first | assumption | exact Below.drew (by assumption) | exact (Below.refl _ _).drew | exact Below.refl _ _)).mono ?_; rintro e w3 ⟨s3, hst3, rfl, hs3, hb3, hc3⟩; unfold sexV; have HST3 := Lib.hid hst3; have HS3 := Lib.hid hs3; have HS1_3 := Lib.hid (HS1_2.out.below (by first | exact hc3 | exact (Below.refl _ _).drew.trans hc3)); have HS2_3 := Lib.hid (HS2.out.below (by first | exact hc3 | exact (Below.refl _ _).drew.trans hc3)); clear hst3 hs3 hc3))
  go_wp2
  generalize hW4 : w3.alloc _ = W4
  have hlit : Below W0.heap.size W0 W4 ∧ SxLS (Own2 NoH w.heap.size) W4 [symT x.c.name, rowT (x.c.params.map pairT), symT x.c.res] (some ⟨w3.heap.size, 0, none⟩) := by
    rw [← hW4]
    exact lit3 HST1.out HST2.out HST3.out HI2.out hb3 HS1_3.out HS2_3.out HS3.out
  have hown : W4.ownsRow W0.heap.size 35 3 (.slice (some ⟨w3.heap.size, 0, none⟩) 3 3) 3 ([s1, s2, s3].flatMap sexC) := by
    rw [← hW4]
    exact World.ownsRow_lit (base := W0.heap.size) (e := 35) (size := 3) w3 (sexC s1 ++ sexC s2 ++ sexC s3).toArray 3 hb3.size (by simp [maxLen]) rfl
  have HB3 := Lib.hid hb3
  have hs3sz : W0.heap.size ≤ w3.heap.size := hb3.size
  have HW34a : Below w3.heap.size w3 W4 := by rw [← hW4]; exact (Below.refl _ _).alloc (Nat.le_refl _) _
  have hw34 : W4.heap.size = w3.heap.size + 1 := by rw [← hW4]; simp
  have HLit := Lib.hid hlit
  have HOwn := Lib.hid hown
  obtain ⟨ps, hps, hat, hpr⟩ := rdl_vals x.c.terms x.ta (HTerms.out _ hb3)
  have hpl : ps.length = x.c.terms.length := by rw [← hps, List.length_map]
  have h40 := HT.out.2.2
  clear hW4 hlit hown c0 c1 c2 c3 c4 c5 c6 c7 fz
  obtain ⟨c0, c1, c2, c3, c4, c5, c6, c7⟩ := HK8.out W4 HLit.out.1
  have fz := fun i => (HFz.out W4 HLit.out.1 i).1
  obtain ⟨i0, hi, hz0, hz1, hz2⟩ := info_parts info_sex
  have HPR := Lib.hid hpr
  have HPS := Lib.hid hps
  clear hps hpr hb1 hb2 hb3
  have HST1r : Hid ([s1, s2, s3].map (·.t) = [symT x.c.name, rowT (x.c.params.map pairT), symT x.c.res]) := by show _ = _; simp [HST1.out, HST2.out, HST3.out]
  have HROW : Hid (∀ (w4 : World) (v : Value) (n : Nat), Below w3.heap.size w3 w4 → w4.ownsRow W0.heap.size 35 3 v n (([s1, s2, s3] ++ ps).flatMap sexC) → (∀ s ∈ [s1, s2, s3], SxS (Own2 NoH w.heap.size) w3 s.t (sexV s)) →
      ∃ a' c', v = .slice a' n c' ∧ n = ([symT x.c.name, rowT (x.c.params.map pairT), symT x.c.res] ++ x.c.terms).length ∧ n ≤ c' ∧ c' ≤ maxLen ∧ SxLS (Own2 NoH w.heap.size) w4 ([symT x.c.name, rowT (x.c.params.map pairT), symT x.c.res] ++ x.c.terms) a') := by
    intro w4 v n hb4 hown hs0
    have hn : n = ([s1, s2, s3] ++ ps).length := by
      have := hown.1
      rw [len_flat sexC_len] at this
      omega
    obtain ⟨a', c', e, q1, q2, q3⟩ := own_rdl (bad := fun b => Own2 NoH w.heap.size b ∨ w4.heap.size ≤ b) hown hn (fun g hg hcl hb => by
      obtain ⟨cs, ty, hcl⟩ := hcl
      have hlt := (Array.getElem?_eq_some_iff.1 hcl).1
      rcases hb with hb | hb
      · have := HI2.out g hb; omega
      · omega) (fun s hs => by
      rcases List.mem_append.1 hs with hs | hs
      · exact (hs0 s hs).below hb4
      · have hq : SxS (Own2 NoH w.heap.size) w3 s.t (sexV s) := HPR.out s hs
        exact hq.below hb4)
    refine ⟨a', c', by rw [e, hn], by rw [hn]; simp [hpl], by rw [hn]; exact q1, q2, ?_⟩
    have e2 : ([s1, s2, s3] ++ ps).map (·.t) = [symT x.c.name, rowT (x.c.params.map pairT), symT x.c.res] ++ x.c.terms := by rw [List.map_append, HPS.out, HST1r.out]
    rw [← e2]
    exact q3
  have HW34 : Hid (Below w3.heap.size w3 W4) := HW34a
  have HS0 : Hid (∀ s ∈ [s1, s2, s3], SxS (Own2 NoH w.heap.size) w3 s.t (sexV s)) := by
    intro s hs
    have hx : ∀ (q : SexV) (t : Tree), q.t = t → SxS (Own2 NoH w.heap.size) w3 t (sexV q) → SxS (Own2 NoH w.heap.size) w3 q.t (sexV q) := fun q t hq h => by
      rw [hq]
      exact h
    simp only [List.mem_cons, List.not_mem_nil, or_false] at hs
    rcases hs with rfl | rfl | rfl
    · exact hx _ _ HST1.out HS1_3.out
    · exact hx _ _ HST2.out HS2_3.out
    · exact hx _ _ HST3.out HS3.out
  have hY4 : W4.heap[w.heap.size + 1]? = some zSx := (HLit.out.1.block _ (by omega)).trans HY0.out
  have HY4 := Lib.hid hY4
  clear hY4
  have HFm : Hid (∀ (w4 : World) (v : Value) (n : Nat), Below w3.heap.size w3 w4 → w4.ownsRow W0.heap.size 35 3 v n (([s1, s2, s3] ++ ps).flatMap sexC) → ∃ a' c', v = .slice a' n c' ∧ Calls Tryz.prog 28 #[.agg #[.int .i8 4, .string (bytesL x.c.name), .int .i64 x.c.n, .slice x.la x.c.l.length x.lc, .slice x.aa x.c.args.length x.ac, .slice x.pa x.c.params.length x.pc, .string (bytesL x.c.res), .slice x.ta x.c.terms.length x.tc], .slice a' n c'] w4 (RPost (Own2 NoH w.heap.size) W0 w4 (rowT (symT (headsL.getD 4 []) :: ([symT x.c.name, rowT (x.c.params.map pairT), symT x.c.res] ++ x.c.terms))))) := fun w4 v n hb4 hown => by
    obtain ⟨a', c', e, q0, q1, q2, q3⟩ := HROW.out w4 v n hb4 hown HS0.out
    exact ⟨a', c', e, HForm.out _ a' c' n w4 q0 (by rw [← q0]; exact q1) q2 (by simp; omega) q3 (HB3.out.trans (hb4.mono (by omega)))⟩
  have hdr : Below W4.heap.size W4 W4.drew := (Below.refl _ _).drew
  have HAPP : ∃ (a' : Option Addr) (c' n : Nat) (w4 : World), (Builtin.append_ #[26, 26] 26 #[.slice (some ⟨w3.heap.size, 0, none⟩) 3 3, .slice x.ta x.c.terms.length x.tc]).run Tryz.prog W4.drew = .ok (.slice a' n c') w4 ∧ Below w3.heap.size w3 w4 ∧ Calls Tryz.prog 28 #[.agg #[.int .i8 4, .string (bytesL x.c.name), .int .i64 x.c.n, .slice x.la x.c.l.length x.lc, .slice x.aa x.c.args.length x.ac, .slice x.pa x.c.params.length x.pc, .string (bytesL x.c.res), .slice x.ta x.c.terms.length x.tc], .slice a' n c'] w4 (RPost (Own2 NoH w.heap.size) W0 w4 (rowT (symT (headsL.getD 4 []) :: ([symT x.c.name, rowT (x.c.params.map pairT), symT x.c.res] ++ x.c.terms)))) := by
    have ho := own_below HOwn.out hdr
    cases hta : x.ta with
    | none =>
      rw [hta] at hat
      have h0 : x.c.terms.length = 0 := by
        rcases Nat.eq_zero_or_pos x.c.terms.length with h | h
        · exact h
        · obtain ⟨g, o, e, _⟩ := hat (by rw [len_flat sexC_len]; omega)
          cases e
      have hps0 : ps = [] := List.eq_nil_of_length_eq_zero (by omega)
      subst hps0
      obtain ⟨a', c', e, hc⟩ := HFm.out W4.drew _ 3 HW34.out.drew (by simpa using ho)
      cases e
      rw [h0]
      rw [hta, h0] at hc
      refine ⟨some ⟨w3.heap.size, 0, none⟩, 3, 3, W4.drew, ?_, HW34.out.drew, hc⟩
      exact app_nil Tryz.underlying26 hi _ 3 3 _ (Nat.le_refl _) _
    | some ad =>
      rw [hta] at hat
      have hcl : ∀ j u, (ps.flatMap sexC)[j]? = some u → W4.drew.cell? (ad.add j) = some u := fun j u hu => by
        obtain ⟨g, o, e, hg, hcell⟩ := hat (by have := (List.getElem?_eq_some_iff.1 hu).1; omega)
        cases e
        exact (HW34.out.drew.cell (World.block_lt_of_cell? w3 _ (at_add hcell j u hu))).trans (at_add hcell j u hu)
      obtain ⟨v', w4, hr, hown', hgrow, _, _⟩ := run_append_own_at (P := Tryz.prog) W4.drew W0.heap.size 26 26 35 i0 _ 3 48 Tryz.underlying26 hi hz0 hz1 hz2 rfl (by decide) _ 3 _ ho ad x.c.terms.length x.tc (ps.flatMap sexC) (by rw [len_flat sexC_len, hpl]) hcl (one_sex ps) (by simp only [maxLen]; omega) (by omega) (by show _ ≤ W4.heap.size; omega)
      have hb4 : Below w3.heap.size w3 w4 := HW34.out.drew.grown hgrow (by show _ ≤ W4.heap.size; omega) (fun q e => by cases e; exact Nat.le_refl _)
      obtain ⟨a', c', e, hc⟩ := HFm.out w4 v' (3 + x.c.terms.length) hb4 (by rw [List.flatMap_append]; exact hown')
      subst e
      rw [hta] at hc
      exact ⟨a', c', _, w4, hr, hb4, hc⟩
  obtain ⟨a4, c4', n4, w4, hrun, hb4, hform⟩ := HAPP
  have HRun := Lib.hid hrun
  have HFo := Lib.hid hform
  have HB4 := Lib.hid hb4
  have HB04 : Hid (Below W0.heap.size W0 w4) := HB3.out.trans (hb4.mono (by omega))
  have HLB := Lib.hid HLit.out.1
  clear hrun hform hb4 hat hpl h40 HROW HFm HS0 HOwn hw34 hdr
  go_region_held_law (fun W => W.cell? ⟨w.heap.size, 0, none⟩ = some (.int .i8 4) ∧ W.cell? ⟨w.heap.size, 1, none⟩ = some (.string (bytesL x.c.name)) ∧ W.cell? ⟨w.heap.size, 2, none⟩ = some (.int .i64 x.c.n) ∧ W.cell? ⟨w.heap.size, 3, none⟩ = some (.slice x.la x.c.l.length x.lc) ∧ W.cell? ⟨w.heap.size, 4, none⟩ = some (.slice x.aa x.c.args.length x.ac) ∧ W.cell? ⟨w.heap.size, 5, none⟩ = some (.slice x.pa x.c.params.length x.pc) ∧ W.cell? ⟨w.heap.size, 6, none⟩ = some (.string (bytesL x.c.res)) ∧ W.cell? ⟨w.heap.size, 7, none⟩ = some (.slice x.ta x.c.terms.length x.tc))
    (first | exact HK8.out _ HLB.out | exact HK8.out _ HLB.out.drew | exact HK8.out _ HB04.out | exact HK8.out _ (by assumption) | exact HKS.out _ (by assumption) _ _ _ _ rfl)
    (first | (refine step_run _ (by rfl) _ _ _ (by rfl) _ _ (by rfl) (by rfl) _ (by rfl) HRun.out ?_) | (go_at_call 28; refine HFo.out.mono ?_; rintro e w9 ⟨s9, hst9, rfl, hs9, hb9, hc9⟩; unfold sexV; have HST9 := Lib.hid hst9; have HS9 := Lib.hid hs9; clear hst9 hs9 hc9; have hx9 := (hb9.block (w.heap.size + 1) (by omega)).trans HY0.out; obtain ⟨d0, d1, d2, fz9, hz9⟩ := cells3b hx9; clear hx9))
  go_wp2
  obtain ⟨h1, h2, h3⟩ := list_end hsz HB0.out HY0.out hb9 HS9.out
  refine bodyPost_ret (results_cell_row rfl _ _ (w.heap.size + 1) _ _ _ _ rfl (h1) Tryz.underlying35 rfl sexSize3) rfl ?_
  exact ⟨s9, HST9.out, rfl, h2, h3⟩
end Go.Proofs.YtodonngnigbpaaaGreatDoor
namespace Go.Proofs.YtodonngnigbpaaaGreatDoor
open Go.RowKit
set_option linter.unusedVariables false
set_option maxRecDepth 100000 in
set_option maxHeartbeats 8000000 in
theorem list_6 (x : CmdV) (w : World) (hG : GH w) (hr : CmdS w x) (hF : Fair x.c) (hk : x.c.kind = 6) :
    Calls Tryz.prog 18 #[.agg #[.int .i8 x.c.kind, .string (bytesL x.c.name), .int .i64 x.c.n, .slice x.la x.c.l.length x.lc, .slice x.aa x.c.args.length x.ac, .slice x.pa x.c.params.length x.pc, .string (bytesL x.c.res), .slice x.ta x.c.terms.length x.tc]] w (SxPost NoH w (rowT (symT (headsL.getD 6 []) :: partsT x.c))) := by
  obtain ⟨W0, hW0⟩ : ∃ W0, W0 = (w.alloc (.cells #[.int .i8 x.c.kind, .string (bytesL x.c.name), .int .i64 x.c.n, .slice x.la x.c.l.length x.lc, .slice x.aa x.c.args.length x.ac, .slice x.pa x.c.params.length x.pc, .string (bytesL x.c.res), .slice x.ta x.c.terms.length x.tc] 28)).alloc zSx := ⟨_, rfl⟩
  obtain ⟨hB0, hX0, hY0, hsz⟩ := boxed hW0
  have HI2 : Hid (In W0 (Own2 NoH w.heap.size)) := own2_in (fun b hb => hb.elim) (by omega)
  have HL : Hid (W0 = (w.alloc (.cells #[.int .i8 x.c.kind, .string (bytesL x.c.name), .int .i64 x.c.n, .slice x.la x.c.l.length x.lc, .slice x.aa x.c.args.length x.ac, .slice x.pa x.c.params.length x.pc, .string (bytesL x.c.res), .slice x.ta x.c.terms.length x.tc] 28)).alloc (.cells #[.int .i8 0, .string ⟨#[]⟩, .slice none 0 0] 35)) := hW0
  have HK8 : Hid (∀ W, Below W0.heap.size W0 W → W.cell? ⟨w.heap.size, 0, none⟩ = some (.int .i8 6) ∧ W.cell? ⟨w.heap.size, 1, none⟩ = some (.string (bytesL x.c.name)) ∧ W.cell? ⟨w.heap.size, 2, none⟩ = some (.int .i64 x.c.n) ∧ W.cell? ⟨w.heap.size, 3, none⟩ = some (.slice x.la x.c.l.length x.lc) ∧ W.cell? ⟨w.heap.size, 4, none⟩ = some (.slice x.aa x.c.args.length x.ac) ∧ W.cell? ⟨w.heap.size, 5, none⟩ = some (.slice x.pa x.c.params.length x.pc) ∧ W.cell? ⟨w.heap.size, 6, none⟩ = some (.string (bytesL x.c.res)) ∧ W.cell? ⟨w.heap.size, 7, none⟩ = some (.slice x.ta x.c.terms.length x.tc)) := fun W hW => by
    have hb : Box8 W w.heap.size x := (hW.block _ (by omega)).trans hX0
    have h := hb.cells
    rw [hk] at h
    exact h
  have HKS : Hid (∀ W0', Below W0.heap.size W0 W0' → ∀ v0 v1 v2 W, W = ((W0'.setCell ⟨w.heap.size + 1, 0, none⟩ v0).setCell ⟨w.heap.size + 1, 1, none⟩ v1).setCell ⟨w.heap.size + 1, 2, none⟩ v2 → W.cell? ⟨w.heap.size, 0, none⟩ = some (.int .i8 6) ∧ W.cell? ⟨w.heap.size, 1, none⟩ = some (.string (bytesL x.c.name)) ∧ W.cell? ⟨w.heap.size, 2, none⟩ = some (.int .i64 x.c.n) ∧ W.cell? ⟨w.heap.size, 3, none⟩ = some (.slice x.la x.c.l.length x.lc) ∧ W.cell? ⟨w.heap.size, 4, none⟩ = some (.slice x.aa x.c.args.length x.ac) ∧ W.cell? ⟨w.heap.size, 5, none⟩ = some (.slice x.pa x.c.params.length x.pc) ∧ W.cell? ⟨w.heap.size, 6, none⟩ = some (.string (bytesL x.c.res)) ∧ W.cell? ⟨w.heap.size, 7, none⟩ = some (.slice x.ta x.c.terms.length x.tc)) := fun W0' hW v0 v1 v2 W hWe => by
    subst hWe
    have hne : w.heap.size ≠ w.heap.size + 1 := by omega
    have hb : Box8 (((W0'.setCell ⟨w.heap.size + 1, 0, none⟩ v0).setCell ⟨w.heap.size + 1, 1, none⟩ v1).setCell ⟨w.heap.size + 1, 2, none⟩ v2) w.heap.size x := (((Below.heap_setCell _ _ _ _ hne).trans (Below.heap_setCell _ _ _ _ hne)).trans (Below.heap_setCell _ _ _ _ hne)).trans ((hW.block _ (by omega)).trans hX0)
    have h := hb.cells
    rw [hk] at h
    exact h
  have HFz : Hid (∀ W, Below W0.heap.size W0 W → ∀ i, W.frozen? ⟨w.heap.size, i, none⟩ = false ∧ W.frozen? ⟨w.heap.size + 1, i, none⟩ = false) := fun W hW i => by
    have h1 := (hW.block w.heap.size (by omega)).trans hX0
    have h2 := (hW.block (w.heap.size + 1) (by omega)).trans hY0
    exact ⟨by simp [World.frozen?, h1], by simp [World.frozen?, h2, zSx]⟩
  have HZ3 : Hid (∀ W, Below W0.heap.size W0 W → W.cell? ⟨w.heap.size + 1, 0, none⟩ = some (.int .i8 0) ∧ W.cell? ⟨w.heap.size + 1, 1, none⟩ = some (.string ⟨#[]⟩) ∧ W.cell? ⟨w.heap.size + 1, 2, none⟩ = some (.slice none 0 0)) := fun W hW => by
    have h2 : W.heap[w.heap.size + 1]? = some zSx := (hW.block (w.heap.size + 1) (by omega)).trans hY0
    exact ⟨cell_of_row _ _ 0 _ _ _ h2, cell_of_row _ _ 1 _ _ _ h2, cell_of_row _ _ 2 _ _ _ h2⟩
  have HSym : Hid (∀ (s : List UInt8) (W : World), s.length ≤ maxLen → Below W0.heap.size W0 W → Calls Tryz.prog 29 #[.string (bytesL s)] W (RPost (Own2 NoH w.heap.size) W0 W (symT s))) := fun s W hs hW => (symbol_any _ s W hs).mono fun e w' h => h.r hW
  have HNum : Hid (∀ (n : Int) (W : World), I64 n → Below W0.heap.size W0 W → Calls Tryz.prog 31 #[.int .i64 n] W (RPost (Own2 NoH w.heap.size) W0 W (numT n))) := fun n W hn hW => (numeral_c _ n W hn).mono fun e w' h => h.r hW
  have HRow : Hid (∀ (l : List Tree) (a : Option Addr) (c : Nat) (W : World), l.length ≤ c → c ≤ maxLen → SxLS (Own2 NoH w.heap.size) W l a → Below W0.heap.size W0 W → Calls Tryz.prog 35 #[.slice a l.length c] W (RPost (Own2 NoH w.heap.size) W0 W (rowT l))) := fun l a c W h1 h2 h3 hW => (row_any _ l a c W h1 h2 h3).mono fun e w' h => h.r hW
  have HForm : Hid (∀ (l : List Tree) (a : Option Addr) (c n : Nat) (W : World), n = l.length → l.length ≤ c → c ≤ maxLen → l.length ≤ 100 → SxLS (Own2 NoH w.heap.size) W l a → Below W0.heap.size W0 W → Calls Tryz.prog 28 #[.agg #[.int .i8 6, .string (bytesL x.c.name), .int .i64 x.c.n, .slice x.la x.c.l.length x.lc, .slice x.aa x.c.args.length x.ac, .slice x.pa x.c.params.length x.pc, .string (bytesL x.c.res), .slice x.ta x.c.terms.length x.tc], .slice a n c] W (RPost (Own2 NoH w.heap.size) W0 W (rowT (symT (headsL.getD 6 []) :: l)))) := fun l a c n W hn h1 h2 h3 h4 hW => by
    subst hn
    have hGW : GH W := (hG.below hB0).below hW
    have := form_any (Own2 NoH w.heap.size) x l a c 6 W hGW (fun b hb => Nat.lt_of_lt_of_le (HI2.out b hb) hW.size) hk (by omega) h1 h2 h3 h4
    rw [hk] at this
    exact this.mono fun e w' h => h.r hW
  have HArgs : Hid (∀ W, Below W0.heap.size W0 W → Calls Tryz.prog 32 #[.slice x.aa x.c.args.length x.ac, .func (.func 29) #[] #[]] W (RPost (Own2 NoH w.heap.size) W0 W (rowT (x.c.args.map symT)))) := fun W hW => by
    have hbw := hB0.trans (hW.mono (by omega))
    exact (rowOf_str _ x.c.args x.aa x.ac W (fun b hb => Nat.lt_of_lt_of_le (HI2.out b hb) hW.size) ((hr.aat.at.below hbw).more hbw.size) (by have := hF.a; omega) hF.ai).mono fun e w' h => h.r hW
  have HPars : Hid (∀ W, Below W0.heap.size W0 W → Calls Tryz.prog 33 #[.slice x.pa x.c.params.length x.pc, .func (.func 34) #[] #[]] W (RPost (Own2 NoH w.heap.size) W0 W (rowT (x.c.params.map pairT)))) := fun W hW => by
    have hbw := hB0.trans (hW.mono (by omega))
    exact (rowOf_par _ x.c.params x.pa x.pc W (fun b hb => Nat.lt_of_lt_of_le (HI2.out b hb) hW.size) ((hr.pat.at.below hbw).more hbw.size) (by have := hF.p; omega) hF.pi).mono fun e w' h => h.r hW
  have HSet : Hid (∀ W, Below W0.heap.size W0 W → Calls Tryz.prog 30 #[.agg #[.int .i8 6, .string (bytesL x.c.name), .int .i64 x.c.n, .slice x.la x.c.l.length x.lc, .slice x.aa x.c.args.length x.ac, .slice x.pa x.c.params.length x.pc, .string (bytesL x.c.res), .slice x.ta x.c.terms.length x.tc]] W (RPost (Own2 NoH w.heap.size) W0 W (setT x.c))) := fun W hW => by
    have hbw := hB0.trans (hW.mono (by omega))
    have := setting_any (Own2 NoH w.heap.size) x W (fun b hb => Nat.lt_of_lt_of_le (HI2.out b hb) hW.size) (hr.below hbw) hF.l hF.n hF.li
    rw [hk] at this
    exact this.mono fun e w' h => h.r hW
  have HTerms : Hid (∀ W, Below W0.heap.size W0 W → SxLS (Own2 NoH w.heap.size) W x.c.terms x.ta) := fun W hW => by
    have hbw := hB0.trans (hW.mono (by omega))
    have h0 : SxLS NoH w x.c.terms x.ta := RdL.mono (fun b _ hb => by rcases hb with hb | hb; exact hb.elim; exact hb) _ _ hr.tat
    exact h0.to hbw.size (fun b hlt _ => hbw.block b hlt) (fun b hb => by rcases hb with hb | hb | hb; exact .inl hb; exact .inr (by omega); exact .inr (by omega))
  have HT : Hid (x.c.terms.length ≤ x.tc ∧ x.tc ≤ maxLen ∧ x.c.terms.length ≤ 40) := ⟨hr.tl, hr.tm, hF.t⟩
  have HFair := Lib.hid hF
  have HB0 := Lib.hid hB0
  have HY0 := Lib.hid hY0
  have HR0 := HK8.out W0 (Below.refl _ _)
  have HP : Hid (partsT x.c = [numT x.c.n]) := by show _ = _; unfold partsT; simp [hk]
  rw [HP.out]
  rw [hk] at HL ⊢
  clear hW0 hB0 hX0 hY0 hr hF hk hG HR0
  go_enter Tryz.func18, Tryz.ntmps18
  go_wp2_with fail
  rw [← HL.out]
  clear HL
  obtain ⟨c0, c1, c2, c3, c4, c5, c6, c7⟩ := HK8.out W0 (Below.refl _ _)
  have fz := fun i => (HFz.out W0 (Below.refl _ _) i).1
  go_region_held3 (fun W => W.cell? ⟨w.heap.size, 0, none⟩ = some (.int .i8 6) ∧ W.cell? ⟨w.heap.size, 1, none⟩ = some (.string (bytesL x.c.name)) ∧ W.cell? ⟨w.heap.size, 2, none⟩ = some (.int .i64 x.c.n) ∧ W.cell? ⟨w.heap.size, 3, none⟩ = some (.slice x.la x.c.l.length x.lc) ∧ W.cell? ⟨w.heap.size, 4, none⟩ = some (.slice x.aa x.c.args.length x.ac) ∧ W.cell? ⟨w.heap.size, 5, none⟩ = some (.slice x.pa x.c.params.length x.pc) ∧ W.cell? ⟨w.heap.size, 6, none⟩ = some (.string (bytesL x.c.res)) ∧ W.cell? ⟨w.heap.size, 7, none⟩ = some (.slice x.ta x.c.terms.length x.tc))
    (first | exact HK8.out _ (by assumption) | exact HK8.out _ (Below.refl _ _) | exact HK8.out _ (Below.refl _ _).drew | exact HK8.out _ (ball (by assumption) _) | exact HKS.out _ (by assumption) _ _ _ _ rfl)
    (first | (go_at_call 31; refine (HNum.out _ _ HFair.out.n (by first | assumption | exact Below.drew (by assumption) | exact (Below.refl _ _).drew | exact Below.refl _ _)).mono ?_; rintro e w1 ⟨s1, hst1, rfl, hs1, hb1, hc1⟩; unfold sexV; have HST1 := Lib.hid hst1; have HS1 := Lib.hid hs1; clear hst1 hs1 hc1) | (go_at_call 28; refine (HForm.out [numT x.c.n] _ 1 1 _ rfl (by simp) (by simp [maxLen]) (by simp) (lit1 HST1.out HI2.out hb1 HS1.out).2 (lit1 HST1.out HI2.out hb1 HS1.out).1).mono ?_; rintro e w9 ⟨s9, hst9, rfl, hs9, hb9, hc9⟩; unfold sexV; have HST9 := Lib.hid hst9; have HS9 := Lib.hid hs9; clear hst9 hs9 hc9; have hx9 := (hb9.block (w.heap.size + 1) (by omega)).trans HY0.out; obtain ⟨d0, d1, d2, fz9, hz9⟩ := cells3b hx9; clear hx9))
  go_wp2
  obtain ⟨h1, h2, h3⟩ := list_end hsz HB0.out HY0.out hb9 HS9.out
  refine bodyPost_ret (results_cell_row rfl _ _ (w.heap.size + 1) _ _ _ _ rfl (h1) Tryz.underlying35 rfl sexSize3) rfl ?_
  exact ⟨s9, HST9.out, rfl, h2, h3⟩
set_option maxRecDepth 100000 in
set_option maxHeartbeats 8000000 in
theorem list_7 (x : CmdV) (w : World) (hG : GH w) (hr : CmdS w x) (hF : Fair x.c) (hk : x.c.kind = 7) :
    Calls Tryz.prog 18 #[.agg #[.int .i8 x.c.kind, .string (bytesL x.c.name), .int .i64 x.c.n, .slice x.la x.c.l.length x.lc, .slice x.aa x.c.args.length x.ac, .slice x.pa x.c.params.length x.pc, .string (bytesL x.c.res), .slice x.ta x.c.terms.length x.tc]] w (SxPost NoH w (rowT (symT (headsL.getD 7 []) :: partsT x.c))) := by
  obtain ⟨W0, hW0⟩ : ∃ W0, W0 = (w.alloc (.cells #[.int .i8 x.c.kind, .string (bytesL x.c.name), .int .i64 x.c.n, .slice x.la x.c.l.length x.lc, .slice x.aa x.c.args.length x.ac, .slice x.pa x.c.params.length x.pc, .string (bytesL x.c.res), .slice x.ta x.c.terms.length x.tc] 28)).alloc zSx := ⟨_, rfl⟩
  obtain ⟨hB0, hX0, hY0, hsz⟩ := boxed hW0
  have HI2 : Hid (In W0 (Own2 NoH w.heap.size)) := own2_in (fun b hb => hb.elim) (by omega)
  have HL : Hid (W0 = (w.alloc (.cells #[.int .i8 x.c.kind, .string (bytesL x.c.name), .int .i64 x.c.n, .slice x.la x.c.l.length x.lc, .slice x.aa x.c.args.length x.ac, .slice x.pa x.c.params.length x.pc, .string (bytesL x.c.res), .slice x.ta x.c.terms.length x.tc] 28)).alloc (.cells #[.int .i8 0, .string ⟨#[]⟩, .slice none 0 0] 35)) := hW0
  have HK8 : Hid (∀ W, Below W0.heap.size W0 W → W.cell? ⟨w.heap.size, 0, none⟩ = some (.int .i8 7) ∧ W.cell? ⟨w.heap.size, 1, none⟩ = some (.string (bytesL x.c.name)) ∧ W.cell? ⟨w.heap.size, 2, none⟩ = some (.int .i64 x.c.n) ∧ W.cell? ⟨w.heap.size, 3, none⟩ = some (.slice x.la x.c.l.length x.lc) ∧ W.cell? ⟨w.heap.size, 4, none⟩ = some (.slice x.aa x.c.args.length x.ac) ∧ W.cell? ⟨w.heap.size, 5, none⟩ = some (.slice x.pa x.c.params.length x.pc) ∧ W.cell? ⟨w.heap.size, 6, none⟩ = some (.string (bytesL x.c.res)) ∧ W.cell? ⟨w.heap.size, 7, none⟩ = some (.slice x.ta x.c.terms.length x.tc)) := fun W hW => by
    have hb : Box8 W w.heap.size x := (hW.block _ (by omega)).trans hX0
    have h := hb.cells
    rw [hk] at h
    exact h
  have HKS : Hid (∀ W0', Below W0.heap.size W0 W0' → ∀ v0 v1 v2 W, W = ((W0'.setCell ⟨w.heap.size + 1, 0, none⟩ v0).setCell ⟨w.heap.size + 1, 1, none⟩ v1).setCell ⟨w.heap.size + 1, 2, none⟩ v2 → W.cell? ⟨w.heap.size, 0, none⟩ = some (.int .i8 7) ∧ W.cell? ⟨w.heap.size, 1, none⟩ = some (.string (bytesL x.c.name)) ∧ W.cell? ⟨w.heap.size, 2, none⟩ = some (.int .i64 x.c.n) ∧ W.cell? ⟨w.heap.size, 3, none⟩ = some (.slice x.la x.c.l.length x.lc) ∧ W.cell? ⟨w.heap.size, 4, none⟩ = some (.slice x.aa x.c.args.length x.ac) ∧ W.cell? ⟨w.heap.size, 5, none⟩ = some (.slice x.pa x.c.params.length x.pc) ∧ W.cell? ⟨w.heap.size, 6, none⟩ = some (.string (bytesL x.c.res)) ∧ W.cell? ⟨w.heap.size, 7, none⟩ = some (.slice x.ta x.c.terms.length x.tc)) := fun W0' hW v0 v1 v2 W hWe => by
    subst hWe
    have hne : w.heap.size ≠ w.heap.size + 1 := by omega
    have hb : Box8 (((W0'.setCell ⟨w.heap.size + 1, 0, none⟩ v0).setCell ⟨w.heap.size + 1, 1, none⟩ v1).setCell ⟨w.heap.size + 1, 2, none⟩ v2) w.heap.size x := (((Below.heap_setCell _ _ _ _ hne).trans (Below.heap_setCell _ _ _ _ hne)).trans (Below.heap_setCell _ _ _ _ hne)).trans ((hW.block _ (by omega)).trans hX0)
    have h := hb.cells
    rw [hk] at h
    exact h
  have HFz : Hid (∀ W, Below W0.heap.size W0 W → ∀ i, W.frozen? ⟨w.heap.size, i, none⟩ = false ∧ W.frozen? ⟨w.heap.size + 1, i, none⟩ = false) := fun W hW i => by
    have h1 := (hW.block w.heap.size (by omega)).trans hX0
    have h2 := (hW.block (w.heap.size + 1) (by omega)).trans hY0
    exact ⟨by simp [World.frozen?, h1], by simp [World.frozen?, h2, zSx]⟩
  have HZ3 : Hid (∀ W, Below W0.heap.size W0 W → W.cell? ⟨w.heap.size + 1, 0, none⟩ = some (.int .i8 0) ∧ W.cell? ⟨w.heap.size + 1, 1, none⟩ = some (.string ⟨#[]⟩) ∧ W.cell? ⟨w.heap.size + 1, 2, none⟩ = some (.slice none 0 0)) := fun W hW => by
    have h2 : W.heap[w.heap.size + 1]? = some zSx := (hW.block (w.heap.size + 1) (by omega)).trans hY0
    exact ⟨cell_of_row _ _ 0 _ _ _ h2, cell_of_row _ _ 1 _ _ _ h2, cell_of_row _ _ 2 _ _ _ h2⟩
  have HSym : Hid (∀ (s : List UInt8) (W : World), s.length ≤ maxLen → Below W0.heap.size W0 W → Calls Tryz.prog 29 #[.string (bytesL s)] W (RPost (Own2 NoH w.heap.size) W0 W (symT s))) := fun s W hs hW => (symbol_any _ s W hs).mono fun e w' h => h.r hW
  have HNum : Hid (∀ (n : Int) (W : World), I64 n → Below W0.heap.size W0 W → Calls Tryz.prog 31 #[.int .i64 n] W (RPost (Own2 NoH w.heap.size) W0 W (numT n))) := fun n W hn hW => (numeral_c _ n W hn).mono fun e w' h => h.r hW
  have HRow : Hid (∀ (l : List Tree) (a : Option Addr) (c : Nat) (W : World), l.length ≤ c → c ≤ maxLen → SxLS (Own2 NoH w.heap.size) W l a → Below W0.heap.size W0 W → Calls Tryz.prog 35 #[.slice a l.length c] W (RPost (Own2 NoH w.heap.size) W0 W (rowT l))) := fun l a c W h1 h2 h3 hW => (row_any _ l a c W h1 h2 h3).mono fun e w' h => h.r hW
  have HForm : Hid (∀ (l : List Tree) (a : Option Addr) (c n : Nat) (W : World), n = l.length → l.length ≤ c → c ≤ maxLen → l.length ≤ 100 → SxLS (Own2 NoH w.heap.size) W l a → Below W0.heap.size W0 W → Calls Tryz.prog 28 #[.agg #[.int .i8 7, .string (bytesL x.c.name), .int .i64 x.c.n, .slice x.la x.c.l.length x.lc, .slice x.aa x.c.args.length x.ac, .slice x.pa x.c.params.length x.pc, .string (bytesL x.c.res), .slice x.ta x.c.terms.length x.tc], .slice a n c] W (RPost (Own2 NoH w.heap.size) W0 W (rowT (symT (headsL.getD 7 []) :: l)))) := fun l a c n W hn h1 h2 h3 h4 hW => by
    subst hn
    have hGW : GH W := (hG.below hB0).below hW
    have := form_any (Own2 NoH w.heap.size) x l a c 7 W hGW (fun b hb => Nat.lt_of_lt_of_le (HI2.out b hb) hW.size) hk (by omega) h1 h2 h3 h4
    rw [hk] at this
    exact this.mono fun e w' h => h.r hW
  have HArgs : Hid (∀ W, Below W0.heap.size W0 W → Calls Tryz.prog 32 #[.slice x.aa x.c.args.length x.ac, .func (.func 29) #[] #[]] W (RPost (Own2 NoH w.heap.size) W0 W (rowT (x.c.args.map symT)))) := fun W hW => by
    have hbw := hB0.trans (hW.mono (by omega))
    exact (rowOf_str _ x.c.args x.aa x.ac W (fun b hb => Nat.lt_of_lt_of_le (HI2.out b hb) hW.size) ((hr.aat.at.below hbw).more hbw.size) (by have := hF.a; omega) hF.ai).mono fun e w' h => h.r hW
  have HPars : Hid (∀ W, Below W0.heap.size W0 W → Calls Tryz.prog 33 #[.slice x.pa x.c.params.length x.pc, .func (.func 34) #[] #[]] W (RPost (Own2 NoH w.heap.size) W0 W (rowT (x.c.params.map pairT)))) := fun W hW => by
    have hbw := hB0.trans (hW.mono (by omega))
    exact (rowOf_par _ x.c.params x.pa x.pc W (fun b hb => Nat.lt_of_lt_of_le (HI2.out b hb) hW.size) ((hr.pat.at.below hbw).more hbw.size) (by have := hF.p; omega) hF.pi).mono fun e w' h => h.r hW
  have HSet : Hid (∀ W, Below W0.heap.size W0 W → Calls Tryz.prog 30 #[.agg #[.int .i8 7, .string (bytesL x.c.name), .int .i64 x.c.n, .slice x.la x.c.l.length x.lc, .slice x.aa x.c.args.length x.ac, .slice x.pa x.c.params.length x.pc, .string (bytesL x.c.res), .slice x.ta x.c.terms.length x.tc]] W (RPost (Own2 NoH w.heap.size) W0 W (setT x.c))) := fun W hW => by
    have hbw := hB0.trans (hW.mono (by omega))
    have := setting_any (Own2 NoH w.heap.size) x W (fun b hb => Nat.lt_of_lt_of_le (HI2.out b hb) hW.size) (hr.below hbw) hF.l hF.n hF.li
    rw [hk] at this
    exact this.mono fun e w' h => h.r hW
  have HTerms : Hid (∀ W, Below W0.heap.size W0 W → SxLS (Own2 NoH w.heap.size) W x.c.terms x.ta) := fun W hW => by
    have hbw := hB0.trans (hW.mono (by omega))
    have h0 : SxLS NoH w x.c.terms x.ta := RdL.mono (fun b _ hb => by rcases hb with hb | hb; exact hb.elim; exact hb) _ _ hr.tat
    exact h0.to hbw.size (fun b hlt _ => hbw.block b hlt) (fun b hb => by rcases hb with hb | hb | hb; exact .inl hb; exact .inr (by omega); exact .inr (by omega))
  have HT : Hid (x.c.terms.length ≤ x.tc ∧ x.tc ≤ maxLen ∧ x.c.terms.length ≤ 40) := ⟨hr.tl, hr.tm, hF.t⟩
  have HFair := Lib.hid hF
  have HB0 := Lib.hid hB0
  have HY0 := Lib.hid hY0
  have HR0 := HK8.out W0 (Below.refl _ _)
  have HP : Hid (partsT x.c = [numT x.c.n]) := by show _ = _; unfold partsT; simp [hk]
  rw [HP.out]
  rw [hk] at HL ⊢
  clear hW0 hB0 hX0 hY0 hr hF hk hG HR0
  go_enter Tryz.func18, Tryz.ntmps18
  go_wp2_with fail
  rw [← HL.out]
  clear HL
  obtain ⟨c0, c1, c2, c3, c4, c5, c6, c7⟩ := HK8.out W0 (Below.refl _ _)
  have fz := fun i => (HFz.out W0 (Below.refl _ _) i).1
  go_region_held3 (fun W => W.cell? ⟨w.heap.size, 0, none⟩ = some (.int .i8 7) ∧ W.cell? ⟨w.heap.size, 1, none⟩ = some (.string (bytesL x.c.name)) ∧ W.cell? ⟨w.heap.size, 2, none⟩ = some (.int .i64 x.c.n) ∧ W.cell? ⟨w.heap.size, 3, none⟩ = some (.slice x.la x.c.l.length x.lc) ∧ W.cell? ⟨w.heap.size, 4, none⟩ = some (.slice x.aa x.c.args.length x.ac) ∧ W.cell? ⟨w.heap.size, 5, none⟩ = some (.slice x.pa x.c.params.length x.pc) ∧ W.cell? ⟨w.heap.size, 6, none⟩ = some (.string (bytesL x.c.res)) ∧ W.cell? ⟨w.heap.size, 7, none⟩ = some (.slice x.ta x.c.terms.length x.tc))
    (first | exact HK8.out _ (by assumption) | exact HK8.out _ (Below.refl _ _) | exact HK8.out _ (Below.refl _ _).drew | exact HK8.out _ (ball (by assumption) _) | exact HKS.out _ (by assumption) _ _ _ _ rfl)
    (first | (go_at_call 31; refine (HNum.out _ _ HFair.out.n (by first | assumption | exact Below.drew (by assumption) | exact (Below.refl _ _).drew | exact Below.refl _ _)).mono ?_; rintro e w1 ⟨s1, hst1, rfl, hs1, hb1, hc1⟩; unfold sexV; have HST1 := Lib.hid hst1; have HS1 := Lib.hid hs1; clear hst1 hs1 hc1) | (go_at_call 28; refine (HForm.out [numT x.c.n] _ 1 1 _ rfl (by simp) (by simp [maxLen]) (by simp) (lit1 HST1.out HI2.out hb1 HS1.out).2 (lit1 HST1.out HI2.out hb1 HS1.out).1).mono ?_; rintro e w9 ⟨s9, hst9, rfl, hs9, hb9, hc9⟩; unfold sexV; have HST9 := Lib.hid hst9; have HS9 := Lib.hid hs9; clear hst9 hs9 hc9; have hx9 := (hb9.block (w.heap.size + 1) (by omega)).trans HY0.out; obtain ⟨d0, d1, d2, fz9, hz9⟩ := cells3b hx9; clear hx9))
  go_wp2
  obtain ⟨h1, h2, h3⟩ := list_end hsz HB0.out HY0.out hb9 HS9.out
  refine bodyPost_ret (results_cell_row rfl _ _ (w.heap.size + 1) _ _ _ _ rfl (h1) Tryz.underlying35 rfl sexSize3) rfl ?_
  exact ⟨s9, HST9.out, rfl, h2, h3⟩
end Go.Proofs.YtodonngnigbpaaaGreatDoor
