/- Package command's setting and form. -/
import Derived.Test.YtodonngnigbpaaaGreatDoorCmC
namespace Go.Proofs.YtodonngnigbpaaaGreatDoor
open Go.RowKit
set_option linter.unusedVariables false
theorem lit_rdl {H : Nat → Prop} {W : World} {M : Nat} {xs : List SexV} {cs : Array Value} {ty : TypeId} (hM : W.heap[M]? = some (.cells cs ty (0, 0))) (hcs : cs.toList = xs.flatMap sexC) (hH : ¬ H M) (hx : ∀ s ∈ xs, SxS H W s.t (sexV s)) : SxLS H W (xs.map (·.t)) (some ⟨M, 0, none⟩) := by
  have hlt := (Array.getElem?_eq_some_iff.1 hM).1
  refine build_rdl hM (by rintro (h | h); exact hH h; omega) xs 0 (fun i v hi => ?_) hx
  rw [cell_of_row _ _ _ _ _ _ hM, Nat.zero_add, ← Array.getElem?_toList, hcs]
  exact hi
theorem app_nil {P : Program} {t ty e : TypeId} {i : TypeInfo} (ht : P.underlying t = some (.slice e)) (hi : P.info? e = some i) (a : Addr) (n c c' : Nat) (hn : n ≤ c) (w : World) :
    (Builtin.append_ #[t, t] ty #[.slice (some a) n c, .slice none 0 c']).run P w = .ok (.slice (some a) n c) w := by
  simp [Builtin.append_, run_underlying ht, sizeOf, typeInfo, hi, Builtin.lenOf, run_firstCells_none, hn, storeCells]
/-- A command in a box. -/
def Box8 (W : World) (b : Nat) (x : CmdV) : Prop := W.heap[b]? = some (.cells #[.int .i8 x.c.kind, .string (bytesL x.c.name), .int .i64 x.c.n, .slice x.la x.c.l.length x.lc, .slice x.aa x.c.args.length x.ac, .slice x.pa x.c.params.length x.pc, .string (bytesL x.c.res), .slice x.ta x.c.terms.length x.tc] 28 (0, 0))
theorem Box8.cells {W : World} {b : Nat} {x : CmdV} (h : Box8 W b x) : W.cell? ⟨b, 0, none⟩ = some (.int .i8 x.c.kind) ∧ W.cell? ⟨b, 1, none⟩ = some (.string (bytesL x.c.name)) ∧ W.cell? ⟨b, 2, none⟩ = some (.int .i64 x.c.n) ∧ W.cell? ⟨b, 3, none⟩ = some (.slice x.la x.c.l.length x.lc) ∧ W.cell? ⟨b, 4, none⟩ = some (.slice x.aa x.c.args.length x.ac) ∧ W.cell? ⟨b, 5, none⟩ = some (.slice x.pa x.c.params.length x.pc) ∧ W.cell? ⟨b, 6, none⟩ = some (.string (bytesL x.c.res)) ∧ W.cell? ⟨b, 7, none⟩ = some (.slice x.ta x.c.terms.length x.tc) :=
  ⟨cell_of_row _ _ 0 _ _ _ h, cell_of_row _ _ 1 _ _ _ h, cell_of_row _ _ 2 _ _ _ h, cell_of_row _ _ 3 _ _ _ h, cell_of_row _ _ 4 _ _ _ h, cell_of_row _ _ 5 _ _ _ h, cell_of_row _ _ 6 _ _ _ h, cell_of_row _ _ 7 _ _ _ h⟩
/-- What a call has of its command: the box, the result's. -/
theorem boxed {w W0 : World} {x : CmdV} (hW : W0 = (w.alloc (.cells #[.int .i8 x.c.kind, .string (bytesL x.c.name), .int .i64 x.c.n, .slice x.la x.c.l.length x.lc, .slice x.aa x.c.args.length x.ac, .slice x.pa x.c.params.length x.pc, .string (bytesL x.c.res), .slice x.ta x.c.terms.length x.tc] 28)).alloc zSx) : Below w.heap.size w W0 ∧ Box8 W0 w.heap.size x ∧ W0.heap[w.heap.size + 1]? = some zSx ∧ W0.heap.size = w.heap.size + 2 := by
  subst hW
  refine ⟨((Below.refl _ _).alloc (Nat.le_refl _) _).alloc (by simp) _, (Below.heap_alloc _ _ _ (by simp)).trans (heap_alloc_new w _), ?_, by simp⟩
  have := heap_alloc_new (w.alloc (.cells #[.int .i8 x.c.kind, .string (bytesL x.c.name), .int .i64 x.c.n, .slice x.la x.c.l.length x.lc, .slice x.aa x.c.args.length x.ac, .slice x.pa x.c.params.length x.pc, .string (bytesL x.c.res), .slice x.ta x.c.terms.length x.tc] 28)) zSx
  rwa [World.size_alloc] at this
theorem bl_no {s t : List UInt8} (h : ¬ s = t) : ((bytesL s).toList == t) = false := by
  simp only [ByteArray.toList_eq, beq_eq_false_iff_ne, ne_eq]
  rw [bytesL_list]
  exact h
theorem bl_yes {s t : List UInt8} (h : s = t) : ((bytesL s).toList == t) = true := by
  simp only [ByteArray.toList_eq, beq_iff_eq]
  rw [bytesL_list]
  exact h
theorem seeds_is {s : List UInt8} : (bytesL s = (⟨#[115, 101, 101, 100, 115]⟩ : ByteArray)) ↔ s = seedsL := ⟨fun h => bytesL_inj h, fun h => by rw [h]; rfl⟩
/-- The box's own blocks, and H. -/
def Own2 (H : Nat → Prop) (n : Nat) (b : Nat) : Prop := H b ∨ b = n ∨ b = n + 1
theorem own2_in {H : Nat → Prop} {w W : World} (h : In w H) (hs : w.heap.size + 2 ≤ W.heap.size) : In W (Own2 H w.heap.size) := fun b hb => by
  rcases hb with hb | hb | hb
  · have := h b hb; omega
  · omega
  · omega
set_option maxRecDepth 100000 in
set_option maxHeartbeats 4000000 in
theorem setting_any (H : Nat → Prop) (x : CmdV) (w : World) (hi' : In w H) (hr : CmdS w x) (hl : x.c.l.length ≤ 200) (hn : I64 x.c.n) (hli : ∀ n ∈ x.c.l, I64 n) :
    Calls Tryz.prog 30 #[.agg #[.int .i8 x.c.kind, .string (bytesL x.c.name), .int .i64 x.c.n, .slice x.la x.c.l.length x.lc, .slice x.aa x.c.args.length x.ac, .slice x.pa x.c.params.length x.pc, .string (bytesL x.c.res), .slice x.ta x.c.terms.length x.tc]] w (SxPost H w (setT x.c)) := by
  have HIn := Lib.hid hi'
  obtain ⟨W0, hW0⟩ : ∃ W0, W0 = (w.alloc (.cells #[.int .i8 x.c.kind, .string (bytesL x.c.name), .int .i64 x.c.n, .slice x.la x.c.l.length x.lc, .slice x.aa x.c.args.length x.ac, .slice x.pa x.c.params.length x.pc, .string (bytesL x.c.res), .slice x.ta x.c.terms.length x.tc] 28)).alloc zSx := ⟨_, rfl⟩
  obtain ⟨hB0, hX0, hY0, hsz⟩ := boxed hW0
  have HI2 : Hid (In W0 (Own2 H w.heap.size)) := own2_in hi' (by omega)
  have HL : Hid (W0 = (w.alloc (.cells #[.int .i8 x.c.kind, .string (bytesL x.c.name), .int .i64 x.c.n, .slice x.la x.c.l.length x.lc, .slice x.aa x.c.args.length x.ac, .slice x.pa x.c.params.length x.pc, .string (bytesL x.c.res), .slice x.ta x.c.terms.length x.tc] 28)).alloc (.cells #[.int .i8 0, .string ⟨#[]⟩, .slice none 0 0] 35)) := hW0
  obtain ⟨c0, c1, c2, c3, c4, c5, c6, c7⟩ := hX0.cells
  have HA : Hid (At W0 W0.heap.size (x.c.l.flatMap intC) x.la) := (hr.lat.at.below hB0).more (by omega)
  have HB0 := Lib.hid hB0
  have HY0 := Lib.hid hY0
  have HE := Lib.hid (seeds_is (s := x.c.name))
  clear hW0 hB0 hX0 hY0 hi' hr
  by_cases hs : x.c.name = seedsL
  · have HC : Hid (Calls Tryz.prog 61 #[.slice x.la x.c.l.length x.lc, .func (.func 31) #[] #[]] W0 (SxPost (Own2 H w.heap.size) W0 (setT x.c))) := by
      show Calls _ _ _ _ _
      unfold setT
      rw [if_pos hs]
      exact rowOf_int _ x.c.l x.la x.lc W0 HI2.out HA.out hl hli
    have hs' := HE.out.2 hs
    rw [hs'] at HL ⊢
    clear hs
    go_enter Tryz.func30, Tryz.ntmps30
    go_wp2_with (go_at_call 61; rw [← HL.out]; clear HL; refine HC.out.mono ?_; rintro e w2 ⟨s, hst, rfl, hs2, hb2⟩; unfold sexV; have HST := Lib.hid hst; clear hst; have hx2 := (hb2.block _ (by omega)).trans HY0.out; obtain ⟨d0, d1, d2, fz, hzz⟩ := cells3b hx2)
    have hb3 : Below w.heap.size w w2 := HB0.out.trans (hb2.mono (by omega))
    obtain ⟨h1, h2, h3⟩ := sx_store (H := H) (s := s) hb3 hx2 (Nat.le_succ _) hs2 (.inr (.inr rfl)) (fun b hb => .inl hb)
    refine bodyPost_ret (results_cell_row rfl _ _ (w.heap.size + 1) _ _ _ _ rfl (h1) Tryz.underlying35 rfl sexSize3) rfl ?_
    exact ⟨s, HST.out, rfl, h2, h3⟩
  · have HC : Hid (Calls Tryz.prog 31 #[.int .i64 x.c.n] W0 (SxPost (Own2 H w.heap.size) W0 (setT x.c))) := by
      show Calls _ _ _ _ _
      unfold setT
      rw [if_neg hs]
      exact numeral_c _ x.c.n W0 hn
    have hs' : ((bytesL x.c.name).toList == [115, 101, 101, 100, 115]) = false := bl_no hs
    clear hs
    go_enter Tryz.func30, Tryz.ntmps30
    go_wp2_with (go_at_call 31; rw [← HL.out]; clear HL; refine HC.out.mono ?_; rintro e w2 ⟨s, hst, rfl, hs2, hb2⟩; unfold sexV; have HST := Lib.hid hst; clear hst; have hx2 := (hb2.block _ (by omega)).trans HY0.out; obtain ⟨d0, d1, d2, fz, hzz⟩ := cells3b hx2)
    have hb3 : Below w.heap.size w w2 := HB0.out.trans (hb2.mono (by omega))
    obtain ⟨h1, h2, h3⟩ := sx_store (H := H) (s := s) hb3 hx2 (Nat.le_succ _) hs2 (.inr (.inr rfl)) (fun b hb => .inl hb)
    refine bodyPost_ret (results_cell_row rfl _ _ (w.heap.size + 1) _ _ _ _ rfl (h1) Tryz.underlying35 rfl sexSize3) rfl ?_
    exact ⟨s, HST.out, rfl, h2, h3⟩
theorem row_call {H : Nat → Prop} {w : World} {l : List Tree} {a : Option Addr} {n c : Nat} (h : ∃ a' c', Value.slice a n c = .slice a' n c' ∧ n = l.length ∧ n ≤ c' ∧ c' ≤ maxLen ∧ SxLS H w l a') : Calls Tryz.prog 35 #[.slice a n c] w (SxPost H w (rowT l)) := by
  obtain ⟨a', c', e, rfl, h1, h2, h3⟩ := h
  cases e
  exact row_any H l a c w h1 h2 h3
set_option maxRecDepth 100000 in
set_option maxHeartbeats 4000000 in
theorem form_any (H : Nat → Prop) (x : CmdV) (l : List Tree) (a : Option Addr) (c k : Nat) (w : World) (hG : GH w) (hi' : In w H) (hk : x.c.kind = (k : Int)) (hk12 : k ≤ 12) (hl : l.length ≤ c) (hc : c ≤ maxLen) (h100 : l.length ≤ 100) (hA : SxLS H w l a) :
    Calls Tryz.prog 28 #[.agg #[.int .i8 x.c.kind, .string (bytesL x.c.name), .int .i64 x.c.n, .slice x.la x.c.l.length x.lc, .slice x.aa x.c.args.length x.ac, .slice x.pa x.c.params.length x.pc, .string (bytesL x.c.res), .slice x.ta x.c.terms.length x.tc], .slice a l.length c] w (SxPost H w (rowT (symT (headsL.getD k []) :: l))) := by
  obtain ⟨i0, hi, hz0, hz1, hz2⟩ := info_parts info_sex
  have HIn := Lib.hid hi'
  obtain ⟨ps, hps, hat, hpr⟩ := rdl_vals l a hA
  have hpl : ps.length = l.length := by rw [← hps, List.length_map]
  obtain ⟨W0, hW0⟩ : ∃ W0, W0 = (w.alloc (.cells #[.int .i8 x.c.kind, .string (bytesL x.c.name), .int .i64 x.c.n, .slice x.la x.c.l.length x.lc, .slice x.aa x.c.args.length x.ac, .slice x.pa x.c.params.length x.pc, .string (bytesL x.c.res), .slice x.ta x.c.terms.length x.tc] 28)).alloc zSx := ⟨_, rfl⟩
  obtain ⟨hB0, hX0, hY0, hsz⟩ := boxed hW0
  have HI2 : Hid (In W0 (Own2 H w.heap.size)) := own2_in hi' (by omega)
  have HL : Hid (W0 = (w.alloc (.cells #[.int .i8 x.c.kind, .string (bytesL x.c.name), .int .i64 x.c.n, .slice x.la x.c.l.length x.lc, .slice x.aa x.c.args.length x.ac, .slice x.pa x.c.params.length x.pc, .string (bytesL x.c.res), .slice x.ta x.c.terms.length x.tc] 28)).alloc (.cells #[.int .i8 0, .string ⟨#[]⟩, .slice none 0 0] 35)) := hW0
  obtain ⟨c0, c1, c2, c3, c4, c5, c6, c7⟩ := hX0.cells
  rw [hk] at c0
  obtain ⟨hd, hhd⟩ : ∃ hd, headsL[k]? = some hd := ⟨_, List.getElem?_eq_getElem (by show k < 13; omega)⟩
  have hdD : headsL.getD k [] = hd := by rw [List.getD_eq_getElem?_getD, hhd]; rfl
  have hdl : hd.length ≤ maxLen := by
    have : ∀ s ∈ headsL, s.length ≤ 100 := by decide
    have := this hd (List.mem_of_getElem? hhd)
    simp only [maxLen]; omega
  have hcell := hG.h k hd hhd
  have hgl := hG.lt
  rw [hdD]
  have HB0 := Lib.hid hB0
  have HY0 := Lib.hid hY0
  have HS : Hid (Calls Tryz.prog 29 #[.string (bytesL hd)] W0 (SxPost (Own2 H w.heap.size) W0 (symT hd))) := symbol_any _ hd W0 hdl
  have HPS := Lib.hid hps
  have HPR := Lib.hid hpr
  have HPL := Lib.hid hpl
  have HAT := Lib.hid hat
  have HLC := Lib.hid (And.intro hl hc)
  have hk13 : (k : Int) < 13 := by omega
  rw [hk] at HL ⊢
  clear hk
  -- the row that is handed on
  have HROW : Hid (∀ (s0 : SexV) (w2 w4 : World) (v : Value) (n : Nat), s0.t = symT hd → Below W0.heap.size W0 w4 → w4.ownsRow W0.heap.size 35 3 v n (sexC s0 ++ ps.flatMap sexC) → SxS (Own2 H w.heap.size) w4 (symT hd) (sexV s0) →
      ∃ a' c', v = .slice a' n c' ∧ n = (symT hd :: l).length ∧ n ≤ c' ∧ c' ≤ maxLen ∧ SxLS (Own2 H w.heap.size) w4 (symT hd :: l) a') := by
    intro s0 w2 w4 v n h0 hb4 hown hs0
    have hfl : sexC s0 ++ ps.flatMap sexC = (s0 :: ps).flatMap sexC := by simp
    rw [hfl] at hown
    have hn : n = (s0 :: ps).length := by
      have := hown.1
      rw [len_flat sexC_len] at this
      omega
    have hbw : Below w.heap.size w w4 := HB0.out.trans (hb4.mono (by omega))
    obtain ⟨a', c', e, q1, q2, q3⟩ := own_rdl (bad := fun b => Own2 H w.heap.size b ∨ w4.heap.size ≤ b) hown hn (fun g hg hcl hb => by
      obtain ⟨cs, ty, hcl⟩ := hcl
      have hlt := (Array.getElem?_eq_some_iff.1 hcl).1
      rcases hb with hb | hb
      · have := HI2.out g hb; omega
      · omega) (fun s hs => by
      rcases List.mem_cons.1 hs with rfl | hs
      · rw [h0]; exact hs0
      · have hq : SxS H w s.t (sexV s) := HPR.out s hs
        exact hq.to hbw.size (fun b hlt _ => hbw.block b hlt) (fun b hb => by
          rcases hb with hb | hb | hb
          · exact .inl hb
          · exact .inr (by omega)
          · exact .inr (by omega)))
    refine ⟨a', c', by rw [e, hn], by rw [hn]; simp [HPL.out], by rw [hn]; exact q1, q2, ?_⟩
    have e2 : (s0 :: ps).map (·.t) = symT hd :: l := by simp [h0, HPS.out]
    rw [← e2]
    exact q3
  cases a with
  | none =>
    have h0 : l.length = 0 := by
      rcases Nat.eq_zero_or_pos l.length with h | h
      · exact h
      · obtain ⟨g, o, e, _⟩ := hat (by rw [len_flat sexC_len]; omega)
        cases e
    have hps0 : ps = [] := List.eq_nil_of_length_eq_zero (by omega)
    have HP0 := Lib.hid hps0
    rw [h0]
    have hnil := fun ty a => @app_nil Tryz.prog 26 ty 35 i0 Tryz.underlying26 hi a 1 1 c (Nat.le_refl _)
    clear hW0 hB0 hX0 hY0 hi' hG hps hat hpr hpl hA hl hc hdD hhd hdl hps0 h0
    go_enter Tryz.func28, Tryz.ntmps28
    go_wp2_with (first | (go_at_call 29; rw [← HL.out]; clear HL; refine HS.out.mono ?_; rintro e w2 ⟨s, hst, rfl, hs2, hb2⟩; unfold sexV; have HST := Lib.hid hst; have HS2 := Lib.hid hs2; have HB2 := Lib.hid hb2; have hb2s := hb2.size; have HB4 : Hid (Below W0.heap.size W0 (w2.alloc (.cells (sexC s).toArray 35))) := HB2.out.alloc hb2s _; have HO4 : Hid ((w2.alloc (.cells (sexC s).toArray 35)).ownsRow W0.heap.size 35 3 (.slice (some ⟨w2.heap.size, 0, none⟩) 1 1) 1 (sexC s)) := World.ownsRow_lit (base := W0.heap.size) (e := 35) (size := 3) w2 (sexC s).toArray 1 hb2s (by simp [maxLen]) rfl; have HR4 : Hid (∃ a' c', Value.slice (some ⟨w2.heap.size, 0, none⟩) 1 1 = .slice a' 1 c' ∧ 1 = (symT hd :: l).length ∧ 1 ≤ c' ∧ c' ≤ maxLen ∧ SxLS (Own2 H w.heap.size) (w2.alloc (.cells (sexC s).toArray 35)) (symT hd :: l) a') := HROW.out s w2 _ _ 1 HST.out HB4.out (by have := HO4.out; rw [HP0.out]; simpa using this) (HS2.out.below ((Below.refl _ _).alloc (Nat.le_refl _) _)); have HRW : Hid (Calls Tryz.prog 35 #[.slice (some ⟨w2.heap.size, 0, none⟩) 1 1] (w2.alloc (.cells (sexC s).toArray 35)) (SxPost (Own2 H w.heap.size) (w2.alloc (.cells (sexC s).toArray 35)) (rowT (symT hd :: l)))) := row_call HR4.out; have HY4 : Hid ((w2.alloc (.cells (sexC s).toArray 35)).heap[w.heap.size + 1]? = some zSx) := (HB4.out.block _ (by omega)).trans HY0.out; clear hst hs2 hb2) | (go_at_call 35; refine (HRW.out).mono ?_; rintro e w5 ⟨s5, hst5, rfl, hs5, hb5⟩; unfold sexV; have HST5 := Lib.hid hst5; clear hst5; have hx5 := (hb5.block _ (by first | omega | (simp; omega))).trans HY4.out; obtain ⟨d0, d1, d2, fz, hzz⟩ := cells3b hx5))
    have hb6 : Below w.heap.size w w5 := HB0.out.trans ((HB4.out.trans (hb5.mono HB4.out.size)).mono (by omega))
    obtain ⟨h1, h2, h3⟩ := sx_store (H := H) (s := s5) hb6 hx5 (Nat.le_succ _) hs5 (.inr (.inr rfl)) (fun b hb => .inl hb)
    refine bodyPost_ret (results_cell_row rfl _ _ (w.heap.size + 1) _ _ _ _ rfl (h1) Tryz.underlying35 rfl sexSize3) rfl ?_
    exact ⟨s5, HST5.out, rfl, h2, h3⟩
  | some ad =>
    clear hW0 hB0 hX0 hY0 hi' hG hps hpr hA hl hc hdD hhd hdl
    have hATW : Hid (∀ W, Below W0.heap.size W0 W → ∀ j u, (ps.flatMap sexC)[j]? = some u → W.cell? (ad.add j) = some u) := fun W hW j u hu => by
      obtain ⟨g, o, e, hg, hcell⟩ := HAT.out (by have := (List.getElem?_eq_some_iff.1 hu).1; omega)
      cases e
      have hbw : Below w.heap.size w W := HB0.out.trans (hW.mono (by omega))
      have h1 := at_add hcell j u hu
      rw [Addr.add_lit] at h1 ⊢
      exact (hbw.cell (p := ⟨g, o + j, none⟩) hg).trans h1
    clear hat
    go_enter Tryz.func28, Tryz.ntmps28
    go_wp2_with (first | (go_at_call 29; rw [← HL.out]; clear HL; refine HS.out.mono ?_; rintro e w2 ⟨s, hst, rfl, hs2, hb2⟩; unfold sexV; have HST := Lib.hid hst; have HS2 := Lib.hid hs2; have HB2 := Lib.hid hb2; have hb2s := hb2.size; have HB4' : Hid (Below W0.heap.size W0 (w2.alloc (.cells (sexC s).toArray 35))) := HB2.out.alloc hb2s _; have HO4 : Hid ((w2.alloc (.cells (sexC s).toArray 35)).ownsRow W0.heap.size 35 3 (.slice (some ⟨w2.heap.size, 0, none⟩) 1 1) 1 (sexC s)) := World.ownsRow_lit (base := W0.heap.size) (e := 35) (size := 3) w2 (sexC s).toArray 1 hb2s (by simp [maxLen]) rfl; clear hst hs2 hb2) | (at_builtin; refine wpList_append_own_at _ rfl _ _ 26 rfl W0.heap.size 35 i0 _ 3 48 Tryz.underlying26 hi hz0 hz1 hz2 rfl (by decide) _ 1 (sexC s) rfl HO4.out ad l.length c (ps.flatMap sexC) rfl (by rw [len_flat sexC_len, hpl]) (hATW.out _ HB4'.out) (one_sex ps) (by simp only [maxLen]; omega) (by omega) (by simp; omega) ?_; intro v' w4 hown' hgrow hnil hloc; clear hnil hloc; have HB4 : Hid (Below W0.heap.size W0 w4) := HB4'.out.grown hgrow (by simp; omega) (fun q e => by cases e; exact hb2s); have HR4 := HROW.out s w2 w4 v' (1 + l.length) HST.out HB4.out hown' (HS2.out.to (by have := hgrow.size; simp at this; omega) (fun b hb _ => (hgrow.block b (by simp; omega) (fun e => by have e' : w2.heap.size = b := (by cases e; rfl); omega)).trans (Below.heap_alloc _ _ _ (by omega))) (fun b hb => .inl hb)); obtain ⟨a4, c4', rfl, hn4⟩ := HR4; have HRW : Hid (Calls Tryz.prog 35 #[.slice a4 (1 + l.length) c4'] w4 (SxPost (Own2 H w.heap.size) w4 (rowT (symT hd :: l)))) := row_call ⟨a4, c4', rfl, hn4⟩; have HY4 : Hid (w4.heap[w.heap.size + 1]? = some zSx) := (HB4.out.block _ (by omega)).trans HY0.out; have hw4 := HB4.out.size; clear hn4 hgrow hown') | (go_at_call 35; refine (HRW.out).mono ?_; rintro e w5 ⟨s5, hst5, rfl, hs5, hb5⟩; unfold sexV; have HST5 := Lib.hid hst5; clear hst5; have hx5 := (hb5.block _ (by first | omega | (simp; omega))).trans HY4.out; obtain ⟨d0, d1, d2, fz, hzz⟩ := cells3b hx5))
    have hb6 : Below w.heap.size w w5 := HB0.out.trans ((HB4.out.trans (hb5.mono HB4.out.size)).mono (by omega))
    obtain ⟨h1, h2, h3⟩ := sx_store (H := H) (s := s5) hb6 hx5 (Nat.le_succ _) hs5 (.inr (.inr rfl)) (fun b hb => .inl hb)
    refine bodyPost_ret (results_cell_row rfl _ _ (w.heap.size + 1) _ _ _ _ rfl (h1) Tryz.underlying35 rfl sexSize3) rfl ?_
    exact ⟨s5, HST5.out, rfl, h2, h3⟩
end Go.Proofs.YtodonngnigbpaaaGreatDoor
