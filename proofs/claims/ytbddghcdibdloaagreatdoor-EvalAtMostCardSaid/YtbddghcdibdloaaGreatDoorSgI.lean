/- Package sig's Free. -/
import Derived.Test.YtbddghcdibdloaaGreatDoorSgG
namespace Go.Proofs.YtbddghcdibdloaaGreatDoor
open Go.RowKit Go.Shelf
set_option linter.unusedVariables false
attribute [local go_sem] Oper.semAt_some
/-- Each is free when those ahead are there. -/
def okFrom (ahead : List Nm) : List Nm → Bool
  | [] => true
  | y :: r => decide (freeA (memB y ahead) y.1 y.2 = 0) && okFrom (ahead ++ [y]) r
theorem okFrom_append : ∀ (l m a : List Nm), okFrom a (l ++ m) = (okFrom a l && okFrom (a ++ l) m)
  | [], m, a => by simp [okFrom]
  | y :: r, m, a => by
    simp only [List.cons_append, okFrom]
    rw [okFrom_append r m, Bool.and_assoc, List.append_assoc]; rfl
theorem okFrom_snoc (l : List Nm) (y : Nm) : okFrom [] (l ++ [y]) = (okFrom [] l && decide (freeA (memB y l) y.1 y.2 = 0)) := by
  rw [okFrom_append]; simp [okFrom]
theorem okFrom_prefix {l m : List Nm} (h : l <+: m) (hl : okFrom [] l = false) : okFrom [] m = false := by
  obtain ⟨t, rfl⟩ := h
  rw [okFrom_append, hl]; rfl
theorem SetM.kept {w w' : World} {b : Nat} {xs : List Nm} {row : Option Nat} (h : SetM w b xs) (hg : w.grownBy w' row) (hne : some b ≠ row) : SetM w' b xs := World.ownsMap.kept h hg hne
theorem SetM.below {w w' : World} {b : Nat} {xs : List Nm} (h : SetM w b xs) (hb : Below w.heap.size w w') : SetM w' b xs :=
  SetM.kept h (⟨hb.os, hb.tape, hb.output, hb.size, fun i hi _ => hb.block i hi⟩ : w.grownBy w' none) (by simp)
theorem SetM.put {w : World} {b : Nat} {xs : List Nm} {y : Nm} (h : w.ownsMap (H := Unit) Tryz.prog 118 unitElem b (xs.length + 1) ((Maps.setOf (.agg []) (xs.map kl)).put (kl y) (.agg []))) : SetM w b (xs ++ [y]) := by
  unfold SetM
  rw [List.map_append, List.map_singleton, Maps.setOf_snoc, List.length_append]
  exact h
theorem SetM.obj {w : World} {b : Nat} {xs : List Nm} (h : SetM w b xs) : ∃ o : Obj, w.heap[b]? = some o ∧ o.isCells = false := by
  obtain ⟨es, ck, hh, _⟩ := h
  exact ⟨_, hh, rfl⟩
theorem sizes_ok (pre : List NmS) : ∀ y ∈ pre.map (·.1), y.1.size ≤ maxLen := by
  intro y hy
  obtain ⟨z, _, rfl⟩ := List.mem_map.1 hy
  exact z.2
def NmI (w : World) (pre : List NmS) (W : World) : Prop :=
  Boxed W (w.heap.size + 1) 4 (.bool false) ∧ Boxed W (w.heap.size + 1 + 1 + 1) 113 (.map (some (w.heap.size + 1 + 1))) ∧ SetM W (w.heap.size + 1 + 1) (pre.map (·.1)) ∧ okFrom [] (pre.map (·.1)) = true ∧ Below w.heap.size w W ∧ w.heap.size + 5 ≤ W.heap.size
def NmX (w : World) (c : Code) (pre : List NmS) (W : World) : Prop :=
  c = .ret ∧ Boxed W (w.heap.size + 1) 4 (.bool false) ∧ okFrom [] (pre.map (·.1)) = false ∧ Below w.heap.size w W ∧ w.heap.size + 5 ≤ W.heap.size
theorem boxed_from {W W' : World} {B b : Nat} {t : TypeId} {v : Value} {row : Option Nat} (h : Boxed W b t v) (hg : W.grownBy W' row) (hr : ∀ r, row = some r → B ≤ r ∧ ∃ o : Obj, W.heap[r]? = some o ∧ o.isCells = false) (hb : b < B) : Boxed W' b t v :=
  h.kept hg (fun e => by have := (hr b e.symm).1; omega)
theorem NmI_own (w : World) (D : Nat) (hD : w.heap.size + 5 ≤ D) : OwnFrom D (NmI w) := by
  rintro pre A B row ⟨h1, h2, h3, h4, h5, h6⟩ hg hr
  exact ⟨boxed_from h1 hg hr (by omega), boxed_from h2 hg hr (by omega), SetM.kept h3 hg (fun e => by have := (hr _ e.symm).1; omega), h4, h5.grown hg h5.size (fun k e => by have := (hr k e).1; omega), Nat.le_trans h6 hg.size⟩
theorem NmX_own (w : World) (c : Code) (D : Nat) (hD : w.heap.size + 5 ≤ D) : OwnFrom D (NmX w c) := by
  rintro pre A B row ⟨h0, h1, h4, h5, h6⟩ hg hr
  exact ⟨h0, boxed_from h1 hg hr (by omega), h4, h5.grown hg h5.size (fun k e => by have := (hr k e).1; omega), Nat.le_trans h6 hg.size⟩
def NmA (x : SigV) (w : World) (y : NmS) (a : Act) (W : World) : Prop :=
  ∃ Bx, w.heap.size + 5 ≤ Bx ∧ W.heap[Bx]? = some (.cells #[.string y.1.1, .bool y.1.2] 118 (0, 0)) ∧ a = { tmps := #[.agg #[.slice x.sa x.sorts.length x.sc, .slice x.fa x.funs.length x.fc, .slice x.ma x.macs.length x.mc], .pointer (some ⟨w.heap.size, 0, none⟩), .pointer (some ⟨w.heap.size + 1, 0, none⟩), .pointer (some ⟨w.heap.size + 1 + 1 + 1, 0, none⟩), .pointer (some ⟨Bx, 0, none⟩), .map (some (w.heap.size + 1 + 1)), .agg #[.slice x.sa x.sorts.length x.sc, .slice x.fa x.funs.length x.fc, .slice x.ma x.macs.length x.mc], .func (.func 72) #[] #[.pointer (some ⟨w.heap.size + 1 + 1 + 1 + 1, 0, none⟩)], .agg #[.string y.1.1, .bool y.1.2], undef, undef, undef, undef, undef, undef, undef], defers := [] }
theorem NmA_own (x : SigV) (w : World) (y : NmS) (a : Act) (D : Nat) : OwnFrom D (fun (_ : Unit) W => NmA x w y a W) := by
  rintro _ A B row ⟨Bx, hB, hb, ha⟩ hg hr
  refine ⟨Bx, hB, (hg.block Bx (Array.getElem?_eq_some_iff.1 hb).1 (fun e => ?_)).trans hb, ha⟩
  obtain ⟨_, o, ho, hc⟩ := hr Bx e.symm
  rw [hb] at ho; cases ho; cases hc
theorem grown_below {A B : World} (h : Below A.heap.size A B) (row : Option Nat) : A.grownBy B row := ⟨h.os, h.tape, h.output, h.size, fun i hi _ => h.block i hi⟩
theorem keepsFrom_below {A B : World} {D : Nat} (h : Below A.heap.size A B) : KeepsFrom D A B := KeepsFrom.of_grownBy (grown_below h none) (fun j e => by cases e)
theorem declStops (n : Nat) (hn : 1 ≤ n) (Bn : Nat) (x : SigV) (w W0 : World) (hR : SigR w x) (hW : Below w.heap.size w W0) (hB : W0.heap[Bn]? = some (.cells #[.slice x.sa x.sorts.length x.sc, .slice x.fa x.funs.length x.fc, .slice x.ma x.macs.length x.mc] 34 (0, 0))) :
    SeqStopsK Fence.wide n Tryz.prog 72 #[.pointer (some ⟨Bn, 0, none⟩)] encN (KeepN w.heap.size Bn) (fun ys => ys.map (·.1) = namesA x.a) (fun pre => pre.map (·.1) <+: namesA x.a) (namesA x.a).length W0 := fun l J Jx W hWW hJ _ hY h0 =>
  decl1_in n hn l Bn x w W hR (Stay.of (hW.trans (hWW.mono hW.size))) J Jx hJ hY ((hWW.block Bn (Array.getElem?_eq_some_iff.1 hB).1).trans hB) h0
theorem keepN_b {n₀ Bn D : Nat} (h1 : n₀ ≤ D) (h2 : Bn < D) : ∀ (W : World) (l : Nat) (o o' : Obj), D ≤ l → W.heap[l]? = some o → o.isCells = false → o.isWalk = false → KeepN n₀ Bn W (W.putObj l o') :=
  fun W l o o' hl _ _ _ => ⟨by simp, fun b hb => World.putObj_heap_other (by omega)⟩
set_option maxRecDepth 100000 in
set_option maxHeartbeats 4000000 in
theorem mayNames_in (x : SigV) (w : World) (hG : GS w) (hR : SigR w x) (hN : (namesA x.a).length ≤ 1000) :
    CallsIn Fence.wide 8 Tryz.prog 55 #[.agg #[.slice x.sa x.sorts.length x.sc, .slice x.fa x.funs.length x.fc, .slice x.ma x.macs.length x.mc]] w fun e w' => e = .returned (.bool (okFrom [] (namesA x.a))) ∧ Below w.heap.size w w' := by
  have hmm := @run_makeMap Tryz.prog
  have HG := Lib.hid hG
  have HR := Lib.hid hR
  clear hG hR
  refine callsIn_of_wp_marks Tryz.func55 rfl trivial ?_ rfl
  simp only [Tryz.ntmps55, List.size_toArray, List.length_cons, List.length_nil, Nat.reduceAdd, Nat.reduceSub, Array.replicate_succ, Array.replicate_zero, List.push_toArray, List.append_toArray, List.nil_append, List.cons_append]
  have hd : 1 ≤ 8 := by omega
  gi_wp2_with (refine ⟨trivial, ?_⟩; gi_at_call 62; refine (callsIn_wide.2 (declared_any x _)).mono ?_; rintro e w' ⟨rfl, rfl⟩)
  have hb0 : Below w.heap.size w (((((w.alloc (.cells #[.slice x.sa x.sorts.length x.sc, .slice x.fa x.funs.length x.fc, .slice x.ma x.macs.length x.mc] 34)).alloc (.cells #[.bool false] 4)).alloc (.map #[] 0)).alloc (.cells #[.map (some (w.heap.size + 1 + 1))] 113)).alloc (.cells #[.slice x.sa x.sorts.length x.sc, .slice x.fa x.funs.length x.fc, .slice x.ma x.macs.length x.mc] 34)) := (((((Below.refl _ w).alloc (Nat.le_refl _) _).alloc (by simp) _).alloc (by simp; omega) _).alloc (by simp; omega) _).alloc (by simp; omega) _
  have k1 : Boxed (((((w.alloc (.cells #[.slice x.sa x.sorts.length x.sc, .slice x.fa x.funs.length x.fc, .slice x.ma x.macs.length x.mc] 34)).alloc (.cells #[.bool false] 4)).alloc (.map #[] 0)).alloc (.cells #[.map (some (w.heap.size + 1 + 1))] 113)).alloc (.cells #[.slice x.sa x.sorts.length x.sc, .slice x.fa x.funs.length x.fc, .slice x.ma x.macs.length x.mc] 34)) (w.heap.size + 1) 4 (.bool false) := by
    have := (((Boxed.new (w.alloc (.cells #[.slice x.sa x.sorts.length x.sc, .slice x.fa x.funs.length x.fc, .slice x.ma x.macs.length x.mc] 34)) 4 (.bool false)).alloc (.map #[] 0)).alloc (.cells #[.map (some (w.heap.size + 1 + 1))] 113)).alloc (.cells #[.slice x.sa x.sorts.length x.sc, .slice x.fa x.funs.length x.fc, .slice x.ma x.macs.length x.mc] 34)
    simpa only [World.size_alloc] using this
  have k2 : Boxed (((((w.alloc (.cells #[.slice x.sa x.sorts.length x.sc, .slice x.fa x.funs.length x.fc, .slice x.ma x.macs.length x.mc] 34)).alloc (.cells #[.bool false] 4)).alloc (.map #[] 0)).alloc (.cells #[.map (some (w.heap.size + 1 + 1))] 113)).alloc (.cells #[.slice x.sa x.sorts.length x.sc, .slice x.fa x.funs.length x.fc, .slice x.ma x.macs.length x.mc] 34)) (w.heap.size + 1 + 1 + 1) 113 (.map (some (w.heap.size + 1 + 1))) := by
    have := (Boxed.new (((w.alloc (.cells #[.slice x.sa x.sorts.length x.sc, .slice x.fa x.funs.length x.fc, .slice x.ma x.macs.length x.mc] 34)).alloc (.cells #[.bool false] 4)).alloc (.map #[] 0)) 113 (.map (some (w.heap.size + 1 + 1)))).alloc (.cells #[.slice x.sa x.sorts.length x.sc, .slice x.fa x.funs.length x.fc, .slice x.ma x.macs.length x.mc] 34)
    simpa only [World.size_alloc] using this
  have k3 : SetM (((((w.alloc (.cells #[.slice x.sa x.sorts.length x.sc, .slice x.fa x.funs.length x.fc, .slice x.ma x.macs.length x.mc] 34)).alloc (.cells #[.bool false] 4)).alloc (.map #[] 0)).alloc (.cells #[.map (some (w.heap.size + 1 + 1))] 113)).alloc (.cells #[.slice x.sa x.sorts.length x.sc, .slice x.fa x.funs.length x.fc, .slice x.ma x.macs.length x.mc] 34)) (w.heap.size + 1 + 1) [] := by
    have := ((World.ownsMap_made (H := Unit) ((w.alloc (.cells #[.slice x.sa x.sorts.length x.sc, .slice x.fa x.funs.length x.fc, .slice x.ma x.macs.length x.mc] 34)).alloc (.cells #[.bool false] 4)) Tryz.prog 118 unitElem).alloc (.cells #[.map (some (w.heap.size + 1 + 1))] 113)).alloc (.cells #[.slice x.sa x.sorts.length x.sc, .slice x.fa x.funs.length x.fc, .slice x.ma x.macs.length x.mc] 34)
    simp only [World.size_alloc] at this
    exact this
  have k4 : (((((w.alloc (.cells #[.slice x.sa x.sorts.length x.sc, .slice x.fa x.funs.length x.fc, .slice x.ma x.macs.length x.mc] 34)).alloc (.cells #[.bool false] 4)).alloc (.map #[] 0)).alloc (.cells #[.map (some (w.heap.size + 1 + 1))] 113)).alloc (.cells #[.slice x.sa x.sorts.length x.sc, .slice x.fa x.funs.length x.fc, .slice x.ma x.macs.length x.mc] 34)).heap[w.heap.size + 1 + 1 + 1 + 1]? = some (.cells #[.slice x.sa x.sorts.length x.sc, .slice x.fa x.funs.length x.fc, .slice x.ma x.macs.length x.mc] 34 (0, 0)) := by
    have := heap_alloc_new ((((w.alloc (.cells #[.slice x.sa x.sorts.length x.sc, .slice x.fa x.funs.length x.fc, .slice x.ma x.macs.length x.mc] 34)).alloc (.cells #[.bool false] 4)).alloc (.map #[] 0)).alloc (.cells #[.map (some (w.heap.size + 1 + 1))] 113)) (.cells #[.slice x.sa x.sorts.length x.sc, .slice x.fa x.funs.length x.fc, .slice x.ma x.macs.length x.mc] 34)
    simpa only [World.size_alloc] using this
  obtain ⟨w4, hw4⟩ : ∃ w4, (((((w.alloc (.cells #[.slice x.sa x.sorts.length x.sc, .slice x.fa x.funs.length x.fc, .slice x.ma x.macs.length x.mc] 34)).alloc (.cells #[.bool false] 4)).alloc (.map #[] 0)).alloc (.cells #[.map (some (w.heap.size + 1 + 1))] 113)).alloc (.cells #[.slice x.sa x.sorts.length x.sc, .slice x.fa x.funs.length x.fc, .slice x.ma x.macs.length x.mc] 34)) = w4 := ⟨_, rfl⟩
  have hsz : w.heap.size + 5 = w4.heap.size := by rw [← hw4]; simp
  rw [hw4] at hb0 k1 k2 k3 k4 ⊢
  have HB0 := Lib.hid hb0
  clear hw4
  refine wpIn_rangeFunc_ownH rfl hd (gf := 72) (lb := #[.pointer (some ⟨w.heap.size + 1 + 1 + 1 + 1, 0, none⟩)]) rfl trivial (enters_of Tryz.func72 (by kernel_rfl) rfl)
    (declStops _ (by omega) _ x w w4 HR.out hb0 k4) (fun h k => h.trans k) (keepN_b (by omega) (by omega)) (Below.refl _ _) (fun _ => rfl)
    (NmI w) (NmX w) (NmI_own w _ (by omega)) (fun c => NmX_own w c _ (by omega)) ⟨k1, k2, k3, rfl, hb0, by omega⟩ (NmA x w) (fun y a' => NmA_own x w y a' _) ?assign ?body ?done ?stop
  case assign =>
    rintro l pre y W K ⟨h1, h2, h3, h4, h5, hWs⟩ hK
    simp only [encN]
    gi_wp2
    refine hK _ _ ((KeepsOthers.alloc _ _).from _) ⟨by simp, fun b hb => Below.heap_alloc _ _ _ (by omega)⟩ ⟨h1.alloc _, h2.alloc _, h3.kept (World.grownBy_alloc W _ none) (by simp), h4, h5.alloc h5.size _, by simp; omega⟩ ⟨W.heap.size, hWs, heap_alloc_new W _, rfl⟩
  case body =>
    rintro l pre y a' W hl hrec ⟨h1, h2, h3, h4, h5, h6⟩ ⟨Bx, hBx, hblk, rfl⟩ hlen
    have hx0 := cell_of_row _ _ 0 _ _ _ hblk
    have hx1 := cell_of_row _ _ 1 _ _ _ hblk
    simp only [List.getElem?_toArray, List.getElem?_cons_zero, List.getElem?_cons_succ] at hx0 hx1
    have g2 := h2.cell
    have g1 := h1.cell
    have f1 := h1.frozen
    have hlt1 := h1.lt
    have hlt2 := h2.lt
    have hltx : Bx < W.heap.size := (Array.getElem?_eq_some_iff.1 hblk).1
    obtain ⟨r, hr⟩ : ∃ r, freeA (memB y.1 (pre.map (·.1))) y.1.1 y.1.2 = r := ⟨_, rfl⟩
    have HC : Hid (∀ V, Below W.heap.size W V → Calls Tryz.prog 63 #[.map (some (w.heap.size + 1 + 1)), .agg #[.string y.1.1, .bool y.1.2]] V fun e w' => e = .returned (.int .i64 r) ∧ Below V.heap.size V w') := fun V hV =>
      free_any _ (pre.map (·.1)) y.1.1 y.1.2 r V ((HG.out.below h5).below hV) y.2 (h3.below hV) (sizes_ok pre) hr
    have HI := Lib.hid (And.intro h1 (And.intro h2 (And.intro h3 (And.intro h4 (And.intro h5 h6)))))
    have HBX := Lib.hid hblk
    have hmL : pre.length < maxLen := by unfold maxLen; omega
    have hd2 : 1 ≤ 8 - 1 - 1 := by omega
    by_cases hz : r = 0
    · have hne := ne_false (x := r) (y := 0) hz
      have HOK : Hid (okFrom [] ((pre ++ [y]).map (·.1)) = true) := by show _ = _; rw [List.map_append, List.map_singleton, okFrom_snoc, h4, hr, decide_eq_true hz]; rfl
      clear hr hz h1 h2 h3 h4 h5 hblk
      gi_wp2_with (first | (refine ⟨trivial, ?_⟩; gi_at_call 63; refine (callsIn_wide.2 (HC.out _ (Below.refl _ _))).mono ?_; rintro e w1 ⟨rfl, hb1⟩; obtain ⟨hc1, hf1⟩ := bcell hb1) | (gi_at_mapUpdate; refine wpListIn_mapUpdate_own _ rfl _ _ _ 113 rfl 118 120 lawKn underNm _ (w.heap.size + 1 + 1) (pre.map (·.1)).length _ rfl (SetM.below HI.out.2.2.1 hb1) (by rw [List.length_map]; exact hmL) _ _ _ rfl rfl (key_is y.1.1 y.1.2 y.2) _ [] unitElem_mk ?_; intro w2 hown2 hgrow2))
      obtain ⟨h1, h2, h3, h4, h5, h6⟩ := HI.out
      have hm1 := hgrow2.size
      have hn1 := hb1.size
      refine ⟨(keepsFrom_below hb1).trans (KeepsFrom.of_grownBy hgrow2 (fun j e => by cases e; omega)), ⟨Nat.le_trans hn1 hm1, fun b hb => (hgrow2.block b (by omega) (fun e => by cases e; omega)).trans (hb1.block b (by omega))⟩, ?_⟩
      refine ⟨(h1.kept (grown_below hb1 none) (by simp)).kept hgrow2 (fun e => by have := Option.some.inj e; omega), (h2.kept (grown_below hb1 none) (by simp)).kept hgrow2 (fun e => by have := Option.some.inj e; omega), ?_, HOK.out, (h5.trans (hb1.mono h5.size)).grown hgrow2 (by omega) (fun k e => by cases e; omega), by omega⟩
      rw [List.map_append, List.map_singleton]
      exact SetM.put hown2
    · have hne := ne_true (x := r) (y := 0) hz
      have HOK : Hid (okFrom [] ((pre ++ [y]).map (·.1)) = false) := by show _ = _; rw [List.map_append, List.map_singleton, okFrom_snoc, h4, hr, decide_eq_false hz]; rfl
      clear hr hz h1 h2 h3 h4 h5 hblk
      gi_wp2_with (refine ⟨trivial, ?_⟩; gi_at_call 63; refine (callsIn_wide.2 (HC.out _ (Below.refl _ _))).mono ?_; rintro e w1 ⟨rfl, hb1⟩; obtain ⟨hc1, hf1⟩ := bcell hb1)
      obtain ⟨h1, h2, h3, h4, h5, h6⟩ := HI.out
      refine ⟨(keepsFrom_below hb1).trans ((KeepsOthers.setCell _ _ _).from _), rfl, (h1.kept (grown_below hb1 none) (by simp)).set _, HOK.out, (h5.trans (hb1.mono h5.size)).setCell (p := ⟨w.heap.size + 1, 0, none⟩) (by simp) _, ?_⟩
      have := hb1.size
      simp [World.setCell]; omega
  case done =>
    rintro D ys W hD hS ⟨h1, h2, h3, h4, h5, h6⟩ hK
    have g1 := h1.cell
    have f1 := h1.frozen
    have HI := Lib.hid (And.intro h1 (And.intro h4 (And.intro h5 (And.intro hK hS))))
    clear h1 h2 h3 h4 h5 hK hS k1 k2 k3 k4
    gi_wp2
    obtain ⟨h1, h4, h5, hK, hS⟩ := HI.out
    have hK2 : (W.setCell ⟨w.heap.size + 1, 0, none⟩ (.bool true)).heap[D]? = some (.deferred (some [])) := (Below.heap_setCell _ _ _ D (by show D ≠ w.heap.size + 1; omega)).trans hK
    have hq := ((h1.set (.bool true)).kept (grownBy_putObj' _ D (.deferred none)) (fun e => by cases e; omega)).cell
    refine ⟨by simp, .inl ⟨_, _, rfl, run_takeDeferred hK2, ?_⟩⟩
    refine ⟨.bool true, by simp [results, Tryz.results55, go_sem, hq], ?_, ?_⟩
    · rw [← hS, h4]
    · exact (h5.setCell (p := ⟨w.heap.size + 1, 0, none⟩) (by simp) _).trans (belowK_b (w := w) (Nat.le_refl _) _ D _ _ (by omega) hK2 rfl rfl)
  case stop =>
    rintro D c pre W hD hS ⟨rfl, h1, h4, h5, h6⟩ hK
    have HI := Lib.hid (And.intro h1 (And.intro h4 (And.intro h5 (And.intro hK hS))))
    clear h1 h4 h5 hK hS k1 k2 k3 k4
    gi_wp2
    obtain ⟨h1, h4, h5, hK, hS⟩ := HI.out
    have hq := (h1.kept (grownBy_putObj' W D (.deferred none)) (fun e => by cases e; omega)).cell
    refine ⟨by simp, .inl ⟨_, _, rfl, run_takeDeferred hK, ?_⟩⟩
    refine ⟨.bool false, by simp [results, Tryz.results55, go_sem, hq], ?_, ?_⟩
    · rw [okFrom_prefix hS h4]
    · exact h5.trans (belowK_b (w := w) (Nat.le_refl _) _ D _ _ (by omega) hK rfl rfl)
theorem mayNames_any (x : SigV) (r : Bool) (w : World) (hG : GS w) (hR : SigR w x) (hN : (namesA x.a).length ≤ 1000) (hr : okFrom [] (namesA x.a) = r) :
    Calls Tryz.prog 55 #[.agg #[.slice x.sa x.sorts.length x.sc, .slice x.fa x.funs.length x.fc, .slice x.ma x.macs.length x.mc]] w fun e w' => e = .returned (.bool r) ∧ Below w.heap.size w w' := by subst hr; exact callsIn_wide.1 (mayNames_in x w hG hR hN)
end Go.Proofs.YtbddghcdibdloaaGreatDoor
namespace Go.Proofs.YtbddghcdibdloaaGreatDoor
open Go.RowKit Go.Shelf
set_option linter.unusedVariables false
attribute [local go_sem] Oper.semAt_some
def NfI (w : World) (pre : List NmS) (W : World) : Prop :=
  Boxed W (w.heap.size + 1 + 1) 113 (.map (some (w.heap.size + 1))) ∧ SetM W (w.heap.size + 1) (pre.map (·.1)) ∧ Below w.heap.size w W ∧ w.heap.size + 4 ≤ W.heap.size
theorem NfI_own (w : World) (D : Nat) (hD : w.heap.size + 4 ≤ D) : OwnFrom D (NfI w) := by
  rintro pre A B row ⟨h2, h3, h5, h6⟩ hg hr
  exact ⟨boxed_from h2 hg hr (by omega), SetM.kept h3 hg (fun e => by have := (hr _ e.symm).1; omega), h5.grown hg h5.size (fun k e => by have := (hr k e).1; omega), Nat.le_trans h6 hg.size⟩
def NfA (x : SigV) (s : ByteArray) (b : Bool) (w : World) (y : NmS) (a : Act) (W : World) : Prop :=
  ∃ Bx, w.heap.size + 4 ≤ Bx ∧ W.heap[Bx]? = some (.cells #[.string y.1.1, .bool y.1.2] 118 (0, 0)) ∧ a = { tmps := #[.agg #[.slice x.sa x.sorts.length x.sc, .slice x.fa x.funs.length x.fc, .slice x.ma x.macs.length x.mc], .string s, .bool b, .pointer (some ⟨w.heap.size, 0, none⟩), undef, undef, .int .i64 0, .pointer (some ⟨w.heap.size + 1 + 1, 0, none⟩), .pointer (some ⟨Bx, 0, none⟩), .map (some (w.heap.size + 1)), .agg #[.slice x.sa x.sorts.length x.sc, .slice x.fa x.funs.length x.fc, .slice x.ma x.macs.length x.mc], .func (.func 72) #[] #[.pointer (some ⟨w.heap.size + 1 + 1 + 1, 0, none⟩)], .agg #[.string y.1.1, .bool y.1.2], undef, undef, undef, undef, undef, undef, undef, undef], defers := [] }
theorem NfA_own (x : SigV) (s : ByteArray) (b : Bool) (w : World) (y : NmS) (a : Act) (D : Nat) : OwnFrom D (fun (_ : Unit) W => NfA x s b w y a W) := by
  rintro _ A B row ⟨Bx, hB, hb, ha⟩ hg hr
  refine ⟨Bx, hB, (hg.block Bx (Array.getElem?_eq_some_iff.1 hb).1 (fun e => ?_)).trans hb, ha⟩
  obtain ⟨_, o, ho, hc⟩ := hr Bx e.symm
  rw [hb] at ho; cases ho; cases hc
end Go.Proofs.YtbddghcdibdloaaGreatDoor
