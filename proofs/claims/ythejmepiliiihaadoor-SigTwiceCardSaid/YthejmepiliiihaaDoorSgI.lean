/- Package sig's Free. -/
import Derived.Test.YthejmepiliiihaaDoorSgH
namespace Go.Proofs.YthejmepiliiihaaDoor
open Go.RowKit Go.Shelf
set_option linter.unusedVariables false
attribute [local go_sem] Oper.semAt_some
def NfI (w : World) (pre : List NmS) (W : World) : Prop :=
  Boxed W (w.heap.size + 1 + 1) 66 (.map (some (w.heap.size + 1))) ∧ SetM W (w.heap.size + 1) (pre.map (·.1)) ∧ Below w.heap.size w W ∧ w.heap.size + 4 ≤ W.heap.size
theorem NfI_own (w : World) (D : Nat) (hD : w.heap.size + 4 ≤ D) : OwnFrom D (NfI w) := by
  rintro pre A B row ⟨h2, h3, h5, h6⟩ hg hr
  exact ⟨boxed_from h2 hg hr (by omega), SetM.kept h3 hg (fun e => by have := (hr _ e.symm).1; omega), h5.grown hg h5.size (fun k e => by have := (hr k e).1; omega), Nat.le_trans h6 hg.size⟩
def NfA (x : SigV) (s : ByteArray) (b : Bool) (w : World) (y : NmS) (a : Act) (W : World) : Prop :=
  ∃ Bx, w.heap.size + 4 ≤ Bx ∧ W.heap[Bx]? = some (.cells #[.string y.1.1, .bool y.1.2] 55 (0, 0)) ∧ a = { tmps := #[.agg #[.slice x.sa x.sorts.length x.sc, .slice x.fa x.funs.length x.fc, .slice x.ma x.macs.length x.mc], .string s, .bool b, .pointer (some ⟨w.heap.size, 0, none⟩), undef, undef, .int .i64 0, .pointer (some ⟨w.heap.size + 1 + 1, 0, none⟩), .pointer (some ⟨Bx, 0, none⟩), .map (some (w.heap.size + 1)), .agg #[.slice x.sa x.sorts.length x.sc, .slice x.fa x.funs.length x.fc, .slice x.ma x.macs.length x.mc], .func (.func 39) #[] #[.pointer (some ⟨w.heap.size + 1 + 1 + 1, 0, none⟩)], .agg #[.string y.1.1, .bool y.1.2], undef, undef, undef, undef, undef, undef, undef, undef], defers := [] }
theorem NfA_own (x : SigV) (s : ByteArray) (b : Bool) (w : World) (y : NmS) (a : Act) (D : Nat) : OwnFrom D (fun (_ : Unit) W => NfA x s b w y a W) := by
  rintro _ A B row ⟨Bx, hB, hb, ha⟩ hg hr
  refine ⟨Bx, hB, (hg.block Bx (Array.getElem?_eq_some_iff.1 hb).1 (fun e => ?_)).trans hb, ha⟩
  obtain ⟨_, o, ho, hc⟩ := hr Bx e.symm
  rw [hb] at ho; cases ho; cases hc
set_option maxRecDepth 100000 in
set_option maxHeartbeats 4000000 in
theorem Free_in (x : SigV) (s : ByteArray) (b : Bool) (r : Int) (w : World) (hG : GS w) (hR : SigR w x) (hs : s.size ≤ maxLen) (hN : (namesA x.a).length ≤ 1000) (hr : freeA (memB (s, b) (namesA x.a)) s b = r) :
    CallsIn Fence.wide 8 Tryd.prog 14 #[.agg #[.slice x.sa x.sorts.length x.sc, .slice x.fa x.funs.length x.fc, .slice x.ma x.macs.length x.mc], .string s, .bool b] w fun e w' => e = .returned (.int .i64 r) ∧ Below w.heap.size w w' := by
  have hmm := @run_makeMap Tryd.prog
  have HG := Lib.hid hG
  have HR := Lib.hid hR
  have HRr := Lib.hid hr
  clear hG hR hr
  refine callsIn_of_wp_marks Tryd.func14 rfl trivial ?_ rfl
  simp only [Tryd.ntmps14, List.size_toArray, List.length_cons, List.length_nil, Nat.reduceAdd, Nat.reduceSub, Array.replicate_succ, Array.replicate_zero, List.push_toArray, List.append_toArray, List.nil_append, List.cons_append]
  have hd : 1 ≤ 8 := by omega
  gi_wp2_with (refine ⟨trivial, ?_⟩; gi_at_call 27; refine (callsIn_wide.2 (declared_any x _)).mono ?_; rintro e w' ⟨rfl, rfl⟩)
  have hb0 : Below w.heap.size w ((((w.alloc (.cells #[.slice x.sa x.sorts.length x.sc, .slice x.fa x.funs.length x.fc, .slice x.ma x.macs.length x.mc] 26)).alloc (.map #[] 0)).alloc (.cells #[.map (some (w.heap.size + 1))] 66)).alloc (.cells #[.slice x.sa x.sorts.length x.sc, .slice x.fa x.funs.length x.fc, .slice x.ma x.macs.length x.mc] 26)) := ((((Below.refl _ w).alloc (Nat.le_refl _) _).alloc (by simp) _).alloc (by simp; omega) _).alloc (by simp; omega) _
  have k2 : Boxed ((((w.alloc (.cells #[.slice x.sa x.sorts.length x.sc, .slice x.fa x.funs.length x.fc, .slice x.ma x.macs.length x.mc] 26)).alloc (.map #[] 0)).alloc (.cells #[.map (some (w.heap.size + 1))] 66)).alloc (.cells #[.slice x.sa x.sorts.length x.sc, .slice x.fa x.funs.length x.fc, .slice x.ma x.macs.length x.mc] 26)) (w.heap.size + 1 + 1) 66 (.map (some (w.heap.size + 1))) := by
    have := (Boxed.new ((w.alloc (.cells #[.slice x.sa x.sorts.length x.sc, .slice x.fa x.funs.length x.fc, .slice x.ma x.macs.length x.mc] 26)).alloc (.map #[] 0)) 66 (.map (some (w.heap.size + 1)))).alloc (.cells #[.slice x.sa x.sorts.length x.sc, .slice x.fa x.funs.length x.fc, .slice x.ma x.macs.length x.mc] 26)
    simpa only [World.size_alloc] using this
  have k3 : SetM ((((w.alloc (.cells #[.slice x.sa x.sorts.length x.sc, .slice x.fa x.funs.length x.fc, .slice x.ma x.macs.length x.mc] 26)).alloc (.map #[] 0)).alloc (.cells #[.map (some (w.heap.size + 1))] 66)).alloc (.cells #[.slice x.sa x.sorts.length x.sc, .slice x.fa x.funs.length x.fc, .slice x.ma x.macs.length x.mc] 26)) (w.heap.size + 1) [] := by
    have := ((World.ownsMap_made (H := Unit) (w.alloc (.cells #[.slice x.sa x.sorts.length x.sc, .slice x.fa x.funs.length x.fc, .slice x.ma x.macs.length x.mc] 26)) Tryd.prog 55 unitElem).alloc (.cells #[.map (some (w.heap.size + 1))] 66)).alloc (.cells #[.slice x.sa x.sorts.length x.sc, .slice x.fa x.funs.length x.fc, .slice x.ma x.macs.length x.mc] 26)
    simp only [World.size_alloc] at this
    exact this
  have k4 : ((((w.alloc (.cells #[.slice x.sa x.sorts.length x.sc, .slice x.fa x.funs.length x.fc, .slice x.ma x.macs.length x.mc] 26)).alloc (.map #[] 0)).alloc (.cells #[.map (some (w.heap.size + 1))] 66)).alloc (.cells #[.slice x.sa x.sorts.length x.sc, .slice x.fa x.funs.length x.fc, .slice x.ma x.macs.length x.mc] 26)).heap[w.heap.size + 1 + 1 + 1]? = some (.cells #[.slice x.sa x.sorts.length x.sc, .slice x.fa x.funs.length x.fc, .slice x.ma x.macs.length x.mc] 26 (0, 0)) := by
    have := heap_alloc_new (((w.alloc (.cells #[.slice x.sa x.sorts.length x.sc, .slice x.fa x.funs.length x.fc, .slice x.ma x.macs.length x.mc] 26)).alloc (.map #[] 0)).alloc (.cells #[.map (some (w.heap.size + 1))] 66)) (.cells #[.slice x.sa x.sorts.length x.sc, .slice x.fa x.funs.length x.fc, .slice x.ma x.macs.length x.mc] 26)
    simpa only [World.size_alloc] using this
  obtain ⟨w4, hw4⟩ : ∃ w4, ((((w.alloc (.cells #[.slice x.sa x.sorts.length x.sc, .slice x.fa x.funs.length x.fc, .slice x.ma x.macs.length x.mc] 26)).alloc (.map #[] 0)).alloc (.cells #[.map (some (w.heap.size + 1))] 66)).alloc (.cells #[.slice x.sa x.sorts.length x.sc, .slice x.fa x.funs.length x.fc, .slice x.ma x.macs.length x.mc] 26)) = w4 := ⟨_, rfl⟩
  have hsz : w.heap.size + 4 = w4.heap.size := by rw [← hw4]; simp
  rw [hw4] at hb0 k2 k3 k4 ⊢
  clear hw4
  refine wpIn_rangeFunc_ownH rfl hd (gf := 39) (lb := #[.pointer (some ⟨w.heap.size + 1 + 1 + 1, 0, none⟩)]) rfl trivial (enters_of Tryd.func39 (by kernel_rfl) rfl)
    (declStops _ (by omega) _ x w w4 HR.out hb0 k4) (fun h k => h.trans k) (keepN_b (by omega) (by omega)) (Below.refl _ _) (fun _ => rfl)
    (NfI w) (fun _ _ _ => False) (NfI_own w _ (by omega)) (fun _ _ _ _ _ hs _ _ => hs) ⟨k2, k3, hb0, by omega⟩ (NfA x s b w) (fun y a' => NfA_own x s b w y a' _) ?assign ?body ?done ?stop
  case assign =>
    rintro l pre y W K ⟨h2, h3, h5, hWs⟩ hK
    simp only [encN]
    gi_wp2
    refine hK _ _ ((KeepsOthers.alloc _ _).from _) ⟨by simp, fun b hb => Below.heap_alloc _ _ _ (by omega)⟩ ⟨h2.alloc _, h3.kept (World.grownBy_alloc W _ none) (by simp), h5.alloc h5.size _, by simp; omega⟩ ⟨W.heap.size, hWs, heap_alloc_new W _, rfl⟩
  case body =>
    rintro l pre y a' W hl hrec ⟨h2, h3, h5, h6⟩ ⟨Bx, hBx, hblk, rfl⟩ hlen
    have hx0 := cell_of_row _ _ 0 _ _ _ hblk
    have hx1 := cell_of_row _ _ 1 _ _ _ hblk
    simp only [List.getElem?_toArray, List.getElem?_cons_zero, List.getElem?_cons_succ] at hx0 hx1
    have g2 := h2.cell
    have HI := Lib.hid (And.intro h2 (And.intro h3 (And.intro h5 h6)))
    have hmL : pre.length < maxLen := by unfold maxLen; omega
    have hd2 : 1 ≤ 8 - 1 - 1 := by omega
    have hO : W.ownsMap (H := Unit) Tryd.prog 55 unitElem (w.heap.size + 1) (pre.map (·.1)).length (Maps.setOf (.agg []) ((pre.map (·.1)).map kl)) := h3
    clear h2 h3 h5 hblk
    gi_wp2_with (gi_at_mapUpdate; refine wpListIn_mapUpdate_own _ rfl _ _ _ 66 rfl 55 70 lawKn underNm _ (w.heap.size + 1) _ _ rfl hO (by rw [List.length_map]; exact hmL) _ _ _ rfl rfl (key_is y.1.1 y.1.2 y.2) _ [] unitElem_mk ?_; intro w2 hown2 hgrow2)
    obtain ⟨h2, h3, h5, h6⟩ := HI.out
    have hm1 := hgrow2.size
    refine ⟨KeepsFrom.of_grownBy hgrow2 (fun j e => by cases e; omega), ⟨hm1, fun b hb => hgrow2.block b (by omega) (fun e => by have := Option.some.inj e; omega)⟩, ?_⟩
    refine ⟨h2.kept hgrow2 (fun e => by have := Option.some.inj e; omega), ?_, h5.grown hgrow2 (by omega) (fun k e => by cases e; omega), by omega⟩
    rw [List.map_append, List.map_singleton]
    exact SetM.put hown2
  case done =>
    rintro D ys W hD hS ⟨h2, h3, h5, h6⟩ hK
    have g2 := h2.cell
    have HC : Hid (∀ V, Below W.heap.size W V → Calls Tryd.prog 28 #[.map (some (w.heap.size + 1)), .agg #[.string s, .bool b]] V fun e w' => e = .returned (.int .i64 r) ∧ Below V.heap.size V w') := fun V hV =>
      free_any _ (ys.map (·.1)) s b r V ((HG.out.below h5).below hV) hs (h3.below hV) (sizes_ok ys) (by rw [hS]; exact HRr.out)
    have HI := Lib.hid (And.intro h5 hK)
    clear h2 h3 h5 hK hS k2 k3 k4
    gi_wp2_with (refine ⟨trivial, ?_⟩; gi_at_call 28; refine (callsIn_wide.2 (HC.out _ (Below.refl _ _))).mono ?_; rintro e w1 ⟨rfl, hb1⟩; obtain ⟨hc1, hf1⟩ := bcell hb1)
    obtain ⟨h5, hK⟩ := HI.out
    have hK2 : w1.heap[D]? = some (.deferred (some [])) := (hb1.block D (Array.getElem?_eq_some_iff.1 hK).1).trans hK
    refine ⟨by simp, .inl ⟨_, _, rfl, run_takeDeferred hK2, ?_⟩⟩
    exact ⟨_, results_tmp rfl _ _ _, rfl, (h5.trans (hb1.mono h5.size)).trans (belowK_b (w := w) (Nat.le_refl _) _ D _ _ (by omega) hK2 rfl rfl)⟩
  case stop =>
    rintro D c pre W _ _ h _
    exact h.elim
theorem Free_any (x : SigV) (s : ByteArray) (b : Bool) (r : Int) (w : World) (hG : GS w) (hR : SigR w x) (hs : s.size ≤ maxLen) (hN : (namesA x.a).length ≤ 1000) (hr : freeA (memB (s, b) (namesA x.a)) s b = r) :
    Calls Tryd.prog 14 #[.agg #[.slice x.sa x.sorts.length x.sc, .slice x.fa x.funs.length x.fc, .slice x.ma x.macs.length x.mc], .string s, .bool b] w fun e w' => e = .returned (.int .i64 r) ∧ Below w.heap.size w w' := callsIn_wide.1 (Free_in x s b r w hG hR hs hN hr)
end Go.Proofs.YthejmepiliiihaaDoor
