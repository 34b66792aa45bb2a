/- Package sig's joined, where one macro is put behind. -/
import Derived.Test.YthejmepiliiihaaDoorSgR
import Derived.Deep.AppendLies
namespace Go.Proofs.YthejmepiliiihaaDoor
open Go.RowKit
set_option linter.unusedVariables false
set_option maxRecDepth 100000 in
set_option maxHeartbeats 4000000 in
theorem joinM_any (x : SigV) (s : MacV) (b : Nat) (w : World) (hR : SigR w x) (hn : x.macs.length ≤ 100) (hs : MacOk w w.heap.size s) (hb : w.heap[b]? = some (.cells #[.string s.m.name, .slice s.pa s.m.params.length s.pc, .int .i64 s.m.res, .int .i8 s.m.body.kind, .string (bytesL s.m.body.text), .slice s.ba s.m.body.kids.length s.bc] 50 (0, 0))) :
    Calls Tryd.prog 29 #[.agg #[.slice x.sa x.sorts.length x.sc, .slice x.fa x.funs.length x.fc, .slice x.ma x.macs.length x.mc], .agg #[.slice none 0 0, .slice none 0 0, .slice (some ⟨b, 0, none⟩) 1 1]] w fun e w' => ∃ z : SigV, e = .returned (.agg #[.slice z.sa z.sorts.length z.sc, .slice z.fa z.funs.length z.fc, .slice z.ma z.macs.length z.mc]) ∧ z.a = ⟨x.sorts, x.funs, x.macs.map (·.m) ++ [s.m]⟩ ∧ SigR w' z ∧ (SigK w x → SxK w s.m.body (bodyV s) → SigK w' z) ∧ Below w.heap.size w w' := by
  obtain ⟨i0, hi, hz0, hz1, hz2⟩ := info_parts info_mac
  obtain ⟨i1, hi1, _, _, _⟩ := info_parts info_fun
  obtain ⟨i2, hi2, _, _, _⟩ := info_parts info_str
  have hK1 := fun W => fun ty => app_keep (ty := ty) Tryd.underlying23 hi1 x.fa x.funs.length W
  have hK2 := fun W => fun ty => app_keep (ty := ty) Tryd.underlying22 hi2 x.sa x.sorts.length W
  have HPart : Hid (∀ V, Calls Tryd.prog 22 #[.agg #[.slice x.sa x.sorts.length x.sc, .slice x.fa x.funs.length x.fc, .slice x.ma x.macs.length x.mc], .int .i64 x.sorts.length, .int .i64 x.funs.length, .int .i64 x.macs.length] V fun e w' => e = .returned (.agg #[.slice x.sa x.sorts.length x.sorts.length, .slice x.fa x.funs.length x.funs.length, .slice x.ma x.macs.length x.macs.length]) ∧ Below V.heap.size V w') := fun V => part_aux x.sa x.fa x.ma x.sorts.length x.funs.length x.macs.length x.sc x.fc x.mc x.sorts.length x.funs.length x.macs.length V hR.sl hR.fl hR.ml
  have HR := Lib.hid hR
  have HB := Lib.hid hb
  clear hR hb
  obtain ⟨W0, hW0⟩ : ∃ W0, W0 = ((w.alloc (.cells #[.slice x.sa x.sorts.length x.sc, .slice x.fa x.funs.length x.fc, .slice x.ma x.macs.length x.mc] 26)).alloc (.cells #[.slice none 0 0, .slice none 0 0, .slice (some ⟨b, 0, none⟩) 1 1] 26)).alloc (.cells #[.slice none 0 0, .slice none 0 0, .slice none 0 0] 26) := ⟨_, rfl⟩
  have hB0 : Below w.heap.size w W0 := by rw [hW0]; exact (((Below.refl _ _).alloc (Nat.le_refl _) _).alloc (by simp) _).alloc (by simp; omega) _
  have hX0 : W0.heap[w.heap.size]? = some (.cells #[.slice x.sa x.sorts.length x.sc, .slice x.fa x.funs.length x.fc, .slice x.ma x.macs.length x.mc] 26 (0, 0)) := by rw [hW0]; exact ((Below.heap_alloc _ _ _ (by simp; omega)).trans (Below.heap_alloc _ _ _ (by simp))).trans (heap_alloc_new w _)
  have hM0 : W0.heap[w.heap.size + 1]? = some (.cells #[.slice none 0 0, .slice none 0 0, .slice (some ⟨b, 0, none⟩) 1 1] 26 (0, 0)) := by
    rw [hW0]
    have := heap_alloc_new (w.alloc (.cells #[.slice x.sa x.sorts.length x.sc, .slice x.fa x.funs.length x.fc, .slice x.ma x.macs.length x.mc] 26)) (.cells #[.slice none 0 0, .slice none 0 0, .slice (some ⟨b, 0, none⟩) 1 1] 26)
    rw [World.size_alloc] at this
    exact (Below.heap_alloc _ _ _ (by simp)).trans this
  have hY0 : W0.heap[w.heap.size + 2]? = some (.cells #[.slice none 0 0, .slice none 0 0, .slice none 0 0] 26 (0, 0)) := by
    rw [hW0]
    have := heap_alloc_new ((w.alloc (.cells #[.slice x.sa x.sorts.length x.sc, .slice x.fa x.funs.length x.fc, .slice x.ma x.macs.length x.mc] 26)).alloc (.cells #[.slice none 0 0, .slice none 0 0, .slice (some ⟨b, 0, none⟩) 1 1] 26)) (.cells #[.slice none 0 0, .slice none 0 0, .slice none 0 0] 26)
    simpa only [World.size_alloc] using this
  have hsz0 : W0.heap.size = w.heap.size + 3 := by rw [hW0]; simp
  have x0 := cell_of_row _ _ 0 _ _ _ hX0
  have x1 := cell_of_row _ _ 1 _ _ _ hX0
  have x2 := cell_of_row _ _ 2 _ _ _ hX0
  simp only [List.getElem?_toArray, List.getElem?_cons_zero, List.getElem?_cons_succ] at x0 x1 x2
  have HB0 := Lib.hid hB0
  have HX0 := Lib.hid hX0
  have HM0 := Lib.hid hM0
  have HY0 := Lib.hid hY0
  clear hB0 hX0 hM0 hY0
  go_enter Tryd.func29, Tryd.ntmps29
  go_upto_region 2 with (go_at_call 22; rw [← hW0]; refine (HPart.out _).mono ?_; rintro e w1 ⟨rfl, hb1⟩; have y0 := (hb1.cell (p := ⟨w.heap.size, 0, none⟩) (by show w.heap.size < W0.heap.size; omega)).trans x0; have y1 := (hb1.cell (p := ⟨w.heap.size, 1, none⟩) (by show w.heap.size < W0.heap.size; omega)).trans x1; have y2 := (hb1.cell (p := ⟨w.heap.size, 2, none⟩) (by show w.heap.size < W0.heap.size; omega)).trans x2; have z0 : ∀ i, w1.frozen? ⟨w.heap.size, i, none⟩ = false := (fun i => by simp [World.frozen?, (hb1.block w.heap.size (by omega)).trans HX0.out]))
  obtain ⟨W2, hW2⟩ : ∃ W2, W2 = ((w1.setCell ⟨w.heap.size, 0, none⟩ (.slice x.sa x.sorts.length x.sorts.length)).setCell ⟨w.heap.size, 1, none⟩ (.slice x.fa x.funs.length x.funs.length)).setCell ⟨w.heap.size, 2, none⟩ (.slice x.ma x.macs.length x.macs.length) := ⟨_, rfl⟩
  rw [← hW2]
  have hX1 : w1.heap[w.heap.size]? = some (.cells #[.slice x.sa x.sorts.length x.sc, .slice x.fa x.funs.length x.fc, .slice x.ma x.macs.length x.mc] 26 (0, 0)) := (hb1.block _ (by omega)).trans HX0.out
  have hX2 : W2.heap[w.heap.size]? = some (.cells #[.slice x.sa x.sorts.length x.sorts.length, .slice x.fa x.funs.length x.funs.length, .slice x.ma x.macs.length x.macs.length] 26 (0, 0)) := by rw [hW2]; exact set3 hX1
  have hoth : ∀ c, c ≠ w.heap.size → W2.heap[c]? = w1.heap[c]? := fun c hc => by rw [hW2]; exact ((Below.heap_setCell _ _ _ c hc).trans (Below.heap_setCell _ _ _ c hc)).trans (Below.heap_setCell _ _ _ c hc)
  have hM2 := ((hoth (w.heap.size + 1) (by omega)).trans (hb1.block _ (by omega))).trans HM0.out
  have hY2 := ((hoth (w.heap.size + 2) (by omega)).trans (hb1.block _ (by omega))).trans HY0.out
  have hs2 : W2.heap.size = w1.heap.size := by rw [hW2]; simp [World.setCell]
  have hb2 : Below w.heap.size w W2 := by rw [hW2]; exact (((HB0.out.trans (hb1.mono (by omega))).setCell (p := ⟨w.heap.size, 0, none⟩) (by simp) _).setCell (p := ⟨w.heap.size, 1, none⟩) (by simp) _).setCell (p := ⟨w.heap.size, 2, none⟩) (by simp) _
  have hs1 := hb1.size
  have hbW : W2.heap[b]? = some (.cells #[.string s.m.name, .slice s.pa s.m.params.length s.pc, .int .i64 s.m.res, .int .i8 s.m.body.kind, .string (bytesL s.m.body.text), .slice s.ba s.m.body.kids.length s.bc] 50 (0, 0)) := (hb2.block b (Array.getElem?_eq_some_iff.1 HB.out).1).trans HB.out
  have hA := fun ty => app_row (P := Tryd.prog) (ty := ty) (news := macC s) (b := ⟨b, 0, none⟩) Tryd.underlying24 hi hz0 (HR.out.mat.below hb2) (by rw [len_flat macC_len, hz1]) (by rw [hz1]; rfl) (by omega) (World.news_of_block hbW) (n := x.macs.length) (by omega) (by omega) (fun e => by apply Classical.byContradiction; intro h; obtain ⟨g, o, ea, _⟩ := HR.out.mat (by rw [len_flat macC_len]; omega); rw [e] at ea; cases ea) W2.drew rfl
  have hH5 : (W2.drew.drew.alloc (.cells ((x.macs.flatMap macC).toArray ++ (macC s).toArray ++ Builtin.zeroCells (Value.agg #[.string ⟨#[]⟩, .slice none 0 0, .int .i64 0, .int .i8 0, .string ⟨#[]⟩, .slice none 0 0]).cells (grownCap W2.drew (x.macs.length + 1) x.macs.length 50 - (x.macs.length + 1))) 50)).heap[W2.heap.size]? = _ := heap_alloc_new W2.drew.drew _
  have hB5 : Below W2.heap.size W2 (W2.drew.drew.alloc (.cells ((x.macs.flatMap macC).toArray ++ (macC s).toArray ++ Builtin.zeroCells (Value.agg #[.string ⟨#[]⟩, .slice none 0 0, .int .i64 0, .int .i8 0, .string ⟨#[]⟩, .slice none 0 0]).cells (grownCap W2.drew (x.macs.length + 1) x.macs.length 50 - (x.macs.length + 1))) 50)) := (Below.refl _ _).drew.drew.alloc (Nat.le_refl _) _
  have hcap1 := grownCap_ge W2.drew (x.macs.length + 1) x.macs.length 50
  have hcap2 := grownCap_le_maxLen W2.drew (x.macs.length + 1) x.macs.length 50 (by unfold maxLen; omega)
  have hsz5 : W2.drew.heap.size = W2.heap.size := rfl
  rw [hsz5] at hA
  generalize hgc : grownCap W2.drew (x.macs.length + 1) x.macs.length 50 = rc at hA hH5 hB5 hcap1 hcap2
  generalize hw5 : W2.drew.drew.alloc (.cells ((x.macs.flatMap macC).toArray ++ (macC s).toArray ++ Builtin.zeroCells (Value.agg #[.string ⟨#[]⟩, .slice none 0 0, .int .i64 0, .int .i8 0, .string ⟨#[]⟩, .slice none 0 0]).cells (rc - (x.macs.length + 1))) 50) = w5 at hA hH5 hB5
  have HA := Lib.hid hA
  have HK1 := Lib.hid hK1
  have HK2 := Lib.hid hK2
  have HSK : Hid (∀ V : World, (∀ c, c = w.heap.size ∨ c = w.heap.size + 1 → V.heap[c]? = W2.heap[c]?) → V.cell? ⟨w.heap.size, 0, none⟩ = some (.slice x.sa x.sorts.length x.sorts.length) ∧ V.cell? ⟨w.heap.size, 1, none⟩ = some (.slice x.fa x.funs.length x.funs.length) ∧ V.cell? ⟨w.heap.size, 2, none⟩ = some (.slice x.ma x.macs.length x.macs.length) ∧
      V.cell? ⟨w.heap.size + 1, 0, none⟩ = some (.slice none 0 0) ∧ V.cell? ⟨w.heap.size + 1, 1, none⟩ = some (.slice none 0 0) ∧ V.cell? ⟨w.heap.size + 1, 2, none⟩ = some (.slice (some ⟨b, 0, none⟩) 1 1)) := fun V hV => by
    have e0 := (hV _ (.inl rfl)).trans hX2
    have e1 := (hV _ (.inr rfl)).trans hM2
    have u0 := cell_of_row _ _ 0 _ _ _ e0
    have u1 := cell_of_row _ _ 1 _ _ _ e0
    have u2 := cell_of_row _ _ 2 _ _ _ e0
    have v0 := cell_of_row _ _ 0 _ _ _ e1
    have v1 := cell_of_row _ _ 1 _ _ _ e1
    have v2 := cell_of_row _ _ 2 _ _ _ e1
    simp only [List.getElem?_toArray, List.getElem?_cons_zero, List.getElem?_cons_succ] at u0 u1 u2 v0 v1 v2
    exact ⟨u0, u1, u2, v0, v1, v2⟩
  have hY5 : w5.heap[w.heap.size + 2]? = some (.cells #[.slice none 0 0, .slice none 0 0, .slice none 0 0] 26 (0, 0)) := (hB5.block _ (by omega)).trans hY2
  have t0 := cell_of_row _ _ 0 _ _ _ hY5
  have t1 := cell_of_row _ _ 1 _ _ _ hY5
  have t2 := cell_of_row _ _ 2 _ _ _ hY5
  have f0 : ∀ i, w5.frozen? ⟨w.heap.size + 2, i, none⟩ = false := fun i => by simp [World.frozen?, hY5]
  simp only [List.getElem?_toArray, List.getElem?_cons_zero, List.getElem?_cons_succ] at t0 t1 t2
  have HB2 := Lib.hid hb2
  have HY5 := Lib.hid hY5
  have HB5 := Lib.hid hB5
  have HH5 := Lib.hid hH5
  have H5 : Hid (∀ c, c = w.heap.size ∨ c = w.heap.size + 1 → w5.heap[c]? = W2.heap[c]?) := fun c hc => hB5.block c (by omega)
  have n2 : w.heap.size + 2 < W2.heap.size := by omega
  clear hb1 hb2 hX1 hX2 hM2 hY2 hoth hbW hs2 hs1 hW2 y0 y1 y2 z0 x0 x1 x2 HX0 HM0 HY0 hsz0 hW0 hA hK1 hK2 hgc hw5 hH5 hB5 hsz5 hY5 HPart HB0
  go_region_held_law (fun V => V.cell? ⟨w.heap.size, 0, none⟩ = some (.slice x.sa x.sorts.length x.sorts.length) ∧ V.cell? ⟨w.heap.size, 1, none⟩ = some (.slice x.fa x.funs.length x.funs.length) ∧ V.cell? ⟨w.heap.size, 2, none⟩ = some (.slice x.ma x.macs.length x.macs.length) ∧
      V.cell? ⟨w.heap.size + 1, 0, none⟩ = some (.slice none 0 0) ∧ V.cell? ⟨w.heap.size + 1, 1, none⟩ = some (.slice none 0 0) ∧ V.cell? ⟨w.heap.size + 1, 2, none⟩ = some (.slice (some ⟨b, 0, none⟩) 1 1))
    (first | exact HSK.out _ (fun c hc => rfl) | exact HSK.out _ H5.out | exact HSK.out _ (fun c hc => (three_oth (by omega)).trans (H5.out c hc)))
    (first | (refine step_run _ (by rfl) _ _ _ (by rfl) _ _ (by rfl) (by rfl) HA.out ?_) | (refine step_run _ (by rfl) _ _ _ (by rfl) _ _ (by rfl) (by rfl) (HK1.out _) ?_) | (refine step_run _ (by rfl) _ _ _ (by rfl) _ _ (by rfl) (by rfl) (HK2.out _) ?_))
  go_wp2_with fail
  have hc := set3 (v0 := .slice x.sa x.sorts.length x.sorts.length) (v1 := .slice x.fa x.funs.length x.funs.length) (v2 := .slice (some ⟨W2.heap.size, 0, none⟩) (x.macs.length + 1) rc) HY5.out
  have hbf := (((HB2.out.trans (HB5.out.mono HB2.out.size)).setCell (p := ⟨w.heap.size + 2, 0, none⟩) (by simp) (.slice x.sa x.sorts.length x.sorts.length)).setCell (p := ⟨w.heap.size + 2, 1, none⟩) (by simp) (.slice x.fa x.funs.length x.funs.length)).setCell (p := ⟨w.heap.size + 2, 2, none⟩) (by simp) (.slice (some ⟨W2.heap.size, 0, none⟩) (x.macs.length + 1) rc)
  have hnew : (((w5.setCell ⟨w.heap.size + 2, 0, none⟩ (.slice x.sa x.sorts.length x.sorts.length)).setCell ⟨w.heap.size + 2, 1, none⟩ (.slice x.fa x.funs.length x.funs.length)).setCell ⟨w.heap.size + 2, 2, none⟩ (.slice (some ⟨W2.heap.size, 0, none⟩) (x.macs.length + 1) rc)).heap[W2.heap.size]? = _ := (three_oth (by omega)).trans HH5.out
  have c0 := cell_of_row _ _ 0 _ _ _ hc
  have c1 := cell_of_row _ _ 1 _ _ _ hc
  have c2 := cell_of_row _ _ 2 _ _ _ hc
  simp only [List.getElem?_toArray, List.getElem?_cons_zero, List.getElem?_cons_succ] at c0 c1 c2
  have hsame : ∀ v0 v1 v2, (((w5.setCell ⟨w.heap.size + 1 + 1, 0, none⟩ v0).setCell ⟨w.heap.size + 1 + 1, 1, none⟩ v1).setCell ⟨w.heap.size + 1 + 1, 2, none⟩ v2) = (((w5.setCell ⟨w.heap.size + 2, 0, none⟩ v0).setCell ⟨w.heap.size + 2, 1, none⟩ v1).setCell ⟨w.heap.size + 2, 2, none⟩ v2) := fun _ _ _ => rfl
  rw [hsame]
  generalize (((w5.setCell ⟨w.heap.size + 2, 0, none⟩ (.slice x.sa x.sorts.length x.sorts.length)).setCell ⟨w.heap.size + 2, 1, none⟩ (.slice x.fa x.funs.length x.funs.length)).setCell ⟨w.heap.size + 2, 2, none⟩ (.slice (some ⟨W2.heap.size, 0, none⟩) (x.macs.length + 1) rc)) = Wf at c0 c1 c2 hc hbf hnew ⊢
  refine bodyPost_ret (v := .agg #[.slice x.sa x.sorts.length x.sorts.length, .slice x.fa x.funs.length x.funs.length, .slice (some ⟨W2.heap.size, 0, none⟩) (x.macs.length + 1) rc]) (by simp [results, Tryd.results29, go_sem, c0, c1, c2]) rfl ?_
  have hlt5 : W2.heap.size < Wf.heap.size := (Array.getElem?_eq_some_iff.1 hnew).1
  have hRf := HR.out.below hbf
  have hat : At Wf Wf.heap.size ((x.macs ++ [s]).flatMap macC) (some ⟨W2.heap.size, 0, none⟩) := fun _ => ⟨W2.heap.size, 0, rfl, hlt5, fun i u hu => by
    have e := cell_of_row _ _ (0 + i) _ _ _ hnew
    rw [e, Nat.zero_add, ← Array.getElem?_toList]
    have hl : i < ((x.macs ++ [s]).flatMap macC).length := (List.getElem?_eq_some_iff.1 hu).1
    simp only [Array.toList_append]
    have e2 : x.macs.flatMap macC ++ macC s = (x.macs ++ [s]).flatMap macC := by simp [macC]
    rw [e2, List.getElem?_append_left hl]
    exact hu⟩
  have hso := hs.below hbf
  have hns := hbf.size
  refine ⟨⟨x.sorts, x.sa, x.sorts.length, x.funs, x.fa, x.funs.length, x.macs ++ [s], some ⟨W2.heap.size, 0, none⟩, rc⟩, by simp, by simp [SigV.a], ⟨Nat.le_refl _, Nat.le_trans hRf.sl hRf.sm, hRf.sat, hRf.sok, Nat.le_refl _, Nat.le_trans hRf.fl hRf.fm, hRf.fat, hRf.fok, by simp; omega, hcap2, hat, fun y hy => ?_⟩, fun hk hk2 y hy => ?_, hbf⟩
  · rcases List.mem_append.1 hy with hy | hy
    · exact hRf.mok y hy
    · simp at hy; subst hy; exact ⟨hso.name, hso.plen, hso.pcap, hso.pat.more hns, hso.pok, hso.res, hso.body⟩
  · rcases List.mem_append.1 hy with hy | hy
    · exact (hk.below hbf) y hy
    · simp at hy; subst hy; exact hk2.below hbf
end Go.Proofs.YthejmepiliiihaaDoor
