/- Package sig's AddSort, AddFun, AddMacro. -/
import Derived.Test.YthejmepiliiihaaDoorSgV
import Derived.Test.YthejmepiliiihaaDoorSgS
import Derived.Test.YthejmepiliiihaaDoorSgT
import Derived.Test.YthejmepiliiihaaDoorSgU
namespace Go.Proofs.YthejmepiliiihaaDoor
open Go.RowKit
set_option linter.unusedVariables false
def Rows_ok (x : SigA) : Prop := ∀ m ∈ x.macros, RowsT m.body
/-- The result's cells are laid in block q, behind all else. -/
theorem add_fin {w w1 w2 Wf : World} {x : SigV} {k : Nm} {K1 K2 : Prop} {o : SigA} {q : Nat} {z : SigV} {r : Int} (h : ∃ (z' : SigV) (r' : Int), (.returned (.tuple #[.agg #[.slice z.sa z.sorts.length z.sc, .slice z.fa z.funs.length z.fc, .slice z.ma z.macs.length z.mc], .int .i64 r]) : Ending) = .returned (.tuple #[.agg #[.slice z'.sa z'.sorts.length z'.sc, .slice z'.fa z'.funs.length z'.fc, .slice z'.ma z'.macs.length z'.mc], .int .i64 r']) ∧ Below w1.heap.size w1 w2 ∧
    (r' = 0 → z'.a = o ∧ SigR w2 z' ∧ SigK w2 z' ∧ mayA x.a = true ∧ freeA (memB k (namesA x.a)) k.1 k.2 = 0 ∧ restA o = true ∧ fitsA o.sorts.length o.funs.length o.macros.length = true) ∧
    (SigK w1 x → mayA x.a = true → ¬ freeA (memB k (namesA x.a)) k.1 k.2 = 0 → r' = freeA (memB k (namesA x.a)) k.1 k.2) ∧
    (SigK w1 x → K1 → mayA x.a = true → freeA (memB k (namesA x.a)) k.1 k.2 = 0 → restA o = true → fitsA o.sorts.length o.funs.length o.macros.length = true → r' = 0)) (hB : Below w.heap.size w w1) (hK : K2 → K1)
    (hzero : w2.heap[q]? = some (.cells #[.slice none 0 0, .slice none 0 0, .slice none 0 0] 26 (0, 0))) (hof : ∀ c, c ≠ q → Wf.heap[c]? = w2.heap[c]?) (hsf : Wf.heap.size = w2.heap.size) (hbf : Below w.heap.size w Wf) :
    AddPost w x k K2 o (.returned (.tuple #[.agg #[.slice z.sa z.sorts.length z.sc, .slice z.fa z.funs.length z.fc, .slice z.ma z.macs.length z.mc], .int .i64 r])) Wf := by
  obtain ⟨z', r', e, hb, h0, h1, h2⟩ := h
  refine ⟨z', r', e, hbf, fun hr => ?_, fun hk => h1 (hk.below hB), fun hk hk2 => h2 (hk.below hB) (hK hk2)⟩
  obtain ⟨q1, q2, q3, q4⟩ := h0 hr
  obtain ⟨s1, s2⟩ := sig_off q2 q3 (slices_zero hzero) hof hsf
  exact ⟨q1, s1, s2, q4⟩
set_option maxRecDepth 100000 in
set_option maxHeartbeats 2000000 in
theorem AddSort_any (x : SigV) (s : ByteArray) (w : World) (hG : GS w) (hR : SigR w x) (hs : s.size ≤ maxLen) (hT : Rows_ok x.a) :
    Calls Tryd.prog 7 #[.agg #[.slice x.sa x.sorts.length x.sc, .slice x.fa x.funs.length x.fc, .slice x.ma x.macs.length x.mc], .string s] w (AddPost w x (s, true) (True) ⟨x.sorts ++ [s], x.funs, x.a.macros⟩) := by
  obtain ⟨W1, hW1⟩ : ∃ W1, W1 = (((w.alloc (.cells #[.slice x.sa x.sorts.length x.sc, .slice x.fa x.funs.length x.fc, .slice x.ma x.macs.length x.mc] 26)).alloc (.cells #[.slice none 0 0, .slice none 0 0, .slice none 0 0] 26)).alloc (.cells #[.string s] 9)) := ⟨_, rfl⟩
  have hB0 : Below w.heap.size w W1 := by rw [hW1]; exact ((((Below.refl _ _).alloc (Nat.le_refl _) _).alloc (by simp <;> omega) _).alloc (by simp <;> omega) _)
  have hN0 : W1.heap[w.heap.size + 1 + 1]? = some (.cells #[.string s] 9 (0, 0)) := by
    rw [hW1]
    have := heap_alloc_new ((w.alloc (.cells #[.slice x.sa x.sorts.length x.sc, .slice x.fa x.funs.length x.fc, .slice x.ma x.macs.length x.mc] 26)).alloc (.cells #[.slice none 0 0, .slice none 0 0, .slice none 0 0] 26)) (.cells #[.string s] 9)
    simpa only [World.size_alloc] using this
  have hY0 : W1.heap[w.heap.size + 1]? = some (.cells #[.slice none 0 0, .slice none 0 0, .slice none 0 0] 26 (0, 0)) := by
    rw [hW1]
    have := heap_alloc_new (w.alloc (.cells #[.slice x.sa x.sorts.length x.sc, .slice x.fa x.funs.length x.fc, .slice x.ma x.macs.length x.mc] 26)) (.cells #[.slice none 0 0, .slice none 0 0, .slice none 0 0] 26)
    simp only [World.size_alloc] at this
    exact (Below.heap_alloc _ _ _ (by simp)).trans this
  have hsz : W1.heap.size = w.heap.size + 1 + 1 + 1 := by rw [hW1]; simp
  have hR := hR.below hB0
  have HAdd : Hid (Calls Tryd.prog 17 #[.agg #[.slice x.sa x.sorts.length x.sc, .slice x.fa x.funs.length x.fc, .slice x.ma x.macs.length x.mc], .agg #[.slice (some ⟨w.heap.size + 1 + 1, 0, none⟩) 1 1, .slice none 0 0, .slice none 0 0], .agg #[.string s, .bool true]] W1 (AddPost W1 x (s, true) (True) ⟨x.sorts ++ [s], x.funs, x.a.macros⟩)) := add_any x (some ⟨w.heap.size + 1 + 1, 0, none⟩) none none 1 1 0 0 0 0 s true (True) ⟨x.sorts ++ [s], x.funs, x.a.macros⟩ W1 (hG.below hB0) hR hs (fun hmay => by have hm4 := may_few hmay; simp; omega) hT (fun hmay V hV => by
    have hm4 := may_few hmay
    refine (joinS_any x s (w.heap.size + 1 + 1) V (hR.below hV) (by omega) hs ((hV.block _ (by omega)).trans hN0)).mono ?_
    rintro e w' ⟨z, h1, h2, h3, h4, h5⟩
    exact ⟨z, h1, h2, h3, fun hk => h4 (hk.1.below hV), h5⟩)
  have HB0 := Lib.hid hB0
  have HY0 := Lib.hid hY0
  clear hG hR hN0 hB0 hY0
  go_enter Tryd.func7, Tryd.ntmps7
  go_wp2_with (go_at_call 17; rw [← hW1]; clear hW1; refine HAdd.out.mono ?_; rintro e w2 ⟨z, r, rfl, hb2, h0, h1, h2⟩; have HP := Lib.hid (And.intro hb2 (And.intro h0 (And.intro h1 h2))); clear h0 h1 h2; have hy := (hb2.block _ (by omega)).trans HY0.out; have d0 := cell_of_row _ _ 0 _ _ _ hy; have d1 := cell_of_row _ _ 1 _ _ _ hy; have d2 := cell_of_row _ _ 2 _ _ _ hy; have df : ∀ i, w2.frozen? ⟨w.heap.size + 1, i, none⟩ = false := (fun i => by simp [World.frozen?, hy]); simp only [List.getElem?_toArray, List.getElem?_cons_zero, List.getElem?_cons_succ] at d0 d1 d2; have HY := Lib.hid hy; clear hy)
  have hc := set3 (v0 := .slice z.sa z.sorts.length z.sc) (v1 := .slice z.fa z.funs.length z.fc) (v2 := .slice z.ma z.macs.length z.mc) HY.out
  have hbf := (((HB0.out.trans (hb2.mono HB0.out.size)).setCell (p := ⟨w.heap.size + 1, 0, none⟩) (by simp <;> omega) (.slice z.sa z.sorts.length z.sc)).setCell (p := ⟨w.heap.size + 1, 1, none⟩) (by simp <;> omega) (.slice z.fa z.funs.length z.fc)).setCell (p := ⟨w.heap.size + 1, 2, none⟩) (by simp <;> omega) (.slice z.ma z.macs.length z.mc)
  have hof : ∀ c, c ≠ w.heap.size + 1 → (((w2.setCell ⟨w.heap.size + 1, 0, none⟩ (.slice z.sa z.sorts.length z.sc)).setCell ⟨w.heap.size + 1, 1, none⟩ (.slice z.fa z.funs.length z.fc)).setCell ⟨w.heap.size + 1, 2, none⟩ (.slice z.ma z.macs.length z.mc)).heap[c]? = w2.heap[c]? := fun c hc => three_oth hc
  have hsf : (((w2.setCell ⟨w.heap.size + 1, 0, none⟩ (.slice z.sa z.sorts.length z.sc)).setCell ⟨w.heap.size + 1, 1, none⟩ (.slice z.fa z.funs.length z.fc)).setCell ⟨w.heap.size + 1, 2, none⟩ (.slice z.ma z.macs.length z.mc)).heap.size = w2.heap.size := by simp [World.setCell]
  have k0 := cell_of_row _ _ 0 _ _ _ hc
  have k1 := cell_of_row _ _ 1 _ _ _ hc
  have k2 := cell_of_row _ _ 2 _ _ _ hc
  simp only [List.getElem?_toArray, List.getElem?_cons_zero, List.getElem?_cons_succ] at k0 k1 k2
  generalize (((w2.setCell ⟨w.heap.size + 1, 0, none⟩ (.slice z.sa z.sorts.length z.sc)).setCell ⟨w.heap.size + 1, 1, none⟩ (.slice z.fa z.funs.length z.fc)).setCell ⟨w.heap.size + 1, 2, none⟩ (.slice z.ma z.macs.length z.mc)) = Wf at k0 k1 k2 hc hbf hof hsf ⊢
  refine bodyPost_ret (v := .tuple #[.agg #[.slice z.sa z.sorts.length z.sc, .slice z.fa z.funs.length z.fc, .slice z.ma z.macs.length z.mc], .int .i64 r]) (by simp [results, Tryd.results7, go_sem, k0, k1, k2]) rfl ?_
  exact add_fin ⟨z, r, rfl, HP.out⟩ HB0.out (fun h => h) HY.out hof hsf hbf
set_option maxRecDepth 100000 in
set_option maxHeartbeats 2000000 in
theorem AddFun_any (x : SigV) (f : FunA) (w : World) (hG : GS w) (hR : SigR w x) (hf : FunOk f) (hT : Rows_ok x.a) :
    Calls Tryd.prog 12 #[.agg #[.slice x.sa x.sorts.length x.sc, .slice x.fa x.funs.length x.fc, .slice x.ma x.macs.length x.mc], .agg #[.string f.name, .int .i64 f.len, .int .i64 f.a0, .int .i64 f.a1, .int .i64 f.a2, .int .i64 f.res]] w (AddPost w x (f.name, false) (True) ⟨x.sorts, x.funs ++ [f], x.a.macros⟩) := by
  obtain ⟨W1, hW1⟩ : ∃ W1, W1 = ((((w.alloc (.cells #[.slice x.sa x.sorts.length x.sc, .slice x.fa x.funs.length x.fc, .slice x.ma x.macs.length x.mc] 26)).alloc (.cells #[.string f.name, .int .i64 f.len, .int .i64 f.a0, .int .i64 f.a1, .int .i64 f.a2, .int .i64 f.res] 29)).alloc (.cells #[.slice none 0 0, .slice none 0 0, .slice none 0 0] 26)).alloc (.cells #[.string f.name, .int .i64 f.len, .int .i64 f.a0, .int .i64 f.a1, .int .i64 f.a2, .int .i64 f.res] 29)) := ⟨_, rfl⟩
  have hB0 : Below w.heap.size w W1 := by rw [hW1]; exact (((((Below.refl _ _).alloc (Nat.le_refl _) _).alloc (by simp <;> omega) _).alloc (by simp <;> omega) _).alloc (by simp <;> omega) _)
  have hN0 : W1.heap[w.heap.size + 1 + 1 + 1]? = some (.cells #[.string f.name, .int .i64 f.len, .int .i64 f.a0, .int .i64 f.a1, .int .i64 f.a2, .int .i64 f.res] 29 (0, 0)) := by
    rw [hW1]
    have := heap_alloc_new (((w.alloc (.cells #[.slice x.sa x.sorts.length x.sc, .slice x.fa x.funs.length x.fc, .slice x.ma x.macs.length x.mc] 26)).alloc (.cells #[.string f.name, .int .i64 f.len, .int .i64 f.a0, .int .i64 f.a1, .int .i64 f.a2, .int .i64 f.res] 29)).alloc (.cells #[.slice none 0 0, .slice none 0 0, .slice none 0 0] 26)) (.cells #[.string f.name, .int .i64 f.len, .int .i64 f.a0, .int .i64 f.a1, .int .i64 f.a2, .int .i64 f.res] 29)
    simpa only [World.size_alloc] using this
  have hY0 : W1.heap[w.heap.size + 1 + 1]? = some (.cells #[.slice none 0 0, .slice none 0 0, .slice none 0 0] 26 (0, 0)) := by
    rw [hW1]
    have := heap_alloc_new ((w.alloc (.cells #[.slice x.sa x.sorts.length x.sc, .slice x.fa x.funs.length x.fc, .slice x.ma x.macs.length x.mc] 26)).alloc (.cells #[.string f.name, .int .i64 f.len, .int .i64 f.a0, .int .i64 f.a1, .int .i64 f.a2, .int .i64 f.res] 29)) (.cells #[.slice none 0 0, .slice none 0 0, .slice none 0 0] 26)
    simp only [World.size_alloc] at this
    exact (Below.heap_alloc _ _ _ (by simp)).trans this
  have hsz : W1.heap.size = w.heap.size + 1 + 1 + 1 + 1 := by rw [hW1]; simp
  have hR := hR.below hB0
  have HAdd : Hid (Calls Tryd.prog 17 #[.agg #[.slice x.sa x.sorts.length x.sc, .slice x.fa x.funs.length x.fc, .slice x.ma x.macs.length x.mc], .agg #[.slice none 0 0, .slice (some ⟨w.heap.size + 1 + 1 + 1, 0, none⟩) 1 1, .slice none 0 0], .agg #[.string f.name, .bool false]] W1 (AddPost W1 x (f.name, false) (True) ⟨x.sorts, x.funs ++ [f], x.a.macros⟩)) := add_any x none (some ⟨w.heap.size + 1 + 1 + 1, 0, none⟩) none 0 0 1 1 0 0 f.name false (True) ⟨x.sorts, x.funs ++ [f], x.a.macros⟩ W1 (hG.below hB0) hR hf.name (fun hmay => by have hm4 := may_few hmay; show x.sorts.length ≤ 100; omega) hT (fun hmay V hV => by
    have hm4 := may_few hmay
    refine (joinF_any x f (w.heap.size + 1 + 1 + 1) V (hR.below hV) (by omega) hf ((hV.block _ (by omega)).trans hN0)).mono ?_
    rintro e w' ⟨z, h1, h2, h3, h4, h5⟩
    exact ⟨z, h1, h2, h3, fun hk => h4 (hk.1.below hV), h5⟩)
  have HB0 := Lib.hid hB0
  have HY0 := Lib.hid hY0
  clear hG hR hN0 hB0 hY0
  go_enter Tryd.func12, Tryd.ntmps12
  go_wp2_with (go_at_call 17; rw [← hW1]; clear hW1; refine HAdd.out.mono ?_; rintro e w2 ⟨z, r, rfl, hb2, h0, h1, h2⟩; have HP := Lib.hid (And.intro hb2 (And.intro h0 (And.intro h1 h2))); clear h0 h1 h2; have hy := (hb2.block _ (by omega)).trans HY0.out; have d0 := cell_of_row _ _ 0 _ _ _ hy; have d1 := cell_of_row _ _ 1 _ _ _ hy; have d2 := cell_of_row _ _ 2 _ _ _ hy; have df : ∀ i, w2.frozen? ⟨w.heap.size + 1 + 1, i, none⟩ = false := (fun i => by simp [World.frozen?, hy]); simp only [List.getElem?_toArray, List.getElem?_cons_zero, List.getElem?_cons_succ] at d0 d1 d2; have HY := Lib.hid hy; clear hy)
  have hc := set3 (v0 := .slice z.sa z.sorts.length z.sc) (v1 := .slice z.fa z.funs.length z.fc) (v2 := .slice z.ma z.macs.length z.mc) HY.out
  have hbf := (((HB0.out.trans (hb2.mono HB0.out.size)).setCell (p := ⟨w.heap.size + 1 + 1, 0, none⟩) (by simp <;> omega) (.slice z.sa z.sorts.length z.sc)).setCell (p := ⟨w.heap.size + 1 + 1, 1, none⟩) (by simp <;> omega) (.slice z.fa z.funs.length z.fc)).setCell (p := ⟨w.heap.size + 1 + 1, 2, none⟩) (by simp <;> omega) (.slice z.ma z.macs.length z.mc)
  have hof : ∀ c, c ≠ w.heap.size + 1 + 1 → (((w2.setCell ⟨w.heap.size + 1 + 1, 0, none⟩ (.slice z.sa z.sorts.length z.sc)).setCell ⟨w.heap.size + 1 + 1, 1, none⟩ (.slice z.fa z.funs.length z.fc)).setCell ⟨w.heap.size + 1 + 1, 2, none⟩ (.slice z.ma z.macs.length z.mc)).heap[c]? = w2.heap[c]? := fun c hc => three_oth hc
  have hsf : (((w2.setCell ⟨w.heap.size + 1 + 1, 0, none⟩ (.slice z.sa z.sorts.length z.sc)).setCell ⟨w.heap.size + 1 + 1, 1, none⟩ (.slice z.fa z.funs.length z.fc)).setCell ⟨w.heap.size + 1 + 1, 2, none⟩ (.slice z.ma z.macs.length z.mc)).heap.size = w2.heap.size := by simp [World.setCell]
  have k0 := cell_of_row _ _ 0 _ _ _ hc
  have k1 := cell_of_row _ _ 1 _ _ _ hc
  have k2 := cell_of_row _ _ 2 _ _ _ hc
  simp only [List.getElem?_toArray, List.getElem?_cons_zero, List.getElem?_cons_succ] at k0 k1 k2
  generalize (((w2.setCell ⟨w.heap.size + 1 + 1, 0, none⟩ (.slice z.sa z.sorts.length z.sc)).setCell ⟨w.heap.size + 1 + 1, 1, none⟩ (.slice z.fa z.funs.length z.fc)).setCell ⟨w.heap.size + 1 + 1, 2, none⟩ (.slice z.ma z.macs.length z.mc)) = Wf at k0 k1 k2 hc hbf hof hsf ⊢
  refine bodyPost_ret (v := .tuple #[.agg #[.slice z.sa z.sorts.length z.sc, .slice z.fa z.funs.length z.fc, .slice z.ma z.macs.length z.mc], .int .i64 r]) (by simp [results, Tryd.results12, go_sem, k0, k1, k2]) rfl ?_
  exact add_fin ⟨z, r, rfl, HP.out⟩ HB0.out (fun h => h) HY.out hof hsf hbf
set_option maxRecDepth 100000 in
set_option maxHeartbeats 2000000 in
theorem AddMacro_any (x : SigV) (m : MacV) (w : World) (hG : GS w) (hR : SigR w x) (hm : MacOk w w.heap.size m) (hmr : RowsT m.m.body) (hT : Rows_ok x.a) :
    Calls Tryd.prog 15 #[.agg #[.slice x.sa x.sorts.length x.sc, .slice x.fa x.funs.length x.fc, .slice x.ma x.macs.length x.mc], .agg #[.string m.m.name, .slice m.pa m.m.params.length m.pc, .int .i64 m.m.res, .int .i8 m.m.body.kind, .string (bytesL m.m.body.text), .slice m.ba m.m.body.kids.length m.bc]] w (AddPost w x (m.m.name, false) (SxK w m.m.body (bodyV m)) ⟨x.sorts, x.funs, x.a.macros ++ [m.m]⟩) := by
  obtain ⟨W1, hW1⟩ : ∃ W1, W1 = ((((w.alloc (.cells #[.slice x.sa x.sorts.length x.sc, .slice x.fa x.funs.length x.fc, .slice x.ma x.macs.length x.mc] 26)).alloc (.cells #[.string m.m.name, .slice m.pa m.m.params.length m.pc, .int .i64 m.m.res, .int .i8 m.m.body.kind, .string (bytesL m.m.body.text), .slice m.ba m.m.body.kids.length m.bc] 50)).alloc (.cells #[.slice none 0 0, .slice none 0 0, .slice none 0 0] 26)).alloc (.cells #[.string m.m.name, .slice m.pa m.m.params.length m.pc, .int .i64 m.m.res, .int .i8 m.m.body.kind, .string (bytesL m.m.body.text), .slice m.ba m.m.body.kids.length m.bc] 50)) := ⟨_, rfl⟩
  have hB0 : Below w.heap.size w W1 := by rw [hW1]; exact (((((Below.refl _ _).alloc (Nat.le_refl _) _).alloc (by simp <;> omega) _).alloc (by simp <;> omega) _).alloc (by simp <;> omega) _)
  have hN0 : W1.heap[w.heap.size + 1 + 1 + 1]? = some (.cells #[.string m.m.name, .slice m.pa m.m.params.length m.pc, .int .i64 m.m.res, .int .i8 m.m.body.kind, .string (bytesL m.m.body.text), .slice m.ba m.m.body.kids.length m.bc] 50 (0, 0)) := by
    rw [hW1]
    have := heap_alloc_new (((w.alloc (.cells #[.slice x.sa x.sorts.length x.sc, .slice x.fa x.funs.length x.fc, .slice x.ma x.macs.length x.mc] 26)).alloc (.cells #[.string m.m.name, .slice m.pa m.m.params.length m.pc, .int .i64 m.m.res, .int .i8 m.m.body.kind, .string (bytesL m.m.body.text), .slice m.ba m.m.body.kids.length m.bc] 50)).alloc (.cells #[.slice none 0 0, .slice none 0 0, .slice none 0 0] 26)) (.cells #[.string m.m.name, .slice m.pa m.m.params.length m.pc, .int .i64 m.m.res, .int .i8 m.m.body.kind, .string (bytesL m.m.body.text), .slice m.ba m.m.body.kids.length m.bc] 50)
    simpa only [World.size_alloc] using this
  have hY0 : W1.heap[w.heap.size + 1 + 1]? = some (.cells #[.slice none 0 0, .slice none 0 0, .slice none 0 0] 26 (0, 0)) := by
    rw [hW1]
    have := heap_alloc_new ((w.alloc (.cells #[.slice x.sa x.sorts.length x.sc, .slice x.fa x.funs.length x.fc, .slice x.ma x.macs.length x.mc] 26)).alloc (.cells #[.string m.m.name, .slice m.pa m.m.params.length m.pc, .int .i64 m.m.res, .int .i8 m.m.body.kind, .string (bytesL m.m.body.text), .slice m.ba m.m.body.kids.length m.bc] 50)) (.cells #[.slice none 0 0, .slice none 0 0, .slice none 0 0] 26)
    simp only [World.size_alloc] at this
    exact (Below.heap_alloc _ _ _ (by simp)).trans this
  have hsz : W1.heap.size = w.heap.size + 1 + 1 + 1 + 1 := by rw [hW1]; simp
  have hR := hR.below hB0
  have hMok : MacOk W1 W1.heap.size m := hm.below hB0 |> fun h => ⟨h.name, h.plen, h.pcap, h.pat.more hB0.size, h.pok, h.res, h.body⟩
  have HAdd : Hid (Calls Tryd.prog 17 #[.agg #[.slice x.sa x.sorts.length x.sc, .slice x.fa x.funs.length x.fc, .slice x.ma x.macs.length x.mc], .agg #[.slice none 0 0, .slice none 0 0, .slice (some ⟨w.heap.size + 1 + 1 + 1, 0, none⟩) 1 1], .agg #[.string m.m.name, .bool false]] W1 (AddPost W1 x (m.m.name, false) (SxK W1 m.m.body (bodyV m)) ⟨x.sorts, x.funs, x.a.macros ++ [m.m]⟩)) := add_any x none none (some ⟨w.heap.size + 1 + 1 + 1, 0, none⟩) 0 0 0 0 1 1 m.m.name false (SxK W1 m.m.body (bodyV m)) ⟨x.sorts, x.funs, x.a.macros ++ [m.m]⟩ W1 (hG.below hB0) hR hm.name (fun hmay => by have hm4 := may_few hmay; show x.sorts.length ≤ 100; omega) (fun y hy => by rcases List.mem_append.1 hy with hy | hy; exact hT y hy; (simp at hy; subst hy; exact hmr)) (fun hmay V hV => by
    have hm4 := may_few hmay
    refine (joinM_any x m (w.heap.size + 1 + 1 + 1) V (hR.below hV) (by omega) (hMok.below hV |> fun h => ⟨h.name, h.plen, h.pcap, h.pat.more hV.size, h.pok, h.res, h.body⟩) ((hV.block _ (by omega)).trans hN0)).mono ?_
    rintro e w' ⟨z, h1, h2, h3, h4, h5⟩
    exact ⟨z, h1, h2, h3, fun hk => h4 (hk.1.below hV) (hk.2.below hV), h5⟩)
  have HB0 := Lib.hid hB0
  have HY0 := Lib.hid hY0
  clear hG hR hN0 hB0 hY0
  go_enter Tryd.func15, Tryd.ntmps15
  go_wp2_with (go_at_call 17; rw [← hW1]; clear hW1; refine HAdd.out.mono ?_; rintro e w2 ⟨z, r, rfl, hb2, h0, h1, h2⟩; have HP := Lib.hid (And.intro hb2 (And.intro h0 (And.intro h1 h2))); clear h0 h1 h2; have hy := (hb2.block _ (by omega)).trans HY0.out; have d0 := cell_of_row _ _ 0 _ _ _ hy; have d1 := cell_of_row _ _ 1 _ _ _ hy; have d2 := cell_of_row _ _ 2 _ _ _ hy; have df : ∀ i, w2.frozen? ⟨w.heap.size + 1 + 1, i, none⟩ = false := (fun i => by simp [World.frozen?, hy]); simp only [List.getElem?_toArray, List.getElem?_cons_zero, List.getElem?_cons_succ] at d0 d1 d2; have HY := Lib.hid hy; clear hy)
  have hc := set3 (v0 := .slice z.sa z.sorts.length z.sc) (v1 := .slice z.fa z.funs.length z.fc) (v2 := .slice z.ma z.macs.length z.mc) HY.out
  have hbf := (((HB0.out.trans (hb2.mono HB0.out.size)).setCell (p := ⟨w.heap.size + 1 + 1, 0, none⟩) (by simp <;> omega) (.slice z.sa z.sorts.length z.sc)).setCell (p := ⟨w.heap.size + 1 + 1, 1, none⟩) (by simp <;> omega) (.slice z.fa z.funs.length z.fc)).setCell (p := ⟨w.heap.size + 1 + 1, 2, none⟩) (by simp <;> omega) (.slice z.ma z.macs.length z.mc)
  have hof : ∀ c, c ≠ w.heap.size + 1 + 1 → (((w2.setCell ⟨w.heap.size + 1 + 1, 0, none⟩ (.slice z.sa z.sorts.length z.sc)).setCell ⟨w.heap.size + 1 + 1, 1, none⟩ (.slice z.fa z.funs.length z.fc)).setCell ⟨w.heap.size + 1 + 1, 2, none⟩ (.slice z.ma z.macs.length z.mc)).heap[c]? = w2.heap[c]? := fun c hc => three_oth hc
  have hsf : (((w2.setCell ⟨w.heap.size + 1 + 1, 0, none⟩ (.slice z.sa z.sorts.length z.sc)).setCell ⟨w.heap.size + 1 + 1, 1, none⟩ (.slice z.fa z.funs.length z.fc)).setCell ⟨w.heap.size + 1 + 1, 2, none⟩ (.slice z.ma z.macs.length z.mc)).heap.size = w2.heap.size := by simp [World.setCell]
  have k0 := cell_of_row _ _ 0 _ _ _ hc
  have k1 := cell_of_row _ _ 1 _ _ _ hc
  have k2 := cell_of_row _ _ 2 _ _ _ hc
  simp only [List.getElem?_toArray, List.getElem?_cons_zero, List.getElem?_cons_succ] at k0 k1 k2
  generalize (((w2.setCell ⟨w.heap.size + 1 + 1, 0, none⟩ (.slice z.sa z.sorts.length z.sc)).setCell ⟨w.heap.size + 1 + 1, 1, none⟩ (.slice z.fa z.funs.length z.fc)).setCell ⟨w.heap.size + 1 + 1, 2, none⟩ (.slice z.ma z.macs.length z.mc)) = Wf at k0 k1 k2 hc hbf hof hsf ⊢
  refine bodyPost_ret (v := .tuple #[.agg #[.slice z.sa z.sorts.length z.sc, .slice z.fa z.funs.length z.fc, .slice z.ma z.macs.length z.mc], .int .i64 r]) (by simp [results, Tryd.results15, go_sem, k0, k1, k2]) rfl ?_
  exact add_fin ⟨z, r, rfl, HP.out⟩ HB0.out (fun h => h.below HB0.out) HY.out hof hsf hbf
end Go.Proofs.YthejmepiliiihaaDoor
