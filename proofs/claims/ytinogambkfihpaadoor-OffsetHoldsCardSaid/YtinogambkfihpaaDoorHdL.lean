/- The document's asked. -/
import Derived.Test.YtinogambkfihpaaDoorHdK
namespace Go.Proofs.YtinogambkfihpaaDoor
open Go.RowKit
set_option linter.unusedVariables false
theorem seqQ_at {α : Type} {one : List α → α → Bool} {l : List α} {k : Nat} {p : α} (h : seqQ one [] l = true) (hp : l[k]? = some p) : one (l.take k) p = true := by
  cases h2 : one (l.take k) p with
  | true => rfl
  | false =>
    have h3 : seqQ one [] l = false := seqQ_no (k := k + 1) (by rw [seqQ_take hp, h2, Bool.and_false])
    rw [h] at h3; cases h3
theorem worQ_fun {x : SigV} {y : WorV} (h : worQ x y = true) {k : Nat} {f : FunA} (hf : x.funs[k]? = some f) : 0 ≤ f.len ∧ f.len ≤ 3 := by
  unfold worQ at h
  simp only [Bool.and_eq_true] at h
  have h2 := h.1
  unfold checkQ at h2
  simp only [Bool.and_eq_true] at h2
  have h3 := seqQ_at h2.2.2.2.2.1 (k := k) (p := f) hf
  unfold oneF funB at h3
  simp only [Bool.and_eq_true, decide_eq_true_eq] at h3
  exact ⟨h3.2.1, h3.2.2.1⟩
def noFun : FunA := ⟨⟨#[]⟩, 0, 0, 0, 0, 0⟩
def fnA (x : SigV) (f : Int) : FunA := (x.funs[f.toNat]?).getD noFun
def askE (x : SigV) (y : WorV) (f : Int) (l : List Int) : Int :=
  if worQ x y = true ∧ 0 ≤ f ∧ f < (x.funs.length : Int) ∧ (l.length : Int) = (fnA x f).len then (if fitB x.sorts.length y.sizes (fnA x f) (l.getD 0 0) (l.getD 1 0) (l.getD 2 0) = true then 0 else 33) else 2
theorem askE_no {x : SigV} {y : WorV} {f : Int} {l : List Int} (h : ¬ (worQ x y = true ∧ 0 ≤ f ∧ f < (x.funs.length : Int) ∧ (l.length : Int) = (fnA x f).len)) : askE x y f l = 2 := if_neg h
theorem set3 {w : World} {b : Nat} {t : TypeId} {a0 a1 a2 v0 v1 v2 : Value} (h : w.heap[b]? = some (.cells #[a0, a1, a2] t (0, 0))) :
    (((w.setCell ⟨b, 0, none⟩ v0).setCell ⟨b, 1, none⟩ v1).setCell ⟨b, 2, none⟩ v2).heap[b]? = some (.cells #[v0, v1, v2] t (0, 0)) := by
  simp [World.setCell, Array.getElem?_modify, h]
theorem res_cell_tmp {P : Program} {fn : Func} {p u : Tmp} {ty : TypeId} (h : fn.results = #[.cell p ty, .tmp u]) (tmps : Array Value) (w : World) (g : Nat) (t : TypeId) (cs : Array Value) (fr : Nat × Nat) (d : TypeDesc)
    (hp : tmps.getD p undef = .pointer (some ⟨g, 0, none⟩)) (hg : w.heap[g]? = some (.cells cs t fr))
    (hu : P.underlying ty = some d) (hd : (match d with | .struct _ | .array _ _ => true | _ => false) = true) (hi : (P.info? ty).map (·.size) = some cs.size) :
    (results fn tmps).run P w = .ok (.tuple #[.agg cs, tmps.getD u undef]) w := by
  rw [results_cell_tmp h, hp]
  simp [asAddr, run_loadVar_row w g t ty cs fr d hg hu hd hi]
theorem arrSize : (Tryd.prog.info? 64).map (·.size) = some 3 := by kernel_rfl
/-- The four boxes of asked: signature, interpretation, answer, row. -/
structure AskI (w V : World) (x : SigV) (y : WorV) (a0 a1 a2 : Int) : Prop where
  below : Below w.heap.size w V
  bx : V.heap[w.heap.size]? = some (.cells #[.slice x.sa x.sorts.length x.sc, .slice x.fa x.funs.length x.fc, .slice x.ma x.macs.length x.mc] 26 (0, 0))
  bw : V.heap[w.heap.size + 1]? = some (.cells #[.slice y.sa y.sizes.length y.sc, .slice y.fa y.funs.length y.fc] 30 (0, 0))
  br : V.heap[w.heap.size + 1 + 1]? = some (.cells #[.int .i64 0, .int .i64 0, .int .i64 0] 64 (0, 0))
  ba : V.heap[w.heap.size + 1 + 1 + 1]? = some (.cells #[.int .i64 a0, .int .i64 a1, .int .i64 a2] 64 (0, 0))
theorem AskI.lt {w V : World} {x : SigV} {y : WorV} {a0 a1 a2 : Int} (h : AskI w V x y a0 a1 a2) : w.heap.size + 1 + 1 + 1 < V.heap.size := (Array.getElem?_eq_some_iff.1 h.ba).1
theorem AskI.on {w V V' : World} {x : SigV} {y : WorV} {a0 a1 a2 : Int} (h : AskI w V x y a0 a1 a2) (hb : Below V.heap.size V V') : AskI w V' x y a0 a1 a2 := by
  have hl := h.lt
  exact ⟨h.below.trans (hb.mono h.below.size), (hb.block _ (by omega)).trans h.bx, (hb.block _ (by omega)).trans h.bw, (hb.block _ (by omega)).trans h.br, (hb.block _ hl).trans h.ba⟩
theorem AskI.cells {w V : World} {x : SigV} {y : WorV} {a0 a1 a2 : Int} (h : AskI w V x y a0 a1 a2) : V.cell? ⟨w.heap.size, 0, none⟩ = some (.slice x.sa x.sorts.length x.sc) ∧ V.cell? ⟨w.heap.size, 1, none⟩ = some (.slice x.fa x.funs.length x.fc) ∧ V.cell? ⟨w.heap.size, 2, none⟩ = some (.slice x.ma x.macs.length x.mc) ∧ V.cell? ⟨w.heap.size + 1, 0, none⟩ = some (.slice y.sa y.sizes.length y.sc) ∧ V.cell? ⟨w.heap.size + 1, 1, none⟩ = some (.slice y.fa y.funs.length y.fc) ∧ V.cell? ⟨w.heap.size + 1 + 1, 0, none⟩ = some (.int .i64 0) ∧ V.cell? ⟨w.heap.size + 1 + 1, 1, none⟩ = some (.int .i64 0) ∧ V.cell? ⟨w.heap.size + 1 + 1, 2, none⟩ = some (.int .i64 0) ∧ V.cell? ⟨w.heap.size + 1 + 1 + 1, 0, none⟩ = some (.int .i64 a0) ∧ V.cell? ⟨w.heap.size + 1 + 1 + 1, 1, none⟩ = some (.int .i64 a1) ∧ V.cell? ⟨w.heap.size + 1 + 1 + 1, 2, none⟩ = some (.int .i64 a2) ∧ (∀ i, V.frozen? ⟨w.heap.size + 1 + 1, i, none⟩ = false) ∧ (∀ i, V.frozen? ⟨w.heap.size + 1 + 1 + 1, i, none⟩ = false) := by
  obtain ⟨c0, c1, c2, _⟩ := sig_cells h.bx
  obtain ⟨w0, w1, _⟩ := wor_cells h.bw
  obtain ⟨p0, p1, p2, _⟩ := arr_cells h.br
  obtain ⟨q0, q1, q2, _⟩ := arr_cells h.ba
  have h1 := h.br
  have h2 := h.ba
  exact ⟨c0, c1, c2, w0, w1, p0, p1, p2, q0, q1, q2, fun i => by simp [World.frozen?, h1], fun i => by simp [World.frozen?, h2]⟩
theorem AskI.set0 {w V : World} {x : SigV} {y : WorV} {a0 a1 a2 : Int} (h : AskI w V x y a0 a1 a2) (v : Int) : AskI w (V.setCell ⟨w.heap.size + 1 + 1 + 1, 0, none⟩ (.int .i64 v)) x y v a1 a2 := by
  obtain ⟨h1, h2, h3, h4, h5⟩ := h
  exact ⟨h1.setCell (p := ⟨w.heap.size + 1 + 1 + 1, 0, none⟩) (by simp; omega) _, by first | (simp [World.setCell, Array.getElem?_modify, h2]; done) | (simp [World.setCell, Array.getElem?_modify, h2]; omega), by first | (simp [World.setCell, Array.getElem?_modify, h3]; done) | (simp [World.setCell, Array.getElem?_modify, h3]; omega), by first | (simp [World.setCell, Array.getElem?_modify, h4]; done) | (simp [World.setCell, Array.getElem?_modify, h4]; omega), by first | (simp [World.setCell, Array.getElem?_modify, h5]; done) | (simp [World.setCell, Array.getElem?_modify, h5]; omega)⟩
theorem AskI.set1 {w V : World} {x : SigV} {y : WorV} {a0 a1 a2 : Int} (h : AskI w V x y a0 a1 a2) (v : Int) : AskI w (V.setCell ⟨w.heap.size + 1 + 1 + 1, 1, none⟩ (.int .i64 v)) x y a0 v a2 := by
  obtain ⟨h1, h2, h3, h4, h5⟩ := h
  exact ⟨h1.setCell (p := ⟨w.heap.size + 1 + 1 + 1, 1, none⟩) (by simp; omega) _, by first | (simp [World.setCell, Array.getElem?_modify, h2]; done) | (simp [World.setCell, Array.getElem?_modify, h2]; omega), by first | (simp [World.setCell, Array.getElem?_modify, h3]; done) | (simp [World.setCell, Array.getElem?_modify, h3]; omega), by first | (simp [World.setCell, Array.getElem?_modify, h4]; done) | (simp [World.setCell, Array.getElem?_modify, h4]; omega), by first | (simp [World.setCell, Array.getElem?_modify, h5]; done) | (simp [World.setCell, Array.getElem?_modify, h5]; omega)⟩
theorem AskI.set2 {w V : World} {x : SigV} {y : WorV} {a0 a1 a2 : Int} (h : AskI w V x y a0 a1 a2) (v : Int) : AskI w (V.setCell ⟨w.heap.size + 1 + 1 + 1, 2, none⟩ (.int .i64 v)) x y a0 a1 v := by
  obtain ⟨h1, h2, h3, h4, h5⟩ := h
  exact ⟨h1.setCell (p := ⟨w.heap.size + 1 + 1 + 1, 2, none⟩) (by simp; omega) _, by first | (simp [World.setCell, Array.getElem?_modify, h2]; done) | (simp [World.setCell, Array.getElem?_modify, h2]; omega), by first | (simp [World.setCell, Array.getElem?_modify, h3]; done) | (simp [World.setCell, Array.getElem?_modify, h3]; omega), by first | (simp [World.setCell, Array.getElem?_modify, h4]; done) | (simp [World.setCell, Array.getElem?_modify, h4]; omega), by first | (simp [World.setCell, Array.getElem?_modify, h5]; done) | (simp [World.setCell, Array.getElem?_modify, h5]; omega)⟩
theorem AskI.drew {w V : World} {x : SigV} {y : WorV} {a0 a1 a2 : Int} (h : AskI w V x y a0 a1 a2) : AskI w V.drew x y a0 a1 a2 := h.on (Below.refl _ _).drew
theorem AskI.new (w : World) (x : SigV) (y : WorV) : AskI w ((((w.alloc (.cells #[.slice x.sa x.sorts.length x.sc, .slice x.fa x.funs.length x.fc, .slice x.ma x.macs.length x.mc] 26)).alloc (.cells #[.slice y.sa y.sizes.length y.sc, .slice y.fa y.funs.length y.fc] 30)).alloc (.cells #[.int .i64 0, .int .i64 0, .int .i64 0] 64)).alloc (.cells #[.int .i64 0, .int .i64 0, .int .i64 0] 64)) x y 0 0 0 := by
  refine ⟨((((Below.refl _ w).alloc (Nat.le_refl _) _).alloc (by simp) _).alloc (by simp; omega) _).alloc (by simp; omega) _, ?_, ?_, ?_, ?_⟩
  · exact (((Below.heap_alloc _ _ _ (by simp; omega)).trans (Below.heap_alloc _ _ _ (by simp; omega))).trans (Below.heap_alloc _ _ _ (by simp))).trans (heap_alloc_new w _)
  · have := heap_alloc_new (w.alloc (.cells #[.slice x.sa x.sorts.length x.sc, .slice x.fa x.funs.length x.fc, .slice x.ma x.macs.length x.mc] 26)) (.cells #[.slice y.sa y.sizes.length y.sc, .slice y.fa y.funs.length y.fc] 30)
    rw [World.size_alloc] at this
    exact ((Below.heap_alloc _ _ _ (by simp)).trans (Below.heap_alloc _ _ _ (by simp))).trans this
  · have := heap_alloc_new ((w.alloc (.cells #[.slice x.sa x.sorts.length x.sc, .slice x.fa x.funs.length x.fc, .slice x.ma x.macs.length x.mc] 26)).alloc (.cells #[.slice y.sa y.sizes.length y.sc, .slice y.fa y.funs.length y.fc] 30)) (.cells #[.int .i64 0, .int .i64 0, .int .i64 0] 64)
    rw [World.size_alloc, World.size_alloc] at this
    exact (Below.heap_alloc _ _ _ (by simp)).trans this
  · have := heap_alloc_new (((w.alloc (.cells #[.slice x.sa x.sorts.length x.sc, .slice x.fa x.funs.length x.fc, .slice x.ma x.macs.length x.mc] 26)).alloc (.cells #[.slice y.sa y.sizes.length y.sc, .slice y.fa y.funs.length y.fc] 30)).alloc (.cells #[.int .i64 0, .int .i64 0, .int .i64 0] 64)) (.cells #[.int .i64 0, .int .i64 0, .int .i64 0] 64)
    rw [World.size_alloc, World.size_alloc, World.size_alloc] at this
    exact this
/-- The answer's box is written, and read. -/
theorem Ask_ret {w V : World} {x : SigV} {y : WorV} {a0 a1 a2 : Int} (h : AskI w V x y a0 a1 a2) (v0 v1 v2 : Value) : Below w.heap.size w (((V.setCell ⟨w.heap.size + 1 + 1, 0, none⟩ v0).setCell ⟨w.heap.size + 1 + 1, 1, none⟩ v1).setCell ⟨w.heap.size + 1 + 1, 2, none⟩ v2) :=
  ((h.below.setCell (p := ⟨w.heap.size + 1 + 1, 0, none⟩) (by simp; omega) _).setCell (p := ⟨w.heap.size + 1 + 1, 1, none⟩) (by simp; omega) _).setCell (p := ⟨w.heap.size + 1 + 1, 2, none⟩) (by simp; omega) _
set_option maxRecDepth 100000 in
set_option maxHeartbeats 4000000 in
theorem Wasked_any (x : SigV) (y : WorV) (f : Int) (l : List Int) (la : Option Addr) (lc : Nat) (w : World) (hX : SigR w x) (hY : WorR w y) (hf : I64 f) (hl : At w w.heap.size (l.flatMap numL) la) (hlo : ∀ n ∈ l, I64 n) (hln : l.length ≤ maxLen) :
    Calls Tryd.prog 55 #[.agg #[.slice x.sa x.sorts.length x.sc, .slice x.fa x.funs.length x.fc, .slice x.ma x.macs.length x.mc], .agg #[.slice y.sa y.sizes.length y.sc, .slice y.fa y.funs.length y.fc], .int .i64 f, .slice la l.length lc] w fun e w' => (∃ a0 a1 a2 : Int, e = .returned (.tuple #[.agg #[.int .i64 a0, .int .i64 a1, .int .i64 a2], .int .i64 (askE x y f l)]) ∧ (askE x y f l = 0 → a0 = l.getD 0 0 ∧ a1 = l.getD 1 0 ∧ a2 = l.getD 2 0)) ∧ Below w.heap.size w w' := by
  obtain ⟨W0, hW0⟩ : ∃ W0, W0 = (((w.alloc (.cells #[.slice x.sa x.sorts.length x.sc, .slice x.fa x.funs.length x.fc, .slice x.ma x.macs.length x.mc] 26)).alloc (.cells #[.slice y.sa y.sizes.length y.sc, .slice y.fa y.funs.length y.fc] 30)).alloc (.cells #[.int .i64 0, .int .i64 0, .int .i64 0] 64)).alloc (.cells #[.int .i64 0, .int .i64 0, .int .i64 0] 64) := ⟨_, rfl⟩
  have HI0 : Hid (AskI w W0 x y 0 0 0) := by rw [hW0]; exact AskI.new w x y
  have hCh : ∀ q, worQ x y = q → Calls Tryd.prog 19 #[.agg #[.slice x.sa x.sorts.length x.sc, .slice x.fa x.funs.length x.fc, .slice x.ma x.macs.length x.mc], .agg #[.slice y.sa y.sizes.length y.sc, .slice y.fa y.funs.length y.fc]] W0 fun e w' => e = .returned (.bool q) ∧ Below W0.heap.size W0 w' := fun q hq => WMay_any x y q W0 (hX.below HI0.out.below) (hY.below HI0.out.below) hq
  have HX := Lib.hid hX
  have HY := Lib.hid hY
  have HL := Lib.hid hl
  have HO := Lib.hid hlo
  obtain ⟨f1, f2⟩ := hf
  clear hX hY hl hlo
  cases hq : worQ x y with
  | false =>
    have he : askE x y f l = 2 := askE_no (fun h => by rw [hq] at h; cases h.1)
    rw [he]
    have HC := Lib.hid (hCh _ hq)
    clear hCh hq he
    go_enter Tryd.func55, Tryd.ntmps55
    go_wp2_with (go_at_call 19; rw [← hW0]; clear hW0; refine HC.out.mono ?_; rintro e w3 ⟨rfl, hb1⟩; have HI1 := Lib.hid (HI0.out.on hb1); clear hb1; have hlt := HI1.out.lt; obtain ⟨c0, c1, c2, w0, w1, p0, p1, p2, q0, q1, q2, fz, fa⟩ := HI1.out.cells)
    refine bodyPost_ret (res_cell_tmp rfl _ _ (w.heap.size + 1 + 1) _ _ _ _ rfl (set3 HI1.out.br) Tryd.underlying64 rfl arrSize) rfl ?_
    first | exact ⟨⟨0, 0, 0, rfl, fun h => by cases h⟩, Ask_ret HI1.out _ _ _⟩ | exact ⟨⟨0, 0, 0, rfl⟩, Ask_ret HI1.out _ _ _⟩ | exact ⟨⟨0, 0, 0, rfl, rfl, rfl, rfl⟩, Ask_ret HI1.out _ _ _⟩
  | true =>
  have HC := Lib.hid (hCh _ hq)
  have HQ := Lib.hid hq
  obtain ⟨l4, l12⟩ : x.sorts.length ≤ 4 ∧ x.funs.length ≤ 12 := by
    unfold worQ at hq
    simp only [Bool.and_eq_true] at hq
    exact checkQ_len hq.1
  clear hCh hq
  by_cases h0 : f < 0
  · have he : askE x y f l = 2 := askE_no (fun h => by have := h.2.1; omega)
    rw [he]
    clear he
    go_enter Tryd.func55, Tryd.ntmps55
    go_wp2_with (go_at_call 19; rw [← hW0]; clear hW0; refine HC.out.mono ?_; rintro e w3 ⟨rfl, hb1⟩; have HI1 := Lib.hid (HI0.out.on hb1); clear hb1; have hlt := HI1.out.lt; obtain ⟨c0, c1, c2, w0, w1, p0, p1, p2, q0, q1, q2, fz, fa⟩ := HI1.out.cells)
    refine bodyPost_ret (res_cell_tmp rfl _ _ (w.heap.size + 1 + 1) _ _ _ _ rfl (set3 HI1.out.br) Tryd.underlying64 rfl arrSize) rfl ?_
    first | exact ⟨⟨0, 0, 0, rfl, fun h => by cases h⟩, Ask_ret HI1.out _ _ _⟩ | exact ⟨⟨0, 0, 0, rfl⟩, Ask_ret HI1.out _ _ _⟩ | exact ⟨⟨0, 0, 0, rfl, rfl, rfl, rfl⟩, Ask_ret HI1.out _ _ _⟩
  by_cases h1 : (x.funs.length : Int) ≤ f
  · have he : askE x y f l = 2 := askE_no (fun h => by have := h.2.2.1; omega)
    rw [he]
    clear he
    go_enter Tryd.func55, Tryd.ntmps55
    go_wp2_with (go_at_call 19; rw [← hW0]; clear hW0; refine HC.out.mono ?_; rintro e w3 ⟨rfl, hb1⟩; have HI1 := Lib.hid (HI0.out.on hb1); clear hb1; have hlt := HI1.out.lt; obtain ⟨c0, c1, c2, w0, w1, p0, p1, p2, q0, q1, q2, fz, fa⟩ := HI1.out.cells)
    refine bodyPost_ret (res_cell_tmp rfl _ _ (w.heap.size + 1 + 1) _ _ _ _ rfl (set3 HI1.out.br) Tryd.underlying64 rfl arrSize) rfl ?_
    first | exact ⟨⟨0, 0, 0, rfl, fun h => by cases h⟩, Ask_ret HI1.out _ _ _⟩ | exact ⟨⟨0, 0, 0, rfl⟩, Ask_ret HI1.out _ _ _⟩ | exact ⟨⟨0, 0, 0, rfl, rfl, rfl, rfl⟩, Ask_ret HI1.out _ _ _⟩
  obtain ⟨k, rfl⟩ : ∃ k : Nat, f = (k : Int) := ⟨f.toNat, by omega⟩
  have hk : k < x.funs.length := by omega
  obtain ⟨fn, hfn⟩ : ∃ fn, x.funs[k]? = some fn := ⟨_, List.getElem?_eq_getElem hk⟩
  have hfA : fnA x (k : Int) = fn := by unfold fnA; rw [Int.toNat_natCast, hfn]; rfl
  obtain ⟨m0, m3⟩ := worQ_fun HQ.out hfn
  obtain ⟨g, o, ha, hg, hcell⟩ := HX.out.fat (by rw [len_flat funC_len]; omega)
  have HFn : Hid (∀ V, Below w.heap.size w V → V.cell? ⟨g, o + k * 6, none⟩ = some (.string fn.name) ∧ V.cell? ⟨g, o + k * 6 + 1, none⟩ = some (.int .i64 fn.len) ∧ V.cell? ⟨g, o + k * 6 + 2, none⟩ = some (.int .i64 fn.a0) ∧ V.cell? ⟨g, o + k * 6 + 3, none⟩ = some (.int .i64 fn.a1) ∧ V.cell? ⟨g, o + k * 6 + 4, none⟩ = some (.int .i64 fn.a2) ∧ V.cell? ⟨g, o + k * 6 + 5, none⟩ = some (.int .i64 fn.res)) := fun V hV => by
    have q0 := hcell _ _ ((get_flat funC_len x.funs k 0 fn hfn (by omega)).trans rfl)
    have q1 := hcell _ _ ((get_flat funC_len x.funs k 1 fn hfn (by omega)).trans rfl)
    have q2 := hcell _ _ ((get_flat funC_len x.funs k 2 fn hfn (by omega)).trans rfl)
    have q3 := hcell _ _ ((get_flat funC_len x.funs k 3 fn hfn (by omega)).trans rfl)
    have q4 := hcell _ _ ((get_flat funC_len x.funs k 4 fn hfn (by omega)).trans rfl)
    have q5 := hcell _ _ ((get_flat funC_len x.funs k 5 fn hfn (by omega)).trans rfl)
    simp only [Nat.add_zero, ← Nat.add_assoc] at q0 q1 q2 q3 q4 q5
    exact ⟨(hV.cell (p := ⟨g, o + k * 6, none⟩) hg).trans q0, (hV.cell (p := ⟨g, o + k * 6 + 1, none⟩) hg).trans q1, (hV.cell (p := ⟨g, o + k * 6 + 2, none⟩) hg).trans q2, (hV.cell (p := ⟨g, o + k * 6 + 3, none⟩) hg).trans q3, (hV.cell (p := ⟨g, o + k * 6 + 4, none⟩) hg).trans q4, (hV.cell (p := ⟨g, o + k * 6 + 5, none⟩) hg).trans q5⟩
  have hfo := HX.out.fok fn (List.mem_of_getElem? hfn)
  have HA1 := Lib.hid ha
  have hkx : (k : Int) < (x.funs.length : Int) := by omega
  have hk0 : (0 : Int) ≤ (k : Int) := by omega
  clear hcell hfn ha
  by_cases h2 : (l.length : Int) = fn.len
  rotate_left
  · have he : askE x y (k : Int) l = 2 := askE_no (fun h => by have := h.2.2.2; rw [hfA] at this; exact h2 this)
    rw [he]
    have e2 := ne_true h2
    clear he h2
    go_enter Tryd.func55, Tryd.ntmps55
    go_wp2_with (go_at_call 19; rw [← hW0]; clear hW0; refine HC.out.mono ?_; rintro e w3 ⟨rfl, hb1⟩; have HI1 := Lib.hid (HI0.out.on hb1); clear hb1; have hlt := HI1.out.lt; obtain ⟨c0, c1, c2, w0, w1, p0, p1, p2, q0, q1, q2, fz, fa⟩ := HI1.out.cells; rw [HA1.out] at c1; obtain ⟨r0, r1, r2, r3, r4, r5⟩ := HFn.out _ HI1.out.below)
    refine bodyPost_ret (res_cell_tmp rfl _ _ (w.heap.size + 1 + 1) _ _ _ _ rfl (set3 HI1.out.br) Tryd.underlying64 rfl arrSize) rfl ?_
    first | exact ⟨⟨0, 0, 0, rfl, fun h => by cases h⟩, Ask_ret HI1.out _ _ _⟩ | exact ⟨⟨0, 0, 0, rfl⟩, Ask_ret HI1.out _ _ _⟩ | exact ⟨⟨0, 0, 0, rfl, rfl, rfl, rfl⟩, Ask_ret HI1.out _ _ _⟩
  have hE : askE x y (k : Int) l = (if fitB x.sorts.length y.sizes fn (l.getD 0 0) (l.getD 1 0) (l.getD 2 0) = true then 0 else 33) := by
    unfold askE
    rw [hfA, if_pos ⟨HQ.out, by omega, by omega, h2⟩]
  rw [hE]
  have e2 : ((l.length : Int) != fn.len) = false := ne_false h2
  have hl3 : l.length ≤ 3 := by omega
  obtain ⟨b0, hb0⟩ : ∃ b, b = l.getD 0 0 := ⟨_, rfl⟩
  obtain ⟨b1, hb1⟩ : ∃ b, b = l.getD 1 0 := ⟨_, rfl⟩
  obtain ⟨b2, hb2⟩ : ∃ b, b = l.getD 2 0 := ⟨_, rfl⟩
  rw [← hb0, ← hb1, ← hb2]
  obtain ⟨E, hEE⟩ : ∃ E : Int, E = (if fitB x.sorts.length y.sizes fn b0 b1 b2 = true then 0 else 33) := ⟨_, rfl⟩
  rw [← hEE]
  have HEt : Hid (fitB x.sorts.length y.sizes fn b0 b1 b2 = true → E = 0) := fun h => by rw [hEE, if_pos h]
  have HEf : Hid (fitB x.sorts.length y.sizes fn b0 b1 b2 = false → E = 33) := fun h => by rw [hEE, h]; rfl
  have Hb0 := Lib.hid hb0
  have Hb1 := Lib.hid hb1
  have Hb2 := Lib.hid hb2
  clear hE h2 hfA hEE hb0 hb1 hb2
  go_enter Tryd.func55, Tryd.ntmps55
  go_wp2_with (go_at_call 19; rw [← hW0]; clear hW0; refine HC.out.mono ?_; rintro e w3 ⟨rfl, hb1⟩; have HI1 := Lib.hid (HI0.out.on hb1); clear hb1; have hlt := HI1.out.lt; obtain ⟨c0, c1, c2, w0, w1, p0, p1, p2, q0, q1, q2, fz, fa⟩ := HI1.out.cells; rw [HA1.out] at c1; obtain ⟨r0, r1, r2, r3, r4, r5⟩ := HFn.out _ HI1.out.below)
  clear hlt c0 c1 c2 w0 w1 p0 p1 p2 q0 q1 q2 fz fa r0 r1 r2 r3 r4 r5
  go_loopw [11] (fun i wr => ∃ j : Nat, j ≤ l.length ∧ i = .int .i64 j ∧ Hid (AskI w wr x y (if 0 < j then l.getD 0 0 else 0) (if 1 < j then l.getD 1 0 else 0) (if 2 < j then l.getD 2 0 else 0))) (fun i _ => l.length - (intOf i).toNat)
  case atStart => exact ⟨0, Nat.zero_le _, rfl, HI1⟩
  case round =>
    obtain ⟨j, hj, rfl, HI⟩ := hrel
    have hlt := HI.out.lt
    by_cases hjl : j < l.length
    · obtain ⟨n, hn⟩ : ∃ n, l[j]? = some n := ⟨_, List.getElem?_eq_getElem hjl⟩
      have hgd : l.getD j 0 = n := by rw [List.getD_eq_getElem?_getD, hn]; rfl
      obtain ⟨g4, o4, ha4, hg4, hcell4⟩ := HL.out.below HI.out.below (by rw [len_flat numL_len]; omega)
      have n0 := hcell4 _ _ ((get_flat numL_len l j 0 n hn (by omega)).trans rfl)
      simp only [Nat.add_zero, Nat.mul_one] at n0
      subst ha4
      have hjj : (j : Int) < (l.length : Int) := by omega
      have hc : j = 0 ∨ j = 1 ∨ j = 2 := by omega
      clear hcell4 hn
      rcases hc with rfl | rfl | rfl
      · obtain ⟨c0, c1, c2, w0, w1, p0, p1, p2, q0, q1, q2, fz, fa⟩ := HI.out.cells
        have HI2 : Hid (AskI w (wr.setCell ⟨w.heap.size + 1 + 1 + 1, 0, none⟩ (.int .i64 n)) x y (if 0 < 0 + 1 then l.getD 0 0 else 0) (if 1 < 0 + 1 then l.getD 1 0 else 0) (if 2 < 0 + 1 then l.getD 2 0 else 0)) := by
          have h := HI.out.set0 n
          rw [← hgd] at h ⊢
          exact h
        clear hgd
        try simp only [Nat.add_zero] at n0
        go_wp2
        go_roundw
        case rel => exact ⟨0 + 1, by omega, by go_num, by first | exact HI2 | exact HI2.out.drew⟩
        case measure => first | (simp [intOf]; done) | (simp [intOf]; omega)
      · obtain ⟨c0, c1, c2, w0, w1, p0, p1, p2, q0, q1, q2, fz, fa⟩ := HI.out.cells
        have HI2 : Hid (AskI w (wr.setCell ⟨w.heap.size + 1 + 1 + 1, 1, none⟩ (.int .i64 n)) x y (if 0 < 1 + 1 then l.getD 0 0 else 0) (if 1 < 1 + 1 then l.getD 1 0 else 0) (if 2 < 1 + 1 then l.getD 2 0 else 0)) := by
          have h := HI.out.set1 n
          rw [← hgd] at h ⊢
          exact h
        clear hgd
        try simp only [Nat.add_zero] at n0
        go_wp2
        go_roundw
        case rel => exact ⟨1 + 1, by omega, by go_num, by first | exact HI2 | exact HI2.out.drew⟩
        case measure => first | (simp [intOf]; done) | (simp [intOf]; omega)
      · obtain ⟨c0, c1, c2, w0, w1, p0, p1, p2, q0, q1, q2, fz, fa⟩ := HI.out.cells
        have HI2 : Hid (AskI w (wr.setCell ⟨w.heap.size + 1 + 1 + 1, 2, none⟩ (.int .i64 n)) x y (if 0 < 2 + 1 then l.getD 0 0 else 0) (if 1 < 2 + 1 then l.getD 1 0 else 0) (if 2 < 2 + 1 then l.getD 2 0 else 0)) := by
          have h := HI.out.set2 n
          rw [← hgd] at h ⊢
          exact h
        clear hgd
        try simp only [Nat.add_zero] at n0
        go_wp2
        go_roundw
        case rel => exact ⟨2 + 1, by omega, by go_num, by first | exact HI2 | exact HI2.out.drew⟩
        case measure => first | (simp [intOf]; done) | (simp [intOf]; omega)
    · obtain rfl : j = l.length := by omega
      have ha0 : (if 0 < l.length then l.getD 0 0 else 0) = l.getD 0 0 := by
        by_cases h : 0 < l.length
        · rw [if_pos h]
        · rw [if_neg h, List.getD_eq_getElem?_getD, List.getElem?_eq_none (by omega)]; rfl
      have ha1 : (if 1 < l.length then l.getD 1 0 else 0) = l.getD 1 0 := by
        by_cases h : 1 < l.length
        · rw [if_pos h]
        · rw [if_neg h, List.getD_eq_getElem?_getD, List.getElem?_eq_none (by omega)]; rfl
      have ha2 : (if 2 < l.length then l.getD 2 0 else 0) = l.getD 2 0 := by
        by_cases h : 2 < l.length
        · rw [if_pos h]
        · rw [if_neg h, List.getD_eq_getElem?_getD, List.getElem?_eq_none (by omega)]; rfl
      rw [ha0, ha1, ha2, ← Hb0.out, ← Hb1.out, ← Hb2.out] at HI
      have hd : ∀ i, I64 (l.getD i 0) := fun i => by
        rw [List.getD_eq_getElem?_getD]
        cases h : l[i]? with
        | none => exact ⟨by decide, by decide⟩
        | some n => exact HO.out n (List.mem_of_getElem? h)
      have hd0 := hd 0
      have hd1 := hd 1
      have hd2 := hd 2
      rw [← Hb0.out] at hd0
      rw [← Hb1.out] at hd1
      rw [← Hb2.out] at hd2
      have HFt : ∀ q, fitB x.sorts.length y.sizes fn b0 b1 b2 = q → ∀ V, Below wr.heap.size wr V → Calls Tryd.prog 38 #[.agg #[.slice x.sa x.sorts.length x.sc, .slice (some ⟨g, o, none⟩) x.funs.length x.fc, .slice x.ma x.macs.length x.mc], .agg #[.slice y.sa y.sizes.length y.sc, .slice y.fa y.funs.length y.fc], .agg #[.string fn.name, .int .i64 fn.len, .int .i64 fn.a0, .int .i64 fn.a1, .int .i64 fn.a2, .int .i64 fn.res], .agg #[.int .i64 b0, .int .i64 b1, .int .i64 b2]] V fun e w' => e = .returned (.bool q) ∧ Below wr.heap.size wr w' := fun q hq V hV => by
        have h := (Wfits_any x y fn _ _ _ q V (HY.out.below (HI.out.on hV).below) hfo hd0 hd1 hd2 (by omega) hq).mono fun e w' ⟨h1, h2⟩ => (⟨h1, hV.trans (h2.mono hV.size)⟩ : e = Ending.returned (Value.bool q) ∧ Below wr.heap.size wr w')
        rw [HA1.out] at h
        exact h
      clear ha0 ha1 ha2
      obtain ⟨c0, c1, c2, w0, w1, p0, p1, p2, q0, q1, q2, fz, fa⟩ := HI.out.cells
      rw [HA1.out] at c1
      obtain ⟨r0, r1, r2, r3, r4, r5⟩ := HFn.out _ HI.out.below
      have hgw : g < wr.heap.size := Nat.lt_of_lt_of_le hg HI.out.below.size
      cases hq : fitB x.sorts.length y.sizes fn b0 b1 b2 with
      | false =>
        have HC3 := Lib.hid (HFt _ hq)
        obtain rfl := HEf.out hq
        clear hq HFt
        have HSX : Hid (∀ V, Below wr.heap.size wr V → V.cell? ⟨w.heap.size, 0, none⟩ = some (.slice x.sa x.sorts.length x.sc) ∧ V.cell? ⟨w.heap.size, 1, none⟩ = some (.slice (some ⟨g, o, none⟩) x.funs.length x.fc) ∧ V.cell? ⟨w.heap.size, 2, none⟩ = some (.slice x.ma x.macs.length x.mc) ∧ V.cell? ⟨w.heap.size + 1, 0, none⟩ = some (.slice y.sa y.sizes.length y.sc) ∧ V.cell? ⟨w.heap.size + 1, 1, none⟩ = some (.slice y.fa y.funs.length y.fc) ∧ V.cell? ⟨w.heap.size + 1 + 1 + 1, 0, none⟩ = some (.int .i64 b0) ∧ V.cell? ⟨w.heap.size + 1 + 1 + 1, 1, none⟩ = some (.int .i64 b1) ∧ V.cell? ⟨w.heap.size + 1 + 1 + 1, 2, none⟩ = some (.int .i64 b2) ∧ V.cell? ⟨g, o + k * 6, none⟩ = some (.string fn.name) ∧ V.cell? ⟨g, o + k * 6 + 1, none⟩ = some (.int .i64 fn.len) ∧ V.cell? ⟨g, o + k * 6 + 2, none⟩ = some (.int .i64 fn.a0) ∧ V.cell? ⟨g, o + k * 6 + 3, none⟩ = some (.int .i64 fn.a1) ∧ V.cell? ⟨g, o + k * 6 + 4, none⟩ = some (.int .i64 fn.a2) ∧ V.cell? ⟨g, o + k * 6 + 5, none⟩ = some (.int .i64 fn.res)) := fun V hV => by
          obtain ⟨c0, c1, c2, w0, w1, _, _, _, q0, q1, q2, _, _⟩ := (HI.out.on hV).cells
          rw [HA1.out] at c1
          obtain ⟨r0, r1, r2, r3, r4, r5⟩ := HFn.out _ (HI.out.on hV).below
          exact ⟨c0, c1, c2, w0, w1, q0, q1, q2, r0, r1, r2, r3, r4, r5⟩
        go_wp2_with fail
        refine wp_region_held_drew (S := fun V => V.cell? ⟨w.heap.size, 0, none⟩ = some (.slice x.sa x.sorts.length x.sc) ∧ V.cell? ⟨w.heap.size, 1, none⟩ = some (.slice (some ⟨g, o, none⟩) x.funs.length x.fc) ∧ V.cell? ⟨w.heap.size, 2, none⟩ = some (.slice x.ma x.macs.length x.mc) ∧ V.cell? ⟨w.heap.size + 1, 0, none⟩ = some (.slice y.sa y.sizes.length y.sc) ∧ V.cell? ⟨w.heap.size + 1, 1, none⟩ = some (.slice y.fa y.funs.length y.fc) ∧ V.cell? ⟨w.heap.size + 1 + 1 + 1, 0, none⟩ = some (.int .i64 b0) ∧ V.cell? ⟨w.heap.size + 1 + 1 + 1, 1, none⟩ = some (.int .i64 b1) ∧ V.cell? ⟨w.heap.size + 1 + 1 + 1, 2, none⟩ = some (.int .i64 b2) ∧ V.cell? ⟨g, o + k * 6, none⟩ = some (.string fn.name) ∧ V.cell? ⟨g, o + k * 6 + 1, none⟩ = some (.int .i64 fn.len) ∧ V.cell? ⟨g, o + k * 6 + 2, none⟩ = some (.int .i64 fn.a0) ∧ V.cell? ⟨g, o + k * 6 + 3, none⟩ = some (.int .i64 fn.a1) ∧ V.cell? ⟨g, o + k * 6 + 4, none⟩ = some (.int .i64 fn.a2) ∧ V.cell? ⟨g, o + k * 6 + 5, none⟩ = some (.int .i64 fn.res)) (by kernel_rfl) (HSX.out _ (Below.refl _ wr).drew) (fun hHeld => ?_)
        refine wpAnyH_take (i := 0) (oi := { dst := some 51, op := Op.load 26 (Operand.tmp 4), type := 26, pos := "ref.go:85", after := #[], guard := none }) (v := .agg #[.slice x.sa x.sorts.length x.sc, .slice (some ⟨g, o, none⟩) x.funs.length x.fc, .slice x.ma x.macs.length x.mc]) rfl (by kernel_rfl) (by kernel_rfl) (by kernel_rfl) (fun _ _ _ h => h) (Or.inl ⟨by rfl, ?_⟩) (by assumption) ?_
        · (intro w hSw; (try dsimp only at hSw); go_simp)
        try simp only [Act.put, List.setIfInBounds_toArray, List.set_cons_zero, List.set_cons_succ]
        refine wpAnyH_take (i := 1) (oi := { dst := some 52, op := Op.load 30 (Operand.tmp 5), type := 30, pos := "ref.go:85", after := #[], guard := none }) (v := .agg #[.slice y.sa y.sizes.length y.sc, .slice y.fa y.funs.length y.fc]) rfl (by kernel_rfl) (by kernel_rfl) (by kernel_rfl) (fun _ _ _ h => h) (Or.inl ⟨by rfl, ?_⟩) (by assumption) ?_
        · (intro w hSw; (try dsimp only at hSw); go_simp)
        try simp only [Act.put, List.setIfInBounds_toArray, List.set_cons_zero, List.set_cons_succ]
        refine wpAnyH_take (i := 2) (oi := { dst := some 53, op := Op.fieldAddr 26 (Operand.tmp 4) 1, type := 0, pos := "ref.go:85", after := #[], guard := none }) (v := .pointer (some ⟨w.heap.size, 1, none⟩)) rfl (by kernel_rfl) (by kernel_rfl) (by kernel_rfl) (fun _ _ _ h => h) (Or.inl ⟨by rfl, ?_⟩) (by assumption) ?_
        · (intro w hSw; (try dsimp only at hSw); go_simp)
        try simp only [Act.put, List.setIfInBounds_toArray, List.set_cons_zero, List.set_cons_succ]
        refine wpAnyH_take (i := 3) (oi := { dst := some 54, op := Op.load 23 (Operand.tmp 53), type := 23, pos := "ref.go:85", after := #[{ on := 2, ground := Ground.data }], guard := none }) (v := .slice (some ⟨g, o, none⟩) x.funs.length x.fc) rfl (by kernel_rfl) (by kernel_rfl) (by kernel_rfl) (fun _ _ _ h => h) (Or.inl ⟨by rfl, ?_⟩) (by assumption) ?_
        · (intro w hSw; (try dsimp only at hSw); go_simp)
        try simp only [Act.put, List.setIfInBounds_toArray, List.set_cons_zero, List.set_cons_succ]
        refine wpAnyH_take (i := 4) (oi := { dst := some 55, op := Op.move (Operand.tmp 2), type := 3, pos := "ref.go:85", after := #[], guard := none }) (v := .int .i64 k) rfl (by kernel_rfl) (by kernel_rfl) (by kernel_rfl) (fun _ _ _ h => h) (Or.inl ⟨by rfl, ?_⟩) (by assumption) ?_
        · (intro w hSw; (try dsimp only at hSw); go_simp)
        try simp only [Act.put, List.setIfInBounds_toArray, List.set_cons_zero, List.set_cons_succ]
        refine wpAnyH_take (i := 5) (oi := { dst := some 56, op := Op.indexAddr 23 (Operand.tmp 54) (Operand.tmp 55), type := 0, pos := "ref.go:85", after := #[{ on := 3, ground := Ground.data }, { on := 4, ground := Ground.data }], guard := none }) (v := .pointer (some ⟨g, o + k * 6, none⟩)) rfl (by kernel_rfl) (by kernel_rfl) (by kernel_rfl) (fun _ _ _ h => h) (Or.inl ⟨by rfl, ?_⟩) (by assumption) ?_
        · (intro w hSw; (try dsimp only at hSw); go_simp)
        try simp only [Act.put, List.setIfInBounds_toArray, List.set_cons_zero, List.set_cons_succ]
        refine wpAnyH_take (i := 6) (oi := { dst := some 57, op := Op.load 89 (Operand.tmp 56), type := 89, pos := "ref.go:85", after := #[{ on := 5, ground := Ground.data }], guard := none }) (v := .agg #[.string fn.name, .int .i64 fn.len, .int .i64 fn.a0, .int .i64 fn.a1, .int .i64 fn.a2, .int .i64 fn.res]) rfl (by kernel_rfl) (by kernel_rfl) (by kernel_rfl) (fun _ _ _ h => h) (Or.inl ⟨by rfl, ?_⟩) (by assumption) ?_
        · (intro w hSw; (try dsimp only at hSw); go_simp)
        try simp only [Act.put, List.setIfInBounds_toArray, List.set_cons_zero, List.set_cons_succ]
        refine wpAnyH_take (i := 7) (oi := { dst := some 58, op := Op.load 64 (Operand.tmp 10), type := 64, pos := "ref.go:85", after := #[], guard := none }) (v := .agg #[.int .i64 b0, .int .i64 b1, .int .i64 b2]) rfl (by kernel_rfl) (by kernel_rfl) (by kernel_rfl) (fun _ _ _ h => h) (Or.inl ⟨by rfl, ?_⟩) (by assumption) ?_
        · (intro w hSw; (try dsimp only at hSw); go_simp)
        try simp only [Act.put, List.setIfInBounds_toArray, List.set_cons_zero, List.set_cons_succ]
        refine wpAnyH_ready (rs := [8]) (by kernel_rfl) (by simp) ?_
        refine AllReadyH.cons (o := { dst := some 59, op := Op.call { callee := Callee.value (Operand.func 38), args := #[Operand.tmp 51, Operand.tmp 52, Operand.tmp 57, Operand.tmp 58], argTypes := #[26, 30, 89, 64] }, type := 4, pos := "ref.go:85", after := #[{ on := 0, ground := Ground.data }, { on := 1, ground := Ground.data }, { on := 6, ground := Ground.data }, { on := 7, ground := Ground.data }], guard := none }) rfl (fun K hK => ?_) AllReadyH.nil
        go_simp
        go_at_call 38
        refine (HC3.out _ (Below.refl _ wr).drew).mono ?_
        rintro e w5 ⟨rfl, hb5⟩
        have HB5 := Lib.hid hb5
        clear hb5
        go_wp2_with fail
        refine hK.out _ _ ?_ (fun hHeld => ?_)
        · exact HSX.out _ HB5.out
        clear hK K
        try simp only [Act.put, List.setIfInBounds_toArray, List.set_cons_zero, List.set_cons_succ]
        refine wpAnyH_take (i := 9) (oi := { dst := some 60, op := Op.unOp UnOp.not 4 (Operand.tmp 59), type := 4, pos := "ref.go:85", after := #[{ on := 8, ground := Ground.data }], guard := none }) (v := .bool true) rfl (by kernel_rfl) (by kernel_rfl) (by kernel_rfl) (fun _ _ _ h => h) (Or.inl ⟨by rfl, ?_⟩) (by assumption) ?_
        · (intro w hSw; (try dsimp only at hSw); go_simp)
        try simp only [Act.put, List.setIfInBounds_toArray, List.set_cons_zero, List.set_cons_succ]
        refine wpAnyH_done (by kernel_rfl) ?_ _
        have HI5 := Lib.hid (HI.out.on HB5.out)
        have hlt5 := HI5.out.lt
        clear c0 c1 c2 w0 w1 p0 p1 p2 q0 q1 q2 fz fa r0 r1 r2 r3 r4 r5
        obtain ⟨c0, c1, c2, w0, w1, p0, p1, p2, q0, q1, q2, fz, fa⟩ := HI5.out.cells
        go_wp2_with fail
        refine bodyPost_ret (res_cell_tmp rfl _ _ (w.heap.size + 1 + 1) _ _ _ _ rfl (set3 HI5.out.br) Tryd.underlying64 rfl arrSize) rfl ?_
        first | exact ⟨⟨b0, b1, b2, rfl, fun h => by cases h⟩, Ask_ret HI5.out _ _ _⟩ | exact ⟨⟨b0, b1, b2, rfl⟩, Ask_ret HI5.out _ _ _⟩ | exact ⟨⟨b0, b1, b2, rfl, rfl, rfl, rfl⟩, Ask_ret HI5.out _ _ _⟩
      | true =>
        have HC3 := Lib.hid (HFt _ hq)
        obtain rfl := HEt.out hq
        clear hq HFt
        have HSX : Hid (∀ V, Below wr.heap.size wr V → V.cell? ⟨w.heap.size, 0, none⟩ = some (.slice x.sa x.sorts.length x.sc) ∧ V.cell? ⟨w.heap.size, 1, none⟩ = some (.slice (some ⟨g, o, none⟩) x.funs.length x.fc) ∧ V.cell? ⟨w.heap.size, 2, none⟩ = some (.slice x.ma x.macs.length x.mc) ∧ V.cell? ⟨w.heap.size + 1, 0, none⟩ = some (.slice y.sa y.sizes.length y.sc) ∧ V.cell? ⟨w.heap.size + 1, 1, none⟩ = some (.slice y.fa y.funs.length y.fc) ∧ V.cell? ⟨w.heap.size + 1 + 1 + 1, 0, none⟩ = some (.int .i64 b0) ∧ V.cell? ⟨w.heap.size + 1 + 1 + 1, 1, none⟩ = some (.int .i64 b1) ∧ V.cell? ⟨w.heap.size + 1 + 1 + 1, 2, none⟩ = some (.int .i64 b2) ∧ V.cell? ⟨g, o + k * 6, none⟩ = some (.string fn.name) ∧ V.cell? ⟨g, o + k * 6 + 1, none⟩ = some (.int .i64 fn.len) ∧ V.cell? ⟨g, o + k * 6 + 2, none⟩ = some (.int .i64 fn.a0) ∧ V.cell? ⟨g, o + k * 6 + 3, none⟩ = some (.int .i64 fn.a1) ∧ V.cell? ⟨g, o + k * 6 + 4, none⟩ = some (.int .i64 fn.a2) ∧ V.cell? ⟨g, o + k * 6 + 5, none⟩ = some (.int .i64 fn.res)) := fun V hV => by
          obtain ⟨c0, c1, c2, w0, w1, _, _, _, q0, q1, q2, _, _⟩ := (HI.out.on hV).cells
          rw [HA1.out] at c1
          obtain ⟨r0, r1, r2, r3, r4, r5⟩ := HFn.out _ (HI.out.on hV).below
          exact ⟨c0, c1, c2, w0, w1, q0, q1, q2, r0, r1, r2, r3, r4, r5⟩
        go_wp2_with fail
        refine wp_region_held_drew (S := fun V => V.cell? ⟨w.heap.size, 0, none⟩ = some (.slice x.sa x.sorts.length x.sc) ∧ V.cell? ⟨w.heap.size, 1, none⟩ = some (.slice (some ⟨g, o, none⟩) x.funs.length x.fc) ∧ V.cell? ⟨w.heap.size, 2, none⟩ = some (.slice x.ma x.macs.length x.mc) ∧ V.cell? ⟨w.heap.size + 1, 0, none⟩ = some (.slice y.sa y.sizes.length y.sc) ∧ V.cell? ⟨w.heap.size + 1, 1, none⟩ = some (.slice y.fa y.funs.length y.fc) ∧ V.cell? ⟨w.heap.size + 1 + 1 + 1, 0, none⟩ = some (.int .i64 b0) ∧ V.cell? ⟨w.heap.size + 1 + 1 + 1, 1, none⟩ = some (.int .i64 b1) ∧ V.cell? ⟨w.heap.size + 1 + 1 + 1, 2, none⟩ = some (.int .i64 b2) ∧ V.cell? ⟨g, o + k * 6, none⟩ = some (.string fn.name) ∧ V.cell? ⟨g, o + k * 6 + 1, none⟩ = some (.int .i64 fn.len) ∧ V.cell? ⟨g, o + k * 6 + 2, none⟩ = some (.int .i64 fn.a0) ∧ V.cell? ⟨g, o + k * 6 + 3, none⟩ = some (.int .i64 fn.a1) ∧ V.cell? ⟨g, o + k * 6 + 4, none⟩ = some (.int .i64 fn.a2) ∧ V.cell? ⟨g, o + k * 6 + 5, none⟩ = some (.int .i64 fn.res)) (by kernel_rfl) (HSX.out _ (Below.refl _ wr).drew) (fun hHeld => ?_)
        refine wpAnyH_take (i := 0) (oi := { dst := some 51, op := Op.load 26 (Operand.tmp 4), type := 26, pos := "ref.go:85", after := #[], guard := none }) (v := .agg #[.slice x.sa x.sorts.length x.sc, .slice (some ⟨g, o, none⟩) x.funs.length x.fc, .slice x.ma x.macs.length x.mc]) rfl (by kernel_rfl) (by kernel_rfl) (by kernel_rfl) (fun _ _ _ h => h) (Or.inl ⟨by rfl, ?_⟩) (by assumption) ?_
        · (intro w hSw; (try dsimp only at hSw); go_simp)
        try simp only [Act.put, List.setIfInBounds_toArray, List.set_cons_zero, List.set_cons_succ]
        refine wpAnyH_take (i := 1) (oi := { dst := some 52, op := Op.load 30 (Operand.tmp 5), type := 30, pos := "ref.go:85", after := #[], guard := none }) (v := .agg #[.slice y.sa y.sizes.length y.sc, .slice y.fa y.funs.length y.fc]) rfl (by kernel_rfl) (by kernel_rfl) (by kernel_rfl) (fun _ _ _ h => h) (Or.inl ⟨by rfl, ?_⟩) (by assumption) ?_
        · (intro w hSw; (try dsimp only at hSw); go_simp)
        try simp only [Act.put, List.setIfInBounds_toArray, List.set_cons_zero, List.set_cons_succ]
        refine wpAnyH_take (i := 2) (oi := { dst := some 53, op := Op.fieldAddr 26 (Operand.tmp 4) 1, type := 0, pos := "ref.go:85", after := #[], guard := none }) (v := .pointer (some ⟨w.heap.size, 1, none⟩)) rfl (by kernel_rfl) (by kernel_rfl) (by kernel_rfl) (fun _ _ _ h => h) (Or.inl ⟨by rfl, ?_⟩) (by assumption) ?_
        · (intro w hSw; (try dsimp only at hSw); go_simp)
        try simp only [Act.put, List.setIfInBounds_toArray, List.set_cons_zero, List.set_cons_succ]
        refine wpAnyH_take (i := 3) (oi := { dst := some 54, op := Op.load 23 (Operand.tmp 53), type := 23, pos := "ref.go:85", after := #[{ on := 2, ground := Ground.data }], guard := none }) (v := .slice (some ⟨g, o, none⟩) x.funs.length x.fc) rfl (by kernel_rfl) (by kernel_rfl) (by kernel_rfl) (fun _ _ _ h => h) (Or.inl ⟨by rfl, ?_⟩) (by assumption) ?_
        · (intro w hSw; (try dsimp only at hSw); go_simp)
        try simp only [Act.put, List.setIfInBounds_toArray, List.set_cons_zero, List.set_cons_succ]
        refine wpAnyH_take (i := 4) (oi := { dst := some 55, op := Op.move (Operand.tmp 2), type := 3, pos := "ref.go:85", after := #[], guard := none }) (v := .int .i64 k) rfl (by kernel_rfl) (by kernel_rfl) (by kernel_rfl) (fun _ _ _ h => h) (Or.inl ⟨by rfl, ?_⟩) (by assumption) ?_
        · (intro w hSw; (try dsimp only at hSw); go_simp)
        try simp only [Act.put, List.setIfInBounds_toArray, List.set_cons_zero, List.set_cons_succ]
        refine wpAnyH_take (i := 5) (oi := { dst := some 56, op := Op.indexAddr 23 (Operand.tmp 54) (Operand.tmp 55), type := 0, pos := "ref.go:85", after := #[{ on := 3, ground := Ground.data }, { on := 4, ground := Ground.data }], guard := none }) (v := .pointer (some ⟨g, o + k * 6, none⟩)) rfl (by kernel_rfl) (by kernel_rfl) (by kernel_rfl) (fun _ _ _ h => h) (Or.inl ⟨by rfl, ?_⟩) (by assumption) ?_
        · (intro w hSw; (try dsimp only at hSw); go_simp)
        try simp only [Act.put, List.setIfInBounds_toArray, List.set_cons_zero, List.set_cons_succ]
        refine wpAnyH_take (i := 6) (oi := { dst := some 57, op := Op.load 89 (Operand.tmp 56), type := 89, pos := "ref.go:85", after := #[{ on := 5, ground := Ground.data }], guard := none }) (v := .agg #[.string fn.name, .int .i64 fn.len, .int .i64 fn.a0, .int .i64 fn.a1, .int .i64 fn.a2, .int .i64 fn.res]) rfl (by kernel_rfl) (by kernel_rfl) (by kernel_rfl) (fun _ _ _ h => h) (Or.inl ⟨by rfl, ?_⟩) (by assumption) ?_
        · (intro w hSw; (try dsimp only at hSw); go_simp)
        try simp only [Act.put, List.setIfInBounds_toArray, List.set_cons_zero, List.set_cons_succ]
        refine wpAnyH_take (i := 7) (oi := { dst := some 58, op := Op.load 64 (Operand.tmp 10), type := 64, pos := "ref.go:85", after := #[], guard := none }) (v := .agg #[.int .i64 b0, .int .i64 b1, .int .i64 b2]) rfl (by kernel_rfl) (by kernel_rfl) (by kernel_rfl) (fun _ _ _ h => h) (Or.inl ⟨by rfl, ?_⟩) (by assumption) ?_
        · (intro w hSw; (try dsimp only at hSw); go_simp)
        try simp only [Act.put, List.setIfInBounds_toArray, List.set_cons_zero, List.set_cons_succ]
        refine wpAnyH_ready (rs := [8]) (by kernel_rfl) (by simp) ?_
        refine AllReadyH.cons (o := { dst := some 59, op := Op.call { callee := Callee.value (Operand.func 38), args := #[Operand.tmp 51, Operand.tmp 52, Operand.tmp 57, Operand.tmp 58], argTypes := #[26, 30, 89, 64] }, type := 4, pos := "ref.go:85", after := #[{ on := 0, ground := Ground.data }, { on := 1, ground := Ground.data }, { on := 6, ground := Ground.data }, { on := 7, ground := Ground.data }], guard := none }) rfl (fun K hK => ?_) AllReadyH.nil
        go_simp
        go_at_call 38
        refine (HC3.out _ (Below.refl _ wr).drew).mono ?_
        rintro e w5 ⟨rfl, hb5⟩
        have HB5 := Lib.hid hb5
        clear hb5
        go_wp2_with fail
        refine hK.out _ _ ?_ (fun hHeld => ?_)
        · exact HSX.out _ HB5.out
        clear hK K
        try simp only [Act.put, List.setIfInBounds_toArray, List.set_cons_zero, List.set_cons_succ]
        refine wpAnyH_take (i := 9) (oi := { dst := some 60, op := Op.unOp UnOp.not 4 (Operand.tmp 59), type := 4, pos := "ref.go:85", after := #[{ on := 8, ground := Ground.data }], guard := none }) (v := .bool false) rfl (by kernel_rfl) (by kernel_rfl) (by kernel_rfl) (fun _ _ _ h => h) (Or.inl ⟨by rfl, ?_⟩) (by assumption) ?_
        · (intro w hSw; (try dsimp only at hSw); go_simp)
        try simp only [Act.put, List.setIfInBounds_toArray, List.set_cons_zero, List.set_cons_succ]
        refine wpAnyH_done (by kernel_rfl) ?_ _
        have HI5 := Lib.hid (HI.out.on HB5.out)
        have hlt5 := HI5.out.lt
        clear c0 c1 c2 w0 w1 p0 p1 p2 q0 q1 q2 fz fa r0 r1 r2 r3 r4 r5
        obtain ⟨c0, c1, c2, w0, w1, p0, p1, p2, q0, q1, q2, fz, fa⟩ := HI5.out.cells
        go_wp2_with fail
        refine bodyPost_ret (res_cell_tmp rfl _ _ (w.heap.size + 1 + 1) _ _ _ _ rfl (set3 HI5.out.br) Tryd.underlying64 rfl arrSize) rfl ?_
        first | exact ⟨⟨b0, b1, b2, rfl, fun _ => ⟨rfl, rfl, rfl⟩⟩, Ask_ret HI5.out _ _ _⟩ | exact ⟨⟨b0, b1, b2, rfl⟩, Ask_ret HI5.out _ _ _⟩ | exact ⟨⟨b0, b1, b2, rfl, rfl, rfl, rfl⟩, Ask_ret HI5.out _ _ _⟩
end Go.Proofs.YtinogambkfihpaaDoor
