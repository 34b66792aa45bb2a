/- The rule of a function, of a node. -/
import Derived.Test.YtbddghcdibdloaaGreatDoorTyC
import Derived.Test.YtbddghcdibdloaaGreatDoorSgL
namespace Go.Proofs.YtbddghcdibdloaaGreatDoor
open Go.RowKit
set_option linter.unusedVariables false
theorem SigR.fun {w : World} {x : SigV} {k : Nat} {f : FunA} (h : SigR w x) (hk : x.funs[k]? = some f) : ∃ g o : Nat, x.fa = some ⟨g, o, none⟩ ∧ g < w.heap.size ∧
    w.cell? ⟨g, o + k * 6, none⟩ = some (.string f.name) ∧ w.cell? ⟨g, o + k * 6 + 1, none⟩ = some (.int .i64 f.len) ∧ w.cell? ⟨g, o + k * 6 + 2, none⟩ = some (.int .i64 f.a0) ∧ w.cell? ⟨g, o + k * 6 + 3, none⟩ = some (.int .i64 f.a1) ∧ w.cell? ⟨g, o + k * 6 + 4, none⟩ = some (.int .i64 f.a2) ∧ w.cell? ⟨g, o + k * 6 + 5, none⟩ = some (.int .i64 f.res) := by
  have hlt := (List.getElem?_eq_some_iff.1 hk).1
  obtain ⟨g, o, e, hg, hc⟩ := h.fat (by rw [len_flat funC_len]; omega)
  have c0 := hc _ _ ((get_flat funC_len x.funs k 0 f hk (by omega)).trans rfl)
  have c1 := hc _ _ ((get_flat funC_len x.funs k 1 f hk (by omega)).trans rfl)
  have c2 := hc _ _ ((get_flat funC_len x.funs k 2 f hk (by omega)).trans rfl)
  have c3 := hc _ _ ((get_flat funC_len x.funs k 3 f hk (by omega)).trans rfl)
  have c4 := hc _ _ ((get_flat funC_len x.funs k 4 f hk (by omega)).trans rfl)
  have c5 := hc _ _ ((get_flat funC_len x.funs k 5 f hk (by omega)).trans rfl)
  exact ⟨g, o, e, hg, c0, c1, c2, c3, c4, c5⟩
def funRl (f : FunA) : Tm.RuleA := ⟨f.len, f.a0, f.a1, f.a2, f.res⟩
/-- The rule of a function's number: whether it is there. -/
def fnB (x : SigA) (f : Int) : Bool := decide (0 ≤ f) && decide (f < x.funs.length)
def fnR (x : SigA) (f : Int) : Tm.RuleA := if 0 ≤ f then ((x.funs[f.toNat]?).map funRl).getD Tm.zeroR else Tm.zeroR
theorem sig_blk {V : World} {b : Nat} {x : SigV} {ty : TypeId} (h : V.heap[b]? = some (.cells #[.slice x.sa x.sorts.length x.sc, .slice x.fa x.funs.length x.fc, .slice x.ma x.macs.length x.mc] ty (0, 0))) : V.cell? ⟨b, 0, none⟩ = some (.slice x.sa x.sorts.length x.sc) ∧ V.cell? ⟨b, 1, none⟩ = some (.slice x.fa x.funs.length x.fc) ∧ V.cell? ⟨b, 2, none⟩ = some (.slice x.ma x.macs.length x.mc) :=
  ⟨(cell_of_row _ _ 0 _ _ _ h).trans rfl, (cell_of_row _ _ 1 _ _ _ h).trans rfl, (cell_of_row _ _ 2 _ _ _ h).trans rfl⟩
theorem mid_new (A : World) (o1 o2 : Obj) : ((A.alloc o1).alloc o2).heap[A.heap.size]? = some o1 := (Below.heap_alloc _ _ _ (by simp)).trans (heap_alloc_new A o1)
theorem set5 {w : World} {b : Nat} {t : TypeId} {a0 a1 a2 a3 a4 v0 v1 v2 v3 v4 : Value} (h : w.heap[b]? = some (.cells #[a0, a1, a2, a3, a4] t (0, 0))) :
    (((((w.setCell ⟨b, 0, none⟩ v0).setCell ⟨b, 1, none⟩ v1).setCell ⟨b, 2, none⟩ v2).setCell ⟨b, 3, none⟩ v3).setCell ⟨b, 4, none⟩ v4).heap[b]? = some (.cells #[v0, v1, v2, v3, v4] t (0, 0)) := by
  simp [World.setCell, Array.getElem?_modify, h]
theorem below_set5 {B b : Nat} {w w' : World} {v0 v1 v2 v3 v4 : Value} (h : Below B w w') (hb : B ≤ b) :
    Below B w (((((w'.setCell ⟨b, 0, none⟩ v0).setCell ⟨b, 1, none⟩ v1).setCell ⟨b, 2, none⟩ v2).setCell ⟨b, 3, none⟩ v3).setCell ⟨b, 4, none⟩ v4) :=
  ((((h.setCell (p := ⟨b, 0, none⟩) hb v0).setCell (p := ⟨b, 1, none⟩) hb v1).setCell (p := ⟨b, 2, none⟩) hb v2).setCell (p := ⟨b, 3, none⟩) hb v3).setCell (p := ⟨b, 4, none⟩) hb v4
set_option maxHeartbeats 1000000 in
theorem funRule_in (x : SigV) (k : Nat) (f : FunA) (w : World) (hR : SigR w x) (hk : x.funs[k]? = some f) :
    Calls Tryz.prog 69 #[.agg #[.slice x.sa x.sorts.length x.sc, .slice x.fa x.funs.length x.fc, .slice x.ma x.macs.length x.mc], .int .i64 k] w fun e w' => e = .returned (.tuple #[.agg #[.int .i64 f.len, .int .i64 f.a0, .int .i64 f.a1, .int .i64 f.a2, .int .i64 f.res], .bool true]) ∧ Below w.heap.size w w' := by
  obtain ⟨g, o, hfa, hg, c0, c1, c2, c3, c4, c5⟩ := hR.fun hk
  have hlt := (List.getElem?_eq_some_iff.1 hk).1
  have hfl := hR.fl
  have hfm : x.fc ≤ 9223372036854775807 := by have := hR.fm; unfold maxLen at this; omega
  rw [hfa]
  clear hR hk hfa
  go_enter Tryz.func69, Tryz.ntmps69
  go_wp2
  have hx := mid_new (w.alloc (.cells #[.slice x.sa x.sorts.length x.sc, .slice (some ⟨g, o, none⟩) x.funs.length x.fc, .slice x.ma x.macs.length x.mc] 34)) (.cells #[.int .i64 f.len, .int .i64 f.a0, .int .i64 f.a1, .int .i64 f.a2, .int .i64 f.res] 108) (.cells #[.string f.name, .int .i64 f.len, .int .i64 f.a0, .int .i64 f.a1, .int .i64 f.a2, .int .i64 f.res] 29)
  rw [World.size_alloc] at hx
  obtain ⟨x0, x1, x2, x3, x4⟩ := Tm.rule_cells (r := funRl f) hx
  simp only [funRl] at x0 x1 x2 x3 x4
  refine bodyPost_ret (v := .tuple #[.agg #[.int .i64 f.len, .int .i64 f.a0, .int .i64 f.a1, .int .i64 f.a2, .int .i64 f.res], .bool true]) (by simp [results, Tryz.results69, go_sem, x0, x1, x2, x3, x4]) rfl ⟨rfl, (((Below.refl _ w).alloc (Nat.le_refl _) _).alloc (by simp) _).alloc (by simp; omega) _⟩
theorem funRule_out (x : SigV) (i : Int) (w : World) (hR : SigR w x) (hi : I64 i) (h : i < 0 ∨ (x.funs.length : Int) ≤ i) :
    Calls Tryz.prog 69 #[.agg #[.slice x.sa x.sorts.length x.sc, .slice x.fa x.funs.length x.fc, .slice x.ma x.macs.length x.mc], .int .i64 i] w fun e w' => e = .returned (.tuple #[.agg #[.int .i64 0, .int .i64 0, .int .i64 0, .int .i64 0, .int .i64 0], .bool false]) ∧ Below w.heap.size w w' := by
  obtain ⟨i1, i2⟩ := hi
  have hfl := hR.fl
  have hfm : x.fc ≤ 9223372036854775807 := by have := hR.fm; unfold maxLen at this; omega
  have hx := heap_alloc_new (w.alloc (.cells #[.slice x.sa x.sorts.length x.sc, .slice x.fa x.funs.length x.fc, .slice x.ma x.macs.length x.mc] 34)) (.cells #[.int .i64 0, .int .i64 0, .int .i64 0, .int .i64 0, .int .i64 0] 108)
  rw [World.size_alloc] at hx
  obtain ⟨x0, x1, x2, x3, x4⟩ := Tm.rule_cells (r := Tm.zeroR) hx
  simp only [Tm.zeroR] at x0 x1 x2 x3 x4
  clear hR hx
  rcases h with h | h
  all_goals
    go_enter Tryz.func69, Tryz.ntmps69
    go_wp2
    refine bodyPost_ret (v := .tuple #[.agg #[.int .i64 0, .int .i64 0, .int .i64 0, .int .i64 0, .int .i64 0], .bool false]) (by simp [results, Tryz.results69, go_sem, x0, x1, x2, x3, x4]) rfl ⟨rfl, ((Below.refl _ w).alloc (Nat.le_refl _) _).alloc (by simp) _⟩
theorem funRule_any (x : SigV) (i : Int) (r : Tm.RuleA) (b : Bool) (w : World) (hR : SigR w x) (hi : I64 i) (hr : fnR x.a i = r) (hb : fnB x.a i = b) :
    Calls Tryz.prog 69 #[.agg #[.slice x.sa x.sorts.length x.sc, .slice x.fa x.funs.length x.fc, .slice x.ma x.macs.length x.mc], .int .i64 i] w fun e w' => e = .returned (.tuple #[.agg #[.int .i64 r.many, .int .i64 r.a0, .int .i64 r.a1, .int .i64 r.a2, .int .i64 r.sort], .bool b]) ∧ Below w.heap.size w w' := by
  have hxa : x.a.funs = x.funs := rfl
  by_cases h : 0 ≤ i ∧ i < x.funs.length
  · obtain ⟨k, rfl⟩ : ∃ k : Nat, i = k := ⟨i.toNat, by omega⟩
    obtain ⟨f, hf⟩ : ∃ f, x.funs[k]? = some f := ⟨_, List.getElem?_eq_getElem (by omega)⟩
    have e1 : b = true := by rw [← hb]; unfold fnB; rw [hxa]; simp; omega
    have e2 : r = funRl f := by rw [← hr]; unfold fnR; rw [if_pos h.1, hxa, Int.toNat_natCast, hf]; rfl
    subst e1 e2
    exact funRule_in x k f w hR hf
  · have e1 : b = false := by rw [← hb]; unfold fnB; rw [hxa]; simp; omega
    have e2 : r = Tm.zeroR := by
      rw [← hr]; unfold fnR
      split
      · rw [hxa, List.getElem?_eq_none (by omega)]; rfl
      · rfl
    subst e1 e2
    exact funRule_out x i w hR hi (by omega)
def ndB (x : SigA) (n : Tm.NodeA) : Bool := if n.op = 13 then fnB x n.fn else Tm.kindB n.op
def ndR (x : SigA) (n : Tm.NodeA) : Tm.RuleA := if n.op = 13 then fnR x n.fn else Tm.kindR n.op
set_option maxHeartbeats 2000000 in
theorem nodeRule_any (x : SigV) (n : Tm.NodeA) (r : Tm.RuleA) (b : Bool) (w : World) (hG : Tm.GR w) (hR : SigR w x) (ho : Tm.NodeOk n) (hr : ndR x.a n = r) (hb : ndB x.a n = b) :
    Calls Tryz.prog 60 #[.agg #[.slice x.sa x.sorts.length x.sc, .slice x.fa x.funs.length x.fc, .slice x.ma x.macs.length x.mc], .agg #[.int .i8 n.op, .int .i8 n.len, .int .i64 n.a0, .int .i64 n.a1, .int .i64 n.a2, .int .i64 n.sort, .int .i64 n.fn, .int .i64 n.num]] w fun e w' => e = .returned (.tuple #[.agg #[.int .i64 r.many, .int .i64 r.a0, .int .i64 r.a1, .int .i64 r.a2, .int .i64 r.sort], .bool b]) ∧ Below w.heap.size w w' := by
  obtain ⟨W0, hW0⟩ : ∃ W0, W0 = ((w.alloc (.cells #[.slice x.sa x.sorts.length x.sc, .slice x.fa x.funs.length x.fc, .slice x.ma x.macs.length x.mc] 34)).alloc (.cells #[.int .i8 n.op, .int .i8 n.len, .int .i64 n.a0, .int .i64 n.a1, .int .i64 n.a2, .int .i64 n.sort, .int .i64 n.fn, .int .i64 n.num] 41)).alloc (.cells #[.int .i64 0, .int .i64 0, .int .i64 0, .int .i64 0, .int .i64 0] 108) := ⟨_, rfl⟩
  have hB0 : Below w.heap.size w W0 := by rw [hW0]; exact (((Below.refl _ w).alloc (Nat.le_refl _) _).alloc (by simp) _).alloc (by simp; omega) _
  have hsz : W0.heap.size = w.heap.size + 1 + 1 + 1 := by rw [hW0]; simp
  have hz : W0.heap[w.heap.size + 1 + 1]? = some (.cells #[.int .i64 0, .int .i64 0, .int .i64 0, .int .i64 0, .int .i64 0] 108 (0, 0)) := by
    rw [hW0]
    have := heap_alloc_new ((w.alloc (.cells #[.slice x.sa x.sorts.length x.sc, .slice x.fa x.funs.length x.fc, .slice x.ma x.macs.length x.mc] 34)).alloc (.cells #[.int .i8 n.op, .int .i8 n.len, .int .i64 n.a0, .int .i64 n.a1, .int .i64 n.a2, .int .i64 n.sort, .int .i64 n.fn, .int .i64 n.num] 41)) (.cells #[.int .i64 0, .int .i64 0, .int .i64 0, .int .i64 0, .int .i64 0] 108)
    rwa [World.size_alloc, World.size_alloc] at this
  have HZ : Hid (∀ V, Below W0.heap.size W0 V → V.heap[w.heap.size + 1 + 1]? = some (.cells #[.int .i64 0, .int .i64 0, .int .i64 0, .int .i64 0, .int .i64 0] 108 (0, 0))) := fun V hV => (hV.block _ (by omega)).trans hz
  have HF : Hid (n.op = 13 → Calls Tryz.prog 69 #[.agg #[.slice x.sa x.sorts.length x.sc, .slice x.fa x.funs.length x.fc, .slice x.ma x.macs.length x.mc], .int .i64 n.fn] W0 fun e w' => e = .returned (.tuple #[.agg #[.int .i64 r.many, .int .i64 r.a0, .int .i64 r.a1, .int .i64 r.a2, .int .i64 r.sort], .bool b]) ∧ Below W0.heap.size W0 w') := fun h => funRule_any x n.fn r b W0 (hR.below hB0) ho.fn (by rw [← hr]; unfold ndR; rw [if_pos h]) (by rw [← hb]; unfold ndB; rw [if_pos h])
  have HK : Hid (¬ n.op = 13 → Calls Tryz.prog 70 #[.int .i8 n.op] W0 fun e w' => e = .returned (.tuple #[.agg #[.int .i64 r.many, .int .i64 r.a0, .int .i64 r.a1, .int .i64 r.a2, .int .i64 r.sort], .bool b]) ∧ Below W0.heap.size W0 w') := fun h => Tm.kindRule_any n.op r b W0 (hG.below hB0) ho.op (by rw [← hr]; unfold ndR; rw [if_neg h]) (by rw [← hb]; unfold ndB; rw [if_neg h])
  have HB0 := Lib.hid hB0
  clear hz hr hb hR hG hB0 ho
  by_cases h : n.op = 13
  · have e0 := Tm.eq_t h
    have HC := Lib.hid (HF.out h)
    clear h HF HK
    go_enter Tryz.func60, Tryz.ntmps60
    go_wp2_with (go_at_call 69; rw [← hW0]; clear hW0; refine HC.out.mono ?_; rintro e w1 ⟨rfl, hb1⟩; have hz1 := HZ.out _ hb1; have HZ1 := Lib.hid hz1; obtain ⟨y0, y1, y2, y3, y4⟩ := Tm.rule_cells (r := Tm.zeroR) hz1; simp only [Tm.zeroR] at y0 y1 y2 y3 y4; have df : ∀ i, w1.frozen? ⟨w.heap.size + 1 + 1, i, none⟩ = false := (fun i => by simp [World.frozen?, hz1]); clear hz1)
    obtain ⟨x0, x1, x2, x3, x4⟩ := Tm.rule_cells (r := r) (set5 (v0 := .int .i64 r.many) (v1 := .int .i64 r.a0) (v2 := .int .i64 r.a1) (v3 := .int .i64 r.a2) (v4 := .int .i64 r.sort) HZ1.out)
    refine bodyPost_ret (v := .tuple #[.agg #[.int .i64 r.many, .int .i64 r.a0, .int .i64 r.a1, .int .i64 r.a2, .int .i64 r.sort], .bool b]) (by simp [results, Tryz.results60, go_sem, x0, x1, x2, x3, x4]) rfl ⟨rfl, below_set5 (HB0.out.trans (hb1.mono HB0.out.size)) (by omega)⟩
  · have e0 := Tm.eq_f h
    have HC := Lib.hid (HK.out h)
    clear h HF HK
    go_enter Tryz.func60, Tryz.ntmps60
    go_wp2_with (go_at_call 70; rw [← hW0]; clear hW0; refine HC.out.mono ?_; rintro e w1 ⟨rfl, hb1⟩; have hz1 := HZ.out _ hb1; have HZ1 := Lib.hid hz1; obtain ⟨y0, y1, y2, y3, y4⟩ := Tm.rule_cells (r := Tm.zeroR) hz1; simp only [Tm.zeroR] at y0 y1 y2 y3 y4; have df : ∀ i, w1.frozen? ⟨w.heap.size + 1 + 1, i, none⟩ = false := (fun i => by simp [World.frozen?, hz1]); clear hz1)
    obtain ⟨x0, x1, x2, x3, x4⟩ := Tm.rule_cells (r := r) (set5 (v0 := .int .i64 r.many) (v1 := .int .i64 r.a0) (v2 := .int .i64 r.a1) (v3 := .int .i64 r.a2) (v4 := .int .i64 r.sort) HZ1.out)
    refine bodyPost_ret (v := .tuple #[.agg #[.int .i64 r.many, .int .i64 r.a0, .int .i64 r.a1, .int .i64 r.a2, .int .i64 r.sort], .bool b]) (by simp [results, Tryz.results60, go_sem, x0, x1, x2, x3, x4]) rfl ⟨rfl, below_set5 (HB0.out.trans (hb1.mono HB0.out.size)) (by omega)⟩
end Go.Proofs.YtbddghcdibdloaaGreatDoor
