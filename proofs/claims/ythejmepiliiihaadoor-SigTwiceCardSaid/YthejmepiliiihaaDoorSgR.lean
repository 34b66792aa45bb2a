/- Package sig's part and joined. -/
import Derived.Test.YthejmepiliiihaaDoorSgP
import Derived.Test.YthejmepiliiihaaDoorSgJ
import Derived.Deep.CutRange
import Derived.Deep.AppendLies
import Derived.Deep.RegionHeldLaw
namespace Go.Proofs.YthejmepiliiihaaDoor
open Go.RowKit
set_option linter.unusedVariables false
/-- The first so many of each. -/
def partV (x : SigV) (a b c : Nat) : SigV := ⟨x.sorts.take a, x.sa, a, x.funs.take b, x.fa, b, x.macs.take c, x.ma, c⟩
theorem At.takef {α : Type} {f : α → List Value} {n : Nat} (hn : ∀ x, (f x).length = n) {w : World} {B : Nat} {l : List α} {ad : Option Addr} (h : At w B (l.flatMap f) ad) {k : Nat} (hk : k ≤ l.length) : At w B ((l.take k).flatMap f) ad := by
  have := h.take (k * n)
  rwa [take_flat hn l k hk] at this
theorem part_R {w : World} {x : SigV} {a b c : Nat} (h : SigR w x) (ha : a ≤ x.sorts.length) (hb : b ≤ x.funs.length) (hc : c ≤ x.macs.length) : SigR w (partV x a b c) :=
  ⟨by simp [partV]; omega, Nat.le_trans ha (Nat.le_trans h.sl h.sm), h.sat.takef strC_len ha, fun s hs => h.sok s (List.mem_of_mem_take hs), by simp [partV]; omega, Nat.le_trans hb (Nat.le_trans h.fl h.fm), h.fat.takef funC_len hb, fun s hs => h.fok s (List.mem_of_mem_take hs),
    by simp [partV]; omega, Nat.le_trans hc (Nat.le_trans h.ml h.mm), h.mat.takef macC_len hc, fun s hs => h.mok s (List.mem_of_mem_take hs)⟩
theorem part_K {w : World} {x : SigV} {a b c : Nat} (h : SigK w x) : SigK w (partV x a b c) := fun m hm => h m (List.mem_of_mem_take hm)
theorem add_zero' (a : Addr) : a.add 0 = a := by unfold Addr.add; simp
theorem slice3 {P : Program} {t e : TypeId} (ht : P.underlying t = some (.slice e)) {n : Nat} (hs : (P.info? e).map (·.size) = some n) (a : Option Addr) (s c b : Nat) (hb : b ≤ c) (w : World) :
    (Instr.slice t (.slice a s c) none (some (.int .i64 b)) (some (.int .i64 b))).run P w = .ok (.slice a b b) w := by
  have hz : (sizeOf e).run P w = .ok n w := by
    obtain ⟨i, hi, hi2⟩ := Option.map_eq_some_iff.1 hs
    simp [sizeOf, typeInfo, hi, hi2]
  have ha : (a.map fun x => x.add 0) = a := by cases a <;> simp [add_zero']
  simp [Instr.slice, run_underlying ht, Instr.sliceBounds, run_sliceBound, hb, hz, ha]
theorem sz_str : (Tryd.prog.info? 9).map (·.size) = some 1 := by kernel_rfl
theorem sz_fun : (Tryd.prog.info? 29).map (·.size) = some 6 := by kernel_rfl
theorem sz_mac : (Tryd.prog.info? 50).map (·.size) = some 6 := by kernel_rfl
set_option maxRecDepth 100000 in
set_option maxHeartbeats 2000000 in
theorem part_aux (sa fa ma : Option Addr) (s f m sc fc mc a b c : Nat) (w : World) (h1 : a ≤ sc) (h2 : b ≤ fc) (h3 : c ≤ mc) :
    Calls Tryd.prog 22 #[.agg #[.slice sa s sc, .slice fa f fc, .slice ma m mc], .int .i64 a, .int .i64 b, .int .i64 c] w fun e w' => e = .returned (.agg #[.slice sa a a, .slice fa b b, .slice ma c c]) ∧ Below w.heap.size w w' := by
  have r1 := fun W => slice3 Tryd.underlying22 sz_str sa s sc a h1 W
  have r2 := fun W => slice3 Tryd.underlying23 sz_fun fa f fc b h2 W
  have r3 := fun W => slice3 Tryd.underlying24 sz_mac ma m mc c h3 W
  obtain ⟨W0, hW0⟩ : ∃ W0, W0 = (w.alloc (.cells #[.slice sa s sc, .slice fa f fc, .slice ma m mc] 26)).alloc (.cells #[.slice none 0 0, .slice none 0 0, .slice none 0 0] 26) := ⟨_, rfl⟩
  have hB0 : Below w.heap.size w W0 := by rw [hW0]; exact ((Below.refl _ _).alloc (Nat.le_refl _) _).alloc (by simp) _
  have hX0 : W0.heap[w.heap.size]? = some (.cells #[.slice sa s sc, .slice fa f fc, .slice ma m mc] 26 (0, 0)) := by rw [hW0]; exact (Below.heap_alloc _ _ _ (by simp)).trans (heap_alloc_new w _)
  have hY0 : W0.heap[w.heap.size + 1]? = some (.cells #[.slice none 0 0, .slice none 0 0, .slice none 0 0] 26 (0, 0)) := by
    rw [hW0]
    have := heap_alloc_new (w.alloc (.cells #[.slice sa s sc, .slice fa f fc, .slice ma m mc] 26)) (.cells #[.slice none 0 0, .slice none 0 0, .slice none 0 0] 26)
    rwa [World.size_alloc] at this
  have x0 := cell_of_row _ _ 0 _ _ _ hX0
  have x1 := cell_of_row _ _ 1 _ _ _ hX0
  have x2 := cell_of_row _ _ 2 _ _ _ hX0
  have y0 := cell_of_row _ _ 0 _ _ _ hY0
  have y1 := cell_of_row _ _ 1 _ _ _ hY0
  have y2 := cell_of_row _ _ 2 _ _ _ hY0
  have z0 : W0.frozen? ⟨w.heap.size + 1, 0, none⟩ = false := by simp [World.frozen?, hY0]
  have z1 : W0.frozen? ⟨w.heap.size + 1, 1, none⟩ = false := by simp [World.frozen?, hY0]
  have z2 : W0.frozen? ⟨w.heap.size + 1, 2, none⟩ = false := by simp [World.frozen?, hY0]
  simp only [List.getElem?_toArray, List.getElem?_cons_zero, List.getElem?_cons_succ] at x0 x1 x2 y0 y1 y2
  have HB0 := Lib.hid hB0
  have HY0 := Lib.hid hY0
  clear hB0 hX0 hY0
  go_enter Tryd.func22, Tryd.ntmps22
  go_upto_region 1 with fail
  rw [← hW0]
  clear hW0
  go_region
  go_wp2_with fail
  have hc := set3 (v0 := .slice sa a a) (v1 := .slice fa b b) (v2 := .slice ma c c) HY0.out
  have hbf := (((HB0.out.setCell (p := ⟨w.heap.size + 1, 0, none⟩) (by simp) (.slice sa a a)).setCell (p := ⟨w.heap.size + 1, 1, none⟩) (by simp) (.slice fa b b)).setCell (p := ⟨w.heap.size + 1, 2, none⟩) (by simp) (.slice ma c c)).drew
  have hc : ((((W0.setCell ⟨w.heap.size + 1, 0, none⟩ (.slice sa a a)).setCell ⟨w.heap.size + 1, 1, none⟩ (.slice fa b b)).setCell ⟨w.heap.size + 1, 2, none⟩ (.slice ma c c)).drew).heap[w.heap.size + 1]? = _ := hc
  have c0 := cell_of_row _ _ 0 _ _ _ hc
  have c1 := cell_of_row _ _ 1 _ _ _ hc
  have c2 := cell_of_row _ _ 2 _ _ _ hc
  simp only [List.getElem?_toArray, List.getElem?_cons_zero, List.getElem?_cons_succ] at c0 c1 c2
  generalize (((W0.setCell ⟨w.heap.size + 1, 0, none⟩ (.slice sa a a)).setCell ⟨w.heap.size + 1, 1, none⟩ (.slice fa b b)).setCell ⟨w.heap.size + 1, 2, none⟩ (.slice ma c c)).drew = Wf at c0 c1 c2 hc hbf ⊢
  refine bodyPost_ret (v := .agg #[.slice sa a a, .slice fa b b, .slice ma c c]) (by simp [results, Tryd.results22, go_sem, c0, c1, c2]) rfl ?_
  exact ⟨rfl, hbf⟩
/-! ### rows joined -/
theorem cell_heap {W V : World} (h : W.heap = V.heap) (a : Addr) : W.cell? a = V.cell? a := by unfold World.cell?; rw [h]
theorem app_keep {P : Program} {t ty e : TypeId} {i : TypeInfo} (ht : P.underlying t = some (.slice e)) (hi : P.info? e = some i) (a : Option Addr) (n : Nat) (w : World) :
    (Builtin.append_ #[t, t] ty #[.slice a n n, .slice none 0 0]).run P w = .ok (.slice a n n) w := by
  cases a with
  | none => simp [Builtin.append_, run_underlying ht, sizeOf, typeInfo, hi, Builtin.lenOf, run_firstCells_none]
  | some a => simp [Builtin.append_, run_underlying ht, sizeOf, typeInfo, hi, Builtin.lenOf, run_firstCells_none, storeCells]
theorem app_row {P : Program} {t ty e : TypeId} {i : TypeInfo} {z : Value} (ht : P.underlying t = some (.slice e)) (hi : P.info? e = some i) (hz : i.zero = some z) {V : World} {B : Nat} {a : Option Addr} {n : Nat} {olds news : List Value} {b : Addr}
    (ha : At V B olds a) (hl : olds.length = n * i.size) (hl1 : news.length = i.size) (hsz : 0 < i.size) (hb : ∀ j v, news[j]? = some v → V.cell? (b.add j) = some v) (h63 : n + 1 ≤ 1000) (hby : i.bytes ≤ 1000) (hn : a = none → n = 0) :
    ∀ W, W.heap = V.heap → (Builtin.append_ #[t, t] ty #[.slice a n n, .slice (some b) 1 1]).run P W =
      .ok (.slice (some ⟨W.heap.size, 0, none⟩) (n + 1) (grownCap W (n + 1) n e)) (W.drew.alloc (.cells (olds.toArray ++ news.toArray ++ Builtin.zeroCells z.cells (grownCap W (n + 1) n e - (n + 1))) e)) := by
  intro W hW
  have hb' : ∀ j v, news[j]? = some v → W.cell? (b.add j) = some v := fun j v hv => (cell_heap hW _).trans (hb j v hv)
  by_cases h0 : n = 0
  · subst h0
    have ho : olds = [] := List.eq_nil_of_length_eq_zero (by omega)
    subst ho
    cases a with
    | none =>
      have := run_append_nil (P := P) W t ty e i z ht hi hz b 1 1 news (by omega) hb' (by omega) (by omega) (by omega)
      simpa using this
    | some a0 =>
      have hfit : Builtin.nextslicecap (0 + 1) 0 * i.bytes ≤ 281474976710656 := by rw [nextslicecap_zero (by omega)]; omega
      have := run_append_grow (P := P) W t ty e i z ht hi hz a0 0 0 [] (by simp) (fun j v h => by simp at h) b 1 1 news (by omega) hb' (by omega) (by omega) hfit
      simpa using this
  · obtain ⟨g, o, rfl, _, hc⟩ := ha (by rw [hl]; exact Nat.mul_pos (by omega) hsz)
    have hfit : Builtin.nextslicecap (n + 1) n * i.bytes ≤ 281474976710656 := by
      have h1 : n * i.bytes ≤ 1000 * 1000 := Nat.mul_le_mul (by omega) hby
      exact growslice_fits_succ (by omega) (by omega)
    exact run_append_grow (P := P) W t ty e i z ht hi hz ⟨g, o, none⟩ n n olds hl (fun j v hv => (cell_heap hW _).trans (at_add hc j v hv)) b 1 1 news (by omega) hb' (by omega) (by omega) hfit
theorem step_run {P : Program} {ops : Array Oper} {o : Oper} {a : Act} {K : Act → World → Prop} {Q : Exit → Act → World → Prop} {E : Prop} (w : World) (hgd : o.guard = none) (s x : Operand) (t : TypeId)
    (ho : o.op = .call { callee := .builtin .append, args := #[s, x], argTypes := #[t, t] }) (v1 v2 : Value) (hs : a.eval s = v1) (hx : a.eval x = v2) {v : Value} {w' : World} (hr : ∀ ty, (Builtin.append_ #[t, t] ty #[v1, v2]).run P w = .ok v w') (h : K (a.put o.dst v) w') :
    if Region.wanted o (yielded ops a.tmps) = true then Oper.wp P o a w K Q else E := by
  have hw : Region.wanted o (yielded ops a.tmps) = true := by simp [Region.wanted, hgd]
  rw [if_pos hw]
  unfold Oper.wp execOp
  simp only [ho, resolve, invoke, builtin, Sem.run_bind, Sem.run_pure, Result.andThen_ok, List.map_toArray, List.map_cons, List.map_nil, hs, hx, hr]
  exact h
theorem three_oth {w : World} {q c : Nat} {v0 v1 v2 : Value} (h : c ≠ q) : (((w.setCell ⟨q, 0, none⟩ v0).setCell ⟨q, 1, none⟩ v1).setCell ⟨q, 2, none⟩ v2).heap[c]? = w.heap[c]? :=
  ((Below.heap_setCell _ _ _ c h).trans (Below.heap_setCell _ _ _ c h)).trans (Below.heap_setCell _ _ _ c h)
end Go.Proofs.YthejmepiliiihaaDoor
