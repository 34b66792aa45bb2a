/- Package eval's (kinds).all: the iterator over what comes of a table's nodes. -/
import Derived.Test.YtbddghcdibdloaaGreatDoorEvG
import Derived.Test.YtbddghcdibdloaaGreatDoorTyC
namespace Go.Proofs.YtbddghcdibdloaaGreatDoor
open Go.RowKit Go.Shelf
set_option linter.unusedVariables false
attribute [local go_sem] Oper.semAt_some
/-- What is handed on. -/
def encF (v : Int) : Array Value := #[.agg #[.int .i64 v, .bool false]]
def fC (v : Int) : List Value := [.int .i64 v, .bool false]
theorem fC_len (v : Int) : (fC v).length = 2 := rfl
theorem infoFound : (Tryz.prog.info? 68).map (fun i => (i.zero, i.size, i.bytes)) = some (some (.agg #[.int .i64 0, .bool false]), 2, 16) := by kernel_rfl
theorem make_found (W : World) : (Instr.makeSlice 78 (.int .i64 0) (.int .i64 4)).run Tryz.prog W = .ok (.slice (some ⟨W.heap.size, 0, none⟩) 0 4) (W.alloc (.cells #[.int .i64 0, .bool false, .int .i64 0, .bool false, .int .i64 0, .bool false, .int .i64 0, .bool false] 68)) := by kernel_rfl
theorem flat_snoc {vs : List Int} {k : Nat} {v : Int} (h : vs[k]? = some v) : (vs.take k).flatMap fC ++ fC v = (vs.take (k + 1)).flatMap fC := by
  rw [take_snoc h, List.flatMap_append, List.flatMap_cons, List.flatMap_nil, List.append_nil]
theorem pre_take (vs : List Int) (k : Nat) : vs.take k <+: vs := List.take_prefix _ _
/-- Between two rounds. -/
def ItI (W : World) (keep : Nat → Prop) (vs : List Int) (J : (Nat → Prop) → List Int → World → Prop) (k : Nat) (lv : Value) (wr : World) : Prop :=
  ∃ R : Nat → Prop, (∀ b, R b → W.heap.size ≤ b ∧ b < wr.heap.size) ∧ J R (vs.take k) wr ∧ (∀ b, keep b → wr.heap[b]? = W.heap[b]?) ∧ W.heap.size ≤ wr.heap.size ∧ wr.ownsRow W.heap.size 68 2 lv k ((vs.take k).flatMap fC) ∧ (∀ g, lv.ownBlock = some g → R g)
set_option maxRecDepth 100000 in
set_option maxHeartbeats 4000000 in
theorem all1_seq (n : Nat) (hn : 1 ≤ n) (Bt Bk tb o c : Nat) (a0 a1 a2 a3 a4 a5 a6 a7 a8 a9 a10 a11 a12 a13 : Value) (l : List Tm.NodeA) (vs : List Int) (keep : Nat → Prop) (W : World)
    (hvl : vs.length = 4) (hll : l.length = 4)
    (hBt : W.heap[Bt]? = some (.cells #[.slice (some ⟨tb, o, none⟩) 4 c] 37 (0, 0))) (hBk : W.heap[Bk]? = some (.cells #[a0, a1, a2, a3, a4, a5, a6, a7, a8, a9, a10, a11, a12, a13] 64 (0, 0)))
    (hT : Tm.TabR W l (some ⟨tb, o, none⟩) c) (kt : keep Bt) (kk : keep Bk) (ktb : keep tb) (hkw : ∀ b, keep b → b < W.heap.size)
    (hOf : ∀ (k : Nat) (y : Tm.NodeA) (v : Int), l[k]? = some y → vs[k]? = some v → ∀ (V : World) (lv : Value), W.heap.size ≤ V.heap.size → (∀ b, keep b → V.heap[b]? = W.heap[b]?) → V.ownsRow W.heap.size 68 2 lv k ((vs.take k).flatMap fC) →
      Calls Tryz.prog 38 #[.agg #[a0, a1, a2, a3, a4, a5, a6, a7, a8, a9, a10, a11, a12, a13], .agg #[.int .i8 y.op, .int .i8 y.len, .int .i64 y.a0, .int .i64 y.a1, .int .i64 y.a2, .int .i64 y.sort, .int .i64 y.fn, .int .i64 y.num], lv] V (OfPost V v)) :
    SeqR Fence.wide n Tryz.prog 37 #[.pointer (some ⟨Bt, 0, none⟩), .pointer (some ⟨Bk, 0, none⟩)] encF (fun ys => ys = vs) (fun pre => pre <+: vs) keep (fun _ => True) W := fun l' J Jx hJ hJx hY h0 => by
  have cx0 := cell_of_row _ _ 0 _ _ _ hBt
  simp only [List.getElem?_toArray, List.getElem?_cons_zero] at cx0
  have hltt := (Array.getElem?_eq_some_iff.1 hBt).1
  have hlc : 4 ≤ c := by have := hT.le; omega
  have hcm : c ≤ 9223372036854775807 := by have := hT.cap; unfold maxLen at this; omega
  have hms := make_found
  have HJ := Lib.hid hJ
  have HJx := Lib.hid hJx
  have HY := Lib.hid hY
  have HOf := Lib.hid hOf
  have HVL := Lib.hid hvl
  have HLL := Lib.hid hll
  have HKw := Lib.hid hkw
  have HTab : Hid (∀ (k : Nat) (y : Tm.NodeA), l[k]? = some y → ∀ V : World, V.heap[tb]? = W.heap[tb]? → tb < W.heap.size ∧ V.cell? ⟨tb, o + k * 8, none⟩ = some (.int .i8 y.op) ∧ V.cell? ⟨tb, o + k * 8 + 1, none⟩ = some (.int .i8 y.len) ∧ V.cell? ⟨tb, o + k * 8 + 2, none⟩ = some (.int .i64 y.a0) ∧ V.cell? ⟨tb, o + k * 8 + 3, none⟩ = some (.int .i64 y.a1) ∧ V.cell? ⟨tb, o + k * 8 + 4, none⟩ = some (.int .i64 y.a2) ∧ V.cell? ⟨tb, o + k * 8 + 5, none⟩ = some (.int .i64 y.sort) ∧ V.cell? ⟨tb, o + k * 8 + 6, none⟩ = some (.int .i64 y.fn) ∧ V.cell? ⟨tb, o + k * 8 + 7, none⟩ = some (.int .i64 y.num)) := fun k y hy V hV => by
    obtain ⟨g, o', e, hg, y0, y1, y2, y3, y4, y5, y6, y7⟩ := hT.node hy
    cases e
    have e : ∀ i, V.cell? ⟨tb, i, none⟩ = W.cell? ⟨tb, i, none⟩ := fun i => World.cell?_of_block (a := ⟨tb, i, none⟩) hV
    exact ⟨hg, (e _).trans y0, (e _).trans y1, (e _).trans y2, (e _).trans y3, (e _).trans y4, (e _).trans y5, (e _).trans y6, (e _).trans y7⟩
  have HKc : Hid (∀ V : World, V.heap[Bk]? = W.heap[Bk]? → Bk < W.heap.size ∧ V.cell? ⟨Bk, 0, none⟩ = some a0 ∧ V.cell? ⟨Bk, 1, none⟩ = some a1 ∧ V.cell? ⟨Bk, 2, none⟩ = some a2 ∧ V.cell? ⟨Bk, 3, none⟩ = some a3 ∧ V.cell? ⟨Bk, 4, none⟩ = some a4 ∧ V.cell? ⟨Bk, 5, none⟩ = some a5 ∧ V.cell? ⟨Bk, 6, none⟩ = some a6 ∧ V.cell? ⟨Bk, 7, none⟩ = some a7 ∧ V.cell? ⟨Bk, 8, none⟩ = some a8 ∧ V.cell? ⟨Bk, 9, none⟩ = some a9 ∧ V.cell? ⟨Bk, 10, none⟩ = some a10 ∧ V.cell? ⟨Bk, 11, none⟩ = some a11 ∧ V.cell? ⟨Bk, 12, none⟩ = some a12 ∧ V.cell? ⟨Bk, 13, none⟩ = some a13) := fun V hV => by
    have hx := hV.trans hBk
    have k0 := cell_of_row _ _ 0 _ _ _ hx
    have k1 := cell_of_row _ _ 1 _ _ _ hx
    have k2 := cell_of_row _ _ 2 _ _ _ hx
    have k3 := cell_of_row _ _ 3 _ _ _ hx
    have k4 := cell_of_row _ _ 4 _ _ _ hx
    have k5 := cell_of_row _ _ 5 _ _ _ hx
    have k6 := cell_of_row _ _ 6 _ _ _ hx
    have k7 := cell_of_row _ _ 7 _ _ _ hx
    have k8 := cell_of_row _ _ 8 _ _ _ hx
    have k9 := cell_of_row _ _ 9 _ _ _ hx
    have k10 := cell_of_row _ _ 10 _ _ _ hx
    have k11 := cell_of_row _ _ 11 _ _ _ hx
    have k12 := cell_of_row _ _ 12 _ _ _ hx
    have k13 := cell_of_row _ _ 13 _ _ _ hx
    simp only [List.getElem?_toArray, List.getElem?_cons_zero, List.getElem?_cons_succ] at k0 k1 k2 k3 k4 k5 k6 k7 k8 k9 k10 k11 k12 k13
    exact ⟨(Array.getElem?_eq_some_iff.1 hBk).1, k0, k1, k2, k3, k4, k5, k6, k7, k8, k9, k10, k11, k12, k13⟩
  have HKp := Lib.hid (And.intro kt (And.intro kk ktb))
  have H0 : Hid (ItI W keep vs J 0 (.slice (some ⟨W.heap.size, 0, none⟩) 0 4) (W.alloc (.cells #[.int .i64 0, .bool false, .int .i64 0, .bool false, .int .i64 0, .bool false, .int .i64 0, .bool false] 68))) := by
    refine ⟨fun b => False ∨ b = W.heap.size, fun b hb => ?_, ?_, fun b hb => Below.heap_alloc _ _ _ (hkw b hb), by simp, ?_, fun g hg => ?_⟩
    · rcases hb with hb | rfl
      · exact hb.elim
      · exact ⟨Nat.le_refl _, by simp⟩
    · exact hJ _ _ [] W _ (fun _ h => h.elim) h0 (Turn.alloc _ _ _)
    · exact World.ownsRow_made W _ 4 (Nat.le_refl _) (by simp [maxLen]) rfl
    · simp only [Value.ownBlock, Option.some.injEq] at hg
      exact .inr hg.symm
  clear hJ hJx hY h0 hOf hT hkw kt kk ktb hBt hBk hvl hll
  refine callsIn_of_wp Tryz.func37 rfl trivial ?_ rfl
  simp only [Tryz.ntmps37, List.size_toArray, List.length_cons, List.length_nil, Nat.reduceAdd, Nat.reduceSub, Array.replicate_succ, Array.replicate_zero, List.push_toArray, List.append_toArray, List.nil_append, List.cons_append]
  gi_wp2
  gi_loopw [4, 15] (fun lv i wr => ∃ k : Nat, k ≤ 4 ∧ i = .int .i64 k ∧ Hid (ItI W keep vs J k lv wr)) (fun _ i _ => 4 - (intOf i).toNat)
  case atStart => exact ⟨0, Nat.zero_le _, rfl, H0⟩
  case round =>
    obtain ⟨k, hk4, rfl, HI⟩ := hrel
    by_cases hlt : k < 4
    · obtain ⟨y, hy⟩ : ∃ y, l[k]? = some y := ⟨_, List.getElem?_eq_getElem (by have := HLL.out; omega)⟩
      obtain ⟨v, hv⟩ : ∃ v, vs[k]? = some v := ⟨_, List.getElem?_eq_getElem (by have := HVL.out; omega)⟩
      obtain ⟨R, hR0, hJr, hkp, hWr, hown, hRl⟩ := HI.out
      obtain ⟨htb, y0, y1, y2, y3, y4, y5, y6, y7⟩ := HTab.out k y hy wr (hkp tb HKp.out.2.2)
      obtain ⟨hbk, k0, k1, k2, k3, k4, k5, k6, k7, k8, k9, k10, k11, k12, k13⟩ := HKc.out wr (hkp Bk HKp.out.2.1)
      have hbkw : Bk < wr.heap.size := by omega
      have htbw : tb < wr.heap.size := by omega
      have q0 : ∀ o2 : Obj, (wr.alloc o2).cell? ⟨Bk, 0, none⟩ = some a0 := fun o2 => (World.cell?_alloc_lt wr o2 _ hbkw).trans k0
      have q1 : ∀ o2 : Obj, (wr.alloc o2).cell? ⟨Bk, 1, none⟩ = some a1 := fun o2 => (World.cell?_alloc_lt wr o2 _ hbkw).trans k1
      have q2 : ∀ o2 : Obj, (wr.alloc o2).cell? ⟨Bk, 2, none⟩ = some a2 := fun o2 => (World.cell?_alloc_lt wr o2 _ hbkw).trans k2
      have q3 : ∀ o2 : Obj, (wr.alloc o2).cell? ⟨Bk, 3, none⟩ = some a3 := fun o2 => (World.cell?_alloc_lt wr o2 _ hbkw).trans k3
      have q4 : ∀ o2 : Obj, (wr.alloc o2).cell? ⟨Bk, 4, none⟩ = some a4 := fun o2 => (World.cell?_alloc_lt wr o2 _ hbkw).trans k4
      have q5 : ∀ o2 : Obj, (wr.alloc o2).cell? ⟨Bk, 5, none⟩ = some a5 := fun o2 => (World.cell?_alloc_lt wr o2 _ hbkw).trans k5
      have q6 : ∀ o2 : Obj, (wr.alloc o2).cell? ⟨Bk, 6, none⟩ = some a6 := fun o2 => (World.cell?_alloc_lt wr o2 _ hbkw).trans k6
      have q7 : ∀ o2 : Obj, (wr.alloc o2).cell? ⟨Bk, 7, none⟩ = some a7 := fun o2 => (World.cell?_alloc_lt wr o2 _ hbkw).trans k7
      have q8 : ∀ o2 : Obj, (wr.alloc o2).cell? ⟨Bk, 8, none⟩ = some a8 := fun o2 => (World.cell?_alloc_lt wr o2 _ hbkw).trans k8
      have q9 : ∀ o2 : Obj, (wr.alloc o2).cell? ⟨Bk, 9, none⟩ = some a9 := fun o2 => (World.cell?_alloc_lt wr o2 _ hbkw).trans k9
      have q10 : ∀ o2 : Obj, (wr.alloc o2).cell? ⟨Bk, 10, none⟩ = some a10 := fun o2 => (World.cell?_alloc_lt wr o2 _ hbkw).trans k10
      have q11 : ∀ o2 : Obj, (wr.alloc o2).cell? ⟨Bk, 11, none⟩ = some a11 := fun o2 => (World.cell?_alloc_lt wr o2 _ hbkw).trans k11
      have q12 : ∀ o2 : Obj, (wr.alloc o2).cell? ⟨Bk, 12, none⟩ = some a12 := fun o2 => (World.cell?_alloc_lt wr o2 _ hbkw).trans k12
      have q13 : ∀ o2 : Obj, (wr.alloc o2).cell? ⟨Bk, 13, none⟩ = some a13 := fun o2 => (World.cell?_alloc_lt wr o2 _ hbkw).trans k13
      have HC : Hid (∀ o2 : Obj, Calls Tryz.prog 38 #[.agg #[a0, a1, a2, a3, a4, a5, a6, a7, a8, a9, a10, a11, a12, a13], .agg #[.int .i8 y.op, .int .i8 y.len, .int .i64 y.a0, .int .i64 y.a1, .int .i64 y.a2, .int .i64 y.sort, .int .i64 y.fn, .int .i64 y.num], u4] (wr.alloc o2) (OfPost (wr.alloc o2) v)) := fun o2 => HOf.out k y v hy hv (wr.alloc o2) u4 (by simp; omega) (fun b hb => (Below.heap_alloc _ _ _ (by have := HKw.out b hb; omega)).trans (hkp b hb)) (hown.alloc o2)
      have HW0 := Lib.hid (And.intro hR0 (And.intro hJr (And.intro hkp (And.intro hWr (And.intro hown hRl)))))
      have HV := Lib.hid hv
      clear hR0 hJr hkp hown hRl hy hv HI k0 k1 k2 k3 k4 k5 k6 k7 k8 k9 k10 k11 k12 k13
      gi_wp2_with fail
      refine ⟨trivial, (callsIn_wide.2 (HC.out _)).mono ?_⟩
      rintro e w2 ⟨rfl, hb2⟩
      obtain ⟨w3, hw3⟩ : ∃ w3, w3 = w2.alloc (.cells #[.int .i64 v, .bool false] 68) := ⟨_, rfl⟩
      have hx3 : w3.heap[w2.heap.size]? = some (.cells #[.int .i64 v, .bool false] 68 (0, 0)) := by rw [hw3]; exact heap_alloc_new w2 _
      have hs3 : w3.heap.size = w2.heap.size + 1 := by rw [hw3]; simp
      have hb20 : Below wr.heap.size wr w2 := ((Below.refl _ wr).alloc (Nat.le_refl _) _).trans (hb2.mono (by simp))
      have hs2 : wr.heap.size ≤ w2.heap.size := hb20.size
      have hb3 : Below wr.heap.size wr w3 := by rw [hw3]; exact hb20.alloc hs2 _
      obtain ⟨hR0, hJr, hkp, hWr, hown, hRl⟩ := HW0.out
      obtain ⟨R1, hR1⟩ : ∃ R1, R1 = fun b => R b ∨ (wr.heap.size ≤ b ∧ b < w3.heap.size) := ⟨_, rfl⟩
      have hR10 : ∀ b, R1 b → W.heap.size ≤ b ∧ b < w3.heap.size := fun b hb => by
        rw [hR1] at hb
        rcases hb with hb | hb
        · have := hR0 b hb; omega
        · omega
      have hJ3 : J R1 (vs.take k) w3 := by rw [hR1]; exact HJ.out R _ (vs.take k) wr w3 hR0 hJr (Turn.news hb3)
      have hsp : vs.take k ++ [v] <+: vs := by rw [← take_snoc HV.out]; exact pre_take _ _
      obtain ⟨fn, tmps, assign, body, hyd, hRun⟩ := HY.out R1 (vs.take k) v w3 hR10 (by omega) hsp hJ3
      simp only [encF] at hyd
      rw [hw3] at hyd
      have HYR := Lib.hid hRun
      have HR1 := Lib.hid hR1
      have HR10 := Lib.hid hR10
      have Hw3 := Lib.hid hw3
      have Hx3 := Lib.hid hx3
      have Hb3 := Lib.hid hb3
      have Hsp := Lib.hid hsp
      clear hR0 hJr hkp hown hRl hR1 hR10 hJ3 hsp hRun hw3 hx3 hb3 hb20 hb2 y0 y1 y2 y3 y4 y5 y6 y7 q0 q1 q2 q3 q4 q5 q6 q7 q8 q9 q10 q11 q12 q13
      gi_wp2
      rw [← Hw3.out]
      refine HYR.out.mono ?_
      rintro e W4 (⟨rfl, _, hJ4, hk4'⟩ | ⟨rfl, hJx4⟩)
      · obtain ⟨hR0, hJr, hkp, hWr, hown, hRl⟩ := HW0.out
        have hx4 : W4.heap[w2.heap.size]? = some (.cells #[.int .i64 v, .bool false] 68 (0, 0)) := (hk4'.2 _ (.inl (by rw [HR1.out]; exact .inr ⟨hs2, by omega⟩))).trans Hx3.out
        have f0 := cell_of_row _ _ 0 _ _ _ hx4
        have f1 := cell_of_row _ _ 1 _ _ _ hx4
        simp only [List.getElem?_toArray, List.getElem?_cons_zero, List.getElem?_cons_succ] at f0 f1
        have hlt4 := (Array.getElem?_eq_some_iff.1 hx4).1
        have hs4 : w3.heap.size ≤ W4.heap.size := hk4'.1
        have hown4 : W4.ownsRow W.heap.size 68 2 u4 k ((vs.take k).flatMap fC) := ownsRow_heap hown (fun g hg => (hk4'.2 g (.inl (by rw [HR1.out]; exact .inl (hRl g hg)))).trans (Hb3.out.block g (hR0 g (hRl g hg)).2))
        have Hown4 := Lib.hid hown4
        have HJ4 := Lib.hid hJ4
        have Hk4 := Lib.hid hk4'
        obtain ⟨i0, hi, hz0, hz1, hz2⟩ := info_parts infoFound
        clear hR0 hJr hkp hown hRl hown4 hJ4 hk4' hx4 hyd
        gi_wp2_with (gi_at_builtin; refine wpListIn_append_own_at _ rfl _ _ 78 rfl W.heap.size 68 i0 _ 2 16 Tryz.underlying78 hi hz0 hz1 hz2 rfl (by decide) _ k _ rfl (Hown4.out.alloc _) ⟨W4.heap.size, 0, none⟩ 1 1 (fC v) rfl rfl ?_ ?_ ?_ ?_ ?_ ?_)
        · exact World.news_of_block (cs := (fC v).toArray) (t := 68) (fr := (0, 0)) (heap_alloc_new W4 _)
        · simp [fC, Value.oneCell']
        · unfold maxLen; omega
        · omega
        · simp; omega
        · intro v' w10 hown' hgrow hnil hsame
          clear hnil
          obtain ⟨hR0, hJr, hkp, hWr, hown, hRl⟩ := HW0.out
          have hold : ∀ b, b < W4.heap.size → u4.ownBlock ≠ some b → w10.heap[b]? = W4.heap[b]? := fun b hb hne =>
            (hgrow.block b (by simp; omega) (fun e => hne e.symm)).trans (Below.heap_alloc _ _ _ hb)
          have hs10 : W4.heap.size ≤ w10.heap.size := by have := hgrow.size; simp at this; omega
          have hlo : ∀ b, u4.ownBlock = some b → W.heap.size ≤ b := fun b e => (hown.lt b e).1
          have hJ10 : J (fun b => R1 b ∨ (W4.heap.size ≤ b ∧ b < w10.heap.size)) (vs.take k ++ [v]) w10 := HJ.out R1 _ _ W4 w10 (fun b hb => ⟨(HR10.out b hb).1, by have := (HR10.out b hb).2; omega⟩) HJ4.out ⟨hgrow.os, hgrow.tape, hgrow.output, hs10, fun b hb hn => hold b hb (fun e => hn (by rw [HR1.out]; exact .inl (hRl b e))), fun _ h => .inl h, fun _ h => h⟩
          rw [← take_snoc HV.out] at hJ10
          have Hinv : Hid (ItI W keep vs J (k + 1) v' w10) := by
            refine ⟨fun b => R1 b ∨ (W4.heap.size ≤ b ∧ b < w10.heap.size), fun b hb => ?_, hJ10, fun b hb => ?_, by omega, ?_, fun g hg => ?_⟩
            · rcases hb with hb | hb
              · have := HR10.out b hb; omega
              · omega
            · have hbW := HKw.out b hb
              rw [hold b (by omega) (fun e => by have := hlo b e; omega), Hk4.out.2 b (.inr hb), Hb3.out.block b (by omega)]
              exact hkp b hb
            · rw [← flat_snoc HV.out]
              exact hown'
            · rcases hsame with h | h
              · exact .inl (by rw [HR1.out]; exact .inl (hRl g (h.symm.trans hg)))
              · have h1 := (hown'.lt g hg).2
                rw [hg] at h
                have h2 : g = W4.heap.size + 1 := by simpa using h
                exact .inr ⟨by omega, h1⟩
          clear hown' hgrow hsame hR0 hJr hkp hown hRl hold hlo hJ10 f0 f1
          gi_wp2
          go_roundw
          case rel => exact ⟨k + 1, by omega, by go_num, Hinv⟩
          case measure => simp [intOf]; omega
      · have HJx4 := Lib.hid hJx4
        clear hJx4 hyd
        gi_wp2
        refine bodyPost_ret (results_none rfl _ _ _) rfl ?_
        exact ⟨⟨_, rfl⟩, R1, fun b hb => (HR10.out b hb).1, Or.inr ⟨_, _, Hsp.out, HJx4.out⟩⟩
    · obtain rfl : k = 4 := by omega
      gi_wp2
      go_end0
      obtain ⟨R, hR0, hJr, _⟩ := HI.out
      refine ⟨⟨_, rfl⟩, R, fun b hb => (hR0 b hb).1, .inl ⟨vs, rfl, ?_⟩⟩
      rwa [List.take_of_length_le (by rw [HVL.out]; exact Nat.le_refl _)] at hJr
end Go.Proofs.YtbddghcdibdloaaGreatDoor
