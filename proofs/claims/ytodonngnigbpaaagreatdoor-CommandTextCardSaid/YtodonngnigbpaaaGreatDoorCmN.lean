/- Package command's take: parts, one behind the other. -/
import Derived.Test.YtodonngnigbpaaaGreatDoorCmM
import Derived.WalkMore
import Derived.Deep.LoopGhost
namespace Go.Proofs.YtodonngnigbpaaaGreatDoor
open Go.RowKit
set_option linter.unusedVariables false
def zCm : Obj := .cells #[.int .i8 0, .string ⟨#[]⟩, .int .i64 0, .slice none 0 0, .slice none 0 0, .slice none 0 0, .string ⟨#[]⟩, .slice none 0 0] 28
def zCmV : Value := .agg #[.int .i8 0, .string ⟨#[]⟩, .int .i64 0, .slice none 0 0, .slice none 0 0, .slice none 0 0, .string ⟨#[]⟩, .slice none 0 0]
theorem cmdSize : (Tryz.prog.info? 28).map (·.size) = some 8 := by kernel_rfl
theorem set8 {w : World} {b : Nat} {t : TypeId} {u0 u1 u2 u3 u4 u5 u6 u7 v0 v1 v2 v3 v4 v5 v6 v7 : Value} (h : w.heap[b]? = some (.cells #[u0, u1, u2, u3, u4, u5, u6, u7] t (0, 0))) :
    ((((((((w.setCell ⟨b, 0, none⟩ v0).setCell ⟨b, 1, none⟩ v1).setCell ⟨b, 2, none⟩ v2).setCell ⟨b, 3, none⟩ v3).setCell ⟨b, 4, none⟩ v4).setCell ⟨b, 5, none⟩ v5).setCell ⟨b, 6, none⟩ v6).setCell ⟨b, 7, none⟩ v7).heap[b]? = some (.cells #[v0, v1, v2, v3, v4, v5, v6, v7] t (0, 0)) := by
  simp [World.setCell, Array.getElem?_modify, h]
theorem oth8 {w : World} {b c : Nat} {v0 v1 v2 v3 v4 v5 v6 v7 : Value} (h : c ≠ b) :
    ((((((((w.setCell ⟨b, 0, none⟩ v0).setCell ⟨b, 1, none⟩ v1).setCell ⟨b, 2, none⟩ v2).setCell ⟨b, 3, none⟩ v3).setCell ⟨b, 4, none⟩ v4).setCell ⟨b, 5, none⟩ v5).setCell ⟨b, 6, none⟩ v6).setCell ⟨b, 7, none⟩ v7).heap[c]? = w.heap[c]? := by
  have e : ∀ (W : World) (i : Nat) (v : Value), (W.setCell ⟨b, i, none⟩ v).heap[c]? = W.heap[c]? := fun W i v => Below.heap_setCell _ _ _ c h
  simp only [e]
theorem size8 {w : World} {b : Nat} {v0 v1 v2 v3 v4 v5 v6 v7 : Value} :
    ((((((((w.setCell ⟨b, 0, none⟩ v0).setCell ⟨b, 1, none⟩ v1).setCell ⟨b, 2, none⟩ v2).setCell ⟨b, 3, none⟩ v3).setCell ⟨b, 4, none⟩ v4).setCell ⟨b, 5, none⟩ v5).setCell ⟨b, 6, none⟩ v6).setCell ⟨b, 7, none⟩ v7).heap.size = w.heap.size := by simp [World.setCell]
theorem cells8b {W : World} {b : Nat} {v0 v1 v2 v3 v4 v5 v6 v7 : Value} {ty : TypeId} (h : W.heap[b]? = some (.cells #[v0, v1, v2, v3, v4, v5, v6, v7] ty (0, 0))) : W.cell? ⟨b, 0, none⟩ = some v0 ∧ W.cell? ⟨b, 1, none⟩ = some v1 ∧ W.cell? ⟨b, 2, none⟩ = some v2 ∧ W.cell? ⟨b, 3, none⟩ = some v3 ∧ W.cell? ⟨b, 4, none⟩ = some v4 ∧ W.cell? ⟨b, 5, none⟩ = some v5 ∧ W.cell? ⟨b, 6, none⟩ = some v6 ∧ W.cell? ⟨b, 7, none⟩ = some v7 ∧ (∀ i, W.frozen? ⟨b, i, none⟩ = false) ∧ b < W.heap.size :=
  ⟨cell_of_row _ _ 0 _ _ _ h, cell_of_row _ _ 1 _ _ _ h, cell_of_row _ _ 2 _ _ _ h, cell_of_row _ _ 3 _ _ _ h, cell_of_row _ _ 4 _ _ _ h, cell_of_row _ _ 5 _ _ _ h, cell_of_row _ _ 6 _ _ _ h, cell_of_row _ _ 7 _ _ _ h, fun i => by simp [World.frozen?, h], (Array.getElem?_eq_some_iff.1 h).1⟩
/-- What reading a list's parts answers: the command, or the error. -/
def TakeP (R : Nat) (r : Option CmdA) (w : World) (e : Ending) (w' : World) : Prop :=
  Oth R w w' ∧ match r with
    | some c => ∃ x : CmdV, x.c = c ∧ e = .returned (.tuple #[.agg #[.int .i8 x.c.kind, .string (bytesL x.c.name), .int .i64 x.c.n, .slice x.la x.c.l.length x.lc, .slice x.aa x.c.args.length x.ac, .slice x.pa x.c.params.length x.pc, .string (bytesL x.c.res), .slice x.ta x.c.terms.length x.tc], .int .i64 0]) ∧ CmdN w' w.heap.size x
    | none => e = .returned (.tuple #[zCmV, .int .i64 30])
theorem takeP_some {c c' : CmdA} {p : PartM} {ps : List PartM} {y : Tree} {ys : List Tree} (h : p c y = some c') : takeP c (p :: ps) (y :: ys) = takeP c' ps ys := by simp only [takeP, h]
theorem takeP_none {c : CmdA} {p : PartM} {ps : List PartM} {y : Tree} {ys : List Tree} (h : p c y = none) : takeP c (p :: ps) (y :: ys) = none := by simp only [takeP, h]
theorem PartP.yes {R N : Nat} {q : Value} {p : PartM} {x : CmdV} {y : Tree} {W : World} {e : Ending} {w' : World} {c : CmdA} (h : PartP R N q p x y W e w') (hp : p x.c y = some c) : ∃ x' : CmdV, x'.c = c ∧ e = .returned (.bool true) ∧ RdrS w' R N q x' ∧ Oth R W w' := by
  obtain ⟨b, x', h1, h2, h3, h4⟩ := h
  cases b with
  | true => rw [hp] at h3; simp at h3; exact ⟨x', h3.symm, h1, h2, h4⟩
  | false => rw [hp] at h3; simp at h3
theorem PartP.no {R N : Nat} {q : Value} {p : PartM} {x : CmdV} {y : Tree} {W : World} {e : Ending} {w' : World} (h : PartP R N q p x y W e w') (hp : p x.c y = none) : ∃ x' : CmdV, e = .returned (.bool false) ∧ RdrS w' R N q x' ∧ Oth R W w' := by
  obtain ⟨b, x', h1, h2, h3, h4⟩ := h
  cases b with
  | false => exact ⟨x', h1, h2, h4⟩
  | true => rw [hp] at h3; simp at h3
def cmdV0 : CmdV := ⟨cmd0, none, 0, none, 0, none, 0, none, 0⟩
theorem cmdN0 (w : World) (B : Nat) (k : Int) : CmdN w B { cmdV0 with c := { cmd0 with kind := k } } :=
  ⟨by simp [cmd0], by simp [cmdV0], fun h => absurd h (by simp [cmd0]), by simp [cmd0], by simp [cmdV0], fun h => absurd h (by simp [cmd0]), by simp [cmd0], by simp [cmdV0], fun h => absurd h (by simp [cmd0]), by simp [cmd0], by simp [cmdV0], trivial⟩
theorem Oth.far1 {R b i : Nat} {w W : World} {v : Value} (h : Oth R w W) (hb : w.heap.size ≤ b) : Oth R w (W.setCell ⟨b, i, none⟩ v) :=
  ⟨h.1, h.2.1, h.2.2.1, by simp only [World.setCell, Array.size_modify]; exact h.size, fun k hk => (Below.heap_setCell _ _ _ k (by show k ≠ b; omega)).trans (h.block k hk.1 hk.2)⟩
theorem Oth.far8 {R b : Nat} {w W : World} {v0 v1 v2 v3 v4 v5 v6 v7 : Value} (h : Oth R w W) (hb : w.heap.size ≤ b) :
    Oth R w ((((((((W.setCell ⟨b, 0, none⟩ v0).setCell ⟨b, 1, none⟩ v1).setCell ⟨b, 2, none⟩ v2).setCell ⟨b, 3, none⟩ v3).setCell ⟨b, 4, none⟩ v4).setCell ⟨b, 5, none⟩ v5).setCell ⟨b, 6, none⟩ v6).setCell ⟨b, 7, none⟩ v7) :=
  (((((((h.far1 hb).far1 hb).far1 hb).far1 hb).far1 hb).far1 hb).far1 hb).far1 hb
/-- What the call of a reader's form finds: nothing has been read. -/
def Rdr0 (W : World) (R : Nat) (q : Value) : Prop := W.heap[R]? = some (.cells #[q, .int .i8 0, .string ⟨#[]⟩, .int .i64 0, .slice none 0 0, .slice none 0 0, .slice none 0 0, .string ⟨#[]⟩, .slice none 0 0] 51 (0, 0))
theorem drop_at' {α : Type} {l : List α} {j : Nat} {x : α} (h : l[j]? = some x) : l.drop j = x :: l.drop (j + 1) := by
  obtain ⟨hlt, rfl⟩ := List.getElem?_eq_some_iff.1 h
  exact List.drop_eq_getElem_cons hlt
set_option maxRecDepth 100000 in
set_option maxHeartbeats 4000000 in
theorem take_any (B R : Nat) (k : Int) (ra : Option Addr) (rc : Nat) (ys : List Tree) (pa : Option Addr) (pc : Nat) (pvs : List Value) (ps : List PartM) (w : World) (hB : B ≤ R) (hS : Rdr0 w R (.slice ra ys.length rc))
    (hys : RdL w (fun b => B ≤ b) ys ra) (hrt : ∀ y ∈ ys, RowsT y) (hy63 : ys.length ≤ 140737488355328) (hpl : pvs.length = ps.length) (hp100 : ps.length ≤ 100)
    (hpc : 0 < pvs.length → ∃ M o, pa = some ⟨M, o, none⟩ ∧ M ≠ R ∧ ∀ i v, pvs[i]? = some v → w.cell? ⟨M, o + i, none⟩ = some v)
    (hpp : ∀ (i : Nat) (pv : Value) (p : PartM), pvs[i]? = some pv → ps[i]? = some p → PartAt B R (.slice ra ys.length rc) w pv p) :
    Calls Tryz.prog 68 #[.pointer (some ⟨R, 0, none⟩), .int .i8 k, .slice pa ps.length pc] w (TakeP R (takeP { cmd0 with kind := k } ps ys) w) := by
  obtain ⟨W1, hW1⟩ : ∃ W1, W1 = (w.setCell ⟨R, 1, none⟩ (.int .i8 k)).alloc zCm := ⟨_, rfl⟩
  have hRl : R < w.heap.size := (Array.getElem?_eq_some_iff.1 hS).1
  have hsz0 : (w.setCell ⟨R, 1, none⟩ (.int .i8 k)).heap.size = w.heap.size := by simp [World.setCell]
  have hba : Below (w.setCell ⟨R, 1, none⟩ (.int .i8 k)).heap.size (w.setCell ⟨R, 1, none⟩ (.int .i8 k)) ((w.setCell ⟨R, 1, none⟩ (.int .i8 k)).alloc zCm) := (Below.refl _ _).alloc (Nat.le_refl _) _
  have hO1 : Oth R w W1 := by rw [hW1]; exact ((Oth.refl R w).set 1 (.int .i8 k)).trans (Oth.of hba)
  have hs1 : W1.heap.size = w.heap.size + 1 := by rw [hW1]; simp [World.setCell]
  have hZ1 : W1.heap[w.heap.size]? = some zCm := by
    have := heap_alloc_new (w.setCell ⟨R, 1, none⟩ (.int .i8 k)) zCm
    rw [hsz0] at this
    rw [hW1]; exact this
  have hS1 : RdrS W1 R (w.heap.size + 1) (.slice ra ys.length rc) { cmdV0 with c := { cmd0 with kind := k } } := by
    refine ⟨?_, by omega, by omega, cmdN0 _ _ _⟩
    rw [hW1, hba.block R (by omega)]
    have hb : w.heap[R]? = _ := hS
    have e : bytesL [] = (⟨#[]⟩ : ByteArray) := rfl
    simp [World.setCell, Array.getElem?_modify, hb, cmdV0, cmd0, e]
  obtain ⟨r1, r1f⟩ : w.cell? ⟨R, 1, none⟩ = some (.int .i8 0) ∧ w.frozen? ⟨R, 1, none⟩ = false := ⟨cell_of_row _ _ 1 _ _ _ hS, by simp [World.frozen?, (show w.heap[R]? = _ from hS)]⟩
  have HL : Hid (W1 = (w.setCell ⟨R, 1, none⟩ (.int .i8 k)).alloc (.cells #[.int .i8 0, .string ⟨#[]⟩, .int .i64 0, .slice none 0 0, .slice none 0 0, .slice none 0 0, .string ⟨#[]⟩, .slice none 0 0] 28)) := hW1
  have HO1 := Lib.hid hO1
  have HZ1 := Lib.hid hZ1
  have HS1 := Lib.hid hS1
  have HYS := Lib.hid hys
  have HRT := Lib.hid hrt
  have HPC := Lib.hid hpc
  have HPP := Lib.hid hpp
  have HPL := Lib.hid hpl
  have HBW : Hid (∀ wr, Oth R W1 wr → Below B w wr) := fun wr h => (hO1.trans h).below hB (by omega)
  clear hS hba hsz0 hO1 hZ1 hS1 hW1 hys hrt hpc hpp hpl
  go_enter Tryz.func68, Tryz.ntmps68
  go_wp2_with fail
  go_step3
  go_wp2_with fail
  go_step3
  go_wp2_with fail
  rw [← HL.out]
  clear HL
  go_loopw [8] (fun i wr => ∃ (j : Nat) (x : CmdV), j ≤ ps.length ∧ j ≤ ys.length ∧ i = .int .i64 j ∧ Hid (RdrS wr R (w.heap.size + 1) (.slice ra ys.length rc) x) ∧ Hid (takeP { cmd0 with kind := k } ps ys = takeP x.c (ps.drop j) (ys.drop j)) ∧ Hid (Oth R W1 wr)) (fun i _ => ps.length - (intOf i).toNat)
  case atStart => exact ⟨0, { cmdV0 with c := { cmd0 with kind := k } }, Nat.zero_le _, Nat.zero_le _, rfl, HS1.out, rfl, Oth.refl _ _⟩
  case round =>
    obtain ⟨j, x, hj1, hj2, rfl, HS, HT, HO⟩ := hrel
    obtain ⟨c0, c1, c2, c3, c4, c5, c6, c7, c8, fz⟩ := HS.out.cells
    have hZ : wr.heap[w.heap.size]? = some zCm := (HO.out.block _ (by omega) (by omega)).trans HZ1.out
    have HZ := Lib.hid hZ
    obtain ⟨d0, d1, d2, d3, d4, d5, d6, d7, fz2, hzz⟩ := cells8b hZ
    clear hZ
    have HOw : Hid (Oth R w wr) := HO1.out.trans HO.out
    by_cases hp : j = ps.length
    · have e1 := eq_true_ (x := (j : Int)) (y := (ps.length : Int)) (by omega)
      by_cases hy : j = ys.length
      · have e2 := eq_true_ (x := (j : Int)) (y := (ys.length : Int)) (by omega)
        have HTk : Hid (takeP { cmd0 with kind := k } ps ys = some x.c) := by show _ = _; rw [HT.out, hp, List.drop_length, ← hp, hy, List.drop_length]; rfl
        clear hp hy
        go_wp2
        refine bodyPost_ret (res_cell_tmp rfl _ _ (w.heap.size) _ _ _ _ rfl (set8 HZ.out) Tryz.underlying28 rfl cmdSize) rfl ?_
        refine ⟨HOw.out.far8 (Nat.le_refl _), ?_⟩
        rw [HTk.out]
        exact ⟨x, rfl, rfl, (HS.out.new.keep (by rw [size8]; exact Nat.le_refl _) (fun b hb _ => oth8 (by omega))).more (by omega)⟩
      · have e2 := eq_false (x := (j : Int)) (y := (ys.length : Int)) (by omega)
        have HTk : Hid (takeP { cmd0 with kind := k } ps ys = none) := by
          show _ = _
          rw [HT.out, hp, List.drop_length, ← hp]
          cases hd : ys.drop j with
          | nil => have := congrArg List.length hd; simp at this; omega
          | cons a b => rfl
        clear hp hy
        go_wp2
        go_quiet (fail)
        go_wp2
        rw [Exit.noGoto_ret]
        refine bodyPost_ret (res_cell_tmp rfl _ _ (w.heap.size) _ _ _ _ rfl (set8 (w := wr.drewN nq) HZ.out) Tryz.underlying28 rfl cmdSize) rfl ?_
        refine ⟨Oth.far8 (HOw.out.trans (Oth.of (below_drewN (Below.refl _ _) _))) (Nat.le_refl _), ?_⟩
        rw [HTk.out]
        rfl
    · have e1 := eq_false (x := (j : Int)) (y := (ps.length : Int)) (by omega)
      by_cases hy : j = ys.length
      · have e2 := eq_true_ (x := (j : Int)) (y := (ys.length : Int)) (by omega)
        have HTk : Hid (takeP { cmd0 with kind := k } ps ys = none) := by
          show _ = _
          rw [HT.out, hy, List.drop_length, ← hy]
          cases hd : ps.drop j with
          | nil => have := congrArg List.length hd; simp at this; omega
          | cons a b => rfl
        clear hp hy
        go_wp2
        go_quiet (fail)
        go_wp2
        rw [Exit.noGoto_ret]
        refine bodyPost_ret (res_cell_tmp rfl _ _ (w.heap.size) _ _ _ _ rfl (set8 (w := wr.drewN nq) HZ.out) Tryz.underlying28 rfl cmdSize) rfl ?_
        refine ⟨Oth.far8 (HOw.out.trans (Oth.of (below_drewN (Below.refl _ _) _))) (Nat.le_refl _), ?_⟩
        rw [HTk.out]
        rfl
      · have e2 := eq_false (x := (j : Int)) (y := (ys.length : Int)) (by omega)
        have hjp : j < ps.length := by omega
        have hjy : j < ys.length := by omega
        obtain ⟨p, hpe⟩ : ∃ p, ps[j]? = some p := ⟨_, List.getElem?_eq_getElem hjp⟩
        obtain ⟨pv, hpv⟩ : ∃ pv, pvs[j]? = some pv := ⟨_, List.getElem?_eq_getElem (by rw [HPL.out]; exact hjp)⟩
        obtain ⟨y, hye⟩ : ∃ y, ys[j]? = some y := ⟨_, List.getElem?_eq_getElem hjy⟩
        obtain ⟨f, first, cap, rfl, hent, hcall⟩ := (HPP.out j pv p hpv hpe).keep HOw.out
        have hbw := HBW.out wr HO.out
        have hysw : RdL wr (fun b => B ≤ b) ys ra := RdL.below HYS.out hbw
        obtain ⟨g, o, rfl, hgB, hg, _, _⟩ := hysw.addr (by omega)
        obtain ⟨_, v0, v1, v2, y0, y1, y2, hyr⟩ := hysw.get ys g o j y hye
        obtain ⟨ca, cc, hv, _, _, _, _⟩ := hyr.parts
        simp only [Value.agg.injEq, Array.mk.injEq, List.cons.injEq, and_true] at hv
        obtain ⟨rfl, rfl, rfl⟩ := hv
        obtain ⟨M, o', rfl, hMR, hMc⟩ := HPC.out (by rw [HPL.out]; omega)
        have hM0 := hMc j _ hpv
        have hMl : M < w.heap.size := World.block_lt_of_cell? w _ hM0
        have hMw : wr.cell? ⟨M, o' + j, none⟩ = some (.func (.func f) first cap) := (World.cell?_of_block (a := ⟨M, o' + j, none⟩) (HOw.out.block M hMl hMR)).trans hM0
        have y2' : wr.cell? ⟨g, o + j * 3 + 2, none⟩ = some (.slice ca y.kids.length cc) := y2
        have hgR : g ≠ R := by omega
        have HC : Hid (∀ W, Below wr.heap.size wr W → Calls Tryz.prog f (first ++ #[.agg #[.int .i8 y.kind, .string (bytesL y.text), .slice ca y.kids.length cc]] ++ cap) W (fun e w' => PartP R (w.heap.size + 1) (.slice (some ⟨g, o, none⟩) ys.length rc) p x y wr e w')) := fun W hW => by
          have h1 := hcall (w.heap.size + 1) W x y _ (Oth.of hW) (HS.out.keep hW) (Rd.below hyr (hW.mono (by omega))) (HRT.out y (List.mem_of_getElem? hye))
          exact h1.mono fun e w' h => h.from (Oth.of hW)
        have HSK : Hid (∀ W x', RdrS W R (w.heap.size + 1) (.slice (some ⟨g, o, none⟩) ys.length rc) x' → Oth R wr W → W.cell? ⟨R, 0, none⟩ = some (.slice (some ⟨g, o, none⟩) ys.length rc) ∧ W.cell? ⟨M, o' + j, none⟩ = some (.func (.func f) first cap) ∧ W.cell? ⟨g, o + j * 3, none⟩ = some (.int .i8 y.kind) ∧ W.cell? ⟨g, o + j * 3 + 1, none⟩ = some (.string (bytesL y.text)) ∧ W.cell? ⟨g, o + j * 3 + 2, none⟩ = some (.slice ca y.kids.length cc)) := fun W x' h1 h2 => by
          have q1 := h2.block g hg hgR
          exact ⟨h1.cells.1, (World.cell?_of_block (a := ⟨M, o' + j, none⟩) (h2.block M (by have := HOw.out.size; omega) hMR)).trans hMw, (World.cell?_of_block (a := ⟨g, o + j * 3, none⟩) q1).trans y0, (World.cell?_of_block (a := ⟨g, o + j * 3 + 1, none⟩) q1).trans y1, (World.cell?_of_block (a := ⟨g, o + j * 3 + 2, none⟩) q1).trans y2'⟩
        have hs0 := HSK.out wr x HS.out (Oth.refl _ _)
        have hs1' := HSK.out wr.drew x (HS.out.keep (Below.refl _ _).drew) (Oth.of (Below.refl _ _).drew)
        have HDp : Hid (ps.drop j = p :: ps.drop (j + 1)) := drop_at' hpe
        have HDy : Hid (ys.drop j = y :: ys.drop (j + 1)) := drop_at' hye
        clear hp hy hcall hysw hyr hMc hM0 y0 y1 y2 y2' hMw hpe hpv hye hbw
        cases hpx : p x.c y with
        | none =>
          have HPX := Lib.hid hpx
          have HTk : Hid (takeP { cmd0 with kind := k } ps ys = none) := by show _ = _; rw [HT.out, HDp.out, HDy.out]; exact takeP_none hpx
          clear hpx
          go_wp2
          go_region_held3 (fun W => W.cell? ⟨R, 0, none⟩ = some (.slice (some ⟨g, o, none⟩) ys.length rc) ∧ W.cell? ⟨M, o' + j, none⟩ = some (.func (.func f) first cap) ∧ W.cell? ⟨g, o + j * 3, none⟩ = some (.int .i8 y.kind) ∧ W.cell? ⟨g, o + j * 3 + 1, none⟩ = some (.string (bytesL y.text)) ∧ W.cell? ⟨g, o + j * 3 + 2, none⟩ = some (.slice ca y.kids.length cc))
            (first | with_reducible exact hs0 | with_reducible exact hs1' | with_reducible exact hs6)
            (first | (go_at_fn f; refine (HC.out _ (by first | exact (Below.refl _ _).drew | exact Below.refl _ _)).mono ?_; rintro e w6 hp6; obtain ⟨x', rfl, hS6, hO6⟩ := hp6.no HPX.out; have hs6 := HSK.out w6 x' hS6 hO6; clear hp6))
          have hZ6 : w6.heap[w.heap.size]? = some zCm := (hO6.block _ hzz (by omega)).trans HZ.out
          have HZ6 := Lib.hid hZ6
          obtain ⟨d0, d1, d2, d3, d4, d5, d6, d7, fz2, hzz⟩ := cells8b hZ6
          clear hs0 hs1' hs6 hZ6
          go_wp2
          rw [Exit.noGoto_ret]
          refine bodyPost_ret (res_cell_tmp rfl _ _ (w.heap.size) _ _ _ _ rfl (set8 HZ6.out) Tryz.underlying28 rfl cmdSize) rfl ?_
          refine ⟨Oth.far8 (HOw.out.trans hO6) (Nat.le_refl _), ?_⟩
          rw [HTk.out]
          rfl
        | some c' =>
          have HPX := Lib.hid hpx
          have HTk : Hid (takeP { cmd0 with kind := k } ps ys = takeP c' (ps.drop (j + 1)) (ys.drop (j + 1))) := by show _ = _; rw [HT.out, HDp.out, HDy.out]; exact takeP_some hpx
          clear hpx
          go_wp2
          go_region_held3 (fun W => W.cell? ⟨R, 0, none⟩ = some (.slice (some ⟨g, o, none⟩) ys.length rc) ∧ W.cell? ⟨M, o' + j, none⟩ = some (.func (.func f) first cap) ∧ W.cell? ⟨g, o + j * 3, none⟩ = some (.int .i8 y.kind) ∧ W.cell? ⟨g, o + j * 3 + 1, none⟩ = some (.string (bytesL y.text)) ∧ W.cell? ⟨g, o + j * 3 + 2, none⟩ = some (.slice ca y.kids.length cc))
            (first | with_reducible exact hs0 | with_reducible exact hs1' | with_reducible exact hs6)
            (first | (go_at_fn f; refine (HC.out _ (by first | exact (Below.refl _ _).drew | exact Below.refl _ _)).mono ?_; rintro e w6 hp6; obtain ⟨x', hx', rfl, hS6, hO6⟩ := hp6.yes HPX.out; have hs6 := HSK.out w6 x' hS6 hO6; have HX' := Lib.hid hx'; clear hp6 hx'))
          have HS6 := Lib.hid hS6
          have HO6 := Lib.hid hO6
          clear hs0 hs1' hs6 hS6 hO6
          go_wp2
          go_roundw
          case rel => exact ⟨j + 1, x', by omega, by omega, by go_num, HS6.out, by show _ = _; rw [HTk.out, HX'.out], HO.out.trans HO6.out⟩
          case measure => simp [intOf]; omega
end Go.Proofs.YtodonngnigbpaaaGreatDoor
