/- Package sig's anew: a signature in new memory. -/
import Derived.Test.YthejmepiliiihaaDoorSgP
import Derived.Deep.CutRange
namespace Go.Proofs.YthejmepiliiihaaDoor
open Go.RowKit
set_option linter.unusedVariables false
/-- A new signature, its bodies in blocks without a mark. -/
def SigPost (w : World) (x : SigA) (e : Ending) (w' : World) : Prop := ∃ z : SigV, e = .returned (.agg #[.slice z.sa z.sorts.length z.sc, .slice z.fa z.funs.length z.fc, .slice z.ma z.macs.length z.mc]) ∧ z.a = x ∧ SigR w' z ∧ SigK w' z ∧ Below w.heap.size w w'
/-- No more than may be copied. -/
structure FewV (x : SigV) : Prop where
  s : x.sorts.length ≤ 100
  f : x.funs.length ≤ 100
  m : x.macs.length ≤ 100
  p : ∀ y ∈ x.macs, y.m.params.length ≤ 100
  t : ∀ y ∈ x.macs, RowsT y.m.body
theorem post_of {w W : World} {x : SigV} {sa fa ma : Option Addr} {sc fc mc : Nat} (h : SigR w x) (hs : x.sorts.length ≤ sc) (hsm : sc ≤ maxLen) (hf : x.funs.length ≤ fc) (hfm : fc ≤ maxLen) (hm : x.macs.length ≤ mc) (hmm : mc ≤ maxLen)
    (h1 : At W W.heap.size (x.sorts.flatMap strC) sa) (h2 : At W W.heap.size (x.funs.flatMap funC) fa) {lo : Nat} {l' : List MacV} (hl : l'.length = x.macs.length) (hm' : ∀ (j : Nat) (y : MacV), x.macs[j]? = some y → ∃ z, l'[j]? = some z ∧ z.m = y.m ∧ MacNew W lo z) (h3 : At W W.heap.size (l'.flatMap macC) ma) :
    SigR W ⟨x.sorts, sa, sc, x.funs, fa, fc, l', ma, mc⟩ ∧ SigK W ⟨x.sorts, sa, sc, x.funs, fa, fc, l', ma, mc⟩ ∧ (⟨x.sorts, sa, sc, x.funs, fa, fc, l', ma, mc⟩ : SigV).a = x.a := by
  have hall : ∀ z ∈ l', ∃ y ∈ x.macs, z.m = y.m ∧ MacNew W lo z := fun z hz => by
    obtain ⟨j, hj, e⟩ := List.getElem_of_mem hz
    obtain ⟨y, hy⟩ : ∃ y, x.macs[j]? = some y := ⟨_, List.getElem?_eq_getElem (by omega)⟩
    obtain ⟨z', h1, h2, h3⟩ := hm' j y hy
    rw [List.getElem?_eq_getElem hj, e] at h1
    cases h1
    exact ⟨y, List.mem_of_getElem? hy, h2, h3⟩
  refine ⟨⟨hs, hsm, h1, h.sok, hf, hfm, h2, h.fok, by show l'.length ≤ mc; omega, hmm, h3, fun z hz => ?_⟩, fun z hz => ?_, ?_⟩
  · obtain ⟨y, hy, e, n⟩ := hall z hz
    have ho := h.mok y hy
    exact ⟨by rw [e]; exact ho.name, n.pl, n.pm, n.pat.at, by rw [e]; exact ho.pok, by rw [e]; exact ho.res, n.body.sx⟩
  · obtain ⟨y, hy, e, n⟩ := hall z hz
    exact n.body.sxk
  · have : l'.map (·.m) = x.macs.map (·.m) := by
      apply List.ext_getElem?
      intro j
      rw [List.getElem?_map, List.getElem?_map]
      cases hj : x.macs[j]? with
      | none =>
        have : l'[j]? = none := by
          rw [List.getElem?_eq_none_iff] at hj ⊢
          omega
        rw [this]
      | some y =>
        obtain ⟨z, h1, h2, _⟩ := hm' j y hj
        rw [h1]; simp [h2]
    simp [SigV.a, this]
/-- Behind the three rows. -/
def Rows3 (w : World) (x : SigV) (W : World) : Prop := ∃ sa sc fa fc ma mc, x.sorts.length ≤ sc ∧ sc ≤ maxLen ∧ x.funs.length ≤ fc ∧ fc ≤ maxLen ∧ x.macs.length ≤ mc ∧ mc ≤ maxLen ∧
  Below w.heap.size w W ∧ W.heap[w.heap.size]? = some (.cells #[.slice sa x.sorts.length sc, .slice fa x.funs.length fc, .slice ma x.macs.length mc] 26 (0, 0)) ∧
  W.heap[w.heap.size + 1]? = some (.cells #[.slice none 0 0, .slice none 0 0, .slice none 0 0] 26 (0, 0)) ∧
  ∃ hi, w.heap.size + 2 ≤ hi ∧ hi ≤ W.heap.size ∧ AtI W (w.heap.size + 2) hi (x.sorts.flatMap strC) sa ∧ AtI W (w.heap.size + 2) hi (x.funs.flatMap funC) fa ∧
  (0 < x.macs.length → ∃ g, ma = some ⟨g, 0, none⟩ ∧ hi ≤ g ∧ g < W.heap.size ∧ (∃ cs, W.heap[g]? = some (.cells cs 50 (0, 0))) ∧ ∀ (i : Nat) (u : Value), (x.macs.flatMap macC)[i]? = some u → W.cell? ⟨g, i, none⟩ = some u)
theorem rows3_of {w W0 w1 w2 w3 : World} {x : SigV} {sa fa ma : Option Addr} {sc fc mc : Nat} (hsz0 : W0.heap.size = w.heap.size + 2) (hB0 : Below w.heap.size w W0) (hX0 : W0.heap[w.heap.size]? = some (.cells #[.slice x.sa x.sorts.length x.sc, .slice x.fa x.funs.length x.fc, .slice x.ma x.macs.length x.mc] 26 (0, 0)))
    (hY0 : W0.heap[w.heap.size + 1]? = some (.cells #[.slice none 0 0, .slice none 0 0, .slice none 0 0] 26 (0, 0))) (b1 : Below W0.heap.size W0 w1) (b2 : Below w1.heap.size w1 w2) (b3 : Below w2.heap.size w2 w3)
    (o1 : x.sorts.length ≤ sc ∧ sc ≤ maxLen ∧ AtI w1 W0.heap.size w1.heap.size (x.sorts.flatMap strC) sa) (o2 : x.funs.length ≤ fc ∧ fc ≤ maxLen ∧ AtI w2 w1.heap.size w2.heap.size (x.funs.flatMap funC) fa)
    (o3 : x.macs.length ≤ mc ∧ mc ≤ maxLen ∧ (0 < x.macs.length → ∃ g, ma = some ⟨g, 0, none⟩ ∧ w2.heap.size ≤ g ∧ g < w3.heap.size ∧ (∃ cs, w3.heap[g]? = some (.cells cs 50 (0, 0))) ∧ ∀ (i : Nat) (u : Value), (x.macs.flatMap macC)[i]? = some u → w3.cell? ⟨g, i, none⟩ = some u)) :
    Rows3 w x (((w3.setCell ⟨w.heap.size, 0, none⟩ (.slice sa x.sorts.length sc)).setCell ⟨w.heap.size, 1, none⟩ (.slice fa x.funs.length fc)).setCell ⟨w.heap.size, 2, none⟩ (.slice ma x.macs.length mc)) := by
  have s1 := b1.size
  have s2 := b2.size
  have s3 := b3.size
  have hold3 : ∀ b, b < W0.heap.size → w3.heap[b]? = W0.heap[b]? := fun b hb => ((b3.block b (by omega)).trans (b2.block b (by omega))).trans (b1.block b hb)
  have hoth : ∀ b, b ≠ w.heap.size → (((w3.setCell ⟨w.heap.size, 0, none⟩ (.slice sa x.sorts.length sc)).setCell ⟨w.heap.size, 1, none⟩ (.slice fa x.funs.length fc)).setCell ⟨w.heap.size, 2, none⟩ (.slice ma x.macs.length mc)).heap[b]? = w3.heap[b]? := fun b hb =>
    ((Below.heap_setCell _ _ _ b hb).trans (Below.heap_setCell _ _ _ b hb)).trans (Below.heap_setCell _ _ _ b hb)
  have hszW : (((w3.setCell ⟨w.heap.size, 0, none⟩ (.slice sa x.sorts.length sc)).setCell ⟨w.heap.size, 1, none⟩ (.slice fa x.funs.length fc)).setCell ⟨w.heap.size, 2, none⟩ (.slice ma x.macs.length mc)).heap.size = w3.heap.size := by simp [World.setCell]
  have hbl := (((hB0.trans (b1.mono (by omega))).trans (b2.mono (by omega))).trans (b3.mono (by omega)))
  refine ⟨sa, sc, fa, fc, ma, mc, o1.1, o1.2.1, o2.1, o2.2.1, o3.1, o3.2.1, ((hbl.setCell (p := ⟨w.heap.size, 0, none⟩) (by simp) _).setCell (p := ⟨w.heap.size, 1, none⟩) (by simp) _).setCell (p := ⟨w.heap.size, 2, none⟩) (by simp) _,
    set3 ((hold3 _ (by omega)).trans hX0), (hoth _ (by omega)).trans ((hold3 _ (by omega)).trans hY0), w2.heap.size, by omega, by omega, ?_, ?_, ?_⟩
  · exact (o1.2.2.keep (fun b k1 k2 => (hoth b (by omega)).trans ((b3.block b (by omega)).trans (b2.block b (by omega))))).wide (by omega) (by omega)
  · exact (o2.2.2.keep (fun b k1 k2 => (hoth b (by omega)).trans (b3.block b (by omega)))).wide (by omega) (by omega)
  · intro h0
    obtain ⟨g, e, k1, k2, ⟨cs, hcs⟩, hc⟩ := o3.2.2 h0
    exact ⟨g, e, k1, by omega, ⟨cs, (hoth g (by omega)).trans hcs⟩, fun i u hu => (World.cell?_of_block (a := ⟨g, i, none⟩) (hoth g (by omega))).trans (hc i u hu)⟩
theorem body_cells {wr w1 w6 : World} {M k : Nat} {v u3 u4 u5 : Value} (hb1 : Below wr.heap.size wr w1) (hM : M < wr.heap.size) (hcl : ∃ cs, wr.heap[M]? = some (.cells cs 50 (0, 0))) (c3 : wr.cell? ⟨M, k * 6 + 3, none⟩ = some u3) (c4 : wr.cell? ⟨M, k * 6 + 4, none⟩ = some u4) (c5 : wr.cell? ⟨M, k * 6 + 5, none⟩ = some u5)
    (hb6 : Below (w1.setCell ⟨M, k * 6 + 1, none⟩ v).heap.size (w1.setCell ⟨M, k * 6 + 1, none⟩ v) w6) :
    w6.cell? ⟨M, k * 6 + 3, none⟩ = some u3 ∧ w6.cell? ⟨M, k * 6 + 4, none⟩ = some u4 ∧ w6.cell? ⟨M, k * 6 + 5, none⟩ = some u5 ∧ ∀ i, w6.frozen? ⟨M, i, none⟩ = false := by
  have hs1 := hb1.size
  have hlt : M < (w1.setCell ⟨M, k * 6 + 1, none⟩ v).heap.size := by simp [World.setCell]; omega
  refine ⟨?_, ?_, ?_, fun i => ?_⟩
  · exact ((hb6.cell (p := ⟨M, k * 6 + 3, none⟩) hlt).trans (cso (by simp))).trans ((hb1.cell (p := ⟨M, k * 6 + 3, none⟩) hM).trans c3)
  · exact ((hb6.cell (p := ⟨M, k * 6 + 4, none⟩) hlt).trans (cso (by simp))).trans ((hb1.cell (p := ⟨M, k * 6 + 4, none⟩) hM).trans c4)
  · exact ((hb6.cell (p := ⟨M, k * 6 + 5, none⟩) hlt).trans (cso (by simp))).trans ((hb1.cell (p := ⟨M, k * 6 + 5, none⟩) hM).trans c5)
  · obtain ⟨cs, hcs⟩ := hcl
    obtain ⟨cs', hcs'⟩ := clean_set (a := ⟨M, k * 6 + 1, none⟩) (v := v) ⟨cs, (hb1.block M hM).trans hcs⟩
    simp [World.frozen?, (hb6.block M hlt).trans hcs']
theorem fin_new {w wr Wf : World} {x : SigV} {sa fa : Option Addr} {sc fc M mc : Nat} (hR : SigR w x) (hp : x.sorts.length ≤ sc ∧ sc ≤ maxLen ∧ x.funs.length ≤ fc ∧ fc ≤ maxLen ∧ x.macs.length ≤ mc ∧ mc ≤ maxLen) (h : AnewS w x sa sc fa fc M mc x.macs.length wr)
    (hs : Wf.heap.size = wr.heap.size) (hof : ∀ b, b ≠ w.heap.size + 1 → Wf.heap[b]? = wr.heap[b]?) (hb : Below w.heap.size w Wf) :
    SigPost w x.a (.returned (.agg #[.slice sa x.sorts.length sc, .slice fa x.funs.length fc, .slice (some ⟨M, 0, none⟩) x.macs.length mc])) Wf := by
  have hf := h.far
  have hMlt : M < wr.heap.size := by obtain ⟨cs, hcs⟩ := h.clean; exact (Array.getElem?_eq_some_iff.1 hcs).1
  obtain ⟨l', hl, hl'⟩ := list_choose x.macs (fun j y z => z.m = y.m ∧ Cells6 wr M j z ∧ MacNew wr (M + 1) z) (fun j y hj => by
    obtain ⟨z, e, c, n, _⟩ := h.row j y hj
    exact ⟨z, e, c, n (List.getElem?_eq_some_iff.1 hj).1⟩)
  have hnew : ∀ z, MacNew wr (M + 1) z → MacNew Wf (M + 1) z := fun z n => ⟨n.pl, n.pm, (n.pat.keep (fun b k1 k2 => hof b (by omega))).wide (Nat.le_refl _) (by omega), n.body.keep (fun b k1 k2 => hof b (by omega))⟩
  have hmat : At Wf Wf.heap.size (l'.flatMap macC) (some ⟨M, 0, none⟩) := fun _ => ⟨M, 0, rfl, by omega, flat_at macC_len l' 0 (fun j z hz r u hu => by
    have hjl : j < x.macs.length := by rw [← hl]; exact (List.getElem?_eq_some_iff.1 hz).1
    obtain ⟨y, hy⟩ : ∃ y, x.macs[j]? = some y := ⟨_, List.getElem?_eq_getElem hjl⟩
    obtain ⟨z', hz', _, ⟨c0, c1, c2, c3, c4, c5⟩, _⟩ := hl' j y hy
    rw [hz] at hz'
    cases hz'
    have e : ∀ p, Wf.cell? ⟨M, p, none⟩ = wr.cell? ⟨M, p, none⟩ := fun p => World.cell?_of_block (a := ⟨M, p, none⟩) (hof M (by omega))
    rw [Nat.zero_add, e]
    match r, hu with
    | 0, hu => simp [macC] at hu; subst hu; exact c0
    | 1, hu => simp [macC] at hu; subst hu; exact c1
    | 2, hu => simp [macC] at hu; subst hu; exact c2
    | 3, hu => simp [macC] at hu; subst hu; exact c3
    | 4, hu => simp [macC] at hu; subst hu; exact c4
    | 5, hu => simp [macC] at hu; subst hu; exact c5
    | r + 6, hu => simp [macC] at hu)⟩
  obtain ⟨r1, r2, r3⟩ := post_of hR hp.1 hp.2.1 hp.2.2.1 hp.2.2.2.1 hp.2.2.2.2.1 hp.2.2.2.2.2
    ((h.sat.keep (fun b k1 k2 => hof b (by omega))).wide (Nat.le_refl _) (by omega : M ≤ Wf.heap.size)).at ((h.fat.keep (fun b k1 k2 => hof b (by omega))).wide (Nat.le_refl _) (by omega : M ≤ Wf.heap.size)).at hl
    (fun j y hj => by obtain ⟨z, h1, h2, _, h4⟩ := hl' j y hj; exact ⟨z, h1, h2, hnew z h4⟩) hmat
  exact ⟨_, by rw [hl], r3, r1, r2, hb⟩
theorem fin_nil {w wr Wf : World} {x : SigV} {sa fa ma : Option Addr} {sc fc mc hi : Nat} (hR : SigR w x) (hp : x.sorts.length ≤ sc ∧ sc ≤ maxLen ∧ x.funs.length ≤ fc ∧ fc ≤ maxLen ∧ x.macs.length ≤ mc ∧ mc ≤ maxLen) (h0 : x.macs.length = 0) (hhi : hi ≤ wr.heap.size)
    (a1 : AtI wr (w.heap.size + 2) hi (x.sorts.flatMap strC) sa) (a2 : AtI wr (w.heap.size + 2) hi (x.funs.flatMap funC) fa)
    (hs : Wf.heap.size = wr.heap.size) (hof : ∀ b, b ≠ w.heap.size + 1 → Wf.heap[b]? = wr.heap[b]?) (hb : Below w.heap.size w Wf) :
    SigPost w x.a (.returned (.agg #[.slice sa x.sorts.length sc, .slice fa x.funs.length fc, .slice ma x.macs.length mc])) Wf := by
  have hnil : x.macs = [] := List.eq_nil_of_length_eq_zero h0
  obtain ⟨r1, r2, r3⟩ := post_of (lo := 0) (l' := []) (ma := ma) hR hp.1 hp.2.1 hp.2.2.1 hp.2.2.2.1 hp.2.2.2.2.1 hp.2.2.2.2.2
    ((a1.keep (fun b k1 k2 => hof b (by omega))).wide (Nat.le_refl _) (by omega : hi ≤ Wf.heap.size)).at ((a2.keep (fun b k1 k2 => hof b (by omega))).wide (Nat.le_refl _) (by omega : hi ≤ Wf.heap.size)).at h0.symm
    (fun j y hj => by rw [hnil] at hj; simp at hj) (fun h => absurd h (by simp))
  exact ⟨_, by rw [h0]; rfl, r3, r1, r2, hb⟩
theorem zeroSig : (Tryd.prog.info? 26).map (fun i => (i.zero, i.size, i.bytes)) = some (some (.agg #[.slice none 0 0, .slice none 0 0, .slice none 0 0]), 3, 72) := by kernel_rfl
set_option maxRecDepth 100000 in
set_option maxHeartbeats 4000000 in
theorem anew_any (x : SigV) (w : World) (hR : SigR w x) (hF : FewV x) : Calls Tryd.prog 23 #[.agg #[.slice x.sa x.sorts.length x.sc, .slice x.fa x.funs.length x.fc, .slice x.ma x.macs.length x.mc]] w (SigPost w x.a) := by
  have HS : Hid (∀ W, Below w.heap.size w W → Calls Tryd.prog 33 #[.slice x.sa x.sorts.length x.sc] W (RowPost W 9 1 x.sorts.length (x.sorts.flatMap strC))) := fun W hW => by
    have := hF.s
    exact row_str x.sorts x.sa x.sc W ((hR.sat.below hW).more hW.size) hR.sl (by omega) (by unfold maxLen; omega) (fun _ _ => trivial)
  have HFu : Hid (∀ W, Below w.heap.size w W → Calls Tryd.prog 34 #[.slice x.fa x.funs.length x.fc] W (RowPost W 29 6 x.funs.length (x.funs.flatMap funC))) := fun W hW => by
    have := hF.f
    exact row_fun x.funs x.fa x.fc W ((hR.fat.below hW).more hW.size) hR.fl (by omega) (by unfold maxLen; omega) (fun _ _ => trivial)
  have HM : Hid (∀ W, Below w.heap.size w W → Calls Tryd.prog 35 #[.slice x.ma x.macs.length x.mc] W (RowPost W 50 6 x.macs.length (x.macs.flatMap macC))) := fun W hW => by
    have := hF.m
    exact row_mac x.macs x.ma x.mc W ((hR.mat.below hW).more hW.size) hR.ml (by omega) (by unfold maxLen; omega) (fun _ _ => trivial)
  obtain ⟨W0, hW0⟩ : ∃ W0, W0 = (w.alloc (.cells #[.slice x.sa x.sorts.length x.sc, .slice x.fa x.funs.length x.fc, .slice x.ma x.macs.length x.mc] 26)).alloc (.cells #[.slice none 0 0, .slice none 0 0, .slice none 0 0] 26) := ⟨_, rfl⟩
  have hB0 : Below w.heap.size w W0 := by rw [hW0]; exact ((Below.refl _ _).alloc (Nat.le_refl _) _).alloc (by simp) _
  have hX0 : W0.heap[w.heap.size]? = some (.cells #[.slice x.sa x.sorts.length x.sc, .slice x.fa x.funs.length x.fc, .slice x.ma x.macs.length x.mc] 26 (0, 0)) := by rw [hW0]; exact (Below.heap_alloc _ _ _ (by simp)).trans (heap_alloc_new w _)
  have hY0 : W0.heap[w.heap.size + 1]? = some (.cells #[.slice none 0 0, .slice none 0 0, .slice none 0 0] 26 (0, 0)) := by
    rw [hW0]
    have := heap_alloc_new (w.alloc (.cells #[.slice x.sa x.sorts.length x.sc, .slice x.fa x.funs.length x.fc, .slice x.ma x.macs.length x.mc] 26)) (.cells #[.slice none 0 0, .slice none 0 0, .slice none 0 0] 26)
    rwa [World.size_alloc] at this
  have hsz0 : W0.heap.size = w.heap.size + 2 := by rw [hW0]; simp
  have HSK : Hid (∀ V, Below W0.heap.size W0 V → V.cell? ⟨w.heap.size, 0, none⟩ = some (.slice x.sa x.sorts.length x.sc) ∧ V.cell? ⟨w.heap.size, 1, none⟩ = some (.slice x.fa x.funs.length x.fc) ∧ V.cell? ⟨w.heap.size, 2, none⟩ = some (.slice x.ma x.macs.length x.mc) ∧ V.frozen? ⟨w.heap.size, 0, none⟩ = false ∧ V.frozen? ⟨w.heap.size, 1, none⟩ = false ∧ V.frozen? ⟨w.heap.size, 2, none⟩ = false) := fun V hV => by
    have hp := (hV.block w.heap.size (by omega)).trans hX0
    have p0 := cell_of_row _ _ 0 _ _ _ hp
    have p1 := cell_of_row _ _ 1 _ _ _ hp
    have p2 := cell_of_row _ _ 2 _ _ _ hp
    have hf : ∀ i, V.frozen? ⟨w.heap.size, i, none⟩ = false := fun i => by simp [World.frozen?, hp]
    simp only [List.getElem?_toArray, List.getElem?_cons_zero, List.getElem?_cons_succ] at p0 p1 p2
    exact ⟨p0, p1, p2, hf _, hf _, hf _⟩
  have HB0 := Lib.hid hB0
  have HY0 := Lib.hid hY0
  have HX0 := Lib.hid hX0
  have HR := Lib.hid hR
  have HFW := Lib.hid hF
  clear hR hF hB0 hY0 hX0
  go_enter Tryd.func23, Tryd.ntmps23
  go_upto_region 1 with fail
  rw [← hW0]
  clear hW0
  go_cut [] from 5 to 14 (fun wx => Rows3 w x wx)
  case first =>
    obtain ⟨x0, x1, x2, f0, f1, f2⟩ := HSK.out _ (Below.refl _ _)
    go_region_with (first | (go_at_call 33; refine (HS.out _ (by first | exact HB0.out.drew | exact HB0.out)).mono ?_; rintro e w1 ⟨v1, rfl, ho1, hb1⟩; have hB1 : Below W0.heap.size W0 w1 := (Below.refl _ W0).drew.trans (hb1.mono (Nat.le_refl _)); obtain ⟨sa, sc, rfl, hs1⟩ := own_at ho1; have HO1 : Hid (x.sorts.length ≤ sc ∧ sc ≤ maxLen ∧ AtI w1 W0.heap.size w1.heap.size (x.sorts.flatMap strC) sa) := ⟨hs1.1, hs1.2.1, hs1.2.2.1⟩; clear ho1 hs1; obtain ⟨x0', x1', x2', f0', f1', f2'⟩ := HSK.out _ hB1) | (go_at_call 34; refine (HFu.out _ (HB0.out.trans (hB1.mono HB0.out.size))).mono ?_; rintro e w2 ⟨v2, rfl, ho2, hb2⟩; have hB2 : Below W0.heap.size W0 w2 := hB1.trans (hb2.mono hB1.size); obtain ⟨fa, fc, rfl, hs2⟩ := own_at ho2; have HO2 : Hid (x.funs.length ≤ fc ∧ fc ≤ maxLen ∧ AtI w2 w1.heap.size w2.heap.size (x.funs.flatMap funC) fa) := ⟨hs2.1, hs2.2.1, hs2.2.2.1⟩; clear ho2 hs2; obtain ⟨x0'', x1'', x2'', f0'', f1'', f2''⟩ := HSK.out _ hB2) | (go_at_call 35; refine (HM.out _ (HB0.out.trans (hB2.mono HB0.out.size))).mono ?_; rintro e w3 ⟨v3, rfl, ho3, hb3⟩; have hB3 : Below W0.heap.size W0 w3 := hB2.trans (hb3.mono hB2.size); obtain ⟨ma, mc, rfl, hs3⟩ := own_at ho3; have HO3 : Hid (x.macs.length ≤ mc ∧ mc ≤ maxLen ∧ (0 < x.macs.length → ∃ g, ma = some ⟨g, 0, none⟩ ∧ w2.heap.size ≤ g ∧ g < w3.heap.size ∧ (∃ cs, w3.heap[g]? = some (.cells cs 50 (0, 0))) ∧ ∀ (i : Nat) (u : Value), (x.macs.flatMap macC)[i]? = some u → w3.cell? ⟨g, i, none⟩ = some u)) := ⟨hs3.1, hs3.2.1, hs3.2.2.2⟩; clear ho3 hs3; obtain ⟨x0''', x1''', x2''', f0''', f1''', f2'''⟩ := HSK.out _ hB3))
    all_goals
      go_wp2_with fail
      go_meet
      exact rows3_of hsz0 HB0.out HX0.out HY0.out hB1 hb2 hb3 HO1.out HO2.out HO3.out
  case rest =>
    have HCUT := Lib.hid hcut
    clear hcut
    obtain ⟨sa, sc, fa, fc, ma, mc, h1, h2, h3, h4, h5, h6, hbl, hbox, hres, hi, k1, k2, a1, a2, a3⟩ := HCUT.out
    have x2 := cell_of_row _ _ 2 _ _ _ hbox
    simp only [List.getElem?_toArray, List.getElem?_cons_zero, List.getElem?_cons_succ] at x2
    have hml : x.macs.length ≤ 100 := HFW.out.m
    have hlt0 : w.heap.size < wc.heap.size := (Array.getElem?_eq_some_iff.1 hbox).1
    by_cases h0 : 0 < x.macs.length
    · obtain ⟨M, rfl, m1, m2, m3, m4⟩ := a3 h0
      have HA : Hid (AnewS w x sa sc fa fc M mc 0 wc) := by
        refine ⟨hbl, hbox, hres, by omega, m3, a1.wide (Nat.le_refl _) m1, a2.wide (Nat.le_refl _) m1, fun j y hy => ⟨y, rfl, ?_, fun h => by omega, fun _ => rfl⟩⟩
        have q : ∀ (r : Nat) (u : Value), r < 6 → (macC y)[r]? = some u → wc.cell? ⟨M, j * 6 + r, none⟩ = some u := fun r u hr hu => m4 _ _ ((get_flat macC_len x.macs j r y hy hr).trans hu)
        exact ⟨q 0 _ (by omega) rfl, q 1 _ (by omega) rfl, q 2 _ (by omega) rfl, q 3 _ (by omega) rfl, q 4 _ (by omega) rfl, q 5 _ (by omega) rfl⟩
      have HPre : Hid (x.sorts.length ≤ sc ∧ sc ≤ maxLen ∧ x.funs.length ≤ fc ∧ fc ≤ maxLen ∧ x.macs.length ≤ mc ∧ mc ≤ maxLen) := ⟨h1, h2, h3, h4, h5, h6⟩
      have hlm : x.macs.length ≤ mc := h5
      clear h1 h2 h3 h4 h5 h6 hbl hbox hres a1 a2 a3 m1 m2 m3 m4 HCUT k1 k2
      go_wp2
      go_loopw [18] (fun i wr => ∃ k : Nat, k ≤ x.macs.length ∧ i = .int .i64 k ∧ Hid (AnewS w x sa sc fa fc M mc k wr)) (fun i _ => x.macs.length - (intOf i).toNat)
      case atStart => exact ⟨0, Nat.zero_le _, rfl, HA⟩
      case round =>
        obtain ⟨k, hkl, rfl, HS⟩ := hrel
        have x2 := cell_of_row _ _ 2 _ _ _ HS.out.box
        simp only [List.getElem?_toArray, List.getElem?_cons_zero, List.getElem?_cons_succ] at x2
        by_cases hlt : k < x.macs.length
        · obtain ⟨y, hy⟩ : ∃ y, x.macs[k]? = some y := ⟨_, List.getElem?_eq_getElem hlt⟩
          have hym := List.mem_of_getElem? hy
          obtain ⟨z, hz, ⟨c0, c1, c2, c3, c4, c5⟩, _, hzy⟩ := HS.out.row k y hy
          obtain rfl := hzy (Nat.le_refl _)
          have hmo := (HR.out.mok z hym).below HS.out.below
          have hpl := HFW.out.p z hym
          have hrt := HFW.out.t z hym
          have hsz := HS.out.below.size
          have HP : Hid (∀ V, Below wr.heap.size wr V → Calls Tryd.prog 36 #[.slice z.pa z.m.params.length z.pc] V (RowPost V 79 2 z.m.params.length (z.m.params.flatMap parC))) := fun V hV =>
            row_par z.m.params z.pa z.pc V ((hmo.pat.below (hV.mono hsz)).more (Nat.le_trans hsz hV.size)) hmo.plen (by omega) (by unfold maxLen; omega) (fun _ _ => trivial)
          have HBd : Hid (∀ V, Below w.heap.size w V → Calls Tryd.prog 37 #[.agg #[.int .i8 z.m.body.kind, .string (bytesL z.m.body.text), .slice z.ba z.m.body.kids.length z.bc]] V (BodyPost V z.m.body)) := fun V hV => bodyAnew_any z.m.body _ V ((HR.out.mok z hym).body.below hV) hrt
          have hMw : M < wr.heap.size := by obtain ⟨cs, hcs⟩ := HS.out.clean; exact (Array.getElem?_eq_some_iff.1 hcs).1
          have hz0 : w.heap.size < wr.heap.size := (Array.getElem?_eq_some_iff.1 HS.out.box).1
          have hfz : ∀ i, wr.frozen? ⟨M, i, none⟩ = false := fun i => by obtain ⟨cs, hcs⟩ := HS.out.clean; simp [World.frozen?, hcs]
          have HY := Lib.hid hy
          have HMo := Lib.hid hmo
          have hkmc : k < mc := by omega
          have hfar : w.heap.size + 2 ≤ M := HS.out.far
          clear hy hmo hrt hpl hz hzy
          go_wp2_with (first | (go_at_call 36; refine (HP.out _ (Below.refl _ _)).mono ?_; rintro e w1 ⟨v1, rfl, ho1, hb1⟩; obtain ⟨ra, rc, rfl, hs1⟩ := own_at ho1; have HO1 := Lib.hid hs1; clear ho1 hs1; obtain ⟨hc1, hf1⟩ := bcell hb1) | (go_at_call 37; refine (HBd.out _ ((HS.out.below.trans (hb1.mono hsz)).setCell (by show w.heap.size ≤ M; omega) _)).mono ?_; rintro e w6 ⟨s6, hs6, rfl, hc6, hm6, hn6, hb6⟩; unfold sexV; obtain ⟨d3, d4, d5, f3⟩ := body_cells hb1 hMw HS.out.clean c3 c4 c5 hb6; have HN6 := Lib.hid hn6; clear hn6))
          have HSn := HS.out.next (u0 := undef) (u1 := undef) (u2 := undef) HY.out hb1 HO1.out.1 HO1.out.2.1 HO1.out.2.2.1 hb6 hs6 (HN6.out.more (by simp [World.setCell])) rfl
          simp only [hs6] at HSn
          exact ⟨⟨k + 1, by omega, by go_num, HSn⟩, by simp [intOf]; omega⟩
        · obtain rfl : k = x.macs.length := by omega
          have HY1 : Hid (wr.heap[w.heap.size + 1]? = some (.cells #[.slice none 0 0, .slice none 0 0, .slice none 0 0] 26 (0, 0))) := HS.out.res
          have x0 := cell_of_row _ _ 0 _ _ _ HS.out.box
          have x1 := cell_of_row _ _ 1 _ _ _ HS.out.box
          have y0 := cell_of_row _ _ 0 _ _ _ HY1.out
          have y1 := cell_of_row _ _ 1 _ _ _ HY1.out
          have y2 := cell_of_row _ _ 2 _ _ _ HY1.out
          have z : ∀ i, wr.frozen? ⟨w.heap.size + 1, i, none⟩ = false := fun i => by simp [World.frozen?, HY1.out]
          simp only [List.getElem?_toArray, List.getElem?_cons_zero, List.getElem?_cons_succ] at x0 x1 y0 y1 y2
          go_wp2
          have hc := set3 (v0 := .slice sa x.sorts.length sc) (v1 := .slice fa x.funs.length fc) (v2 := .slice (some ⟨M, 0, none⟩) x.macs.length mc) HY1.out
          have hbf := ((HS.out.below.setCell (p := ⟨w.heap.size + 1, 0, none⟩) (by simp) (.slice sa x.sorts.length sc)).setCell (p := ⟨w.heap.size + 1, 1, none⟩) (by simp) (.slice fa x.funs.length fc)).setCell (p := ⟨w.heap.size + 1, 2, none⟩) (by simp) (.slice (some ⟨M, 0, none⟩) x.macs.length mc)
          have hof : ∀ b, b ≠ w.heap.size + 1 → (((wr.setCell ⟨w.heap.size + 1, 0, none⟩ (.slice sa x.sorts.length sc)).setCell ⟨w.heap.size + 1, 1, none⟩ (.slice fa x.funs.length fc)).setCell ⟨w.heap.size + 1, 2, none⟩ (.slice (some ⟨M, 0, none⟩) x.macs.length mc)).heap[b]? = wr.heap[b]? := fun b hb =>
            ((Below.heap_setCell _ _ _ b hb).trans (Below.heap_setCell _ _ _ b hb)).trans (Below.heap_setCell _ _ _ b hb)
          have hsf : (((wr.setCell ⟨w.heap.size + 1, 0, none⟩ (.slice sa x.sorts.length sc)).setCell ⟨w.heap.size + 1, 1, none⟩ (.slice fa x.funs.length fc)).setCell ⟨w.heap.size + 1, 2, none⟩ (.slice (some ⟨M, 0, none⟩) x.macs.length mc)).heap.size = wr.heap.size := by simp [World.setCell]
          have c0 := cell_of_row _ _ 0 _ _ _ hc
          have c1 := cell_of_row _ _ 1 _ _ _ hc
          have c2 := cell_of_row _ _ 2 _ _ _ hc
          simp only [List.getElem?_toArray, List.getElem?_cons_zero, List.getElem?_cons_succ] at c0 c1 c2
          generalize ((wr.setCell ⟨w.heap.size + 1, 0, none⟩ (.slice sa x.sorts.length sc)).setCell ⟨w.heap.size + 1, 1, none⟩ (.slice fa x.funs.length fc)).setCell ⟨w.heap.size + 1, 2, none⟩ (.slice (some ⟨M, 0, none⟩) x.macs.length mc) = Wf at c0 c1 c2 hc hbf hof hsf ⊢
          refine bodyPost_ret (v := .agg #[.slice sa x.sorts.length sc, .slice fa x.funs.length fc, .slice (some ⟨M, 0, none⟩) x.macs.length mc]) (by simp [results, Tryd.results23, go_sem, c0, c1, c2]) rfl ?_
          exact fin_new HR.out HPre.out HS.out hsf hof hbf
    · have h0' : x.macs.length = 0 := by omega
      have HPre : Hid (x.sorts.length ≤ sc ∧ sc ≤ maxLen ∧ x.funs.length ≤ fc ∧ fc ≤ maxLen ∧ x.macs.length ≤ mc ∧ mc ≤ maxLen) := ⟨h1, h2, h3, h4, h5, h6⟩
      have HA1 := Lib.hid a1
      have HA2 := Lib.hid a2
      have HBL := Lib.hid hbl
      have HX1 := Lib.hid hbox
      have HY1 := Lib.hid hres
      have H0 := Lib.hid h0'
      have hng : ¬ ((0 : Int) < (x.macs.length : Int)) := by omega
      clear h1 h2 h3 h4 h5 h6 hbl hbox hres a1 a2 a3 HCUT h0 h0' k1
      go_wp2
      go_loopw [18] (fun i wr => i = .int .i64 0 ∧ wr = wc) (fun i _ => 0)
      case atStart => exact ⟨rfl, rfl⟩
      case round =>
        obtain ⟨rfl, rfl⟩ := hrel
        have x0 := cell_of_row _ _ 0 _ _ _ HX1.out
        have x1 := cell_of_row _ _ 1 _ _ _ HX1.out
        have y0 := cell_of_row _ _ 0 _ _ _ HY1.out
        have y1 := cell_of_row _ _ 1 _ _ _ HY1.out
        have y2 := cell_of_row _ _ 2 _ _ _ HY1.out
        have z : ∀ i, wr.frozen? ⟨w.heap.size + 1, i, none⟩ = false := fun i => by simp [World.frozen?, HY1.out]
        simp only [List.getElem?_toArray, List.getElem?_cons_zero, List.getElem?_cons_succ] at x0 x1 y0 y1 y2
        go_wp2
        have hc := set3 (v0 := .slice sa x.sorts.length sc) (v1 := .slice fa x.funs.length fc) (v2 := .slice ma x.macs.length mc) HY1.out
        have hbf := ((HBL.out.setCell (p := ⟨w.heap.size + 1, 0, none⟩) (by simp) (.slice sa x.sorts.length sc)).setCell (p := ⟨w.heap.size + 1, 1, none⟩) (by simp) (.slice fa x.funs.length fc)).setCell (p := ⟨w.heap.size + 1, 2, none⟩) (by simp) (.slice ma x.macs.length mc)
        have hof : ∀ b, b ≠ w.heap.size + 1 → (((wr.setCell ⟨w.heap.size + 1, 0, none⟩ (.slice sa x.sorts.length sc)).setCell ⟨w.heap.size + 1, 1, none⟩ (.slice fa x.funs.length fc)).setCell ⟨w.heap.size + 1, 2, none⟩ (.slice ma x.macs.length mc)).heap[b]? = wr.heap[b]? := fun b hb =>
          ((Below.heap_setCell _ _ _ b hb).trans (Below.heap_setCell _ _ _ b hb)).trans (Below.heap_setCell _ _ _ b hb)
        have hsf : (((wr.setCell ⟨w.heap.size + 1, 0, none⟩ (.slice sa x.sorts.length sc)).setCell ⟨w.heap.size + 1, 1, none⟩ (.slice fa x.funs.length fc)).setCell ⟨w.heap.size + 1, 2, none⟩ (.slice ma x.macs.length mc)).heap.size = wr.heap.size := by simp [World.setCell]
        have c0 := cell_of_row _ _ 0 _ _ _ hc
        have c1 := cell_of_row _ _ 1 _ _ _ hc
        have c2 := cell_of_row _ _ 2 _ _ _ hc
        simp only [List.getElem?_toArray, List.getElem?_cons_zero, List.getElem?_cons_succ] at c0 c1 c2
        generalize ((wr.setCell ⟨w.heap.size + 1, 0, none⟩ (.slice sa x.sorts.length sc)).setCell ⟨w.heap.size + 1, 1, none⟩ (.slice fa x.funs.length fc)).setCell ⟨w.heap.size + 1, 2, none⟩ (.slice ma x.macs.length mc) = Wf at c0 c1 c2 hc hbf hof hsf ⊢
        refine bodyPost_ret (v := .agg #[.slice sa x.sorts.length sc, .slice fa x.funs.length fc, .slice ma x.macs.length mc]) (by simp [results, Tryd.results23, go_sem, c0, c1, c2]) rfl ?_
        exact fin_nil HR.out HPre.out H0.out k2 HA1.out HA2.out hsf hof hbf
end Go.Proofs.YthejmepiliiihaaDoor
