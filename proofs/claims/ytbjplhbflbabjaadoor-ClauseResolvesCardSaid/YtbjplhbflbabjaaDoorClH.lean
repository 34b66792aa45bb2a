/- slices.Sorted of slices.Values. -/
import Derived.Test.YtbjplhbflbabjaaDoorClD
import Derived.RangeFuncNested
import Derived.RangeFuncWrites
import Derived.RangeFuncLeaves
import Derived.Shelf.Abstract
import Derived.Shelf.AbstractIn
import Derived.RangeFuncCalls
import Derived.OwnWalkIn
import Derived.TacticsInMore
import Derived.LoopNIn
import Derived.LoopIn
import Derived.Maps.OwnIn
namespace Go.Proofs.YtbjplhbflbabjaaDoor.Tm
open Go.RowKit Go.Sort Go.Shelf
set_option linter.unusedVariables false
attribute [local go_sem] Oper.semAt_some
/-- The marks that ranges over functions have left. -/
def Marks (B : Nat) (ds : List Deferred) (w : World) : Prop := ∃ Ds : List Nat, ds = Ds.map (fun D => { target := .collected D, args := #[] }) ∧ Ds.Nodup ∧ ∀ D ∈ Ds, B ≤ D ∧ w.heap[D]? = some (.deferred (some []))
theorem Marks.keep {B : Nat} {ds : List Deferred} {w w' : World} (h : Marks B ds w) (hk : ∀ D, B ≤ D → D < w.heap.size → w.heap[D]? = some (.deferred (some [])) → w'.heap[D]? = w.heap[D]?) : Marks B ds w' := by
  obtain ⟨Ds, h1, h2, h3⟩ := h
  refine ⟨Ds, h1, h2, fun D hD => ⟨(h3 D hD).1, ?_⟩⟩
  rw [hk D (h3 D hD).1 (Array.getElem?_eq_some_iff.1 (h3 D hD).2).1 (h3 D hD).2]
  exact (h3 D hD).2
theorem Marks.push {B D : Nat} {ds : List Deferred} {w w' : World} (h : Marks B ds w) (hD : w'.heap[D]? = some (.deferred (some []))) (hB : B ≤ D) (hn : w.heap.size ≤ D) (hk : ∀ D, B ≤ D → D < w.heap.size → w.heap[D]? = some (.deferred (some [])) → w'.heap[D]? = w.heap[D]?) : Marks B ({ target := .collected D, args := #[] } :: ds) w' := by
  obtain ⟨Ds, h1, h2, h3⟩ := h.keep hk
  obtain ⟨Ds0, h1', h2', h3'⟩ := h
  have he : Ds0 = Ds := by
    rw [h1] at h1'
    have : Function.Injective (fun D : Nat => ({ target := .collected D, args := #[] } : Deferred)) := fun a b hab => by simpa using hab
    exact ((List.map_inj_right (fun a b hab => this hab)).1 h1').symm
  subst he
  refine ⟨D :: Ds0, by rw [h1]; rfl, List.nodup_cons.2 ⟨fun hm => ?_, h2⟩, fun E hE => ?_⟩
  · have := (Array.getElem?_eq_some_iff.1 (h3' D hm).2).1
    omega
  · rcases List.mem_cons.1 hE with rfl | hE
    · exact ⟨hB, hD⟩
    · exact h3 E hE
theorem Marks.nil (B : Nat) (w : World) : Marks B [] w := ⟨[], rfl, List.nodup_nil, fun D h => by simp at h⟩
/-- A function leaves with its marks: nothing of what lies below them is touched. -/
theorem marks_leave {F : Fence} {n : Nat} {P : Program} {fn : Func} {tmps : Array Value} {R : Ending → World → Prop} {u : FrameMode} (hu : u ≠ .run) {B : Nat} : ∀ (Ds : List Nat) (w : World), Ds.Nodup → (∀ D ∈ Ds, B ≤ D ∧ w.heap[D]? = some (.deferred (some []))) →
    (∀ w', w'.os = w.os → w'.tape = w.tape → w'.output = w.output → w'.heap.size = w.heap.size → (∀ k, k ∉ Ds → w'.heap[k]? = w.heap[k]?) → LeavesIn F n P fn tmps R [] u w') → LeavesInM F n P fn tmps R (Ds.map (fun D => { target := .collected D, args := #[] })) u w
  | [], w, _, _, h => h w rfl rfl rfl rfl (fun _ _ => rfl)
  | D :: r, w, hn, hD, h => by
    obtain ⟨hn1, hn2⟩ := List.nodup_cons.1 hn
    have h0 := hD D (by simp)
    refine ⟨hu, .inl ⟨D, _, rfl, run_takeDeferred h0.2, ?_⟩⟩
    refine marks_leave hu r _ hn2 (fun E hE => ⟨(hD E (by simp [hE])).1, (World.putObj_heap_other (by rintro rfl; exact hn1 hE)).trans (hD E (by simp [hE])).2⟩) (fun w' h1 h2 h3 h4 h5 => ?_)
    refine h w' h1 h2 h3 (by rw [h4]; simp [World.putObj]) (fun k hk => ?_)
    rw [h5 k (fun hm => hk (by simp [hm]))]
    exact World.putObj_heap_other (by rintro rfl; exact hk (by simp))
theorem Marks.leave {F : Fence} {n : Nat} {P : Program} {fn : Func} {tmps : Array Value} {R : Ending → World → Prop} {u : FrameMode} (hu : u ≠ .run) {B : Nat} {ds : List Deferred} {w : World} (h : Marks B ds w)
    (hR : ∀ w', Below B w w' → (∀ (k : Nat) (cs : Array Value) (ty : TypeId) (fz : Nat × Nat), w.heap[k]? = some (Obj.cells cs ty fz) → w'.heap[k]? = some (Obj.cells cs ty fz)) → LeavesIn F n P fn tmps R [] u w') : LeavesInM F n P fn tmps R ds u w := by
  obtain ⟨Ds, rfl, h2, h3⟩ := h
  refine marks_leave hu Ds w h2 h3 (fun w' e1 e2 e3 e4 e5 => hR w' ⟨e1, e2, e3, by omega, fun k hk => e5 k (fun hm => by have := (h3 k hm).1; omega)⟩ (fun k cs ty fz hk => ?_))
  rw [e5 k (fun hm => by have := (h3 k hm).2; rw [hk] at this; cases this)]
  exact hk
def encI1 (x : Int) : Array Value := #[.int .i64 x]
/-- What a round keeps for the iterator: its box, and the row's block. -/
def KeepB (Bs g : Nat) (A B : World) : Prop := A.heap.size ≤ B.heap.size ∧ B.heap[Bs]? = A.heap[Bs]? ∧ B.heap[g]? = A.heap[g]?
theorem KeepB.trans {Bs g : Nat} {A B C : World} (h : KeepB Bs g A B) (k : KeepB Bs g B C) : KeepB Bs g A C := ⟨Nat.le_trans h.1 k.1, k.2.1.trans h.2.1, k.2.2.trans h.2.2⟩
theorem keepB_b {w4 : World} {Bs g : Nat} (h1 : Bs < w4.heap.size) (h2 : g < w4.heap.size) : ∀ (W : World) (l : Nat) (o o' : Obj), w4.heap.size ≤ l → W.heap[l]? = some o → o.isCells = false → o.isWalk = false → KeepB Bs g W (W.putObj l o') :=
  fun W l o o' hl _ _ _ => ⟨by simp, World.putObj_heap_other (by omega), World.putObj_heap_other (by omega)⟩
/-- Between two rounds of the iterator's loop: k are through. -/
structure VlS (W : World) (xs : List Int) (Bs g : Nat) (J : List Int → World → Prop) (k : Nat) (wr : World) : Prop where
  big : W.heap.size ≤ wr.heap.size
  bs : wr.heap[Bs]? = W.heap[Bs]?
  tb : wr.heap[g]? = W.heap[g]?
  j : J (xs.take k) wr
theorem take_step {xs : List Int} {k : Nat} {x : Int} (h : xs[k]? = some x) : xs.take (k + 1) = xs.take k ++ [x] := by rw [List.take_add_one, h]; rfl
set_option maxRecDepth 100000 in
set_option maxHeartbeats 4000000 in
theorem val1_in (d : Nat) (hd : 1 ≤ d) (y0 Bs g c : Nat) (a : Option Addr) (xs : List Int) (W : World) (J Jx : List Int → World → Prop)
    (hY : ∀ pre y W1, J pre W1 → pre.length < xs.length → YieldAt Fence.wide (d - 1) Tryd.prog y0 (encI1 y) W1 fun e W' =>
      (e = .returned (.bool true) ∧ J (pre ++ [y]) W' ∧ KeepB Bs g W1 W') ∨ (e = .returned (.bool false) ∧ Jx (pre ++ [y]) W'))
    (hB : W.heap[Bs]? = some (.cells #[.slice a xs.length c] 22 (0, 0))) (hT : IntsR W xs a c) (hgW : g < W.heap.size) (hga : ∀ g' o, a = some ⟨g', o, none⟩ → g' = g) (h0 : J [] W) :
    CallsIn Fence.wide d Tryd.prog 34 #[.func (.yield y0) #[] #[], .pointer (some ⟨Bs, 0, none⟩)] W fun e W' => (∃ v, e = .returned v) ∧
      ((∃ ys : List Int, ys = xs ∧ J ys W') ∨ (∃ pre : List Int, pre <+: xs ∧ Jx pre W')) := by
  have HD0 : Hid (VlS W xs Bs g J 0 W) := ⟨Nat.le_refl _, rfl, rfl, h0⟩
  have b0 : W.cell? ⟨Bs, 0, none⟩ = some (.slice a xs.length c) := (cell_of_row _ _ 0 _ _ _ hB).trans rfl
  have bz := (Array.getElem?_eq_some_iff.1 hB).1
  have hcap := hT.le
  have hmx : xs.length ≤ 9223372036854775807 := len_fits hT.le hT.cap
  have HTn : Hid (∀ (wr : World) (k : Nat) (x : Int), wr.heap[g]? = W.heap[g]? → xs[k]? = some x → ∃ o, a = some ⟨g, o, none⟩ ∧ wr.cell? ⟨g, o + k, none⟩ = some (.int .i64 x)) := fun wr k x h hn => by
    obtain ⟨g', o', e, hg, q0⟩ := hT.cell hn
    obtain rfl := hga g' o' e
    exact ⟨o', e, (World.cell?_of_block (a := ⟨g', o' + k, none⟩) h).trans q0⟩
  have HY := Lib.hid hY
  clear hB h0 hY hT hga
  refine callsIn_of_wp Tryd.func34 rfl trivial ?_ rfl
  simp only [Tryd.ntmps34, List.size_toArray, List.length_cons, List.length_nil, Nat.reduceAdd, Nat.reduceSub, Array.replicate_succ, Array.replicate_zero, List.push_toArray, List.append_toArray, List.nil_append, List.cons_append]
  gi_wp2
  clear b0 bz
  gi_loopw [7] (fun i wr => ∃ k : Nat, k ≤ xs.length ∧ i = .int .i64 k ∧ Hid (VlS W xs Bs g J k wr)) (fun i _ => xs.length - (intOf i).toNat)
  case atStart => exact ⟨0, Nat.zero_le _, rfl, HD0⟩
  case round =>
    clear HD0
    obtain ⟨k, hkl, rfl, HD⟩ := hrel
    by_cases hlt : k < xs.length
    · obtain ⟨x, hx⟩ : ∃ x, xs[k]? = some x := ⟨_, List.getElem?_eq_getElem hlt⟩
      obtain ⟨o, rfl, q0⟩ := HTn.out wr k x HD.out.tb hx
      have gz : g < wr.heap.size := Nat.lt_of_lt_of_le hgW HD.out.big
      have hki : (k : Int) < (xs.length : Int) := by omega
      have hplen : (xs.take k).length < xs.length := by rw [List.length_take]; omega
      obtain ⟨fn, tmps, assign, body, hyl, hRn⟩ := HY.out (xs.take k) x wr HD.out.j hplen
      simp only [encI1] at hyl
      have HRn := Lib.hid hRn
      have HPre : Hid (xs.take k ++ [x] = xs.take (k + 1)) := (take_step hx).symm
      clear hRn hx
      gi_wp2
      refine HRn.out.mono ?_
      rintro e W3 (⟨rfl, hJ3, hk3⟩ | ⟨rfl, hJx3⟩)
      · have HD3 : Hid (VlS W xs Bs g J (k + 1) W3) := ⟨Nat.le_trans HD.out.big hk3.1, hk3.2.1.trans HD.out.bs, hk3.2.2.trans HD.out.tb, by rw [← HPre.out]; exact hJ3⟩
        clear hJ3 hk3 hyl q0 gz
        gi_wp2
        go_roundw
        case rel => exact ⟨k + 1, by omega, by go_num, HD3⟩
        case measure => simp [intOf]; omega
      · have HJx3 := Lib.hid hJx3
        clear hJx3 hyl q0 gz
        gi_wp2
        refine bodyPost_ret (results_none rfl _ _ _) rfl ?_
        exact ⟨⟨_, rfl⟩, .inr ⟨_, by rw [HPre.out]; exact List.take_prefix _ _, HJx3.out⟩⟩
    · obtain rfl : k = xs.length := by omega
      have HJ : Hid (J xs wr) := by have h := HD.out.j; rw [List.take_length] at h; exact h
      clear HD
      gi_wp2
      go_end0
      exact ⟨⟨_, rfl⟩, .inl ⟨xs, rfl, HJ.out⟩⟩
theorem val_stops (d : Nat) (hd : 1 ≤ d) (Bs g c : Nat) (a : Option Addr) (xs : List Int) (W0 : World)
    (hB : W0.heap[Bs]? = some (.cells #[.slice a xs.length c] 22 (0, 0))) (hT : IntsR W0 xs a c) (hg : g < W0.heap.size) (hga : ∀ g' o, a = some ⟨g', o, none⟩ → g' = g) :
    SeqStopsK Fence.wide d Tryd.prog 34 #[.pointer (some ⟨Bs, 0, none⟩)] encI1 (KeepB Bs g) (fun ys => ys = xs) (fun pre => pre <+: xs) xs.length W0 := fun y0 J Jx W hWW _ _ hY h0 =>
  val1_in d hd y0 Bs g c a xs W J Jx hY ((hWW.block Bs (Array.getElem?_eq_some_iff.1 hB).1).trans hB) (hT.below hWW) (Nat.lt_of_lt_of_le hg hWW.size) hga h0
theorem own_grown {W W' : World} {base : Nat} {xs : List Int} {v : Value} {row : Option Nat} (h : RowO W base xs v) (hg : W.grownBy W' row) (hr : ∀ r, row = some r → ∃ o : Obj, W.heap[r]? = some o ∧ o.isCells = false) : RowO W' base xs v := by
  refine ⟨h.1, ?_⟩
  rcases h.2 with h1 | ⟨g, cap, cur, e, h1, h2, h3⟩
  · exact .inl h1
  · refine .inr ⟨g, cap, cur, e, h1, (hg.block g (Array.getElem?_eq_some_iff.1 h2).1 (fun e' => ?_)).trans h2, h3⟩
    obtain ⟨o, ho, hc⟩ := hr g e'.symm
    rw [h2] at ho
    cases ho
    cases hc
/-- What the rounds have made: the box holds a row of one's own. -/
def ApI (w : World) (pre : List Int) (W : World) : Prop :=
  Below w.heap.size w W ∧ ∃ v, W.heap[w.heap.size]? = some (.cells #[v] 22 (0, 0)) ∧ RowO W w.heap.size pre v
theorem ApI_own (w : World) (B : Nat) (hB : w.heap.size < B) : OwnFrom B (ApI w) := by
  rintro pre A B' row ⟨h1, v, h2, h3⟩ hg hr
  exact ⟨h1.grown hg h1.size (fun k e => by have := (hr k e).1; omega), v, (hg.block _ (Array.getElem?_eq_some_iff.1 h2).1 (fun e => by have := (hr _ e.symm).1; omega)).trans h2, own_grown h3 hg (fun r e => (hr r e).2)⟩
theorem tI_ne : (22 : Nat) ≠ 3 := by decide
theorem own_ne {W : World} {base b : Nat} {xs : List Int} {v u : Value} (h : RowO W base xs v) (hb : W.heap[b]? = some (.cells #[u] 22 (0, 0))) : ∀ g, v.ownBlock = some g → g ≠ b := fun g hg e => by
  rcases h.2 with ⟨rfl, _⟩ | ⟨g', cap, cur, rfl, _, h2, _⟩
  · cases hg
  · obtain rfl : g' = g := by simpa [Value.ownBlock] using hg
    subst e
    rw [h2] at hb
    have := Option.some.inj hb
    injection this with _ ht _
    exact tI_ne ht.symm
theorem set_one {w : World} {b : Nat} {t : TypeId} {z v : Value} (h : w.heap[b]? = some (.cells #[z] t (0, 0))) : (w.setCell ⟨b, 0, none⟩ v).heap[b]? = some (.cells #[v] t (0, 0)) := by
  simp [World.setCell, Array.getElem?_modify, h]
theorem box_frozen {w : World} {b : Nat} {t : TypeId} {z : Value} (h : w.heap[b]? = some (.cells #[z] t (0, 0))) : w.frozen? ⟨b, 0, none⟩ = false := by
  simp [World.frozen?, h]
theorem own_heap1 {W W' : World} {base : Nat} {xs : List Int} {v : Value} (h : RowO W base xs v) (hk : ∀ g, v.ownBlock = some g → W'.heap[g]? = W.heap[g]?) : RowO W' base xs v := by
  refine ⟨h.1, ?_⟩
  rcases h.2 with h1 | ⟨g, cap, cur, rfl, h1, h2, h3⟩
  · exact .inl h1
  · exact .inr ⟨g, cap, cur, rfl, h1, (hk g rfl).trans h2, h3⟩
theorem own_cells {W W' : World} {base : Nat} {xs : List Int} {v : Value} (h : RowO W base xs v) (hc : ∀ (k : Nat) (cs : Array Value) (t : TypeId) (fr : Nat × Nat), W.heap[k]? = some (.cells cs t fr) → W'.heap[k]? = some (.cells cs t fr)) : RowO W' base xs v := by
  refine ⟨h.1, ?_⟩
  rcases h.2 with h1 | ⟨g, cap, cur, rfl, h1, h2, h3⟩
  · exact .inl h1
  · exact .inr ⟨g, cap, cur, rfl, h1, hc _ _ _ _ h2, h3⟩
set_option maxRecDepth 100000 in
set_option maxHeartbeats 4000000 in
theorem AppSeq_in (xs : List Int) (a : Option Addr) (c Bs : Nat) (w : World) (hm : xs.length ≤ 5000) (hT : IntsR w xs a c) (hB : w.heap[Bs]? = some (.cells #[.slice a xs.length c] 22 (0, 0))) :
    CallsIn Fence.wide 8 Tryd.prog 46 #[.slice none 0 0, .func (.func 34) #[] #[.pointer (some ⟨Bs, 0, none⟩)]] w fun e w' => ∃ v, e = .returned v ∧ RowO w' w.heap.size xs v ∧ Below w.heap.size w w' := by
  have hbz := (Array.getElem?_eq_some_iff.1 hB).1
  obtain ⟨g, hg, hga⟩ : ∃ g, g < w.heap.size ∧ ∀ g' o, a = some ⟨g', o, none⟩ → 0 < xs.length → g' = g := by
    by_cases h0 : 0 < xs.length
    · obtain ⟨g, o, e, hg, _⟩ := hT.tat (by simpa using h0)
      exact ⟨g, hg, fun g' o' e' _ => by rw [e] at e'; cases e'; rfl⟩
    · exact ⟨Bs, hbz, fun _ _ _ h => absurd h h0⟩
  obtain ⟨i0, hi_, hz0, hz1, hz2⟩ := info_parts info_int
  obtain ⟨w4, hw4⟩ : ∃ w4, w.alloc (.cells #[.slice none 0 0] 22) = w4 := ⟨_, rfl⟩
  have hb4 : Below w.heap.size w w4 := by rw [← hw4]; exact (Below.refl _ w).alloc (Nat.le_refl _) _
  have hs4 : w4.heap.size = w.heap.size + 1 := by rw [← hw4]; simp
  have hx4 : w4.heap[w.heap.size]? = some (.cells #[.slice none 0 0] 22 (0, 0)) := by rw [← hw4]; exact heap_alloc_new w _
  have HB4 := Lib.hid hb4
  have hk4 : w4.heap[Bs]? = some (.cells #[.slice a xs.length c] 22 (0, 0)) := (hb4.block Bs hbz).trans hB
  have hd : 1 ≤ 8 := by omega
  have HT4 : Hid (IntsR w4 xs a c) := hT.below hb4
  have hseq : SeqStopsK Fence.wide 7 Tryd.prog 34 #[.pointer (some ⟨Bs, 0, none⟩)] encI1 (KeepB Bs g) (fun ys => ys = xs) (fun pre => pre <+: xs) xs.length w4 := by
    by_cases h0 : 0 < xs.length
    · exact val_stops 7 (by omega) Bs g c a xs w4 hk4 HT4.out (by omega) (fun g' o e => hga g' o e h0)
    · have hxs : xs = [] := List.eq_nil_of_length_eq_zero (by omega)
      intro y0 J Jx W hWW _ _ hY hJ0
      subst hxs
      have hkW : W.heap[Bs]? = some (.cells #[.slice a 0 c] 22 (0, 0)) := (hWW.block Bs (by omega)).trans hk4
      have b0 : W.cell? ⟨Bs, 0, none⟩ = some (.slice a 0 c) := (cell_of_row _ _ 0 _ _ _ hkW).trans rfl
      have bz := (Array.getElem?_eq_some_iff.1 hkW).1
      have HJ := Lib.hid hJ0
      clear hY hJ0 hkW hk4 hx4 HT4 HB4 hb4 hT hB
      show CallsIn Fence.wide 7 Tryd.prog 34 #[.func (.yield y0) #[] #[], .pointer (some ⟨Bs, 0, none⟩)] W _
      refine callsIn_of_wp Tryd.func34 rfl trivial ?_ rfl
      simp only [Tryd.ntmps34, List.size_toArray, List.length_cons, List.length_nil, Nat.reduceAdd, Nat.reduceSub, Array.replicate_succ, Array.replicate_zero, List.push_toArray, List.append_toArray, List.nil_append, List.cons_append]
      gi_wp2
      clear b0 bz
      gi_loopw [7] (fun i wr => i = .int .i64 0 ∧ Hid (J [] wr)) (fun _ _ => 0)
      case atStart => exact ⟨rfl, HJ⟩
      case round =>
        clear HJ
        obtain ⟨rfl, HJ⟩ := hrel
        gi_wp2
        go_end0
        exact ⟨⟨_, rfl⟩, .inl ⟨[], rfl, HJ.out⟩⟩
  have HI0 : ApI w [] w4 := ⟨hb4, _, hx4, ⟨rfl, .inl ⟨rfl, rfl⟩⟩⟩
  clear hT hB hb4 hk4 hx4
  refine callsIn_of_wp_marks Tryd.func46 rfl trivial ?_ rfl
  simp only [Tryd.ntmps46, List.size_toArray, List.length_cons, List.length_nil, Nat.reduceAdd, Nat.reduceSub, Array.replicate_succ, Array.replicate_zero, List.push_toArray, List.append_toArray, List.nil_append, List.cons_append]
  gi_wp2
  clear hw4
  refine wpIn_rangeFunc_ownH rfl hd (gf := 34) (lb := #[.pointer (some ⟨Bs, 0, none⟩)]) rfl trivial (enters_of Tryd.func34 (by kernel_rfl) rfl)
    hseq (fun h k => h.trans k) (keepB_b (by omega) (by omega)) (Below.refl _ _) (fun _ => rfl)
    (ApI w) (fun _ _ _ => False) (ApI_own w _ (by omega)) (fun _ _ _ _ _ hs _ _ => hs) HI0
    (fun x a' _ => a' = { tmps := #[.slice none 0 0, .func (.func 34) #[] #[.pointer (some ⟨Bs, 0, none⟩)], .pointer (some ⟨w.heap.size, 0, none⟩), undef, .slice none 0 0, .int .i64 x, .func (.func 34) #[] #[.pointer (some ⟨Bs, 0, none⟩)], .int .i64 x, undef, undef, undef, undef, undef], defers := [] }) (fun x a' _ _ _ _ hs _ _ => hs) ?assign ?body ?done ?stop
  case assign =>
    rintro l' pre x W K hI hK
    simp only [encI1]
    gi_wp2
    exact hK _ _ (KeepsFrom.refl _ _) ⟨Nat.le_refl _, rfl, rfl⟩ hI rfl
  case body =>
    rintro l' pre x a' V hl' _ hI rfl hlen
    obtain ⟨hbV, v, hv, hrow⟩ := hI
    obtain ⟨W5, hW5⟩ : ∃ W5, V.alloc (.cells #[.int .i64 x] 3) = W5 := ⟨_, rfl⟩
    have h5 : Below V.heap.size V W5 := by rw [← hW5]; exact (Below.refl _ V).alloc (Nat.le_refl _) _
    have hv5 : W5.heap[w.heap.size]? = some (.cells #[v] 22 (0, 0)) := (h5.block _ (Array.getElem?_eq_some_iff.1 hv).1).trans hv
    have hrow5 : RowO W5 w.heap.size pre v := hrow.keep h5
    have hnew5 : W5.heap[V.heap.size]? = some (.cells #[.int .i64 x] 3 (0, 0)) := by rw [← hW5]; exact heap_alloc_new V _
    have hsz5 : w.heap.size ≤ W5.heap.size := Nat.le_trans hbV.size h5.size
    have c0 : V.cell? ⟨w.heap.size, 0, none⟩ = some v := (cell_of_row _ _ 0 _ _ _ hv).trans rfl
    have cz := (Array.getElem?_eq_some_iff.1 hv).1
    have HKp := Lib.hid (show ∀ W', Below w.heap.size w W' → V.heap.size ≤ W'.heap.size → KeepB Bs g V W' from fun W' h hs => ⟨hs, (h.block _ hbz).trans (hbV.block _ hbz).symm, (h.block _ hg).trans (hbV.block _ hg).symm⟩)
    have HV := Lib.hid hbV
    have hpl : pre.length + 1 ≤ 6000 := by omega
    have H5 := Lib.hid (And.intro h5 (And.intro hv5 hrow5))
    have hnews : ∀ j u, ([Value.int .i64 x])[j]? = some u → W5.cell? ((⟨V.heap.size, 0, none⟩ : Addr).add j) = some u := World.news_of_block (B := V.heap.size) (cs := #[.int .i64 x]) (t := 3) (fr := (0, 0)) hnew5
    clear hbV hv hrow hv5 hnew5 h5
    gi_wp2_with (gi_at_builtin; refine wpListIn_append_own_at _ rfl _ _ 22 rfl w.heap.size 3 i0 _ 1 8 Tryd.underlying22 hi_ hz0 hz1 hz2 rfl (by decide) v pre.length (pre.map (Value.int .i64)) (by rfl) hrow5 ⟨V.heap.size, 0, none⟩ 1 1 [.int .i64 x] (by rfl) rfl hnews (by simp [Value.oneCell']) (by simp only [maxLen]; omega) (by omega) hsz5 ?_)
    intro v6 W6 hr6 hg6 hn6 ho6
    clear hn6 ho6 hrow5 hnews c0 cz hsz5
    obtain ⟨h5, hv5, hrow5⟩ := H5.out
    have hr6' : RowO W6 w.heap.size (pre ++ [x]) v6 := by
      unfold RowO
      rw [List.length_append, List.map_append]
      exact hr6
    obtain ⟨a6, c6, e6, _, _, _, _⟩ := own_at hr6
    have hv6 : W6.heap[w.heap.size]? = some (.cells #[v] 22 (0, 0)) := (hg6.block _ (Array.getElem?_eq_some_iff.1 hv5).1 (fun e => own_ne hrow5 hv5 _ e.symm rfl)).trans hv5
    have hb6 : Below w.heap.size w W6 := ((HV.out.trans (h5.mono HV.out.size))).grown hg6 (Nat.le_trans HV.out.size h5.size) (fun k e => (own_lt hrow5 e).1)
    have hko : KeepsOthers W5 W6 := KeepsOthers.of_grownBy hg6 (fun j o e ho => by
      rcases hrow5.2 with ⟨rfl, _⟩ | ⟨g', cap, cur, rfl, _, h2, _⟩
      · cases e
      · obtain rfl : g' = j := by simpa [Value.ownBlock] using e
        rw [h2] at ho
        cases ho
        rfl)
    subst e6
    obtain ⟨W7, hW7⟩ : ∃ W7, W6.setCell ⟨w.heap.size, 0, none⟩ (.slice a6 (pre.length + 1) c6) = W7 := ⟨_, rfl⟩
    have HP : Hid (KeepsFrom w4.heap.size V W7 ∧ KeepB Bs g V W7 ∧ ApI w (pre ++ [x]) W7) := by
      show _ ∧ _ ∧ _
      have hb7 : Below w.heap.size w W7 := by rw [← hW7]; exact hb6.setCell (Nat.le_refl _) _
      have hs7 : W7.heap.size = W6.heap.size := by rw [← hW7]; simp [World.setCell]
      refine ⟨KeepsOthers.from ?_ _, HKp.out W7 hb7 (by rw [hs7]; exact Nat.le_trans h5.size hg6.size), hb7, .slice a6 (pre.length + 1) c6, ?_, ?_⟩
      · rw [← hW7]
        exact ((show KeepsOthers V W5 from by rw [← hW5]; exact KeepsOthers.alloc _ _).trans hko).trans (KeepsOthers.setCell _ _ _)
      · rw [← hW7]
        exact set_one hv6
      · refine own_heap1 hr6' (fun g' hg' => ?_)
        rw [← hW7]
        exact Below.heap_setCell _ _ _ _ (own_ne hr6' hv6 g' hg')
    have c6' : W6.cell? ⟨w.heap.size, 0, none⟩ = some v := (cell_of_row _ _ 0 _ _ _ hv6).trans rfl
    have f6 : W6.frozen? ⟨w.heap.size, 0, none⟩ = false := box_frozen hv6
    have z6 := (Array.getElem?_eq_some_iff.1 hv6).1
    clear hv6 hb6 hko hr6' hr6 hg6 H5 h5 hv5 hrow5
    gi_wp2
    exact HP.out
  case done =>
    rintro D ys W hD rfl hI hK
    obtain ⟨hbW, v, hv, hrow⟩ := hI
    have c0 : W.cell? ⟨w.heap.size, 0, none⟩ = some v := (cell_of_row _ _ 0 _ _ _ hv).trans rfl
    have cz := (Array.getElem?_eq_some_iff.1 hv).1
    have HM : Hid (Marks (w.heap.size + 1) [{ target := .collected D, args := #[] }] W) := by
      refine ⟨[D], rfl, by simp, fun E hE => ?_⟩
      obtain rfl : E = D := by simpa using hE
      exact ⟨by omega, hK⟩
    have HH := Lib.hid (And.intro hbW hrow)
    clear hbW hv hrow hK
    gi_wp2
    refine Marks.leave (by simp) HM.out (fun w' hb hc => ?_)
    exact ⟨_, results_tmp rfl _ _ _, _, rfl, own_cells HH.out.2 hc, HH.out.1.trans (hb.mono (by omega))⟩
  case stop =>
    rintro D c' pre W _ _ h _
    exact h.elim
theorem Values_any (a : Option Addr) (n c : Nat) (w : World) : Calls Tryd.prog 19 #[.slice a n c] w fun e w' => e = .returned (.func (.func 34) #[] #[.pointer (some ⟨w.heap.size, 0, none⟩)]) ∧ w.alloc (.cells #[.slice a n c] 22) = w' := by
  go_enter Tryd.func19, Tryd.ntmps19
  go_wp2
  go_ret
  exact ⟨rfl, rfl⟩
theorem Collect_any (xs : List Int) (a : Option Addr) (c Bs : Nat) (w : World) (hm : xs.length ≤ 5000) (hT : IntsR w xs a c) (hB : w.heap[Bs]? = some (.cells #[.slice a xs.length c] 22 (0, 0))) :
    Calls Tryd.prog 33 #[.func (.func 34) #[] #[.pointer (some ⟨Bs, 0, none⟩)]] w fun e w' => ∃ v, e = .returned v ∧ RowO w' w.heap.size xs v ∧ Below w.heap.size w w' := by
  have HA : Hid (Calls Tryd.prog 46 #[.slice none 0 0, .func (.func 34) #[] #[.pointer (some ⟨Bs, 0, none⟩)]] w fun e w' => ∃ v, e = .returned v ∧ RowO w' w.heap.size xs v ∧ Below w.heap.size w w') := callsIn_wide.1 (AppSeq_in xs a c Bs w hm hT hB)
  clear hT hB
  go_enter Tryd.func33, Tryd.ntmps33
  go_wp2_with fail
  refine HA.out.mono ?_
  rintro e w1 ⟨v, rfl, hr, hb⟩
  have HR := Lib.hid (And.intro hr hb)
  clear hr hb
  go_wp2
  go_ret
  exact ⟨_, rfl, HR.out.1, HR.out.2⟩
theorem Sorted_any (xs : List Int) (a : Option Addr) (c Bs : Nat) (w : World) (hm : xs.length ≤ 5000) (hT : IntsR w xs a c) (hB : w.heap[Bs]? = some (.cells #[.slice a xs.length c] 22 (0, 0))) :
    Calls Tryd.prog 18 #[.func (.func 34) #[] #[.pointer (some ⟨Bs, 0, none⟩)]] w fun e w' => ∃ v, e = .returned v ∧ RowO w' w.heap.size (xs.mergeSort fun x y => decide (x ≤ y)) v ∧ Below w.heap.size w w' := by
  have HC : Hid (Calls Tryd.prog 33 #[.func (.func 34) #[] #[.pointer (some ⟨Bs, 0, none⟩)]] w fun e w' => ∃ v, e = .returned v ∧ Hid (RowO w' w.heap.size xs v) ∧ Hid (Below w.heap.size w w')) := Collect_any xs a c Bs w hm hT hB
  have HS : Hid (∀ V v, Below w.heap.size w V → RowO V w.heap.size xs v → Calls Tryd.prog 31 #[v] V fun e w' => e = .returned (.tuple #[]) ∧ Hid (RowO w' w.heap.size (xs.mergeSort fun x y => decide (x ≤ y)) v) ∧ Hid (Below w.heap.size w w')) := fun V v hV hr => (sort_any xs v w.heap.size V hr hV.size (by omega)).mono fun e w' ⟨h1, h2, h3⟩ => ⟨h1, h2, hV.trans h3⟩
  clear hT hB
  go_enter Tryd.func18, Tryd.ntmps18
  go_wp2_with (first
    | (go_at_call 33; refine HC.out.mono ?_; rintro e w1 ⟨v1, rfl, HR1, HB1⟩)
    | (go_at_call 31; refine (HS.out _ _ HB1.out HR1.out).mono ?_; rintro e w3 ⟨rfl, HR3, HB3⟩))
  go_ret
  exact ⟨_, rfl, HR3.out, HB3.out⟩
end Go.Proofs.YtbjplhbflbabjaaDoor.Tm
