/- The heap of nodes in memory. -/
import Derived.Test.YtmgppnepccmceaaHpB
import Derived.BigRegion
import Derived.RegionTactic
namespace Go.Proofs.Ytmgppnepccmceaa
open Go.RowKit
set_option linter.unusedVariables false
/-- A place in a list put together of pieces of one length. -/
theorem get_flat {α : Type} {f : α → List Value} {n : Nat} (hn : ∀ x, (f x).length = n) : ∀ (l : List α) (k j : Nat) (x : α), l[k]? = some x → j < n → (l.flatMap f)[k * n + j]? = (f x)[j]?
  | [], k, j, x, h, _ => by simp at h
  | y :: r, 0, j, x, h, hj => by
    simp at h
    subst h
    simp only [List.flatMap_cons, Nat.zero_mul, Nat.zero_add]
    exact List.getElem?_append_left (by rw [hn]; exact hj)
  | y :: r, k + 1, j, x, h, hj => by
    simp only [List.flatMap_cons]
    rw [List.getElem?_append_right (by rw [hn, Nat.succ_mul]; omega), hn]
    have e : (k + 1) * n + j - n = k * n + j := by rw [Nat.succ_mul]; omega
    rw [e]
    exact get_flat hn r k j x (by simpa using h) hj
theorem len_flat {α : Type} {f : α → List Value} {n : Nat} (hn : ∀ x, (f x).length = n) : ∀ (l : List α), (l.flatMap f).length = l.length * n
  | [] => by simp
  | y :: r => by simp only [List.flatMap_cons, List.length_append, hn, len_flat hn r, List.length_cons, Nat.succ_mul]; omega

def entV (A : List Int) (pl : Nat → Int) (i : Nat) : List Value := [.int .i32 i, .int .i64 (A.getD i 0), .int .i32 (pl i)]
def entC (A : List Int) (pl : Nat → Int) : List Value := (List.range A.length).flatMap (entV A pl)
theorem entC_len (A : List Int) (pl : Nat → Int) : (entC A pl).length = A.length * 3 := by unfold entC; rw [len_flat (n := 3) (fun _ => rfl), List.length_range]
theorem entC_get {A : List Int} {pl : Nat → Int} {x j : Nat} (hx : x < A.length) (hj : j < 3) : (entC A pl)[x * 3 + j]? = (entV A pl x)[j]? :=
  get_flat (n := 3) (fun _ => rfl) _ _ _ _ (List.getElem?_range hx) hj
theorem ent_ext {A B : List Int} {pm : Nat → Int} {l : List Value} (hl : l.length = A.length * 3) (hAB : A.length = B.length) (h : ∀ x j, x < A.length → j < 3 → l[x * 3 + j]? = (entV B pm x)[j]?) : l = entC B pm := by
  apply List.ext_getElem?
  intro i
  by_cases hi : i < A.length * 3
  · have e : i = i / 3 * 3 + i % 3 := by omega
    rw [e, h _ _ (by omega) (by omega), entC_get (by omega) (by omega)]
  · rw [List.getElem?_eq_none (by omega), List.getElem?_eq_none (by rw [entC_len]; omega)]
theorem entC_setp {A : List Int} {pl : Nat → Int} {x : Nat} (v : Int) (hx : x < A.length) : (entC A pl).set (x * 3 + 2) (.int .i32 v) = entC A (fun y => if y = x then v else pl y) := by
  refine ent_ext (A := A) (by rw [List.length_set, entC_len]) rfl (fun y j hy hj => ?_)
  rw [List.getElem?_set]
  by_cases e : x * 3 + 2 = y * 3 + j
  · obtain rfl : y = x := by omega
    obtain rfl : j = 2 := by omega
    rw [if_pos rfl, if_pos (by rw [entC_len]; omega)]
    show _ = some (Value.int .i32 (if y = y then v else pl y))
    rw [if_pos rfl]
  · rw [if_neg e, entC_get hy hj]
    unfold entV
    rcases (show j = 0 ∨ j = 1 ∨ j = 2 by omega) with rfl | rfl | rfl
    · rfl
    · rfl
    · show some (Value.int .i32 (pl y)) = some (Value.int .i32 (if y = x then v else pl y))
      rw [if_neg (by omega)]
theorem getD_set {A : List Int} {x y : Nat} {v : Int} (hx : x < A.length) : (A.set x v).getD y 0 = if y = x then v else A.getD y 0 := by
  rw [List.getD_eq_getElem?_getD, List.getElem?_set]
  by_cases e : x = y
  · subst e; rw [if_pos rfl, if_pos rfl, if_pos hx]; rfl
  · rw [if_neg e, if_neg (fun h => e h.symm), List.getD_eq_getElem?_getD]
theorem entC_seta {A : List Int} {pl : Nat → Int} {x : Nat} (v : Int) (hx : x < A.length) : (entC A pl).set (x * 3 + 1) (.int .i64 v) = entC (A.set x v) pl := by
  refine ent_ext (A := A) (by rw [List.length_set, entC_len]) (by rw [List.length_set]) (fun y j hy hj => ?_)
  rw [List.getElem?_set]
  by_cases e : x * 3 + 1 = y * 3 + j
  · obtain rfl : y = x := by omega
    obtain rfl : j = 1 := by omega
    rw [if_pos rfl, if_pos (by rw [entC_len]; omega)]
    show _ = some (Value.int .i64 ((A.set y v).getD y 0))
    rw [getD_set hx, if_pos rfl]
  · rw [if_neg e, entC_get hy hj]
    unfold entV
    rcases (show j = 0 ∨ j = 1 ∨ j = 2 by omega) with rfl | rfl | rfl
    · rfl
    · show some (Value.int .i64 (A.getD y 0)) = some (Value.int .i64 ((A.set x v).getD y 0))
      rw [getD_set hx, if_neg (by omega)]
    · rfl
theorem entC_congr {A : List Int} {pl pm : Nat → Int} (h : ∀ x, x < A.length → pl x = pm x) : entC A pl = entC A pm := by
  refine ent_ext (A := A) (by rw [entC_len]) rfl (fun y j hy hj => ?_)
  rw [entC_get hy hj]
  unfold entV
  rw [h y hy]
/-- A world that grew: all old blocks of P are as they were. -/
structure Gr (P : Nat → Prop) (w w' : World) : Prop where
  os : w'.os = w.os
  tape : w'.tape = w.tape
  output : w'.output = w.output
  size : w.heap.size ≤ w'.heap.size
  keep : ∀ k, k < w.heap.size → P k → w'.heap[k]? = w.heap[k]?
theorem Gr.refl (P : Nat → Prop) (w : World) : Gr P w w := ⟨rfl, rfl, rfl, Nat.le_refl _, fun _ _ _ => rfl⟩
theorem Gr.trans {P : Nat → Prop} {u v w : World} (h : Gr P u v) (k : Gr P v w) : Gr P u w :=
  ⟨k.os.trans h.os, k.tape.trans h.tape, k.output.trans h.output, Nat.le_trans h.size k.size, fun i hi hp => (k.keep i (Nat.lt_of_lt_of_le hi h.size) hp).trans (h.keep i hi hp)⟩
theorem Gr.mono {P Q : Nat → Prop} {u v : World} (h : Gr P u v) (hPQ : ∀ k, k < u.heap.size → Q k → P k) : Gr Q u v := ⟨h.os, h.tape, h.output, h.size, fun k hk hq => h.keep k hk (hPQ k hk hq)⟩
theorem Gr.drewN {P : Nat → Prop} {u w : World} (h : Gr P u w) (n : Nat) : Gr P u (w.drewN n) := ⟨h.os, h.tape, h.output, h.size, h.keep⟩
theorem Gr.drew {P : Nat → Prop} {u w : World} (h : Gr P u w) : Gr P u w.drew := ⟨h.os, h.tape, h.output, h.size, h.keep⟩
theorem Gr.grow {P : Nat → Prop} {u w : World} (h : Gr P u w) (os : Array Obj) : Gr P u (Sort.grow w os) :=
  ⟨h.os, h.tape, h.output, by rw [Sort.size_grow]; have := h.size; omega, fun k hk hp => (Sort.heap_grow_old w os (Nat.lt_of_lt_of_le hk h.size)).trans (h.keep k hk hp)⟩
theorem Gr.set {P : Nat → Prop} {u w : World} (h : Gr P u w) {g o : Nat} (hg : g < u.heap.size → ¬ P g) (v : Value) : Gr P u (w.setCell ⟨g, o, none⟩ v) :=
  ⟨h.os, h.tape, h.output, by simpa using h.size, fun k hk hp => (Below.heap_setCell _ _ _ _ (fun e => hg (by subst e; exact hk) (by subst e; exact hp))).trans (h.keep k hk hp)⟩
theorem Gr.alloc {P : Nat → Prop} {u w : World} (h : Gr P u w) (o : Obj) : Gr P u (w.alloc o) :=
  ⟨h.os, h.tape, h.output, by simp; have := h.size; omega, fun k hk hp => (Below.heap_alloc w o k (Nat.lt_of_lt_of_le hk h.size)).trans (h.keep k hk hp)⟩
theorem Gr.of_below {P : Nat → Prop} {w w' : World} (h : Below w.heap.size w w') : Gr P w w' := ⟨h.os, h.tape, h.output, h.size, fun k hk _ => h.block k hk⟩
theorem Gr.below {P : Nat → Prop} {w w' : World} {n : Nat} (h : Gr P w w') (hn : n ≤ w.heap.size) (hP : ∀ k, k < n → P k) : Below n w w' := ⟨h.os, h.tape, h.output, h.size, fun k hk => h.keep k (by omega) (hP k hk)⟩
/-- All blocks but a heap's own. -/
def Oth (t nb ib : Nat) (k : Nat) : Prop := k ≠ t ∧ k ≠ nb ∧ k ≠ ib
def ptrE (nb x : Nat) : Value := .pointer (some ⟨nb, x * 3, none⟩)
/-- The heap at h: its tree at t, its nodes at nb with activities A and places pl, those that are in at ib: L. -/
structure HX (w : World) (h t nb ib : Nat) (A : List Int) (pl : Nat → Int) (L : List Nat) : Prop where
  hd : w.heap[h]? = some (.cells #[.pointer (some ⟨t, 0, none⟩)] 56 (0, 0))
  tr : w.heap[t]? = some (.cells #[.slice (some ⟨nb, 0, none⟩) A.length A.length, .slice (some ⟨ib, 0, none⟩) L.length A.length] 49 (0, 0))
  nd : w.heap[nb]? = some (.cells ⟨entC A pl⟩ 54 (0, 0))
  row : ∃ sp, w.heap[ib]? = some (.cells ⟨L.map (ptrE nb) ++ sp⟩ 60 (0, 0)) ∧ L.length + sp.length = A.length
  le : A.length ≤ 300
  lt : ∀ x ∈ L, x < A.length
  act : ∀ a ∈ A, 0 ≤ a ∧ a ≤ 1099511627776
theorem type_ne {w : World} {g g' : Nat} {c c' : Array Value} {t t' : TypeId} {f f' : Nat × Nat} (h : w.heap[g]? = some (.cells c t f)) (h' : w.heap[g']? = some (.cells c' t' f')) (ht : t ≠ t') : g ≠ g' := fun e => by
  rw [e, h'] at h
  cases h
  exact ht rfl
section
variable {w : World} {h t nb ib : Nat} {A : List Int} {pl : Nat → Int} {L : List Nat}
theorem HX.lens (H : HX w h t nb ib A pl L) : L.length ≤ A.length := by obtain ⟨sp, _, e⟩ := H.row; omega
theorem HX.blk (H : HX w h t nb ib A pl L) : h < w.heap.size ∧ t < w.heap.size ∧ nb < w.heap.size ∧ ib < w.heap.size := by
  obtain ⟨sp, e, _⟩ := H.row
  exact ⟨(Array.getElem?_eq_some_iff.1 H.hd).1, (Array.getElem?_eq_some_iff.1 H.tr).1, (Array.getElem?_eq_some_iff.1 H.nd).1, (Array.getElem?_eq_some_iff.1 e).1⟩
theorem HX.ne (H : HX w h t nb ib A pl L) : h ≠ t ∧ h ≠ nb ∧ h ≠ ib ∧ t ≠ nb ∧ t ≠ ib ∧ nb ≠ ib := by
  obtain ⟨sp, e, _⟩ := H.row
  exact ⟨type_ne H.hd H.tr (by decide), type_ne H.hd H.nd (by decide), type_ne H.hd e (by decide), type_ne H.tr H.nd (by decide), type_ne H.tr e (by decide), type_ne H.nd e (by decide)⟩
theorem HX.gr {P : Nat → Prop} {w' : World} (H : HX w h t nb ib A pl L) (g : Gr P w w') (h1 : P h) (h2 : P t) (h3 : P nb) (h4 : P ib) : HX w' h t nb ib A pl L := by
  obtain ⟨b1, b2, b3, b4⟩ := H.blk
  obtain ⟨sp, e, e2⟩ := H.row
  exact ⟨(g.keep h b1 h1).trans H.hd, (g.keep t b2 h2).trans H.tr, (g.keep nb b3 h3).trans H.nd, ⟨sp, (g.keep ib b4 h4).trans e, e2⟩, H.le, H.lt, H.act⟩
theorem HX.grown (H : HX w h t nb ib A pl L) (q : Nat) (os : Array Obj) : HX (Sort.grow (w.drewN q) os) h t nb ib A pl L :=
  H.gr (P := fun _ => True) (((Gr.refl _ w).drewN q).grow os) trivial trivial trivial trivial
theorem HX.drew (H : HX w h t nb ib A pl L) : HX w.drew h t nb ib A pl L := H.gr (P := fun _ => True) (Gr.refl _ w).drew trivial trivial trivial trivial
theorem HX.drewN (H : HX w h t nb ib A pl L) (q : Nat) : HX (w.drewN q) h t nb ib A pl L := H.gr (P := fun _ => True) ((Gr.refl _ w).drewN q) trivial trivial trivial trivial
theorem HX.below (H : HX w h t nb ib A pl L) {w' : World} (hb : Below w.heap.size w w') : HX w' h t nb ib A pl L := H.gr (P := fun _ => True) (Gr.of_below hb) trivial trivial trivial trivial
theorem HX.cell (H : HX w h t nb ib A pl L) {x j : Nat} {v : Value} (hx : x < A.length) (hj : j < 3) (hv : (entV A pl x)[j]? = some v) : w.cell? ⟨nb, x * 3 + j, none⟩ = some v ∧ w.frozen? ⟨nb, x * 3 + j, none⟩ = false := by
  refine ⟨?_, by simp [World.frozen?, H.nd]⟩
  rw [cell_of_row w nb _ _ _ _ H.nd, ← Array.getElem?_toList]
  show (entC A pl)[x * 3 + j]? = _
  rw [entC_get hx hj]
  exact hv
theorem HX.id (H : HX w h t nb ib A pl L) {x : Nat} (hx : x < A.length) : w.cell? ⟨nb, x * 3, none⟩ = some (.int .i32 x) := (H.cell (j := 0) hx (by omega) rfl).1
theorem HX.ac (H : HX w h t nb ib A pl L) {x : Nat} (hx : x < A.length) : w.cell? ⟨nb, x * 3 + 1, none⟩ = some (.int .i64 (A.getD x 0)) := (H.cell (j := 1) hx (by omega) rfl).1
theorem HX.pc (H : HX w h t nb ib A pl L) {x : Nat} (hx : x < A.length) : w.cell? ⟨nb, x * 3 + 2, none⟩ = some (.int .i32 (pl x)) := (H.cell (j := 2) hx (by omega) rfl).1
theorem HX.inc (H : HX w h t nb ib A pl L) {p : Nat} (hp : p < L.length) : w.cell? ⟨ib, p, none⟩ = some (.pointer (some ⟨nb, nodeAt L p * 3, none⟩)) ∧ w.frozen? ⟨ib, p, none⟩ = false := by
  obtain ⟨sp, e, _⟩ := H.row
  refine ⟨?_, by simp [World.frozen?, e]⟩
  rw [cell_of_row w ib _ _ _ _ e, ← Array.getElem?_toList]
  show (L.map (ptrE nb) ++ sp)[p]? = _
  rw [List.getElem?_append_left (by rw [List.length_map]; exact hp), List.getElem?_map, nodeAt_get hp]
  rfl
theorem HX.tree (H : HX w h t nb ib A pl L) : w.cell? ⟨t, 0, none⟩ = some (.slice (some ⟨nb, 0, none⟩) A.length A.length) ∧ w.cell? ⟨t, 1, none⟩ = some (.slice (some ⟨ib, 0, none⟩) L.length A.length) ∧ w.frozen? ⟨t, 1, none⟩ = false := by
  refine ⟨?_, ?_, by simp [World.frozen?, H.tr]⟩
  · rw [cell_of_row w t _ _ _ _ H.tr]; rfl
  · rw [cell_of_row w t _ _ _ _ H.tr]; rfl
theorem HX.head (H : HX w h t nb ib A pl L) : w.cell? ⟨h, 0, none⟩ = some (.pointer (some ⟨t, 0, none⟩)) := by
  rw [cell_of_row w h _ _ _ _ H.hd]; rfl
theorem HX.setP (H : HX w h t nb ib A pl L) {x : Nat} (hx : x < A.length) (v : Int) : HX (w.setCell ⟨nb, x * 3 + 2, none⟩ (.int .i32 v)) h t nb ib A (fun y => if y = x then v else pl y) L := by
  obtain ⟨n1, n2, n3, n4, n5, n6⟩ := H.ne
  obtain ⟨sp, e, e2⟩ := H.row
  refine ⟨(Below.heap_setCell _ _ _ _ n2).trans H.hd, (Below.heap_setCell _ _ _ _ n4).trans H.tr, (heap_setCell_same w nb _ _ _ _ H.nd).trans ?_, ⟨sp, (Below.heap_setCell _ _ _ _ (Ne.symm n6)).trans e, e2⟩, H.le, H.lt, H.act⟩
  rw [List.setIfInBounds_toArray, entC_setp v hx]
theorem HX.setA (H : HX w h t nb ib A pl L) {x : Nat} (hx : x < A.length) {v : Int} (h0 : 0 ≤ v) (h1 : v ≤ 1099511627776) : HX (w.setCell ⟨nb, x * 3 + 1, none⟩ (.int .i64 v)) h t nb ib (A.set x v) pl L := by
  obtain ⟨n1, n2, n3, n4, n5, n6⟩ := H.ne
  obtain ⟨sp, e, e2⟩ := H.row
  refine ⟨(Below.heap_setCell _ _ _ _ n2).trans H.hd, (Below.heap_setCell _ _ _ _ n4).trans (by rw [List.length_set]; exact H.tr), (heap_setCell_same w nb _ _ _ _ H.nd).trans ?_, ⟨sp, (Below.heap_setCell _ _ _ _ (Ne.symm n6)).trans e, by rw [List.length_set]; exact e2⟩, by rw [List.length_set]; exact H.le, fun y hy => by rw [List.length_set]; exact H.lt y hy, fun a ha => ?_⟩
  · rw [List.setIfInBounds_toArray, entC_seta v hx]
  · rcases List.mem_or_eq_of_mem_set ha with ha | rfl
    · exact H.act a ha
    · exact ⟨h0, h1⟩
theorem HX.setI (H : HX w h t nb ib A pl L) {p x : Nat} (hp : p < L.length) (hx : x < A.length) : HX (w.setCell ⟨ib, p, none⟩ (.pointer (some ⟨nb, x * 3, none⟩))) h t nb ib A pl (L.set p x) := by
  obtain ⟨n1, n2, n3, n4, n5, n6⟩ := H.ne
  obtain ⟨sp, e, e2⟩ := H.row
  refine ⟨(Below.heap_setCell _ _ _ _ n3).trans H.hd, (Below.heap_setCell _ _ _ _ n5).trans (by rw [List.length_set]; exact H.tr), (Below.heap_setCell _ _ _ _ n6).trans H.nd, ⟨sp, (heap_setCell_same w ib _ _ _ _ e).trans ?_, by rw [List.length_set]; exact e2⟩, H.le, fun y hy => ?_, H.act⟩
  · rw [List.setIfInBounds_toArray, List.set_append_left _ _ (by rw [List.length_map]; exact hp), List.map_set]; rfl
  · rcases List.mem_or_eq_of_mem_set hy with hy | rfl
    · exact H.lt y hy
    · exact hx
theorem HX.congr (H : HX w h t nb ib A pl L) {pm : Nat → Int} (e : ∀ x, x < A.length → pl x = pm x) : HX w h t nb ib A pm L :=
  ⟨H.hd, H.tr, by rw [← entC_congr e]; exact H.nd, H.row, H.le, H.lt, H.act⟩
theorem HX.same (H : HX w h t nb ib A pl L) {M : List Nat} (e : L = M) : HX w h t nb ib A pl M := e ▸ H
end
end Go.Proofs.Ytmgppnepccmceaa
