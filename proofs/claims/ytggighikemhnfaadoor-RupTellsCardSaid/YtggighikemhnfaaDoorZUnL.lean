/- The run's box; the queue grows and shrinks. -/
import Derived.Test.YtggighikemhnfaaDoorZUnK
import Derived.Deep.RegionLaw
import Derived.Deep.AppendLies
namespace Go.Proofs.YtggighikemhnfaaDoor.Tm
open Go.RowKit
set_option linter.unusedVariables false
def pgV (p : Option Nat) : Value := .pointer (p.map (fun g => ⟨g, 0, none⟩))
/-- A run's cells. -/
def runC (pg : Nat → Option Nat) (rv qv lv : Value) (cf : Int) : Array Value := ⟨(List.range 1025).map (fun k => pgV (pg k)) ++ [rv, qv, lv, .int .i64 cf]⟩
theorem runC_pg (pg : Nat → Option Nat) (rv qv lv : Value) (cf : Int) {k : Nat} (hk : k < 1025) : (runC pg rv qv lv cf)[k]? = some (pgV (pg k)) := by
  unfold runC
  rw [← Array.getElem?_toList]
  show (_ ++ _ : List Value)[k]? = _
  rw [List.getElem?_append_left (by simpa using hk), List.getElem?_map, List.getElem?_range hk]; rfl
theorem runC_at (pg : Nat → Option Nat) (rv qv lv : Value) (cf : Int) (k : Nat) : (runC pg rv qv lv cf)[1025 + k]? = [rv, qv, lv, .int .i64 cf][k]? := by
  unfold runC
  rw [← Array.getElem?_toList]
  show (_ ++ _ : List Value)[1025 + k]? = _
  rw [List.getElem?_append_right (by simp)]
  simp
theorem runC_setq (pg : Nat → Option Nat) (rv qv lv q' : Value) (cf : Int) : (runC pg rv qv lv cf).setIfInBounds 1026 q' = runC pg rv q' lv cf := by
  unfold runC
  simp only [List.setIfInBounds_toArray]
  rw [List.set_append_right _ _ (by simp)]
  simp
theorem runC_setr (pg : Nat → Option Nat) (rv qv lv q' : Value) (cf : Int) : (runC pg rv qv lv cf).setIfInBounds 1025 q' = runC pg q' qv lv cf := by
  unfold runC
  simp only [List.setIfInBounds_toArray]
  rw [List.set_append_right _ _ (by simp)]
  simp
theorem runC_setl (pg : Nat → Option Nat) (rv qv lv q' : Value) (cf : Int) : (runC pg rv qv lv cf).setIfInBounds 1027 q' = runC pg rv qv q' cf := by
  unfold runC
  simp only [List.setIfInBounds_toArray]
  rw [List.set_append_right _ _ (by simp)]
  simp
theorem runC_setc (pg : Nat → Option Nat) (rv qv lv : Value) (cf cf' : Int) : (runC pg rv qv lv cf).setIfInBounds 1028 (.int .i64 cf') = runC pg rv qv lv cf' := by
  unfold runC
  simp only [List.setIfInBounds_toArray]
  rw [List.set_append_right _ _ (by simp)]
  simp
theorem map_range_set {α : Type} (n k : Nat) (f : Nat → α) (v : α) : ((List.range n).map f).set k v = (List.range n).map (fun j => if j = k then v else f j) := by
  apply List.ext_getElem?
  intro i
  rw [List.getElem?_set, List.getElem?_map, List.getElem?_map]
  by_cases hi : i < n
  · rw [List.getElem?_range hi]
    by_cases e : k = i
    · subst e
      simp [hi]
    · have e' : ¬ i = k := fun h => e h.symm
      simp [e, e']
  · have h1 : (List.range n)[i]? = none := List.getElem?_eq_none (by simpa using hi)
    rw [h1]
    simp; omega
theorem runC_setp (pg : Nat → Option Nat) (rv qv lv : Value) (cf : Int) {k : Nat} (hk : k < 1025) (g : Nat) : (runC pg rv qv lv cf).setIfInBounds k (.pointer (some ⟨g, 0, none⟩)) = runC (fun j => if j = k then some g else pg j) rv qv lv cf := by
  have e : (List.range 1025).map (fun j => pgV (if j = k then some g else pg j)) = (List.range 1025).map (fun j => if j = k then (.pointer (some ⟨g, 0, none⟩) : Value) else pgV (pg j)) := by
    apply List.map_congr_left
    intro j _
    split <;> rfl
  unfold runC
  rw [List.setIfInBounds_toArray, List.set_append_left _ _ (by simpa using hk), map_range_set, e]
/-- The box lies at b. -/
def BoxR (w : World) (b : Nat) (pg : Nat → Option Nat) (rv qv lv : Value) (cf : Int) : Prop := w.heap[b]? = some (.cells (runC pg rv qv lv cf) 54 (0, 0))
section
variable {w : World} {b : Nat} {pg : Nat → Option Nat} {rv qv lv : Value} {cf : Int}
theorem BoxR.cells (h : BoxR w b pg rv qv lv cf) : w.cell? ⟨b, 1025, none⟩ = some rv ∧ w.cell? ⟨b, 1026, none⟩ = some qv ∧ w.cell? ⟨b, 1027, none⟩ = some lv ∧ w.cell? ⟨b, 1028, none⟩ = some (.int .i64 cf) ∧ b < w.heap.size ∧ ∀ i, w.frozen? ⟨b, i, none⟩ = false :=
  ⟨(cell_of_row _ _ 1025 _ _ _ h).trans (runC_at pg rv qv lv cf 0), (cell_of_row _ _ 1026 _ _ _ h).trans (runC_at pg rv qv lv cf 1), (cell_of_row _ _ 1027 _ _ _ h).trans (runC_at pg rv qv lv cf 2), (cell_of_row _ _ 1028 _ _ _ h).trans (runC_at pg rv qv lv cf 3), (Array.getElem?_eq_some_iff.1 h).1, fun i => by simp [World.frozen?, show w.heap[b]? = _ from h]⟩
theorem BoxR.page (h : BoxR w b pg rv qv lv cf) {k : Nat} (hk : k < 1025) : w.cell? ⟨b, k, none⟩ = some (pgV (pg k)) := (cell_of_row _ _ k _ _ _ h).trans (runC_pg pg rv qv lv cf hk)
theorem BoxR.setq (h : BoxR w b pg rv qv lv cf) (v : Value) : BoxR (w.setCell ⟨b, 1026, none⟩ v) b pg rv v lv cf := (heap_setCell_same w b 1026 _ _ _ h).trans (by rw [runC_setq])
theorem BoxR.setr (h : BoxR w b pg rv qv lv cf) (v : Value) : BoxR (w.setCell ⟨b, 1025, none⟩ v) b pg v qv lv cf := (heap_setCell_same w b 1025 _ _ _ h).trans (by rw [runC_setr])
theorem BoxR.setl (h : BoxR w b pg rv qv lv cf) (v : Value) : BoxR (w.setCell ⟨b, 1027, none⟩ v) b pg rv qv v cf := (heap_setCell_same w b 1027 _ _ _ h).trans (by rw [runC_setl])
theorem BoxR.setc (h : BoxR w b pg rv qv lv cf) (c : Int) : BoxR (w.setCell ⟨b, 1028, none⟩ (.int .i64 c)) b pg rv qv lv c := (heap_setCell_same w b 1028 _ _ _ h).trans (by rw [runC_setc])
theorem BoxR.setp (h : BoxR w b pg rv qv lv cf) {k : Nat} (hk : k < 1025) (g : Nat) : BoxR (w.setCell ⟨b, k, none⟩ (.pointer (some ⟨g, 0, none⟩))) b (fun j => if j = k then some g else pg j) rv qv lv cf := (heap_setCell_same w b k _ _ _ h).trans (by rw [runC_setp _ _ _ _ _ hk])
theorem BoxR.heap {w' : World} (h : BoxR w b pg rv qv lv cf) (k : w'.heap[b]? = w.heap[b]?) : BoxR w' b pg rv qv lv cf := k.trans h
end
/-- What is old is kept, but where P does not hold. -/
structure Gw (P : Nat → Prop) (w w' : World) : Prop where
  os : w'.os = w.os
  tape : w'.tape = w.tape
  output : w'.output = w.output
  size : w.heap.size ≤ w'.heap.size
  keep : ∀ k, k < w.heap.size → P k → w'.heap[k]? = w.heap[k]?
theorem Gw.refl (P : Nat → Prop) (w : World) : Gw P w w := ⟨rfl, rfl, rfl, Nat.le_refl _, fun _ _ _ => rfl⟩
theorem Gw.trans {P Q : Nat → Prop} {u v w : World} (h : Gw P u v) (k : Gw Q v w) (hq : ∀ i, i < u.heap.size → P i → Q i) : Gw P u w :=
  ⟨k.os.trans h.os, k.tape.trans h.tape, k.output.trans h.output, Nat.le_trans h.size k.size, fun i hi hp => (k.keep i (Nat.lt_of_lt_of_le hi h.size) (hq i hi hp)).trans (h.keep i hi hp)⟩
theorem Gw.kp {P Q : Nat → Prop} {u v w : World} (h : Gw P u v) (k : Kp Q v w) (hq : ∀ i, i < u.heap.size → P i → Q i) : Gw P u w :=
  ⟨k.os.trans h.os, k.tape.trans h.tape, k.output.trans h.output, by rw [k.size]; exact h.size, fun i hi hp => (k.keep i (hq i hi hp)).trans (h.keep i hi hp)⟩
theorem Gw.drewN {P : Nat → Prop} {u w : World} (h : Gw P u w) (n : Nat) : Gw P u (w.drewN n) := ⟨h.os, h.tape, h.output, h.size, h.keep⟩
theorem Gw.below {P : Nat → Prop} {n : Nat} {w w' : World} (h : Gw P w w') (hn : n ≤ w.heap.size) (hq : ∀ k, k < n → P k) : Below n w w' := ⟨h.os, h.tape, h.output, h.size, fun k hk => h.keep k (by omega) (hq k hk)⟩
def xI (x : Int) : Value := .iface 3 (.int .i64 x)
/-- A number came to a row of one's own. -/
structure PushO (w w' : World) (base b : Nat) (qv : Value) (L : List Int) (x : Int) (g cap : Nat) : Prop where
  row : RowO w' base (L ++ [x]) (.slice (some ⟨g, 0, none⟩) (L.length + 1) cap)
  grow : Gw (fun k => k ≠ b ∧ some k ≠ qv.ownBlock) w w'
  at_ : qv.ownBlock = some g ∨ w.heap.size ≤ g
theorem push_end {w : World} {base b g cap : Nat} {qv : Value} {L : List Int} {x : Int} {w9 : World} {pg : Nat → Option Nat} {rv lv : Value} {cf : Int} (hB : BoxR w b pg rv qv lv cf) (hne : some b ≠ qv.ownBlock)
    (hown : w9.ownsRow base 3 1 (.slice (some ⟨g, 0, none⟩) (L.length + 1) cap) (L.length + 1) (L.map (Value.int .i64) ++ [.int .i64 x])) (hg : (w.alloc (.cells #[.int .i64 x] 3)).grownBy w9 qv.ownBlock) (hat0 : qv.ownBlock = some g ∨ g = (w.alloc (.cells #[.int .i64 x] 3)).heap.size) :
    BoxR (w9.setCell ⟨b, 1026, none⟩ (.slice (some ⟨g, 0, none⟩) (L.length + 1) cap)) b pg rv (.slice (some ⟨g, 0, none⟩) (L.length + 1) cap) lv cf ∧ PushO w (w9.setCell ⟨b, 1026, none⟩ (.slice (some ⟨g, 0, none⟩) (L.length + 1) cap)) base b qv L x g cap := by
  have hat : qv.ownBlock = some g ∨ g = w.heap.size + 1 := by rw [World.size_alloc] at hat0; exact hat0
  have hb := hB.cells.2.2.2.2.1
  have hs := hg.size
  have hs2 : (w.alloc (.cells #[.int .i64 x] 3)).heap.size = w.heap.size + 1 := by simp
  have hk : ∀ k, k < w.heap.size → some k ≠ qv.ownBlock → w9.heap[k]? = w.heap[k]? := fun k h1 h2 => (hg.block k (by omega) h2).trans (Below.heap_alloc w _ k h1)
  have hB9 : BoxR w9 b pg rv qv lv cf := hB.heap (hk b hb hne)
  have hgb : g ≠ b := fun e => by
    rcases hat with h | h
    · rw [e] at h; exact hne h.symm
    · omega
  refine ⟨hB9.setq _, ⟨?_, ⟨hg.os, hg.tape, hg.output, by simp; omega, fun k h1 h2 => (Below.heap_setCell _ _ _ _ (fun e => h2.1 (by rw [e]))).trans (hk k h1 h2.2)⟩, hat.imp_right (fun e => by omega)⟩⟩
  have := own_heap hown (w' := w9.setCell ⟨b, 1026, none⟩ (.slice (some ⟨g, 0, none⟩) (L.length + 1) cap)) 
  unfold RowO
  rw [List.length_append, List.map_append]
  refine ⟨by simp, .inr ?_⟩
  rcases hown.2 with ⟨e, _⟩ | ⟨g', c', cur, e, h1, h2, h3⟩
  · cases e
  · cases e
    exact ⟨_, _, cur, rfl, h1, (Below.heap_setCell _ _ _ _ hgb).trans h2, h3⟩
theorem push_box {w w9 : World} {b : Nat} {qv : Value} {x : Int} {pg : Nat → Option Nat} {rv lv : Value} {cf : Int} (hB : BoxR w b pg rv qv lv cf) (hne : some b ≠ qv.ownBlock) (hg : (w.alloc (.cells #[.int .i64 x] 3)).grownBy w9 qv.ownBlock) : BoxR w9 b pg rv qv lv cf := by
  have hb := hB.cells.2.2.2.2.1
  have hs2 : (w.alloc (.cells #[.int .i64 x] 3)).heap.size = w.heap.size + 1 := by simp
  exact hB.heap ((hg.block b (by omega) hne).trans (Below.heap_alloc w _ b hb))
set_option maxHeartbeats 4000000 in
theorem qPush_any (base b : Nat) (pg : Nat → Option Nat) (rv qv lv : Value) (cf : Int) (L : List Int) (x : Int) (w : World) (hB : BoxR w b pg rv qv lv cf) (hR : RowO w base L qv) (hne : some b ≠ qv.ownBlock) (hb : base ≤ w.heap.size) (hl : L.length ≤ 1000000) :
    Calls Tryd.prog 97 #[.pointer (some ⟨b, 1026, none⟩), xI x] w fun e w' => e = .returned (.tuple #[]) ∧ ∃ g cap, BoxR w' b pg rv (.slice (some ⟨g, 0, none⟩) (L.length + 1) cap) lv cf ∧ PushO w w' base b qv L x g cap := by
  obtain ⟨i0, hi_, hz0, hz1, hz2⟩ := info_parts info_int
  obtain ⟨a0, a1, a2, a3, hlt, hfz⟩ := hB.cells
  have f1 := hfz 1026
  have HB := Lib.hid hB
  have HR := Lib.hid hR
  have HNe := Lib.hid hne
  obtain ⟨qa, qc, hqv, hqc, hqm, _⟩ := own_at hR
  have hown : (w.drew).ownsRow base 3 1 qv L.length (L.map (Value.int .i64)) := hR
  clear hB hR hne a0 a2 a3 hfz
  have hTA : ∀ W, Sem.run Tryd.prog (Instr.typeAssert (.iface 3 (.int .i64 x)) 20 3 false) W = .ok (.int .i64 x) W := fun W => by kernel_rfl
  subst hqv
  have HPE : Hid (∀ (g9 c9 : Nat) (w9 : World), w9.ownsRow base 3 1 (.slice (some ⟨g9, 0, none⟩) (L.length + 1) c9) (L.length + 1) (L.map (Value.int .i64) ++ [.int .i64 x]) → (w.drew.alloc (.cells #[.int .i64 x] 3)).grownBy w9 (Value.slice qa L.length qc).ownBlock → ((Value.slice qa L.length qc).ownBlock = some g9 ∨ g9 = (w.drew.alloc (.cells #[.int .i64 x] 3)).heap.size) →
      w9.cell? ⟨b, 1026, none⟩ = some (.slice qa L.length qc) ∧ w9.frozen? ⟨b, 1026, none⟩ = false ∧ b < w9.heap.size ∧ Hid (BoxR (w9.setCell ⟨b, 1026, none⟩ (.slice (some ⟨g9, 0, none⟩) (L.length + 1) c9)) b pg rv (.slice (some ⟨g9, 0, none⟩) (L.length + 1) c9) lv cf ∧ PushO w (w9.setCell ⟨b, 1026, none⟩ (.slice (some ⟨g9, 0, none⟩) (L.length + 1) c9)) base b (.slice qa L.length qc) L x g9 c9)) := fun g9 c9 w9 h1 h2 h3 => by
    have h2' : (w.alloc (.cells #[.int .i64 x] 3)).grownBy w9 (Value.slice qa L.length qc).ownBlock := ⟨h2.os, h2.tape, h2.output, h2.size, h2.block⟩
    have hb9 := push_box HB.out HNe.out h2'
    exact ⟨hb9.cells.2.1, hb9.cells.2.2.2.2.2 1026, hb9.cells.2.2.2.2.1, push_end HB.out HNe.out h1 h2' h3⟩
  unfold xI
  go_enter Tryd.func97, Tryd.ntmps97
  go_wp2
  go_region_law (refine step_append_lies _ rfl (.tmp 8) (.tmp 11) 50 rfl base 3 i0 _ 1 8 Tryd.underlying50 hi_ hz0 hz1 hz2 rfl (by decide) (Value.slice qa L.length qc) L.length (L.map (Value.int .i64)) (by rfl) (hown.alloc _) ⟨w.heap.size, 0, none⟩ 1 1 [.int .i64 x] (by rfl) rfl (World.news_of_block (B := w.heap.size) (cs := #[.int .i64 x]) (t := 3) (fr := (0, 0)) (heap_alloc_new w _)) (by simp [Value.oneCell']) (by omega) (by simp only [maxLen]; omega) (by omega) (by simp; omega) _ rfl ?_; intro g9 c9 w9 hown9 hgrow9 hat9 hlt9; obtain ⟨k9, f9, l9, HE⟩ := HPE.out g9 c9 w9 hown9 hgrow9 hat9; clear hown9 hgrow9 hat9 hlt9)
  all_goals go_wp2
  all_goals go_end0
  all_goals exact ⟨rfl, _, _, HE.out⟩
end Go.Proofs.YtggighikemhnfaaDoor.Tm
