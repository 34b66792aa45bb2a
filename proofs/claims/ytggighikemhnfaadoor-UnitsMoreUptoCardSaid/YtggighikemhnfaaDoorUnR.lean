/- What stores and the queue do to a run. -/
import Derived.Test.YtggighikemhnfaaDoorUnQ
namespace Go.Proofs.YtggighikemhnfaaDoor.Tm
open Go.RowKit
set_option linter.unusedVariables false
section
variable {W0 w : World} {b : Nat} {s : USt} {ls : List Int} {pg : Nat → Option Nat} {rv qv lv : Value} {xs : List RowV} {L : List Int}
theorem RunX.setC (h : RunX W0 w b s ls pg rv qv lv xs L) (c : Int) : RunX W0 (w.setCell ⟨b, 1028, none⟩ (.int .i64 c)) b { s with conf := c } ls pg rv qv lv xs L := by
  have hold : ∀ g, g ≠ b → (w.setCell ⟨b, 1028, none⟩ (.int .i64 c)).heap[g]? = w.heap[g]? := fun g hg => Below.heap_setCell _ _ _ _ hg
  refine ⟨h.bel.setCell h.hb _, h.hb, h.gc, h.box.setc c, fun j g hg => ?_, h.inj, h.nop, own_move h.rows (fun g hg => hold g (h.rv_ne hg).1), h.rws, h.rest, ⟨own_move h.qu.row (fun g hg => hold g (h.qv_ne hg).1), h.qu.heap, h.qu.perm⟩, own_move h.lits (fun g hg => hold g (h.lv_ne hg).1), h.apart, h.may, h.cons⟩
  obtain ⟨g1, g2, g3⟩ := h.pages j g hg
  exact ⟨g1, g2, (hold g (h.pg_ne hg)).trans g3⟩
theorem pgH_set {heads : Int → Int} {k j : Nat} {y z : Int} (hj : j < 1024) (hy : y = ((1024 * k + j : Nat) : Int)) : pgH (fun u => if u = y then z else heads u) k = (pgH heads k).set j z := by
  unfold pgH
  rw [map_range_set]
  apply List.map_congr_left
  intro i hi
  show (if ((1024 * k + i : Nat) : Int) = y then z else heads ((1024 * k + i : Nat) : Int)) = if i = j then z else heads ((1024 * k + i : Nat) : Int)
  by_cases e : i = j
  · rw [if_pos e, if_pos (by rw [hy, e])]
  · rw [if_neg e, if_neg (by omega)]
theorem pgH_other {heads : Int → Int} {k k' : Nat} {y z : Int} (hy : y / 1024 = (k : Int)) (hk : k' ≠ k) : pgH (fun u => if u = y then z else heads u) k' = pgH heads k' := by
  unfold pgH
  apply List.map_congr_left
  intro i hi
  have := List.mem_range.1 hi
  show (if ((1024 * k' + i : Nat) : Int) = y then z else heads ((1024 * k' + i : Nat) : Int)) = heads ((1024 * k' + i : Nat) : Int)
  rw [if_neg (by omega)]
theorem pgC_set {s : USt} {k j : Nat} {y z : Int} (hj : j < 1024) (hy : y = ((1024 * k + j : Nat) : Int)) : (pgC s k).setIfInBounds (512 + j) (.int .i64 z) = pgC { s with heads := fun u => if u = y then z else s.heads u } k := by
  unfold pgC
  dsimp only
  rw [pgH_set hj hy, List.setIfInBounds_toArray, List.set_append_right _ _ (by rw [List.length_map, pgN_len]; omega), List.length_map, pgN_len, show 512 + j - 512 = j by omega, List.map_set]
theorem pgC_other {s : USt} {k k' : Nat} {y z : Int} (hy : y / 1024 = (k : Int)) (hk : k' ≠ k) : pgC { s with heads := fun u => if u = y then z else s.heads u } k' = pgC s k' := by
  unfold pgC
  dsimp only
  rw [pgH_other hy hk]
theorem head_cell {w : World} {g : Nat} {s : USt} {k j : Nat} {y : Int} (h : w.heap[g]? = some (.cells (pgC s k) 88 (0, 0))) (hj : j < 1024) (hy : y = ((1024 * k + j : Nat) : Int)) : w.cell? ⟨g, 512 + j, none⟩ = some (.int .i64 (s.heads y)) ∧ w.frozen? ⟨g, 512 + j, none⟩ = false ∧ g < w.heap.size := by
  refine ⟨?_, by simp [World.frozen?, h], (Array.getElem?_eq_some_iff.1 h).1⟩
  rw [cell_of_row w g _ _ _ _ h, ← Array.getElem?_toList]
  show (_ ++ _ : List Value)[512 + j]? = _
  rw [List.getElem?_append_right (by rw [List.length_map, pgN_len]; omega), List.length_map, pgN_len, show 512 + j - 512 = j by omega, List.getElem?_map]
  unfold pgH
  rw [List.getElem?_map, List.getElem?_range hj, hy]; rfl
theorem RunX.setH (h : RunX W0 w b s ls pg rv qv lv xs L) {k j g : Nat} {y z : Int} (hp : pg k = some g) (hj : j < 1024) (hy : y = ((1024 * k + j : Nat) : Int)) : RunX W0 (w.setCell ⟨g, 512 + j, none⟩ (.int .i64 z)) b { s with heads := fun u => if u = y then z else s.heads u } ls pg rv qv lv xs L := by
  obtain ⟨g1, g2, g3⟩ := h.pages k g hp
  have hold : ∀ i, i ≠ g → (w.setCell ⟨g, 512 + j, none⟩ (.int .i64 z)).heap[i]? = w.heap[i]? := fun i hi => Below.heap_setCell _ _ _ _ hi
  refine ⟨h.bel.setCell g2 _, h.hb, h.gc, h.box.heap (hold b (fun e => h.pg_ne hp e.symm)), fun k' g' hg' => ?_, h.inj, fun k' hk' => ⟨fun x h0 hx => ?_, (h.nop k' hk').2⟩, own_move h.rows (fun i hi => hold i ((h.rv_ne hi).2.1 k g hp)), h.rws, h.rest, ⟨own_move h.qu.row (fun i hi => hold i ((h.qv_ne hi).2 k g hp)), h.qu.heap, h.qu.perm⟩, own_move h.lits (fun i hi => hold i ((h.lv_ne hi).2 k g hp)), h.apart, h.may, h.cons⟩
  · obtain ⟨e1, e2, e3⟩ := h.pages k' g' hg'
    by_cases ek : k' = k
    · subst ek
      rw [hp] at hg'
      cases hg'
      exact ⟨g1, g2, (heap_setCell_same w g _ _ _ _ g3).trans (by rw [pgC_set hj hy])⟩
    · have hgg : g' ≠ g := fun e => ek (h.inj _ _ _ (by rw [← e]; exact hg') hp)
      exact ⟨e1, e2, (hold g' hgg).trans (e3.trans (by rw [pgC_other (k := k) (by omega) ek]))⟩
  · show (if x = y then z else s.heads x) = 0
    rw [if_neg (fun e => by
      have : k = k' := by omega
      subst this
      rw [hp] at hk'; cases hk')]
    exact (h.nop k' hk').1 x h0 hx
theorem RunX.push {w' : World} {g cap t : Nat} {L' : List Int} (h : RunX W0 w b s ls pg rv qv lv xs L) (hO : HPushO w w' W0.heap.size b pg rv qv lv s.conf g cap s.q t L') : RunX W0 w' b { s with q := t :: s.q } ls pg rv (.slice (some ⟨g, 0, none⟩) L'.length cap) lv xs L' := by
  have hW := h.bel.size
  have hold : ∀ i, i < w.heap.size → i ≠ b → qv.ownBlock ≠ some i → w'.heap[i]? = w.heap[i]? := fun i h1 h2 h3 => hO.gw.keep i h1 ⟨h2, fun e => h3 e.symm⟩
  have hq0 : ∀ i, i < W0.heap.size → qv.ownBlock ≠ some i := fun i hi e => by have := (own_lt h.qu.row e).1; omega
  have hb := h.hb
  refine ⟨⟨hO.gw.os.trans h.bel.os, hO.gw.tape.trans h.bel.tape, hO.gw.output.trans h.bel.output, by have := hO.gw.size; omega, fun i hi => (hold i (by omega) (by omega) (hq0 i hi)).trans (h.bel.block i hi)⟩, h.hb, h.gc, hO.box, fun j p hp => ?_, h.inj, h.nop, own_move h.rows (fun i hi => hold i (own_lt h.rows hi).2 (h.rv_ne hi).1 (h.rv_ne hi).2.2.1), h.rws, h.rest, hO.qu, own_move h.lits (fun i hi => hold i (own_lt h.lits hi).2 (h.lv_ne hi).1 (fun e => h.apart i e hi)), fun i hi e => ?_, h.may, h.cons⟩
  · obtain ⟨g1, g2, g3⟩ := h.pages j p hp
    exact ⟨g1, g2, (hold p (Array.getElem?_eq_some_iff.1 g3).1 (h.pg_ne hp) (fun e => (h.qv_ne e).2 j p hp rfl)).trans g3⟩
  · obtain rfl : g = i := by simpa [Value.ownBlock] using hi
    rcases hO.at_ with e2 | e2
    · exact h.apart g e2 e
    · have := (own_lt h.lits e).2; omega
theorem RunX.pop {w' : World} {g cap t : Nat} {L' : List Int} (h : RunX W0 w b s ls pg rv (.slice (some ⟨g, 0, none⟩) L.length cap) lv xs L) (hO : PopO w w' W0.heap.size b pg rv lv s.conf g cap s.q t L') : RunX W0 w' b { s with q := s.q.erase t } ls pg rv (.slice (some ⟨g, 0, none⟩) L'.length cap) lv xs L' := by
  have hW := h.bel.size
  have hg0 := own_lt h.qu.row (g := g) rfl
  have hold : ∀ i, i ≠ b → i ≠ g → w'.heap[i]? = w.heap[i]? := fun i h2 h3 => hO.kp.keep i ⟨h2, h3⟩
  have hb := h.hb
  refine ⟨⟨hO.kp.os.trans h.bel.os, hO.kp.tape.trans h.bel.tape, hO.kp.output.trans h.bel.output, by rw [hO.kp.size]; exact hW, fun i hi => (hold i (by omega) (by omega)).trans (h.bel.block i hi)⟩, h.hb, h.gc, hO.box, fun j p hp => ?_, h.inj, h.nop, own_move h.rows (fun i hi => hold i (h.rv_ne hi).1 (fun e => (h.rv_ne hi).2.2.1 (by rw [e]; rfl))), h.rws, h.rest, hO.qu, own_move h.lits (fun i hi => hold i (h.lv_ne hi).1 (fun e => h.apart g rfl (by rw [← e]; exact hi))), fun i hi e => ?_, h.may, h.cons⟩
  · obtain ⟨g1, g2, g3⟩ := h.pages j p hp
    exact ⟨g1, g2, (hold p (h.pg_ne hp) (fun e => (h.qv_ne (g := g) rfl).2 j p hp e.symm)).trans g3⟩
  · obtain rfl : g = i := by simpa [Value.ownBlock] using hi
    exact h.apart g rfl e
theorem RunX.same {s' : USt} {ls' : List Int} (h : RunX W0 w b s ls pg rv qv lv xs L) (e : s = s') (e' : ls = ls') : RunX W0 w b s' ls' pg rv qv lv xs L := by rw [← e, ← e']; exact h
theorem RunX.rowOf (h : RunX W0 w b s ls pg rv qv lv xs L) {k : Nat} {x : RowV} (hk : xs[k]? = some x) : s.rows[k]? = some x.r := by rw [← h.rws, List.getElem?_map, hk]; rfl
theorem RunX.getRow (h : RunX W0 w b s ls pg rv qv lv xs L) {k : Nat} (hk : k < s.rows.length) : ∃ x, xs[k]? = some x := by
  have : k < xs.length := by rw [← h.rws, List.length_map] at hk; exact hk
  exact ⟨_, List.getElem?_eq_getElem this⟩
end
end Go.Proofs.YtggighikemhnfaaDoor.Tm
