/- A literal is put, in memory. -/
import Derived.Test.YtggighikemhnfaaDoorZUnS
import Derived.Deep.LoopGhost
import Derived.Deep.RegionWith
namespace Go.Proofs.YtggighikemhnfaaDoor.Tm
open Go.RowKit
set_option linter.unusedVariables false
section
variable {W0 w : World} {b : Nat} {s : USt} {ls : List Int} {pg : Nat → Option Nat} {rv qv lv : Value} {xs : List RowV} {L : List Int}
theorem RunX.lits_end {w9 : World} {g cap : Nat} {x : Int} (h : RunX W0 w b s ls pg rv qv lv xs L)
    (hown : w9.ownsRow W0.heap.size 3 1 (.slice (some ⟨g, 0, none⟩) (ls.length + 1) cap) (ls.length + 1) (ls.map (Value.int .i64) ++ [.int .i64 x])) (hg : (w.alloc (.cells #[.int .i64 x] 3)).grownBy w9 lv.ownBlock) (hat0 : lv.ownBlock = some g ∨ g = (w.alloc (.cells #[.int .i64 x] 3)).heap.size) :
    (w9.cell? ⟨b, 1027, none⟩ = some lv ∧ w9.frozen? ⟨b, 1027, none⟩ = false ∧ b < w9.heap.size) ∧ RunX W0 (w9.setCell ⟨b, 1027, none⟩ (.slice (some ⟨g, 0, none⟩) (ls.length + 1) cap)) b s (ls ++ [x]) pg rv qv (.slice (some ⟨g, 0, none⟩) (ls.length + 1) cap) xs L := by
  have hat : lv.ownBlock = some g ∨ g = w.heap.size + 1 := by rw [World.size_alloc] at hat0; exact hat0
  have hb := h.box.cells.2.2.2.2.1
  have hs := hg.size
  have hs2 : (w.alloc (.cells #[.int .i64 x] 3)).heap.size = w.heap.size + 1 := by simp
  have hW := h.bel.size
  have hhb := h.hb
  have hk : ∀ k, k < w.heap.size → lv.ownBlock ≠ some k → w9.heap[k]? = w.heap[k]? := fun k h1 h2 => (hg.block k (by omega) (fun e => h2 e.symm)).trans (Below.heap_alloc w _ k h1)
  have hB9 : BoxR w9 b pg rv qv lv s.conf := h.box.heap (hk b hb (fun e => (h.lv_ne e).1 rfl))
  have hold : ∀ k, k < w.heap.size → k ≠ b → lv.ownBlock ≠ some k → (w9.setCell ⟨b, 1027, none⟩ (.slice (some ⟨g, 0, none⟩) (ls.length + 1) cap)).heap[k]? = w.heap[k]? := fun k h1 h2 h3 => (Below.heap_setCell _ _ _ _ h2).trans (hk k h1 h3)
  have hl0 : ∀ i, i < W0.heap.size → lv.ownBlock ≠ some i := fun i hi e => by have := (own_lt h.lits e).1; omega
  refine ⟨⟨hB9.cells.2.2.1, hB9.cells.2.2.2.2.2 _, hB9.cells.2.2.2.2.1⟩, ⟨?_, h.hb, h.gc, hB9.setl _, fun j p hp => ?_, h.inj, h.nop, own_move h.rows (fun i hi => hold i (own_lt h.rows hi).2 (h.rv_ne hi).1 (h.rv_ne hi).2.2.2), h.rws, h.rest, ⟨own_move h.qu.row (fun i hi => hold i (own_lt h.qu.row hi).2 (h.qv_ne hi).1 (h.apart i hi)), h.qu.heap, h.qu.perm⟩, ?_, fun i hi e => ?_, h.may, h.cons⟩⟩
  · refine ⟨hg.os.trans h.bel.os, hg.tape.trans h.bel.tape, hg.output.trans h.bel.output, by simp; omega, fun i hi => (hold i (by omega) (by omega) (hl0 i hi)).trans (h.bel.block i hi)⟩
  · obtain ⟨g1, g2, g3⟩ := h.pages j p hp
    exact ⟨g1, g2, (hold p (Array.getElem?_eq_some_iff.1 g3).1 (h.pg_ne hp) (fun e => (h.lv_ne e).2 j p hp rfl)).trans g3⟩
  · unfold RowO
    rw [List.length_append, List.map_append]
    refine ⟨by simp, .inr ?_⟩
    have hgb : g ≠ b := fun e => by
      rcases hat with h' | h'
      · exact (h.lv_ne h').1 e
      · omega
    rcases hown.2 with ⟨e, _⟩ | ⟨g', c', cur, e, h1, h2, h3⟩
    · cases e
    · cases e
      exact ⟨_, _, cur, rfl, h1, (Below.heap_setCell _ _ _ _ hgb).trans h2, h3⟩
  · obtain rfl : g = i := by simpa [Value.ownBlock] using e
    rcases hat with e2 | e2
    · exact h.apart g hi e2
    · have := (own_lt h.qu.row hi).2; omega
theorem nodeV_put {ps : List Int} {l : Int} {n : Nat} (hl : valL ps l = 0) (h0 : 0 ≤ l) : nodeV (ps ++ [l]) n = if (n : Int) = l / 2 then (if l % 2 = 1 then 2 else 1) else nodeV ps n := by
  obtain ⟨_, hn1, hn2⟩ := val_zero hl
  unfold nodeV
  by_cases e : (n : Int) = l / 2
  · rw [if_pos e]
    by_cases hp : l % 2 = 1
    · have a1 : 2 * (n : Int) = negM l := by unfold negM; rw [if_neg (by omega)]; omega
      have a2 : 2 * (n : Int) + 1 = l := by omega
      have a3 : negM l ∉ ps ++ [l] := fun h => (List.mem_append.1 h).elim hn2 (fun h => negM_ne l (by simpa using h))
      rw [a2, a1, if_neg a3, if_pos (by simp), if_pos hp]
    · have a1 : 2 * (n : Int) = l := by omega
      rw [a1, if_pos (by simp), if_neg hp]
  · rw [if_neg e]
    have a1 : 2 * (n : Int) ≠ l := by omega
    have a2 : 2 * (n : Int) + 1 ≠ l := by omega
    simp [a1, a2]
theorem RunX.setV {g k j : Nat} {l : Int} (h : RunX W0 w b s ls pg rv qv lv xs L) (hp : pg k = some g) (hl : valL s.ps l = 0) (hj : j < 512) (hlk : l / 1024 = (k : Int)) (hlj : l / 2 = ((512 * k + j : Nat) : Int)) :
    RunX W0 (w.setCell ⟨g, j, none⟩ (.int .i8 (if l % 2 = 1 then 2 else 1))) b { s with ps := s.ps ++ [l] } ls pg rv qv lv xs L := by
  obtain ⟨g1, g2, g3⟩ := h.pages k g hp
  obtain ⟨hm, hn1, hn2⟩ := val_zero hl
  have h0 := (mayU_iff.1 hm).1
  have hold : ∀ i, i ≠ g → (w.setCell ⟨g, j, none⟩ (.int .i8 (if l % 2 = 1 then 2 else 1))).heap[i]? = w.heap[i]? := fun i hi => Below.heap_setCell _ _ _ _ hi
  have hpc : (pgC s k).setIfInBounds j (.int .i8 (if l % 2 = 1 then 2 else 1)) = pgC { s with ps := s.ps ++ [l] } k := by
    unfold pgC
    dsimp only
    rw [List.setIfInBounds_toArray, List.set_append_left _ _ (by rw [List.length_map, pgN_len]; exact hj), ← List.map_set]
    have : (pgN s.ps k).set j (if l % 2 = 1 then 2 else 1) = pgN (s.ps ++ [l]) k := by
      unfold pgN
      rw [map_range_set]
      apply List.map_congr_left
      intro i hi
      have := List.mem_range.1 hi
      rw [nodeV_put hl h0]
      by_cases e : i = j
      · have e' : ((512 * k + i : Nat) : Int) = l / 2 := by rw [hlj, e]
        rw [if_pos e, if_pos e']
      · have e' : ¬ ((512 * k + i : Nat) : Int) = l / 2 := by omega
        rw [if_neg e, if_neg e']
    rw [this]
  have hpo : ∀ k', k' ≠ k → pgC { s with ps := s.ps ++ [l] } k' = pgC s k' := fun k' hk' => by
    unfold pgC
    dsimp only
    have : pgN (s.ps ++ [l]) k' = pgN s.ps k' := by
      unfold pgN
      apply List.map_congr_left
      intro i hi
      have := List.mem_range.1 hi
      rw [nodeV_put hl h0, if_neg (by omega)]
    rw [this]
  refine ⟨h.bel.setCell g2 _, h.hb, h.gc, h.box.heap (hold b (fun e => h.pg_ne hp e.symm)), fun k' g' hg' => ?_, h.inj, fun k' hk' => ⟨(h.nop k' hk').1, fun x hx => ?_⟩, own_move h.rows (fun i hi => hold i ((h.rv_ne hi).2.1 k g hp)), h.rws, h.rest, ⟨own_move h.qu.row (fun i hi => hold i ((h.qv_ne hi).2 k g hp)), h.qu.heap, h.qu.perm⟩, own_move h.lits (fun i hi => hold i ((h.lv_ne hi).2 k g hp)), h.apart, fun x hx => ?_, fun x hx e => ?_⟩
  · obtain ⟨e1, e2, e3⟩ := h.pages k' g' hg'
    by_cases ek : k' = k
    · subst ek
      rw [hp] at hg'
      cases hg'
      exact ⟨g1, g2, (heap_setCell_same w g _ _ _ _ g3).trans (by rw [hpc])⟩
    · have hgg : g' ≠ g := fun e => ek (h.inj _ _ _ (by rw [← e]; exact hg') hp)
      exact ⟨e1, e2, (hold g' hgg).trans (e3.trans (by rw [hpo k' ek]))⟩
  · rcases List.mem_append.1 hx with hx | hx
    · exact (h.nop k' hk').2 x hx
    · rw [show x = l by simpa using hx]
      intro e
      have : k = k' := by omega
      subst this
      rw [hp] at hk'; cases hk'
  · rcases List.mem_append.1 hx with hx | hx
    · exact h.may x hx
    · rw [show x = l by simpa using hx]; exact hm
  · rcases List.mem_append.1 hx with hx | hx <;> rcases List.mem_append.1 e with e | e
    · exact h.cons x hx e
    · have : negM x = l := by simpa using e
      exact hn2 (by rw [← this, negM_neg]; exact hx)
    · rw [show x = l by simpa using hx] at e
      exact hn2 e
    · rw [show x = l by simpa using hx] at e
      exact negM_ne l (by simpa using e)
end
theorem valued_any (x : Int) (r : Int) (w : World) (hx : I64 x) (hr : (if x % 2 = 1 then (2 : Int) else 1) = r) : Calls Tryd.prog 47 #[.int .i64 x] w fun e w' => e = .returned (.int .i8 r) ∧ w = w' := by
  obtain ⟨p, hp⟩ : ∃ p, decide (x % 2 = 1) = p := ⟨_, rfl⟩
  have HI : Hid (Calls Tryd.prog 66 #[.int .i64 x] w fun e w' => e = .returned (.bool p) ∧ w = w') := by rw [← hp]; exact Is_any x w hx
  cases p
  · have HR : Hid (1 = r) := by show _ = _; rw [← hr, if_neg (of_decide_eq_false hp)]
    clear hp hx hr
    go_enter Tryd.func47, Tryd.ntmps47
    go_wp2_with (first | (go_at_call 66; with_reducible refine HI.out.mono ?_; rintro e w1 ⟨rfl, rfl⟩))
    go_ret
    exact ⟨ret_int HR.out, rfl⟩
  · have HR : Hid (2 = r) := by show _ = _; rw [← hr, if_pos (of_decide_eq_true hp)]
    clear hp hx hr
    go_enter Tryd.func47, Tryd.ntmps47
    go_wp2_with (first | (go_at_call 66; with_reducible refine HI.out.mono ?_; rintro e w1 ⟨rfl, rfl⟩))
    go_ret
    exact ⟨ret_int HR.out, rfl⟩
end Go.Proofs.YtggighikemhnfaaDoor.Tm
