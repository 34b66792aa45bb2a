/- container/heap's Push and Pop over the run's queue. -/
import Derived.Test.YtggighikemhnfaaDoorUnL
namespace Go.Proofs.YtggighikemhnfaaDoor.Tm
open Go.RowKit
set_option linter.unusedVariables false
/-- The queue's row in memory is a heap of what q holds. -/
structure QuR (w : World) (base : Nat) (qv : Value) (q : List Nat) (L : List Int) : Prop where
  row : RowO w base L qv
  heap : HeapN L L.length
  perm : L.Perm (q.map Int.ofNat)
theorem qu_len {w : World} {base : Nat} {qv : Value} {q : List Nat} {L : List Int} (h : QuR w base qv q L) : L.length = q.length := by rw [h.perm.length_eq, List.length_map]
theorem own_move {w w' : World} {base size n : Nat} {E : TypeId} {v : Value} {L : List Value} (h : w.ownsRow base E size v n L) (hk : ∀ g, v.ownBlock = some g → w'.heap[g]? = w.heap[g]?) : w'.ownsRow base E size v n L := by
  refine ⟨h.1, ?_⟩
  rcases h.2 with h1 | ⟨g', cap, cur, rfl, h1, h2, h3⟩
  · exact .inl h1
  · exact .inr ⟨g', cap, cur, rfl, h1, (hk g' (by simp [Value.ownBlock])).trans h2, h3⟩
theorem qPop_any (base b g cap m : Nat) (pg : Nat → Option Nat) (rv lv : Value) (cf : Int) (L : List Int) (w : World) (hB : BoxR w b pg rv (.slice (some ⟨g, 0, none⟩) L.length cap) lv cf) (hR : RowO w base L (.slice (some ⟨g, 0, none⟩) L.length cap)) (hne : b ≠ g) (hm : m + 1 = L.length) :
    Calls Tryd.prog 96 #[.pointer (some ⟨b, 1026, none⟩)] w fun e w' => e = .returned (xI (atI L m)) ∧ BoxR w' b pg rv (.slice (some ⟨g, 0, none⟩) m cap) lv cf ∧ RowO w' base (L.take m) (.slice (some ⟨g, 0, none⟩) m cap) ∧ Kp (fun k => k ≠ b) w w' := by
  obtain ⟨_, a1, _, _, hlt, hfz⟩ := hB.cells
  have f1 := hfz 1026
  have c1 := row_cell hR (i := m) (by omega)
  obtain ⟨cur, h2, h1, h3, h4, h5, h6⟩ := row_own hR
  have l1 : L.length ≤ 9223372036854775807 := by simp only [maxLen] at h4; omega
  have l2 : cap ≤ 9223372036854775807 := by simp only [maxLen] at h4; omega
  have hE : BoxR (w.setCell ⟨b, 1026, none⟩ (.slice (some ⟨g, 0, none⟩) m cap)) b pg rv (.slice (some ⟨g, 0, none⟩) m cap) lv cf ∧ RowO (w.setCell ⟨b, 1026, none⟩ (.slice (some ⟨g, 0, none⟩) m cap)) base (L.take m) (.slice (some ⟨g, 0, none⟩) m cap) ∧ Kp (fun k => k ≠ b) w (w.setCell ⟨b, 1026, none⟩ (.slice (some ⟨g, 0, none⟩) m cap)) := by
    refine ⟨hB.setq _, ?_, (Kp.refl _ w).set (fun e => e rfl) _⟩
    have hl : (L.take m).length = m := by rw [List.length_take]; omega
    unfold RowO
    rw [hl]
    refine ⟨by rw [List.length_map, hl]; omega, .inr ⟨g, cap, cur, rfl, h1, (Below.heap_setCell _ _ _ _ (fun e => hne e.symm)).trans h2, by omega, h4, by omega, ?_⟩⟩
    rw [Nat.mul_one, List.map_take, ← h6, List.take_take, Nat.min_eq_left (by omega)]
  have HE := Lib.hid hE
  obtain ⟨x, hx⟩ : ∃ x, atI L m = x := ⟨_, rfl⟩
  rw [hx] at c1 ⊢
  have hgl := (Array.getElem?_eq_some_iff.1 h2).1
  have i1 : (m : Int) < (L.length : Int) := by omega
  have hlm : (L.length : Int) = (m : Int) + 1 := by omega
  have hcm : (m : Int) ≤ (cap : Int) := by omega
  obtain ⟨n, hn⟩ : ∃ n, L.length = n := ⟨_, rfl⟩
  rw [hn] at a1 h3 l1 hm i1
  obtain rfl : n = m + 1 := hm.symm
  clear hB hR hfz h2 h5 h6 hE hx hlm hn
  unfold xI
  go_enter Tryd.func96, Tryd.ntmps96
  go_wp2
  go_ret
  exact ⟨rfl, HE.out⟩
end Go.Proofs.YtggighikemhnfaaDoor.Tm
