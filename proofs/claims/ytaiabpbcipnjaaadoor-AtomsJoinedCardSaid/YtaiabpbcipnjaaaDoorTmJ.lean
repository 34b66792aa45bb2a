/- Rows of one's own as tables; begins, first. -/
import Derived.Test.YtaiabpbcipnjaaaDoorTmI
namespace Go.Proofs.YtaiabpbcipnjaaaDoor.Tm
open Go.RowKit
set_option linter.unusedVariables false
theorem own_heap {w w' : World} {base size n : Nat} {E : TypeId} {v : Value} {L : List Value} (h : w.ownsRow base E size v n L) (hk : ∀ g, base ≤ g → g < w.heap.size → w'.heap[g]? = w.heap[g]?) : w'.ownsRow base E size v n L := by
  refine ⟨h.1, ?_⟩
  rcases h.2 with h1 | ⟨g, cap, cur, e, h1, h2, h3⟩
  · exact .inl h1
  · exact .inr ⟨g, cap, cur, e, h1, (hk g h1 (Array.getElem?_eq_some_iff.1 h2).1).trans h2, h3⟩
theorem own_base {w : World} {base base' size n : Nat} {E : TypeId} {v : Value} {L : List Value} (h : w.ownsRow base E size v n L) (hb : base' ≤ base) : w.ownsRow base' E size v n L := by
  refine ⟨h.1, ?_⟩
  rcases h.2 with h1 | ⟨g, cap, cur, e, h1, h2, h3⟩
  · exact .inl h1
  · exact .inr ⟨g, cap, cur, e, by omega, h2, h3⟩
theorem own_at {w : World} {base size n : Nat} {E : TypeId} {v : Value} {L : List Value} (h : w.ownsRow base E size v n L) : ∃ a c, v = .slice a n c ∧ n ≤ c ∧ c ≤ maxLen ∧ At w w.heap.size L a ∧ (0 < n → ∃ g, a = some ⟨g, 0, none⟩ ∧ base ≤ g ∧ g < w.heap.size) := by
  rcases h.2 with ⟨rfl, rfl⟩ | ⟨g, cap, cur, rfl, h1, h2, h3, h4, h5, h6⟩
  · refine ⟨none, 0, rfl, Nat.le_refl _, Nat.zero_le _, fun h0 => ?_, fun h0 => absurd h0 (by omega)⟩
    have := h.1
    omega
  · have hlt := (Array.getElem?_eq_some_iff.1 h2).1
    have hc : ∀ (i : Nat) (u : Value), L[i]? = some u → w.cell? ⟨g, i, none⟩ = some u := fun i u hu => by
      rw [← h6, List.getElem?_take] at hu
      split at hu
      · have := cell_of_row w g i _ _ _ h2
        rw [this, ← Array.getElem?_toList]
        exact hu
      · cases hu
    exact ⟨_, cap, rfl, h3, h4, fun _ => ⟨g, 0, rfl, hlt, fun i v hv => by rw [Nat.zero_add]; exact hc i v hv⟩, fun _ => ⟨g, rfl, h1, hlt⟩⟩
theorem own_tab {w : World} {base : Nat} {l : List NodeA} {v : Value} (h : w.ownsRow base 34 8 v l.length (l.flatMap nodeC)) (hok : ∀ n ∈ l, NodeOk n) : ∃ a c, v = .slice a l.length c ∧ TabR w l a c := by
  obtain ⟨a, c, e, h1, h2, h3, _⟩ := own_at h
  exact ⟨a, c, e, h1, h2, h3, hok⟩
theorem TabR.take {w : World} {l : List NodeA} {a : Option Addr} {c : Nat} (h : TabR w l a c) (k : Nat) : TabR w (l.take k) a c :=
  ⟨by have := h.le; simp; omega, h.cap, by rw [take_flat nodeC_len]; exact h.tat.take _, fun n hn => h.ok n (List.mem_of_mem_take hn)⟩
theorem field_tab (a : Option Addr) (n c : Nat) (w : World) : (Instr.field 24 (.agg #[.slice a n c]) 0).run Tryd.prog w = .ok (.slice a n c) w := by kernel_rfl
theorem begins_any (l : List NodeA) (a : Option Addr) (c : Nat) (w : World) (hA : TabR w l a c) :
    Calls Tryd.prog 40 #[.slice a l.length c] w fun e w' => e = .returned (.bool (decide (l.take 2 = newL))) ∧ Below w.heap.size w w' := by
  have HN : Hid (∀ W, Calls Tryd.prog 44 #[] W fun e w' => e = .returned (.agg #[.slice (some ⟨W.heap.size + 1, 0, none⟩) 2 2]) ∧ TabR w' newL (some ⟨W.heap.size + 1, 0, none⟩) 2 ∧ Below W.heap.size W w') := fun W => New_any W
  have hfd := field_tab
  have hcap := hA.le
  have hmx : l.length ≤ 9223372036854775807 := by have := hA.cap; simp only [maxLen] at this; omega
  by_cases h2 : 2 ≤ l.length
  · have hl2 : (l.take 2).length = 2 := by simp; omega
    obtain ⟨g, o, rfl, hg, _⟩ := hA.tat (by rw [len_flat nodeC_len]; omega)
    have HE : Hid (∀ V b, Below w.heap.size w V → TabR V newL b 2 → Calls Tryd.prog 45 #[.slice (some ⟨g, o, none⟩) 2 c, .slice b 2 2] V fun e w' => e = .returned (.bool (decide (l.take 2 = newL))) ∧ Below V.heap.size V w') := fun V b hV hb => by
      have := Equal_any (l.take 2) newL (some ⟨g, o, none⟩) b c 2 V ((hA.take 2).below hV) hb
      rw [hl2] at this
      exact this
    clear hA hl2
    go_enter Tryd.func40, Tryd.ntmps40
    go_wp2_with (first | (go_at_call 44; refine (HN.out _).mono ?_; rintro e w1 ⟨rfl, ht1, hb1⟩; have HT := Lib.hid ht1; clear ht1) | (go_at_call 45; refine (HE.out _ _ hb1 HT.out).mono ?_; rintro e w2 ⟨rfl, hb2⟩))
    go_ret
    exact ⟨rfl, hb1.trans (hb2.mono hb1.size)⟩
  · have hf : decide (l.take 2 = newL) = false := decide_eq_false (fun h => by have := congrArg List.length h; rw [List.length_take] at this; have e : newL.length = 2 := rfl; omega)
    rw [hf]
    clear hA hf
    go_enter Tryd.func40, Tryd.ntmps40
    go_wp2_with (first | (go_at_call 44; refine (HN.out _).mono ?_; rintro e w1 ⟨rfl, ht1, hb1⟩; have HT := Lib.hid ht1; clear ht1))
    go_ret
    exact ⟨rfl, hb1⟩
def FirstPost (w : World) (l : List NodeA) (e : Ending) (w' : World) : Prop := ∃ v, e = .returned (.agg #[v]) ∧ w'.ownsRow w.heap.size 34 8 v l.length (l.flatMap nodeC) ∧ Below w.heap.size w w'
end Go.Proofs.YtaiabpbcipnjaaaDoor.Tm
