/- Rows of one's own as tables; begins, first. -/
import Derived.Test.YtgjidlfemfomcaaDoorTmI
namespace Go.Proofs.YtgjidlfemfomcaaDoor
open Go.RowKit
set_option linter.unusedVariables false
theorem own_heap {w w' : World} {base size n : Nat} {E : TypeId} {v : Value} {L : List Value} (h : w.ownsRow base E size v n L) (hk : ∀ g, base ≤ g → g < w.heap.size → w'.heap[g]? = w.heap[g]?) : w'.ownsRow base E size v n L := by
  refine ⟨h.1, ?_⟩
  rcases h.2 with h1 | ⟨g, cap, cur, e, h1, h2, h3⟩
  · exact .inl h1
  · exact .inr ⟨g, cap, cur, e, h1, (hk g h1 (Array.getElem?_eq_some_iff.1 h2).1).trans h2, h3⟩
theorem own_base {w : World} {base base' size n : Nat} {E : TypeId} {v : Value} {L : List Value} (h : w.ownsRow base E size v n L) (hb : base' ≤ base) : w.ownsRow base' E size v n L := by
  refine ⟨h.1, ?_⟩
  rcases h.2 with h1 | ⟨g, cap, cur, e, h1, h2, h3⟩
  · exact .inl h1
  · exact .inr ⟨g, cap, cur, e, by omega, h2, h3⟩
theorem own_at {w : World} {base size n : Nat} {E : TypeId} {v : Value} {L : List Value} (h : w.ownsRow base E size v n L) : ∃ a c, v = .slice a n c ∧ n ≤ c ∧ c ≤ maxLen ∧ At w w.heap.size L a ∧ (0 < n → ∃ g, a = some ⟨g, 0, none⟩ ∧ base ≤ g ∧ g < w.heap.size) := by
  rcases h.2 with ⟨rfl, rfl⟩ | ⟨g, cap, cur, rfl, h1, h2, h3, h4, h5, h6⟩
  · refine ⟨none, 0, rfl, Nat.le_refl _, Nat.zero_le _, fun h0 => ?_, fun h0 => absurd h0 (by omega)⟩
    have := h.1
    omega
  · have hlt := (Array.getElem?_eq_some_iff.1 h2).1
    have hc : ∀ (i : Nat) (u : Value), L[i]? = some u → w.cell? ⟨g, i, none⟩ = some u := fun i u hu => by
      rw [← h6, List.getElem?_take] at hu
      split at hu
      · have := cell_of_row w g i _ _ _ h2
        rw [this, ← Array.getElem?_toList]
        exact hu
      · cases hu
    exact ⟨_, cap, rfl, h3, h4, fun _ => ⟨g, 0, rfl, hlt, fun i v hv => by rw [Nat.zero_add]; exact hc i v hv⟩, fun _ => ⟨g, rfl, h1, hlt⟩⟩
theorem own_tab {w : World} {base : Nat} {l : List NodeA} {v : Value} (h : w.ownsRow base 46 8 v l.length (l.flatMap nodeC)) (hok : ∀ n ∈ l, NodeOk n) : ∃ a c, v = .slice a l.length c ∧ TabR w l a c := by
  obtain ⟨a, c, e, h1, h2, h3, _⟩ := own_at h
  exact ⟨a, c, e, h1, h2, h3, hok⟩
theorem TabR.take {w : World} {l : List NodeA} {a : Option Addr} {c : Nat} (h : TabR w l a c) (k : Nat) : TabR w (l.take k) a c :=
  ⟨by have := h.le; simp; omega, h.cap, by rw [take_flat nodeC_len]; exact h.tat.take _, fun n hn => h.ok n (List.mem_of_mem_take hn)⟩
theorem field_tab (a : Option Addr) (n c : Nat) (w : World) : (Instr.field 24 (.agg #[.slice a n c]) 0).run Tryd.prog w = .ok (.slice a n c) w := by kernel_rfl
theorem begins_any (l : List NodeA) (a : Option Addr) (c : Nat) (w : World) (hA : TabR w l a c) :
    Calls Tryd.prog 42 #[.slice a l.length c] w fun e w' => e = .returned (.bool (decide (l.take 2 = newL))) ∧ Below w.heap.size w w' := by
  have HN : Hid (∀ W, Calls Tryd.prog 32 #[] W fun e w' => e = .returned (.agg #[.slice (some ⟨W.heap.size + 1, 0, none⟩) 2 2]) ∧ TabR w' newL (some ⟨W.heap.size + 1, 0, none⟩) 2 ∧ Below W.heap.size W w') := fun W => New_any W
  have hfd := field_tab
  have hcap := hA.le
  have hmx : l.length ≤ 9223372036854775807 := by have := hA.cap; simp only [maxLen] at this; omega
  by_cases h2 : 2 ≤ l.length
  · have hl2 : (l.take 2).length = 2 := by simp; omega
    obtain ⟨g, o, rfl, hg, _⟩ := hA.tat (by rw [len_flat nodeC_len]; omega)
    have HE : Hid (∀ V b, Below w.heap.size w V → TabR V newL b 2 → Calls Tryd.prog 26 #[.slice (some ⟨g, o, none⟩) 2 c, .slice b 2 2] V fun e w' => e = .returned (.bool (decide (l.take 2 = newL))) ∧ Below V.heap.size V w') := fun V b hV hb => by
      have := Equal_any (l.take 2) newL (some ⟨g, o, none⟩) b c 2 V ((hA.take 2).below hV) hb
      rw [hl2] at this
      exact this
    clear hA hl2
    go_enter Tryd.func42, Tryd.ntmps42
    go_wp2_with (first | (go_at_call 32; refine (HN.out _).mono ?_; rintro e w1 ⟨rfl, ht1, hb1⟩; have HT := Lib.hid ht1; clear ht1) | (go_at_call 26; refine (HE.out _ _ hb1 HT.out).mono ?_; rintro e w2 ⟨rfl, hb2⟩))
    go_ret
    exact ⟨rfl, hb1.trans (hb2.mono hb1.size)⟩
  · have hf : decide (l.take 2 = newL) = false := decide_eq_false (fun h => by have := congrArg List.length h; rw [List.length_take] at this; have e : newL.length = 2 := rfl; omega)
    rw [hf]
    clear hA hf
    go_enter Tryd.func42, Tryd.ntmps42
    go_wp2_with (first | (go_at_call 32; refine (HN.out _).mono ?_; rintro e w1 ⟨rfl, ht1, hb1⟩; have HT := Lib.hid ht1; clear ht1))
    go_ret
    exact ⟨rfl, hb1⟩
def FirstPost (w : World) (l : List NodeA) (e : Ending) (w' : World) : Prop := ∃ v, e = .returned (.agg #[v]) ∧ w'.ownsRow w.heap.size 46 8 v l.length (l.flatMap nodeC) ∧ Below w.heap.size w w'
theorem first_any (l : List NodeA) (a : Option Addr) (c n : Nat) (w : World) (hA : TabR w l a c) (hn : n ≤ l.length) (hn0 : 0 < n) (hl : l.length ≤ 1000) :
    Calls Tryd.prog 40 #[.agg #[.slice a l.length c], .int .i64 n] w (FirstPost w (l.take n)) := by
  have hln : (l.take n).length = n := by simp; omega
  have hcap := hA.le
  have hmx : l.length ≤ 9223372036854775807 := by omega
  obtain ⟨W0, hW0⟩ : ∃ W0, W0 = (w.alloc (.cells #[.slice a l.length c] 24)).alloc (.cells #[.slice none 0 0] 24) := ⟨_, rfl⟩
  have HB0 : Hid (Below w.heap.size w W0) := by show Below _ _ _; rw [hW0]; exact ((Below.refl _ w).alloc (Nat.le_refl _) _).alloc (by simp) _
  have hsz : W0.heap.size = w.heap.size + 2 := by rw [hW0]; simp
  have HY : Hid (W0.heap[w.heap.size + 1]? = some (.cells #[.slice none 0 0] 24 (0, 0))) := by
    show _ = _
    have := heap_alloc_new (w.alloc (.cells #[.slice a l.length c] 24)) (.cells #[.slice none 0 0] 24)
    rw [World.size_alloc] at this
    rw [hW0]; exact this
  obtain ⟨g, o, rfl, hg, _⟩ := hA.tat (by rw [len_flat nodeC_len]; omega)
  have HC : Hid (Calls Tryd.prog 44 #[.slice (some ⟨g, o, none⟩) n c] W0 (RowPost W0 (l.take n))) := by
    have := Clone_any (l.take n) (some ⟨g, o, none⟩) c W0 ((hA.take n).below HB0.out) (by omega) (by omega)
    rw [hln] at this
    exact this
  clear hA
  go_enter Tryd.func40, Tryd.ntmps40
  go_wp2_with (go_at_call 44; rw [← hW0]; clear hW0; refine HC.out.mono ?_; rintro e w1 ⟨v, rfl, hown, hb1⟩; rw [hln] at hown; have HO := Lib.hid hown; clear hown; have hy := (hb1.block _ (by omega)).trans HY.out; have HY1 := Lib.hid hy; have d0 := cell_of_row _ _ 0 _ _ _ hy; have df : ∀ i, w1.frozen? ⟨w.heap.size + 1, i, none⟩ = false := (fun i => by simp [World.frozen?, hy]); simp only [List.getElem?_toArray, List.getElem?_cons_zero] at d0; clear hy; obtain ⟨av, cv, rfl, _⟩ := own_at HO.out)
  have hr : (w1.setCell ⟨w.heap.size + 1, 0, none⟩ (.slice av n cv)).cell? ⟨w.heap.size + 1, 0, none⟩ = some (.slice av n cv) := World.cell?_setCell_same' _ _ _ (by rw [d0]; rfl)
  refine bodyPost_ret (v := .agg #[.slice av n cv]) (by simp [results, Tryd.results40, go_sem, hr]) rfl ⟨_, rfl, ?_, ?_⟩
  · rw [hln]; exact own_base (own_heap HO.out (fun k hk _ => Below.heap_setCell _ _ _ _ (by show k ≠ w.heap.size + 1; omega))) (by omega)
  · exact (HB0.out.trans (hb1.mono HB0.out.size)).setCell (p := ⟨w.heap.size + 1, 0, none⟩) (by simp) _
end Go.Proofs.YtgjidlfemfomcaaDoor
