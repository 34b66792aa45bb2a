/- Layer 10's wakes. -/
import Derived.Test.YtbddghcdibdloaaGreatDoorEvW
namespace Go.Proofs.YtbddghcdibdloaaGreatDoor
open Go.RowKit
set_option linter.unusedVariables false
theorem RNew_own (w : World) : Calls Tryz.prog 9 #[] w fun e w' => e = .returned (.agg #[.slice (some ⟨w.heap.size + 1, 0, none⟩) 2 2]) ∧ w'.heap[w.heap.size + 1]? = some (.cells Tm.newC 41 (0, 0)) ∧ Below w.heap.size w w' := by
  go_enter Tryz.func9, Tryz.ntmps9
  go_wp2
  have hb := heap_alloc_new (w.alloc (.cells #[.slice (some ⟨w.heap.size + 1, 0, none⟩) 2 2] 37)) (.cells Tm.newC 41)
  refine bodyPost_ret (v := .agg #[.slice (some ⟨w.heap.size + 1, 0, none⟩) 2 2]) (by simp [results, Tryz.results9, go_sem]) rfl ⟨rfl, ?_, ?_⟩
  · rw [World.size_alloc] at hb
    exact hb
  · exact ((Below.refl _ w).alloc (Nat.le_refl _) _).alloc (by simp) _
def newsC : List Value := [.int .i8 13, .int .i8 0, .int .i64 0, .int .i64 0, .int .i64 0, .int .i64 1, .int .i64 0, .int .i64 0, .int .i8 11, .int .i8 1, .int .i64 2, .int .i64 0, .int .i64 0, .int .i64 1, .int .i64 0, .int .i64 1]
theorem nds_own {w : World} {base g cap : Nat} (h : w.ownsRow base 41 8 (.slice (some ⟨g, 0, none⟩) 4 cap) 4 (Tm.newC.toList ++ newsC)) : Tm.TabR w nds (some ⟨g, 0, none⟩) cap := by
  obtain ⟨a, c, e, h1, h2, h3, _⟩ := Tm.own_at h
  cases e
  refine ⟨h1, h2, h3, fun n hn => ?_⟩
  simp only [nds, List.mem_cons, List.not_mem_nil, or_false] at hn
  rcases hn with rfl | rfl | rfl | rfl <;> exact ⟨⟨by decide, by decide⟩, ⟨by decide, by decide⟩, ⟨by decide, by decide⟩, ⟨by decide, by decide⟩, ⟨by decide, by decide⟩, ⟨by decide, by decide⟩, ⟨by decide, by decide⟩, ⟨by decide, by decide⟩⟩
set_option maxRecDepth 100000 in
set_option maxHeartbeats 4000000 in
theorem wakes_any (w : World) (hG : GA w) : Calls Tryz.prog 6 #[] w fun e w' => e = .returned (.bool true) ∧ Below w.heap.size w w' := by
  obtain ⟨W0, hW0⟩ : ∃ W0, W0 = (w.alloc (.cells #[.string ⟨#[120]⟩, .int .i64 0, .int .i64 0, .int .i64 0, .int .i64 0, .int .i64 1] 29)).alloc (.cells #[.slice none 0 0, .slice (some ⟨w.heap.size, 0, none⟩) 1 1, .slice none 0 0] 34) := ⟨_, rfl⟩
  have hB0 : Below w.heap.size w W0 := by rw [hW0]; exact ((Below.refl _ _).alloc (Nat.le_refl _) _).alloc (by simp) _
  have hz0 : W0.heap.size = w.heap.size + 2 := by rw [hW0]; simp
  have hf0 : W0.heap[w.heap.size]? = some (.cells #[.string ⟨#[120]⟩, .int .i64 0, .int .i64 0, .int .i64 0, .int .i64 0, .int .i64 1] 29 (0, 0)) := by rw [hW0]; exact mid_new' w _ _
  have hs0 : W0.heap[w.heap.size + 1]? = some (.cells #[.slice none 0 0, .slice (some ⟨w.heap.size, 0, none⟩) 1 1, .slice none 0 0] 34 (0, 0)) := by rw [hW0, heap_push, if_pos (by simp)]
  have HN : Hid (∀ V, Calls Tryz.prog 9 #[] V fun e w' => e = .returned (.agg #[.slice (some ⟨V.heap.size + 1, 0, none⟩) 2 2]) ∧ w'.heap[V.heap.size + 1]? = some (.cells Tm.newC 41 (0, 0)) ∧ Below V.heap.size V w') := fun V => RNew_own V
  have HV : Hid (∀ V fb tb c, Below w.heap.size w V → OneR V w.heap.size → WrR V fb → Tm.TabR V nds (some ⟨tb, 0, none⟩) c → Calls Tryz.prog 10 #[.agg #[.slice none 0 0, .slice (some ⟨w.heap.size, 0, none⟩) 1 1, .slice none 0 0], .agg #[.slice none 0 0, .slice (some ⟨fb, 0, none⟩) 1 1], .agg #[.slice (some ⟨tb, 0, none⟩) 4 c], .int .i64 3] V fun e w' => e = .returned (.tuple #[.int .i64 4, .int .i64 0]) ∧ Below V.heap.size V w') := fun V fb tb c hV hS hW hT => Value_nil w.heap.size fb tb c V (hG.below hV) hS hW hT
  have HA2 : Hid (∀ V, Calls Tryz.prog 4 #[.int .i64 3, .int .i64 5, .int .i64 (-2)] V fun e w' => e = .returned (.bool true) ∧ Below V.heap.size V w') := fun V => AtMost_any 3 5 (-2) true V ⟨by decide, by decide⟩ ⟨by decide, by decide⟩ ⟨by decide, by decide⟩ (by decide)
  have HA3 : Hid (∀ V, Calls Tryz.prog 4 #[.int .i64 3, .int .i64 5, .int .i64 (-3)] V fun e w' => e = .returned (.bool false) ∧ Below V.heap.size V w') := fun V => AtMost_any 3 5 (-3) false V ⟨by decide, by decide⟩ ⟨by decide, by decide⟩ ⟨by decide, by decide⟩ (by decide)
  have HB0 := Lib.hid hB0
  have HF0 := Lib.hid hf0
  have HS0 := Lib.hid hs0
  obtain ⟨i0, hi, hz1, hz2, hz3⟩ := info_parts Tm.info_node
  have hz0a : W0.heap.size ≤ w.heap.size + 2 := by omega
  have hz0b : w.heap.size + 2 ≤ W0.heap.size := by omega
  clear hG hB0 hf0 hs0 hz0
  go_enter Tryz.func6, Tryz.ntmps6
  go_wp2_with fail
  rw [← hW0]
  clear hW0
  refine (HN.out _).mono ?_
  rintro e w1 ⟨rfl, hn1, hb1⟩
  have h1 := hb1.size
  have hlt1 : W0.heap.size + 1 < w1.heap.size := (Array.getElem?_eq_some_iff.1 hn1).1
  have HF1 : Hid (w1.heap[w.heap.size]? = some (.cells #[.string ⟨#[120]⟩, .int .i64 0, .int .i64 0, .int .i64 0, .int .i64 0, .int .i64 1] 29 (0, 0))) := (hb1.block _ (by omega)).trans HF0.out
  have HS1 : Hid (w1.heap[w.heap.size + 1]? = some (.cells #[.slice none 0 0, .slice (some ⟨w.heap.size, 0, none⟩) 1 1, .slice none 0 0] 34 (0, 0))) := (hb1.block _ (by omega)).trans HS0.out
  have HB1 : Hid (Below w.heap.size w w1) := ball' HB0.out hb1
  obtain ⟨W2, hW2⟩ : ∃ W2, W2 = (w1.alloc (.cells #[.slice (some ⟨W0.heap.size + 1, 0, none⟩) 2 2] 37)).alloc (.cells newsC.toArray 41) := ⟨_, rfl⟩
  have hb12 : Below w1.heap.size w1 W2 := by rw [hW2]; exact ((Below.refl _ _).alloc (Nat.le_refl _) _).alloc (by simp) _
  have hz20 : W2.heap.size = w1.heap.size + 2 := by rw [hW2]; simp
  have ht2 : W2.heap[w1.heap.size]? = some (.cells #[.slice (some ⟨W0.heap.size + 1, 0, none⟩) 2 2] 37 (0, 0)) := by rw [hW2]; exact mid_new' w1 _ _
  have hnw : W2.heap[w1.heap.size + 1]? = some (.cells newsC.toArray 41 (0, 0)) := by rw [hW2, heap_push, if_pos (by simp)]
  have hown2 : W2.ownsRow w.heap.size 41 8 (.slice (some ⟨W0.heap.size + 1, 0, none⟩) 2 2) 2 Tm.newC.toList := ⟨rfl, .inr ⟨W0.heap.size + 1, 2, Tm.newC, rfl, by omega, (hb12.block _ hlt1).trans hn1, Nat.le_refl _, by decide, rfl, rfl⟩⟩
  have HT2 := Lib.hid ht2
  have HNw := Lib.hid hnw
  have HO2 := Lib.hid hown2
  have HB12 := Lib.hid hb12
  have HW2 := Lib.hid hW2
  clear hn1 hb1 hb12 ht2 hnw hown2 hW2
  go_wp2_with (
    at_builtin
    refine wpList_append_own_at _ rfl _ _ 35 rfl w.heap.size 41 i0 _ 8 56 Tryz.underlying35 hi hz1 hz2 hz3 rfl (by decide) _ 2 Tm.newC.toList rfl (by have := HO2.out; rw [HW2.out] at this; exact this) ⟨w1.heap.size + 1, 0, none⟩ 2 2 newsC rfl rfl (by have := World.news_of_block HNw.out; rw [HW2.out] at this; exact this) (fun u hu => by simp only [newsC, List.mem_cons, List.not_mem_nil, or_false] at hu; rcases hu with rfl | rfl | rfl | rfl | rfl | rfl | rfl | rfl | rfl | rfl | rfl | rfl | rfl | rfl | rfl | rfl <;> rfl) (by simp only [maxLen]; omega) (by omega) (by simp; omega) ?_; intro v' w3 hown3 hgrow3 hnil3 hs3; clear hnil3 hs3; obtain ⟨g, cap, hv3⟩ := ownsRow_succ (k := 3) hown3; have hv4 : v' = .slice (some ⟨g, 0, none⟩) 4 cap := hv3; subst hv4; clear hv3
    have hg2 : W2.grownBy w3 (some (W0.heap.size + 1)) := (by rw [HW2.out]; exact hgrow3)
    have hsm : ∀ b, b < W2.heap.size → b ≠ W0.heap.size + 1 → w3.heap[b]? = W2.heap[b]? := fun b hb hne => hg2.block b hb (fun e => hne (Option.some.inj e))
    have h23 : W2.heap.size ≤ w3.heap.size := hg2.size
    have ht3 := (hsm w1.heap.size (by omega) (by omega)).trans HT2.out
    have hs3 : w3.heap[w.heap.size + 1]? = some (.cells #[.slice none 0 0, .slice (some ⟨w.heap.size, 0, none⟩) 1 1, .slice none 0 0] 34 (0, 0)) := (hsm _ (by omega) (by omega)).trans ((HB12.out.block _ (by omega)).trans HS1.out)
    have hf3 : w3.heap[w.heap.size]? = some (.cells #[.string ⟨#[120]⟩, .int .i64 0, .int .i64 0, .int .i64 0, .int .i64 0, .int .i64 1] 29 (0, 0)) := (hsm _ (by omega) (by omega)).trans ((HB12.out.block _ (by omega)).trans HF1.out)
    have hb3 : Below w.heap.size w w3 := (ball' HB1.out HB12.out).grown hg2 (by omega) (fun k e => by cases e; omega)
    have t0 := (cell_of_row _ _ 0 _ _ _ ht3).trans rfl
    have t1 : ∀ i, w3.frozen? ⟨w1.heap.size, i, none⟩ = false := (fun i => by simp [World.frozen?, ht3])
    have s0 := (cell_of_row _ _ 0 _ _ _ hs3).trans rfl
    have s1 := (cell_of_row _ _ 1 _ _ _ hs3).trans rfl
    have s2 := (cell_of_row _ _ 2 _ _ _ hs3).trans rfl
    have hw13 : w1.heap.size + 2 ≤ w3.heap.size := by omega
    have ht4 : (w3.setCell ⟨w1.heap.size, 0, none⟩ (.slice (some ⟨g, 0, none⟩) 4 cap)).heap[w1.heap.size]? = some (.cells #[.slice (some ⟨g, 0, none⟩) 4 cap] 37 (0, 0)) := set1 ht3
    have t2 : ∀ ob : Obj, ((w3.setCell ⟨w1.heap.size, 0, none⟩ (.slice (some ⟨g, 0, none⟩) 4 cap)).alloc ob).cell? ⟨w1.heap.size, 0, none⟩ = some (.slice (some ⟨g, 0, none⟩) 4 cap) := fun ob => (cell_of_row _ _ 0 _ _ _ ((Below.heap_alloc _ _ _ (by simp; omega)).trans ht4)).trans rfl
    have HX := Lib.hid (And.intro hown3 (And.intro ht3 (And.intro hf3 hb3)))
    clear hown3 hgrow3 hg2 hsm ht3 ht4 hs3 hf3 hb3)
  obtain ⟨hown3, ht3, hf3, hb3⟩ := HX.out
  have hsz4 : (w3.setCell ⟨w1.heap.size, 0, none⟩ (.slice (some ⟨g, 0, none⟩) 4 cap)).heap.size = w3.heap.size := by simp [World.setCell]
  have hgt : g ≠ w1.heap.size := fun e => by
    obtain ⟨cur, hc⟩ := own_cells hown3 (g := g) rfl
    subst e
    rw [ht3] at hc
    simp at hc
  have hold : ∀ b, b < w3.heap.size → b ≠ w1.heap.size → ∀ ob, ((w3.setCell ⟨w1.heap.size, 0, none⟩ (.slice (some ⟨g, 0, none⟩) 4 cap)).alloc ob).heap[b]? = w3.heap[b]? := fun b h1 h2 ob => (Below.heap_alloc _ _ _ (by rw [hsz4]; exact h1)).trans (Below.heap_setCell _ _ _ b h2)
  have hB4 : ∀ ob, Below w.heap.size w ((w3.setCell ⟨w1.heap.size, 0, none⟩ (.slice (some ⟨g, 0, none⟩) 4 cap)).alloc ob) := fun ob => (hb3.setCell (p := ⟨w1.heap.size, 0, none⟩) (by simp; omega) _).alloc (by simp; omega) _
  have hnew := heap_alloc_new (w3.setCell ⟨w1.heap.size, 0, none⟩ (.slice (some ⟨g, 0, none⟩) 4 cap)) (.cells #[.slice none 0 0, .int .i64 3] 47)
  rw [hsz4] at hnew
  refine (HV.out _ w3.heap.size g cap (hB4 _) ((hold _ (by omega) (by omega) _).trans hf3) ⟨_, hnew, rfl, rfl⟩ (nds_own (base := w.heap.size) (ownsRow_heap hown3 (fun k hk => by
    have hk2 : g = k := Option.some.inj hk
    subst hk2
    exact hold g (hown3.lt g rfl).2 hgt _)))).mono ?_
  rintro e w6 ⟨rfl, hb6⟩
  have HB6 : Hid (Below w.heap.size w w6) := ball' (hB4 _) hb6
  clear hown3 ht3 hf3 hb3 hsz4 hgt hold hB4 hnew hb6
  go_wp2_with fail
  refine (HA2.out _).mono ?_
  rintro e w7 ⟨rfl, hb7⟩
  have HB7 : Hid (Below w.heap.size w w7) := ball' HB6.out hb7
  clear hb7
  go_wp2_with fail
  refine (HA3.out _).mono ?_
  rintro e w8 ⟨rfl, hb8⟩
  go_wp2
  go_ret
  exact ⟨rfl, ball' HB7.out hb8⟩
end Go.Proofs.YtbddghcdibdloaaGreatDoor
