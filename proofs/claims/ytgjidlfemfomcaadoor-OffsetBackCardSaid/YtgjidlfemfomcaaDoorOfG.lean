/- Package offset's Add. -/
import Derived.Test.YtgjidlfemfomcaaDoorOfF
namespace Go.Proofs.YtgjidlfemfomcaaDoor
open Go.RowKit
set_option linter.unusedVariables false
def addS (l : List NodeA) (id n : Int) : Int × Int := stepA ((OfP l id).2.1, (OfP l id).2.2) n
/-- What Add answers. -/
def addP (l : List NodeA) (id n most : Int) : List NodeA × Int × Int :=
  if (addS l id n).2 = 0 then putP l (OfP l id).1 (addS l id n).1 most else ([], 0, (addS l id n).2)
theorem ofP_lt (l : List NodeA) (id : Int) (hl : l.length ≤ 1000) (hok : okFrom [] l = true) : I64 (ofP l id).1 := by
  have hr : ∀ (f k : Nat) (s : Int × Int), k ≤ 1000 → (rootP l f k s).1 ≤ 1000 := by
    intro f
    induction f with
    | zero => intro k s h; exact h
    | succ f ih =>
      intro k s h
      unfold rootP
      cases hn : l[k]? with
      | none => exact h
      | some n =>
        simp only
        by_cases h0 : n.op = 10
        · rw [if_pos h0]; show 1 ≤ 1000; omega
        rw [if_neg h0]
        by_cases h1 : n.op = 11
        · rw [if_pos h1]
          have := stands_add (ok_at hok hn).1 h1
          exact ih _ _ (by omega)
        · rw [if_neg h1]; exact h
  unfold ofP
  by_cases h : id < 0 ∨ l.length ≤ id
  · rw [if_pos h]; exact zero_i64
  rw [if_neg h]
  cases l[id.toNat]? with
  | none => exact zero_i64
  | some n =>
    simp only
    by_cases h0 : n.sort = 1
    · rw [if_pos h0]
      by_cases h1 : (rootA l id.toNat).2.2 = 0
      · rw [if_pos h1]
        have := hr (id.toNat + 1) id.toNat (0, 0) (by omega)
        show I64 ((rootA l id.toNat).1 : Nat)
        unfold rootA at *
        exact i64_of ⟨by omega, by omega⟩
      · rw [if_neg h1]; exact zero_i64
    · rw [if_neg h0]; exact zero_i64
set_option maxRecDepth 100000 in
set_option maxHeartbeats 4000000 in
theorem Add_out (l : List NodeA) (a : Option Addr) (c : Nat) (id n most : Int) (r : List NodeA × Int × Int) (w : World) (hG : GT w) (hA : TabR w l a c) (hl : l.length ≤ 900) (hi : I64 id) (hn : I64 n) (hmo : I64 most) (hr : addP l id n most = r) :
    Calls Tryd.prog 9 #[.agg #[.slice a l.length c], .int .i64 id, .int .i64 n, .int .i64 most] w (TabOut w r) := by
  obtain ⟨W0, hW0⟩ : ∃ W0, W0 = (w.alloc (.cells #[.slice a l.length c] 24)).alloc (.cells #[.slice none 0 0] 24) := ⟨_, rfl⟩
  have HB0 : Hid (Below w.heap.size w W0) := by show Below _ _ _; rw [hW0]; exact ((Below.refl _ w).alloc (Nat.le_refl _) _).alloc (by simp) _
  have hX0 : W0.heap[w.heap.size]? = some (.cells #[.slice a l.length c] 24 (0, 0)) := by rw [hW0]; exact (Below.heap_alloc _ _ _ (by simp)).trans (heap_alloc_new w _)
  have hY0 : W0.heap[w.heap.size + 1]? = some (.cells #[.slice none 0 0] 24 (0, 0)) := by
    have := heap_alloc_new (w.alloc (.cells #[.slice a l.length c] 24)) (.cells #[.slice none 0 0] 24)
    rw [World.size_alloc] at this
    rw [hW0]; exact this
  have HSK : Hid (∀ V, Below W0.heap.size W0 V → V.cell? ⟨w.heap.size, 0, none⟩ = some (.slice a l.length c) ∧ V.cell? ⟨w.heap.size + 1, 0, none⟩ = some (.slice none 0 0) ∧ (∀ i, V.frozen? ⟨w.heap.size + 1, i, none⟩ = false) ∧ w.heap.size < V.heap.size ∧ w.heap.size + 1 < V.heap.size) := fun V hV => by
    have e0 := (hV.block _ (Array.getElem?_eq_some_iff.1 hX0).1).trans hX0
    have e1 := (hV.block _ (Array.getElem?_eq_some_iff.1 hY0).1).trans hY0
    exact ⟨(cell_of_row _ _ 0 _ _ _ e0).trans rfl, (cell_of_row _ _ 0 _ _ _ e1).trans rfl, fun i => by simp [World.frozen?, e1], (Array.getElem?_eq_some_iff.1 e0).1, (Array.getElem?_eq_some_iff.1 e1).1⟩
  have HSR : Hid (∀ V, Below W0.heap.size W0 V → V.heap[w.heap.size + 1]? = some (.cells #[.slice none 0 0] 24 (0, 0))) := fun V hV => (hV.block _ (Array.getElem?_eq_some_iff.1 hY0).1).trans hY0
  obtain ⟨p, hp⟩ : ∃ p, OfP l id = p := ⟨_, rfl⟩
  have HO : Hid (Calls Tryd.prog 10 #[.agg #[.slice a l.length c], .int .i64 id] W0 fun e w' => e = .returned (.tuple #[.int .i64 p.1, .int .i64 p.2.1, .int .i64 p.2.2]) ∧ Below W0.heap.size W0 w') := Of_any l a c id p W0 (hG.below HB0.out) (hA.below HB0.out) (by omega) hi hp
  have hp2 := OfP_i64 l id
  rw [hp] at hp2
  obtain ⟨s, hs⟩ : ∃ s, stepA (p.2.1, p.2.2) n = s := ⟨_, rfl⟩
  have hs2 : addS l id n = s := by unfold addS; rw [hp]; exact hs
  have hsi : I64 s.1 := by rw [← hs]; exact stepA_i64 hp2
  have HT : Hid (∀ (V : World) (B : Nat), Sum V B (p.2.1, p.2.2) → Calls Tryd.prog 18 #[.pointer (some ⟨B, 0, none⟩), .func (.func 19) #[] #[], .int .i64 n] V (ThenPost V B s)) := fun V B h => by rw [← hs]; exact then_add B _ _ V h hp2 hn
  have HSum : Hid (∀ V : World, Sum (V.alloc (.cells #[.int .i64 p.2.1, .int .i64 p.2.2] 49)) V.heap.size (p.2.1, p.2.2)) := fun V => heap_alloc_new V _
  have hr2 : (if s.2 = 0 then putP l p.1 s.1 most else ([], 0, s.2)) = r := by rw [← hr]; unfold addP; rw [hs2, hp]
  by_cases he : s.2 = 0
  rotate_left
  · obtain rfl : ([], 0, s.2) = r := by rw [← hr2, if_neg he]
    obtain ⟨p0, p1, p2⟩ := p
    obtain ⟨s0, s1⟩ := s
    simp only at HT HSum HO
    have e0 := ne_t he
    simp only at e0
    clear hr hr2 he hA hG hp hX0 hY0 hp2 hs hs2 hsi
    go_enter Tryd.func9, Tryd.ntmps9
    go_wp2_with (first | (go_at_call 10; rw [← hW0]; clear hW0; refine HO.out.mono ?_; rintro e w1 ⟨rfl, hb1⟩; have HB1 := Lib.hid hb1; clear hb1) | (go_at_call 18; refine (HT.out _ _ (HSum.out w1)).mono ?_; rintro e w2 ⟨rfl, hs2, hb2⟩; have c0 := hs2.c0; have c1 := hs2.c1; have cz := hs2.lt; simp only at c0 c1; have HB2 : Hid (Below W0.heap.size W0 w2) := HB1.out.trans ((But.below ((Below.refl _ w1).alloc (Nat.le_refl _) _) hb2 (Nat.le_refl _)).mono HB1.out.size); obtain ⟨t0, y0, yf, tz, yz⟩ := HSK.out _ HB2.out; clear hs2 hb2))
    go_region
    go_wp2_with fail
    have k0 : (w2.setCell ⟨w.heap.size + 1, 0, none⟩ (.slice none 0 0)).drew.cell? ⟨w.heap.size + 1, 0, none⟩ = some (.slice none 0 0) := World.cell?_setCell_same' _ _ _ (by rw [y0]; rfl)
    refine bodyPost_ret (v := .tuple #[.agg #[.slice none 0 0], .int .i64 0, .int .i64 s1]) (by simp [results, Tryd.results9, go_sem, k0]) rfl ⟨none, 0, rfl, tab_nil _, ?_⟩
    exact ((HB0.out.trans (HB2.out.mono HB0.out.size)).setCell (p := ⟨w.heap.size + 1, 0, none⟩) (by simp) _).drew
  have hp0 : p.2.2 = 0 := by
    by_cases h : p.2.2 = 0
    · exact h
    · rw [stepA_err h] at hs; rw [← hs] at he; exact absurd he h
  have hm : mayT l = true := OfP_may (by rw [hp]; exact hp0)
  have hp1 : I64 p.1 := by rw [← hp, OfP_eq hm]; exact ofP_lt l id (by omega) (mayT_ok hm).2
  rw [if_pos he] at hr2
  have HPt : Hid (∀ V, Below W0.heap.size W0 V → Calls Tryd.prog 20 #[.agg #[.slice a l.length c], .int .i64 p.1, .int .i64 s.1, .int .i64 most] V fun e w' => ∃ a c, e = .returned (.tuple #[.agg #[.slice a r.1.length c], .int .i64 r.2.1, .int .i64 r.2.2]) ∧ TabR w' r.1 a c ∧ Below W0.heap.size W0 w') := fun V hV => (put_any l a c _ _ most r V (hG.below (HB0.out.trans (hV.mono HB0.out.size))) (hA.below (HB0.out.trans (hV.mono HB0.out.size))) hm hl hp1 hsi hmo hr2).mono fun e w' ⟨a', c', h1, h2, h3⟩ => ⟨a', c', h1, h2, hV.trans (h3.mono hV.size)⟩
  obtain ⟨p0, p1, p2⟩ := p
  obtain ⟨s0, s1⟩ := s
  obtain rfl : s1 = 0 := he
  simp only at HT HSum HO HPt
  clear hr hr2 hA hG hp hX0 hY0 hp2 hs hs2 hsi hp0 hp1 hm
  go_enter Tryd.func9, Tryd.ntmps9
  go_wp2_with (first | (go_at_call 10; rw [← hW0]; clear hW0; refine HO.out.mono ?_; rintro e w1 ⟨rfl, hb1⟩; have HB1 := Lib.hid hb1; clear hb1) | (go_at_call 18; refine (HT.out _ _ (HSum.out w1)).mono ?_; rintro e w2 ⟨rfl, hs2, hb2⟩; have c0 := hs2.c0; have c1 := hs2.c1; have cz := hs2.lt; simp only at c0 c1; have HB2 : Hid (Below W0.heap.size W0 w2) := HB1.out.trans ((But.below ((Below.refl _ w1).alloc (Nat.le_refl _) _) hb2 (Nat.le_refl _)).mono HB1.out.size); obtain ⟨t0, y0, yf, tz, yz⟩ := HSK.out _ HB2.out; clear hs2 hb2) | (go_at_call 20; refine (HPt.out _ HB2.out).mono ?_; rintro e w3 ⟨a3, c3, rfl, hT3, hb3⟩; have HT3 := Lib.hid hT3; have HB3 := Lib.hid hb3; clear t0 y0 yf tz yz c0 c1 cz hb3 hT3; obtain ⟨t0, y0, yf, tz, yz⟩ := HSK.out _ HB3.out))
  have k0 : (w3.setCell ⟨w.heap.size + 1, 0, none⟩ (.slice a3 r.1.length c3)).cell? ⟨w.heap.size + 1, 0, none⟩ = some (.slice a3 r.1.length c3) := World.cell?_setCell_same' _ _ _ (by rw [y0]; rfl)
  refine bodyPost_ret (v := .tuple #[.agg #[.slice a3 r.1.length c3], .int .i64 r.2.1, .int .i64 r.2.2]) (by simp [results, Tryd.results9, go_sem, k0]) rfl ⟨a3, c3, rfl, HT3.out.box (HSR.out _ HB3.out) _, ?_⟩
  exact (HB0.out.trans (HB3.out.mono HB0.out.size)).setCell (p := ⟨w.heap.size + 1, 0, none⟩) (by simp) _
end Go.Proofs.YtgjidlfemfomcaaDoor
