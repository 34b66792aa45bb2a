/- Package term's Put. -/
import Derived.Test.YtinogambkfihpaaDoorTmL
import Derived.Deep.RegionHeld3
namespace Go.Proofs.YtinogambkfihpaaDoor.Tm
open Go.RowKit
set_option linter.unusedVariables false
/-- What Put answers. -/
def PutPost (w : World) (l : List NodeA) (n : NodeA) (most : Int) (e : Ending) (w' : World) : Prop :=
  Below w.heap.size w w' ∧
  ((¬ (mayT l = true ∧ standsB n l.length = true) ∧ e = .returned (.tuple #[.agg #[.slice none 0 0], .int .i64 0, .int .i64 2])) ∨
   (mayT l = true ∧ standsB n l.length = true ∧ n ∈ l ∧ ∃ a c, e = .returned (.tuple #[.agg #[.slice a l.length c], .int .i64 (fndN l n), .int .i64 0]) ∧ TabR w' l a c) ∨
   (mayT l = true ∧ standsB n l.length = true ∧ n ∉ l ∧ most ≤ l.length ∧ e = .returned (.tuple #[.agg #[.slice none 0 0], .int .i64 0, .int .i64 40])) ∨
   (mayT l = true ∧ standsB n l.length = true ∧ n ∉ l ∧ (l.length : Int) < most ∧ ∃ L a c, L = l ++ [n] ∧ e = .returned (.tuple #[.agg #[.slice a L.length c], .int .i64 l.length, .int .i64 0]) ∧ TabR w' L a c))
theorem node_news {w : World} {n : NodeA} {b : Nat} {ty : TypeId} (h : w.heap[b]? = some (.cells #[.int .i8 n.op, .int .i8 n.len, .int .i64 n.a0, .int .i64 n.a1, .int .i64 n.a2, .int .i64 n.sort, .int .i64 n.fn, .int .i64 n.num] ty (0, 0))) : ∀ j u, (nodeC n)[j]? = some u → w.cell? ((⟨b, 0, none⟩ : Addr).add j) = some u := fun j u hu => by
  rw [Addr.add_lit, Nat.zero_add, cell_of_row w b j _ _ _ h, ← Array.getElem?_toList]
  exact hu
set_option maxRecDepth 100000 in
set_option maxHeartbeats 4000000 in
theorem Put_any (l : List NodeA) (a : Option Addr) (c : Nat) (n : NodeA) (most : Int) (w : World) (hG : GT w) (hA : TabR w l a c) (hn : NodeOk n) (hmo : I64 most) (hl : l.length ≤ 900) :
    Calls Tryd.prog 16 #[.agg #[.slice a l.length c], .agg #[.int .i8 n.op, .int .i8 n.len, .int .i64 n.a0, .int .i64 n.a1, .int .i64 n.a2, .int .i64 n.sort, .int .i64 n.fn, .int .i64 n.num], .int .i64 most] w (PutPost w l n most) := by
  obtain ⟨W0, hW0⟩ : ∃ W0, W0 = ((w.alloc (.cells #[.slice a l.length c] 33)).alloc (.cells #[.int .i8 n.op, .int .i8 n.len, .int .i64 n.a0, .int .i64 n.a1, .int .i64 n.a2, .int .i64 n.sort, .int .i64 n.fn, .int .i64 n.num] 66)).alloc (.cells #[.slice none 0 0] 33) := ⟨_, rfl⟩
  have hB0 : Below w.heap.size w W0 := by rw [hW0]; exact (((Below.refl _ w).alloc (Nat.le_refl _) _).alloc (by simp) _).alloc (by simp; omega) _
  have hsz : W0.heap.size = w.heap.size + 3 := by rw [hW0]; simp
  have hX0 : W0.heap[w.heap.size]? = some (.cells #[.slice a l.length c] 33 (0, 0)) := by rw [hW0]; exact (Below.heap_alloc _ _ _ (by simp; omega)).trans ((Below.heap_alloc _ _ _ (by simp)).trans (heap_alloc_new w _))
  have hN0 : W0.heap[w.heap.size + 1]? = some (.cells #[.int .i8 n.op, .int .i8 n.len, .int .i64 n.a0, .int .i64 n.a1, .int .i64 n.a2, .int .i64 n.sort, .int .i64 n.fn, .int .i64 n.num] 66 (0, 0)) := by
    have := heap_alloc_new (w.alloc (.cells #[.slice a l.length c] 33)) (.cells #[.int .i8 n.op, .int .i8 n.len, .int .i64 n.a0, .int .i64 n.a1, .int .i64 n.a2, .int .i64 n.sort, .int .i64 n.fn, .int .i64 n.num] 66)
    rw [World.size_alloc] at this
    rw [hW0]; exact (Below.heap_alloc _ _ _ (by simp)).trans this
  have hY0 : W0.heap[w.heap.size + 1 + 1]? = some (.cells #[.slice none 0 0] 33 (0, 0)) := by
    have := heap_alloc_new ((w.alloc (.cells #[.slice a l.length c] 33)).alloc (.cells #[.int .i8 n.op, .int .i8 n.len, .int .i64 n.a0, .int .i64 n.a1, .int .i64 n.a2, .int .i64 n.sort, .int .i64 n.fn, .int .i64 n.num] 66)) (.cells #[.slice none 0 0] 33)
    simp only [World.size_alloc] at this
    rw [hW0]; exact this
  have HIx : Hid (Calls Tryd.prog 31 #[.agg #[.slice a l.length c]] W0 (IdxPost W0 l)) := index_any l a c W0 (hG.below hB0) (hA.below hB0) (by omega)
  have HSt : Hid (∀ V, Below w.heap.size w V → Calls Tryd.prog 32 #[.agg #[.int .i8 n.op, .int .i8 n.len, .int .i64 n.a0, .int .i64 n.a1, .int .i64 n.a2, .int .i64 n.sort, .int .i64 n.fn, .int .i64 n.num], .int .i64 l.length] V fun e w' => e = .returned (.bool (standsB n l.length)) ∧ Below V.heap.size V w') := fun V hV => Stands_any n l.length V (hG.below hV) hn (by omega)
  have HF : Hid (∀ V, Below w.heap.size w V → 0 < l.length → Calls Tryd.prog 33 #[.agg #[.slice a l.length c], .int .i64 l.length] V (FirstPost V l)) := fun V hV h0 => by
    have := first_any l a c l.length V (hA.below hV) (Nat.le_refl _) h0 (by omega)
    rw [List.take_length] at this
    exact this
  have HSK : Hid (∀ V, Below W0.heap.size W0 V → V.cell? ⟨w.heap.size, 0, none⟩ = some (.slice a l.length c) ∧ V.cell? ⟨w.heap.size + 1, 0, none⟩ = some (.int .i8 n.op) ∧ V.cell? ⟨w.heap.size + 1, 1, none⟩ = some (.int .i8 n.len) ∧ V.cell? ⟨w.heap.size + 1, 2, none⟩ = some (.int .i64 n.a0) ∧ V.cell? ⟨w.heap.size + 1, 3, none⟩ = some (.int .i64 n.a1) ∧ V.cell? ⟨w.heap.size + 1, 4, none⟩ = some (.int .i64 n.a2) ∧ V.cell? ⟨w.heap.size + 1, 5, none⟩ = some (.int .i64 n.sort) ∧ V.cell? ⟨w.heap.size + 1, 6, none⟩ = some (.int .i64 n.fn) ∧ V.cell? ⟨w.heap.size + 1, 7, none⟩ = some (.int .i64 n.num) ∧ V.cell? ⟨w.heap.size + 1 + 1, 0, none⟩ = some (.slice none 0 0) ∧ (∀ i, V.frozen? ⟨w.heap.size + 1 + 1, i, none⟩ = false) ∧ w.heap.size < V.heap.size ∧ w.heap.size + 1 < V.heap.size ∧ w.heap.size + 1 + 1 < V.heap.size) := fun V hV => by
    have e0 := (hV.block _ (by omega)).trans hX0
    have e1 := (hV.block _ (by omega)).trans hN0
    have e2 := (hV.block _ (by omega)).trans hY0
    have hs := hV.size
    exact ⟨(cell_of_row _ _ 0 _ _ _ e0).trans rfl, (cell_of_row _ _ 0 _ _ _ e1).trans rfl, (cell_of_row _ _ 1 _ _ _ e1).trans rfl, (cell_of_row _ _ 2 _ _ _ e1).trans rfl, (cell_of_row _ _ 3 _ _ _ e1).trans rfl, (cell_of_row _ _ 4 _ _ _ e1).trans rfl, (cell_of_row _ _ 5 _ _ _ e1).trans rfl, (cell_of_row _ _ 6 _ _ _ e1).trans rfl, (cell_of_row _ _ 7 _ _ _ e1).trans rfl, (cell_of_row _ _ 0 _ _ _ e2).trans rfl, fun i => by simp [World.frozen?, e2], by omega, by omega, by omega⟩
  have HB0 := Lib.hid hB0
  have HA := Lib.hid hA
  have HN := Lib.hid hn
  have HNN : Hid (∀ V, Below W0.heap.size W0 V → V.heap[w.heap.size + 1]? = some (.cells #[.int .i8 n.op, .int .i8 n.len, .int .i64 n.a0, .int .i64 n.a1, .int .i64 n.a2, .int .i64 n.sort, .int .i64 n.fn, .int .i64 n.num] 66 (0, 0))) := fun V hV => (hV.block _ (by omega)).trans hN0
  obtain ⟨p1, p2⟩ := hmo
  have hlm : l.length ≤ 9223372036854775807 := by omega
  obtain ⟨a0, a1, a2, a3, a4, a5, a6, a7, a8, a9, af, az0, az1, az2⟩ := HSK.out _ (Below.refl _ _)
  have HKy := Lib.hid (key_is n hn)
  obtain ⟨i0, hi, hz0, hz1, hz2⟩ := info_parts info_node
  clear hG hA hn hB0 hX0 hN0 hY0
  cases hm : mayT l with
  | false =>
    have HM := Lib.hid hm
    clear hm
    go_enter Tryd.func16, Tryd.ntmps16
    go_wp2_with (first | (go_at_call 31; rw [← hW0]; clear hW0; refine HIx.out.mono ?_; rintro e w1 ⟨hb1, ⟨hm', _⟩ | ⟨_, rfl⟩⟩; exact absurd (hm'.symm.trans HM.out) (by decide); clear a0 a1 a2 a3 a4 a5 a6 a7 a8 a9 af az0 az1 az2; obtain ⟨a0, a1, a2, a3, a4, a5, a6, a7, a8, a9, af, az0, az1, az2⟩ := HSK.out _ hb1))
    have hr : (w1.setCell ⟨w.heap.size + 1 + 1, 0, none⟩ (.slice none 0 0)).cell? ⟨w.heap.size + 1 + 1, 0, none⟩ = some (.slice none 0 0) := World.cell?_setCell_same' _ _ _ (by rw [a9]; rfl)
    have hbf := (HB0.out.trans (hb1.mono HB0.out.size)).setCell (p := ⟨w.heap.size + 1 + 1, 0, none⟩) (by simp; omega) (.slice none 0 0)
    refine bodyPost_ret (v := .tuple #[.agg #[.slice none 0 0], .int .i64 0, .int .i64 2]) (by simp [results, Tryd.results16, go_sem, hr]) rfl ?_
    exact ⟨hbf, .inl ⟨fun h => by rw [HM.out] at h; exact absurd h.1 (by decide), rfl⟩⟩
  | true =>
  have HM := Lib.hid hm
  have hl2 := mayT_len hm
  clear hm
  cases hs : standsB n l.length with
  | false =>
    have HS2 : Hid (∀ V, Below w.heap.size w V → Calls Tryd.prog 32 #[.agg #[.int .i8 n.op, .int .i8 n.len, .int .i64 n.a0, .int .i64 n.a1, .int .i64 n.a2, .int .i64 n.sort, .int .i64 n.fn, .int .i64 n.num], .int .i64 l.length] V fun e w' => e = .returned (.bool false) ∧ Below V.heap.size V w') := by rw [← hs]; exact HSt.out
    have HS3 := Lib.hid hs
    clear hs
    go_enter Tryd.func16, Tryd.ntmps16
    go_wp2_with (first | (go_at_call 31; rw [← hW0]; clear hW0; refine HIx.out.mono ?_; rintro e w1 ⟨hb1, ⟨_, b, rfl, D, hown, hhas, hat⟩ | ⟨hm', _⟩⟩; rotate_left; exact absurd (hm'.symm.trans HM.out) (by decide); have HO := Lib.hid (And.intro hown (And.intro hhas hat)); clear hown hhas hat; clear a0 a1 a2 a3 a4 a5 a6 a7 a8 a9 af az0 az1 az2; obtain ⟨a0, a1, a2, a3, a4, a5, a6, a7, a8, a9, af, az0, az1, az2⟩ := HSK.out _ hb1) | (go_at_call 32; refine (HS2.out _ (HB0.out.trans (hb1.mono HB0.out.size))).mono ?_; rintro e w2 ⟨rfl, hb2⟩; have hb12 := hb1.trans (hb2.mono hb1.size); clear a0 a1 a2 a3 a4 a5 a6 a7 a8 a9 af az0 az1 az2; obtain ⟨a0, a1, a2, a3, a4, a5, a6, a7, a8, a9, af, az0, az1, az2⟩ := HSK.out _ hb12))
    have hr : (w2.setCell ⟨w.heap.size + 1 + 1, 0, none⟩ (.slice none 0 0)).cell? ⟨w.heap.size + 1 + 1, 0, none⟩ = some (.slice none 0 0) := World.cell?_setCell_same' _ _ _ (by rw [a9]; rfl)
    have hbf := (HB0.out.trans (hb12.mono HB0.out.size)).setCell (p := ⟨w.heap.size + 1 + 1, 0, none⟩) (by simp; omega) (.slice none 0 0)
    refine bodyPost_ret (v := .tuple #[.agg #[.slice none 0 0], .int .i64 0, .int .i64 2]) (by simp [results, Tryd.results16, go_sem, hr]) rfl ?_
    exact ⟨hbf, .inl ⟨fun h => by rw [HS3.out] at h; exact absurd h.2 (by decide), rfl⟩⟩
  | true =>
  have HS2 : Hid (∀ V, Below w.heap.size w V → Calls Tryd.prog 32 #[.agg #[.int .i8 n.op, .int .i8 n.len, .int .i64 n.a0, .int .i64 n.a1, .int .i64 n.a2, .int .i64 n.sort, .int .i64 n.fn, .int .i64 n.num], .int .i64 l.length] V fun e w' => e = .returned (.bool true) ∧ Below V.heap.size V w') := by rw [← hs]; exact HSt.out
  have HS3 := Lib.hid hs
  clear hs
  by_cases hin : n ∈ l
  · have HMem := Lib.hid hin
    have HIN : Hid (decide (n ∈ l) = true) := decide_eq_true hin
    clear hin
    go_enter Tryd.func16, Tryd.ntmps16
    go_wp2_with (first | (go_at_call 31; rw [← hW0]; clear hW0; refine HIx.out.mono ?_; rintro e w1 ⟨hb1, ⟨_, b, rfl, D, hown, hhas, hat⟩ | ⟨hm', _⟩⟩; rotate_left; exact absurd (hm'.symm.trans HM.out) (by decide); have HO := Lib.hid (And.intro hown (And.intro hhas hat)); clear hown hhas hat; clear a0 a1 a2 a3 a4 a5 a6 a7 a8 a9 af az0 az1 az2; obtain ⟨a0, a1, a2, a3, a4, a5, a6, a7, a8, a9, af, az0, az1, az2⟩ := HSK.out _ hb1) | (go_at_call 32; refine (HS2.out _ (HB0.out.trans (hb1.mono HB0.out.size))).mono ?_; rintro e w2 ⟨rfl, hb2⟩; have hb12 := hb1.trans (hb2.mono hb1.size); clear a0 a1 a2 a3 a4 a5 a6 a7 a8 a9 af az0 az1 az2; obtain ⟨a0, a1, a2, a3, a4, a5, a6, a7, a8, a9, af, az0, az1, az2⟩ := HSK.out _ hb12) | (at_lookup; refine wpList_lookup_own_ok_int _ rfl _ _ 82 rfl 66 3 .i64 lawNd underPl Tryd.underlying3 (zeroI _) b l.length D rfl (HO.out.1.kept (⟨hb2.os, hb2.tape, hb2.output, hb2.size, fun i hi _ => hb2.block i hi⟩ : World.grownBy _ w2 none) (by simp)) _ _ rfl HKy.out ?_; intro c0 hat0 hwc; rw [HO.out.2.1 n HN.out, HIN.out]; obtain rfl : c0 = (fndN l n : Int) := (by have h := (HO.out.2.2 _ _ (fndN_get HMem.out) (.lit (.int .i64 0))).symm.trans hat0; injection h with h; injection h with h1 h2; exact h2.symm); clear hat0; clear hwc) | (go_at_call 33; refine (HF.out _ (HB0.out.trans (hb12.mono HB0.out.size)) (by omega)).mono ?_; rintro e w3 ⟨v, rfl, hown, hb3⟩; have HOW := Lib.hid hown; clear hown; have hb13 := hb12.trans (hb3.mono hb12.size); clear a0 a1 a2 a3 a4 a5 a6 a7 a8 a9 af az0 az1 az2; obtain ⟨a0, a1, a2, a3, a4, a5, a6, a7, a8, a9, af, az0, az1, az2⟩ := HSK.out _ hb13; obtain ⟨av, cv, rfl, _⟩ := own_at HOW.out))
    have hr : (w3.setCell ⟨w.heap.size + 1 + 1, 0, none⟩ (.slice av l.length cv)).cell? ⟨w.heap.size + 1 + 1, 0, none⟩ = some (.slice av l.length cv) := World.cell?_setCell_same' _ _ _ (by rw [a9]; rfl)
    have hbf := (HB0.out.trans (hb13.mono HB0.out.size)).setCell (p := ⟨w.heap.size + 1 + 1, 0, none⟩) (by simp; omega) (.slice av l.length cv)
    have hO2 : (w3.setCell ⟨w.heap.size + 1 + 1, 0, none⟩ (.slice av l.length cv)).ownsRow w2.heap.size 66 8 (.slice av l.length cv) l.length (l.flatMap nodeC) :=
      own_heap HOW.out (fun k hk _ => Below.heap_setCell _ _ _ _ (by show k ≠ w.heap.size + 1 + 1; have := hb12.size; omega))
    obtain ⟨a', c', he, hT⟩ := own_tab hO2 HA.out.ok
    cases he
    refine bodyPost_ret (v := .tuple #[.agg #[.slice av l.length cv], .int .i64 (fndN l n), .int .i64 0]) (by simp [results, Tryd.results16, go_sem, hr]) rfl ?_
    exact ⟨hbf, .inr (.inl ⟨HM.out, HS3.out, HMem.out, av, cv, rfl, hT⟩)⟩
  have HMem := Lib.hid hin
  have HIN : Hid (decide (n ∈ l) = false) := decide_eq_false hin
  clear hin
  by_cases hmany : most ≤ (l.length : Int)
  · go_enter Tryd.func16, Tryd.ntmps16
    go_wp2_with (first | (go_at_call 31; rw [← hW0]; clear hW0; refine HIx.out.mono ?_; rintro e w1 ⟨hb1, ⟨_, b, rfl, D, hown, hhas, hat⟩ | ⟨hm', _⟩⟩; rotate_left; exact absurd (hm'.symm.trans HM.out) (by decide); have HO := Lib.hid (And.intro hown (And.intro hhas hat)); clear hown hhas hat; clear a0 a1 a2 a3 a4 a5 a6 a7 a8 a9 af az0 az1 az2; obtain ⟨a0, a1, a2, a3, a4, a5, a6, a7, a8, a9, af, az0, az1, az2⟩ := HSK.out _ hb1) | (go_at_call 32; refine (HS2.out _ (HB0.out.trans (hb1.mono HB0.out.size))).mono ?_; rintro e w2 ⟨rfl, hb2⟩; have hb12 := hb1.trans (hb2.mono hb1.size); clear a0 a1 a2 a3 a4 a5 a6 a7 a8 a9 af az0 az1 az2; obtain ⟨a0, a1, a2, a3, a4, a5, a6, a7, a8, a9, af, az0, az1, az2⟩ := HSK.out _ hb12) | (at_lookup; refine wpList_lookup_own_ok_int _ rfl _ _ 82 rfl 66 3 .i64 lawNd underPl Tryd.underlying3 (zeroI _) b l.length D rfl (HO.out.1.kept (⟨hb2.os, hb2.tape, hb2.output, hb2.size, fun i hi _ => hb2.block i hi⟩ : World.grownBy _ w2 none) (by simp)) _ _ rfl HKy.out ?_; intro c0 hat0 hwc; rw [HO.out.2.1 n HN.out, HIN.out]; clear hat0; clear hwc))
    have hr : (w2.setCell ⟨w.heap.size + 1 + 1, 0, none⟩ (.slice none 0 0)).cell? ⟨w.heap.size + 1 + 1, 0, none⟩ = some (.slice none 0 0) := World.cell?_setCell_same' _ _ _ (by rw [a9]; rfl)
    have hbf := (HB0.out.trans (hb12.mono HB0.out.size)).setCell (p := ⟨w.heap.size + 1 + 1, 0, none⟩) (by simp; omega) (.slice none 0 0)
    refine bodyPost_ret (v := .tuple #[.agg #[.slice none 0 0], .int .i64 0, .int .i64 40]) (by simp [results, Tryd.results16, go_sem, hr]) rfl ?_
    exact ⟨hbf, .inr (.inr (.inl ⟨HM.out, HS3.out, HMem.out, hmany, rfl⟩))⟩
  · go_enter Tryd.func16, Tryd.ntmps16
    go_wp2_with (first | (go_at_call 31; rw [← hW0]; clear hW0; refine HIx.out.mono ?_; rintro e w1 ⟨hb1, ⟨_, b, rfl, D, hown, hhas, hat⟩ | ⟨hm', _⟩⟩; rotate_left; exact absurd (hm'.symm.trans HM.out) (by decide); have HO := Lib.hid (And.intro hown (And.intro hhas hat)); clear hown hhas hat; clear a0 a1 a2 a3 a4 a5 a6 a7 a8 a9 af az0 az1 az2; obtain ⟨a0, a1, a2, a3, a4, a5, a6, a7, a8, a9, af, az0, az1, az2⟩ := HSK.out _ hb1) | (go_at_call 32; refine (HS2.out _ (HB0.out.trans (hb1.mono HB0.out.size))).mono ?_; rintro e w2 ⟨rfl, hb2⟩; have hb12 := hb1.trans (hb2.mono hb1.size); clear a0 a1 a2 a3 a4 a5 a6 a7 a8 a9 af az0 az1 az2; obtain ⟨a0, a1, a2, a3, a4, a5, a6, a7, a8, a9, af, az0, az1, az2⟩ := HSK.out _ hb12) | (at_lookup; refine wpList_lookup_own_ok_int _ rfl _ _ 82 rfl 66 3 .i64 lawNd underPl Tryd.underlying3 (zeroI _) b l.length D rfl (HO.out.1.kept (⟨hb2.os, hb2.tape, hb2.output, hb2.size, fun i hi _ => hb2.block i hi⟩ : World.grownBy _ w2 none) (by simp)) _ _ rfl HKy.out ?_; intro c0 hat0 hwc; rw [HO.out.2.1 n HN.out, HIN.out]; clear hat0; clear hwc) | (go_at_call 33; refine (HF.out _ (HB0.out.trans (hb12.mono HB0.out.size)) (by omega)).mono ?_; rintro e w3 ⟨v, rfl, hown, hb3⟩; have HOW := Lib.hid hown; clear hown; have hb13 := hb12.trans (hb3.mono hb12.size); clear a0 a1 a2 a3 a4 a5 a6 a7 a8 a9 af az0 az1 az2; obtain ⟨a0, a1, a2, a3, a4, a5, a6, a7, a8, a9, af, az0, az1, az2⟩ := HSK.out _ hb13; obtain ⟨av, cv, rfl, _, _, _, hgv⟩ := own_at HOW.out; obtain ⟨gv, rfl, hgb, hgl⟩ := hgv (by omega); clear hgv) | (at_builtin; refine wpList_append_own_at _ rfl _ _ 31 rfl w.heap.size 66 i0 _ 8 56 Tryd.underlying31 hi hz0 hz1 hz2 rfl (by decide) _ l.length (l.flatMap nodeC) rfl (own_base (own_heap HOW.out (fun k _ hk => (Below.heap_alloc _ _ _ (by simp; omega)).trans (Below.heap_alloc _ _ _ hk))) (by have := hb12.size; have := HB0.out.size; omega)) ⟨w3.heap.size + 1, 0, none⟩ 1 1 (nodeC n) rfl rfl (node_news (by have := heap_alloc_new (w3.alloc (.cells #[.slice (some ⟨gv, 0, none⟩) l.length cv] 33)) (.cells #[.int .i8 n.op, .int .i8 n.len, .int .i64 n.a0, .int .i64 n.a1, .int .i64 n.a2, .int .i64 n.sort, .int .i64 n.fn, .int .i64 n.num] 66); rwa [World.size_alloc] at this)) (fun u hu => one_node [n] u (by simpa using hu)) (by simp only [maxLen]; omega) (by omega) (by simp; omega) ?_; intro v' w4 hown' hgrow hnil hloc; clear hnil; have HOF := Lib.hid hown'; have hgrow : World.grownBy _ w4 (some gv) := hgrow; have hb14 : Below W0.heap.size W0 w4 := (((hb13.alloc hb13.size _).alloc (by have := hb13.size; simp; omega) _).grown hgrow (by have := hb13.size; simp; omega) (fun k e => by cases e; have := hb12.size; omega)); have hbx : w4.heap[w3.heap.size]? = some (.cells #[.slice (some ⟨gv, 0, none⟩) l.length cv] 33 (0, 0)) := ((hgrow.block w3.heap.size (by simp; omega) (fun e => by cases e; omega)).trans (Below.heap_alloc _ _ _ (by simp))).trans (heap_alloc_new w3 _); have b0 := cell_of_row _ _ 0 _ _ _ hbx; have bf : ∀ i, w4.frozen? ⟨w3.heap.size, i, none⟩ = false := (fun i => by simp [World.frozen?, hbx]); have bz := (Array.getElem?_eq_some_iff.1 hbx).1; simp only [List.getElem?_toArray, List.getElem?_cons_zero] at b0; have HBX := Lib.hid hbx; clear a0 a1 a2 a3 a4 a5 a6 a7 a8 a9 af az0 az1 az2; obtain ⟨a0, a1, a2, a3, a4, a5, a6, a7, a8, a9, af, az0, az1, az2⟩ := HSK.out _ hb14; obtain ⟨av', cv', rfl, _, _, _, hgv'⟩ := own_at HOF.out; obtain ⟨gv', rfl, hgb', hgl'⟩ := hgv' (by omega); have hgl2 : w.heap.size + 3 ≤ gv' ∧ gv' ≠ w3.heap.size := hloc.elim (fun e => by have h1 := hb12.size; have e : some gv' = some gv := e; cases e; omega) (fun e => by have h1 := hb12.size; have h2 := hb13.size; have e : some gv' = some (((w3.alloc _).alloc _).heap.size) := e; simp at e; omega); clear hgv' hown' hgrow hbx hloc))
    have hw3 := hb13.size
    obtain ⟨V, hV⟩ : ∃ V, V = Value.slice (some ⟨gv', 0, none⟩) (l.length + 1) cv' := ⟨_, rfl⟩
    have hof : ∀ k, k ≠ w3.heap.size → (w4.setCell ⟨w3.heap.size, 0, none⟩ (.slice (some ⟨gv', 0, none⟩) (l.length + 1) cv')).heap[k]? = w4.heap[k]? := fun k hk => Below.heap_setCell _ _ _ _ hk
    have k0 : (w4.setCell ⟨w3.heap.size, 0, none⟩ (.slice (some ⟨gv', 0, none⟩) (l.length + 1) cv')).cell? ⟨w3.heap.size, 0, none⟩ = some (.slice (some ⟨gv', 0, none⟩) (l.length + 1) cv') := World.cell?_setCell_same' _ _ _ (by rw [b0]; rfl)
    have hb15 : Below W0.heap.size W0 (w4.setCell ⟨w3.heap.size, 0, none⟩ (.slice (some ⟨gv', 0, none⟩) (l.length + 1) cv')) := hb14.setCell (p := ⟨w3.heap.size, 0, none⟩) (by show W0.heap.size ≤ w3.heap.size; omega) _
    have hO5 : (w4.setCell ⟨w3.heap.size, 0, none⟩ (.slice (some ⟨gv', 0, none⟩) (l.length + 1) cv')).ownsRow w.heap.size 66 8 (.slice (some ⟨gv', 0, none⟩) (l.length + 1) cv') (l.length + 1) (l.flatMap nodeC ++ nodeC n) := by
      refine ⟨HOF.out.1, ?_⟩
      rcases HOF.out.2 with ⟨h, _⟩ | ⟨g', cap', cur', e, h1, h2, h3⟩
      · cases h
      · refine .inr ⟨g', cap', cur', e, h1, (hof g' ?_).trans h2, h3⟩
        cases e
        exact hgl2.2
    generalize (w4.setCell ⟨w3.heap.size, 0, none⟩ (.slice (some ⟨gv', 0, none⟩) (l.length + 1) cv')) = w5 at k0 hb15 hO5 hof ⊢
    clear a0 a1 a2 a3 a4 a5 a6 a7 a8 a9 af az0 az1 az2 b0 bf bz hof
    obtain ⟨a0, a1, a2, a3, a4, a5, a6, a7, a8, a9, af, az0, az1, az2⟩ := HSK.out _ hb15
    have HO5 := Lib.hid hO5
    have HB15 := Lib.hid hb15
    clear hO5 hb15 hb14 hb13 hb12 hb3 hb2 hb1 hV
    go_region
    go_wp2_with fail
    have hr : (w5.setCell ⟨w.heap.size + 1 + 1, 0, none⟩ (.slice (some ⟨gv', 0, none⟩) (l.length + 1) cv')).drew.cell? ⟨w.heap.size + 1 + 1, 0, none⟩ = some (.slice (some ⟨gv', 0, none⟩) (l.length + 1) cv') := World.cell?_setCell_same' _ _ _ (by rw [a9]; rfl)
    have hlen2 : (l ++ [n]).length = l.length + 1 := by simp
    have hfl : (l ++ [n]).flatMap nodeC = l.flatMap nodeC ++ nodeC n := by simp
    have hbf : Below w.heap.size w (w5.setCell ⟨w.heap.size + 1 + 1, 0, none⟩ (.slice (some ⟨gv', 0, none⟩) (l.length + 1) cv')).drew := ((HB0.out.trans (HB15.out.mono HB0.out.size)).setCell (p := ⟨w.heap.size + 1 + 1, 0, none⟩) (by simp; omega) _).drew
    have hO6 : (w5.setCell ⟨w.heap.size + 1 + 1, 0, none⟩ (.slice (some ⟨gv', 0, none⟩) (l.length + 1) cv')).drew.ownsRow w.heap.size 66 8 (.slice (some ⟨gv', 0, none⟩) (l.length + 1) cv') (l ++ [n]).length ((l ++ [n]).flatMap nodeC) := by
      rw [hlen2, hfl]
      refine ⟨HO5.out.1, ?_⟩
      rcases HO5.out.2 with ⟨h, _⟩ | ⟨g', cap', cur', e, h1, h2, h3⟩
      · cases h
      · refine .inr ⟨g', cap', cur', e, h1, (Below.heap_setCell _ _ _ g' ?_).trans h2, h3⟩
        cases e
        show gv' ≠ w.heap.size + 1 + 1
        have := hgl2.1
        omega
    obtain ⟨a', c', he, hT⟩ := own_tab hO6 (fun x hx => by rcases List.mem_append.1 hx with hx | hx; exact HA.out.ok x hx; (simp at hx; subst hx; exact HN.out))
    rw [hlen2] at he
    cases he
    refine bodyPost_ret (v := .tuple #[.agg #[.slice (some ⟨gv', 0, none⟩) (l.length + 1) cv'], .int .i64 l.length, .int .i64 0]) (by simp [results, Tryd.results16, go_sem, hr]) rfl ?_
    exact ⟨hbf, .inr (.inr (.inr ⟨HM.out, HS3.out, HMem.out, by omega, l ++ [n], _, _, rfl, by rw [hlen2], hT⟩))⟩
end Go.Proofs.YtinogambkfihpaaDoor.Tm
