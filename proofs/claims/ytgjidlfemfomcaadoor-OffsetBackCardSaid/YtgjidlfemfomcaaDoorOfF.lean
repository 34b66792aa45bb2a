/- Package offset's node and put. -/
import Derived.Test.YtgjidlfemfomcaaDoorOfE
import Derived.Deep.RegionHeld3
namespace Go.Proofs.YtgjidlfemfomcaaDoor
open Go.RowKit
set_option linter.unusedVariables false
/-- What Put answers: a table, a place, an error. -/
def putF (l : List NodeA) (N : NodeA) (most : Int) : List NodeA × Int × Int :=
  if mayT l = true ∧ standsB N l.length = true then (if N ∈ l then (l, fndN l N, 0) else if most ≤ l.length then ([], 0, 40) else (l ++ [N], l.length, 0)) else ([], 0, 2)
def TabOut (w : World) (r : List NodeA × Int × Int) (e : Ending) (w' : World) : Prop :=
  ∃ a c, e = .returned (.tuple #[.agg #[.slice a r.1.length c], .int .i64 r.2.1, .int .i64 r.2.2]) ∧ TabR w' r.1 a c ∧ Below w.heap.size w w'
theorem tab_nil (w : World) : TabR w [] none 0 := ⟨Nat.le_refl _, Nat.zero_le _, fun h => absurd h (by simp), fun _ h => by simp at h⟩
theorem PutF_any (l : List NodeA) (a : Option Addr) (c : Nat) (N : NodeA) (most : Int) (r : List NodeA × Int × Int) (w : World) (hG : GT w) (hA : TabR w l a c) (hn : NodeOk N) (hmo : I64 most) (hl : l.length ≤ 900) (hr : putF l N most = r) :
    Calls Tryd.prog 27 #[.agg #[.slice a l.length c], .agg #[.int .i8 N.op, .int .i8 N.len, .int .i64 N.a0, .int .i64 N.a1, .int .i64 N.a2, .int .i64 N.sort, .int .i64 N.fn, .int .i64 N.num], .int .i64 most] w (TabOut w r) := by
  refine (Put_any l a c N most w hG hA hn hmo hl).mono ?_
  rintro e w' ⟨hb, ⟨h, he⟩ | ⟨h1, h2, h3, a', c', he, hT⟩ | ⟨h1, h2, h3, h4, he⟩ | ⟨h1, h2, h3, h4, L, a', c', hL, he, hT⟩⟩
  · obtain rfl : ([], 0, 2) = r := by rw [← hr]; exact (if_neg h).symm
    exact ⟨none, 0, he, tab_nil _, hb⟩
  · obtain rfl : (l, (fndN l N : Int), 0) = r := by rw [← hr]; unfold putF; rw [if_pos ⟨h1, h2⟩, if_pos h3]
    exact ⟨a', c', he, hT, hb⟩
  · obtain rfl : ([], 0, 40) = r := by rw [← hr]; unfold putF; rw [if_pos ⟨h1, h2⟩, if_neg h3, if_pos h4]
    exact ⟨none, 0, he, tab_nil _, hb⟩
  · obtain rfl : (l ++ [N], (l.length : Int), 0) = r := by rw [← hr]; unfold putF; rw [if_pos ⟨h1, h2⟩, if_neg h3, if_neg (by omega)]
    subst hL
    exact ⟨a', c', he, hT, hb⟩
/-- A table's row is no box of a slice: a store there leaves it. -/
theorem TabR.box {w : World} {l : List NodeA} {a x : Option Addr} {c b n m : Nat} {ty : TypeId} (h : TabR w l a c) (hb : w.heap[b]? = some (.cells #[.slice x n m] ty (0, 0))) (v : Value) : TabR (w.setCell ⟨b, 0, none⟩ v) l a c := by
  refine ⟨h.le, h.cap, ?_, h.ok⟩
  cases l with
  | nil => exact fun h0 => absurd h0 (by simp)
  | cons y r =>
    obtain ⟨g, o, rfl, hg, q0, _⟩ := h.node (k := 0) (n := y) rfl
    have hne : g ≠ b := fun e => by
      subst e
      rw [cell_of_row _ _ _ _ _ _ hb] at q0
      cases o with
      | zero => simp at q0
      | succ o => simp at q0
    have hs : (w.setCell ⟨b, 0, none⟩ v).heap.size = w.heap.size := by simp
    rw [hs]
    exact h.tat.heap (fun g' o' e => by cases e; exact Below.heap_setCell _ _ _ _ hne)
/-- The node of a base and an offset. -/
def nodeP (l : List NodeA) (base : Nat) (n : Int) : NodeA := if base = 1 then ⟨10, 0, 0, 0, 0, 1, 0, n⟩ else if n = 0 then l.getD base trueN else ⟨11, 1, base, 0, 0, 1, 0, n⟩
set_option maxRecDepth 100000 in
theorem node_any (l : List NodeA) (a : Option Addr) (c base : Nat) (n : Int) (N : NodeA) (w : World) (hA : TabR w l a c) (hl : l.length ≤ 1000) (hb : base < l.length) (hn : nodeP l base n = N) :
    Calls Tryd.prog 35 #[.agg #[.slice a l.length c], .int .i64 base, .int .i64 n] w fun e w' => e = .returned (.agg #[.int .i8 N.op, .int .i8 N.len, .int .i64 N.a0, .int .i64 N.a1, .int .i64 N.a2, .int .i64 N.sort, .int .i64 N.fn, .int .i64 N.num]) ∧ Below w.heap.size w w' := by
  have HB : Hid (∀ o o', Below w.heap.size w ((w.alloc o).alloc o')) := fun o o' => ((Below.refl _ w).alloc (Nat.le_refl _) _).alloc (by simp) _
  by_cases h1 : (base : Int) = 1
  · obtain rfl : NodeA.mk 10 0 0 0 0 1 0 n = N := by rw [← hn]; unfold nodeP; rw [if_pos (by omega)]
    have e0 := eq_t h1
    clear hn h1 hA
    go_enter Tryd.func35, Tryd.ntmps35
    go_wp2
    refine bodyPost_ret (v := .agg #[.int .i8 10, .int .i8 0, .int .i64 0, .int .i64 0, .int .i64 0, .int .i64 1, .int .i64 0, .int .i64 n]) (by simp [results, Tryd.results35, go_sem]) rfl ⟨rfl, HB.out _ _⟩
  have e0 := eq_f h1
  by_cases h2 : n = 0
  · obtain ⟨x, hx⟩ : ∃ x, l[base]? = some x := ⟨_, List.getElem?_eq_getElem hb⟩
    obtain rfl : x = N := by rw [← hn]; unfold nodeP; rw [if_neg (by omega), if_pos h2, List.getD_eq_getElem?_getD, hx]; rfl
    obtain ⟨g, o, rfl, hg, q0, q1, q2, q3, q4, q5, q6, q7⟩ := hA.node hx
    have e1 := eq_t h2
    have hcap := hA.le
    have hki : (base : Int) < (l.length : Int) := by omega
    have hk0 : (0 : Int) ≤ (base : Int) := by omega
    clear hn h1 h2 hx hA
    go_enter Tryd.func35, Tryd.ntmps35
    go_wp2
    refine bodyPost_ret (v := .agg #[.int .i8 x.op, .int .i8 x.len, .int .i64 x.a0, .int .i64 x.a1, .int .i64 x.a2, .int .i64 x.sort, .int .i64 x.fn, .int .i64 x.num]) (by simp [results, Tryd.results35, go_sem]) rfl ⟨rfl, HB.out _ _⟩
  obtain rfl : NodeA.mk 11 1 base 0 0 1 0 n = N := by rw [← hn]; unfold nodeP; rw [if_neg (by omega), if_neg h2]
  have e1 := eq_f h2
  clear hn h1 h2 hA
  go_enter Tryd.func35, Tryd.ntmps35
  go_wp2
  refine bodyPost_ret (v := .agg #[.int .i8 11, .int .i8 1, .int .i64 base, .int .i64 0, .int .i64 0, .int .i64 1, .int .i64 0, .int .i64 n]) (by simp [results, Tryd.results35, go_sem]) rfl ⟨rfl, HB.out _ _⟩
/-- What put answers. -/
def putP (l : List NodeA) (base n most : Int) : List NodeA × Int × Int :=
  if (ofP l base).2.2 = 0 then (if (ofP l base).1 = base then (if mayB n = true then putF l (nodeP l base.toNat n) most else ([], 0, 10)) else ([], 0, 2)) else ([], 0, (ofP l base).2.2)
theorem ofP_in {l : List NodeA} {id : Int} (h : (ofP l id).2.2 = 0) : 0 ≤ id ∧ id < l.length := by
  unfold ofP at h
  split at h
  · cases h
  · omega
theorem i8_of {x : Int} (h : -128 ≤ x ∧ x ≤ 127) : I8 x := h
theorem i64_of {x : Int} (h : -9223372036854775808 ≤ x ∧ x ≤ 9223372036854775807) : I64 x := h
theorem nodeP_ok {l : List NodeA} {base : Nat} {n : Int} (hl : l.length ≤ 1000) (hb : base < l.length) (hn : I64 n) (ho : ∀ x ∈ l, NodeOk x) : NodeOk (nodeP l base n) := by
  have h0 : I8 0 := i8_of (by omega)
  have h1 : I8 1 := i8_of (by omega)
  have h10 : I8 10 := i8_of (by omega)
  have h11 : I8 11 := i8_of (by omega)
  have z1 : I64 1 := i64_of (by omega)
  have zb : I64 base := i64_of (by omega)
  unfold nodeP
  split
  · exact ⟨h10, h0, zero_i64, zero_i64, zero_i64, z1, zero_i64, hn⟩
  · split
    · rw [List.getD_eq_getElem?_getD, List.getElem?_eq_getElem hb]
      exact ho _ (List.getElem_mem hb)
    · exact ⟨h11, h1, zb, zero_i64, zero_i64, z1, zero_i64, hn⟩
set_option maxRecDepth 100000 in
set_option maxHeartbeats 4000000 in
theorem put_any (l : List NodeA) (a : Option Addr) (c : Nat) (base n most : Int) (r : List NodeA × Int × Int) (w : World) (hG : GT w) (hA : TabR w l a c) (hm : mayT l = true) (hl : l.length ≤ 900) (hb : I64 base) (hn : I64 n) (hmo : I64 most) (hr : putP l base n most = r) :
    Calls Tryd.prog 20 #[.agg #[.slice a l.length c], .int .i64 base, .int .i64 n, .int .i64 most] w (TabOut w r) := by
  obtain ⟨W0, hW0⟩ : ∃ W0, W0 = (w.alloc (.cells #[.slice a l.length c] 24)).alloc (.cells #[.slice none 0 0] 24) := ⟨_, rfl⟩
  have HB0 : Hid (Below w.heap.size w W0) := by show Below _ _ _; rw [hW0]; exact ((Below.refl _ w).alloc (Nat.le_refl _) _).alloc (by simp) _
  have hX0 : W0.heap[w.heap.size]? = some (.cells #[.slice a l.length c] 24 (0, 0)) := by rw [hW0]; exact (Below.heap_alloc _ _ _ (by simp)).trans (heap_alloc_new w _)
  have hY0 : W0.heap[w.heap.size + 1]? = some (.cells #[.slice none 0 0] 24 (0, 0)) := by
    have := heap_alloc_new (w.alloc (.cells #[.slice a l.length c] 24)) (.cells #[.slice none 0 0] 24)
    rw [World.size_alloc] at this
    rw [hW0]; exact this
  have HSK : Hid (∀ V, Below W0.heap.size W0 V → V.cell? ⟨w.heap.size, 0, none⟩ = some (.slice a l.length c) ∧ V.cell? ⟨w.heap.size + 1, 0, none⟩ = some (.slice none 0 0) ∧ (∀ i, V.frozen? ⟨w.heap.size + 1, i, none⟩ = false) ∧ w.heap.size < V.heap.size ∧ w.heap.size + 1 < V.heap.size) := fun V hV => by
    have e0 := (hV.block _ (Array.getElem?_eq_some_iff.1 hX0).1).trans hX0
    have e1 := (hV.block _ (Array.getElem?_eq_some_iff.1 hY0).1).trans hY0
    exact ⟨(cell_of_row _ _ 0 _ _ _ e0).trans rfl, (cell_of_row _ _ 0 _ _ _ e1).trans rfl, fun i => by simp [World.frozen?, e1], (Array.getElem?_eq_some_iff.1 e0).1, (Array.getElem?_eq_some_iff.1 e1).1⟩
  have HSR : Hid (∀ V, Below W0.heap.size W0 V → V.heap[w.heap.size + 1]? = some (.cells #[.slice none 0 0] 24 (0, 0))) := fun V hV => (hV.block _ (Array.getElem?_eq_some_iff.1 hY0).1).trans hY0
  obtain ⟨p, hp⟩ : ∃ p, ofP l base = p := ⟨_, rfl⟩
  have HO : Hid (Calls Tryd.prog 22 #[.agg #[.slice a l.length c], .int .i64 base] W0 fun e w' => e = .returned (.tuple #[.int .i64 p.1, .int .i64 p.2.1, .int .i64 p.2.2]) ∧ Below W0.heap.size W0 w') := of_any l a c base p W0 (hA.below HB0.out) hm (by omega) hb hp
  have HMy : Hid (∀ V, Calls Tryd.prog 34 #[.int .i64 n] V fun e w' => e = .returned (.bool (mayB n)) ∧ Below V.heap.size V w') := fun V => May_any n V hn
  by_cases h1 : p.2.2 = 0
  rotate_left
  · obtain rfl : ([], 0, p.2.2) = r := by rw [← hr]; unfold putP; rw [hp, if_neg h1]
    obtain ⟨p0, p1, p2⟩ := p
    have e0 := ne_t h1
    simp only at e0
    clear hr h1 hA hG hp hX0 hY0
    go_enter Tryd.func20, Tryd.ntmps20
    go_wp2_with (go_at_call 22; rw [← hW0]; clear hW0; refine HO.out.mono ?_; rintro e w1 ⟨rfl, hb1⟩; obtain ⟨t0, y0, yf, tz, yz⟩ := HSK.out _ hb1)
    have k0 : (w1.setCell ⟨w.heap.size + 1, 0, none⟩ (.slice none 0 0)).cell? ⟨w.heap.size + 1, 0, none⟩ = some (.slice none 0 0) := World.cell?_setCell_same' _ _ _ (by rw [y0]; rfl)
    refine bodyPost_ret (v := .tuple #[.agg #[.slice none 0 0], .int .i64 0, .int .i64 p2]) (by simp [results, Tryd.results20, go_sem, k0]) rfl ⟨none, 0, rfl, tab_nil _, ?_⟩
    exact (HB0.out.trans (hb1.mono HB0.out.size)).setCell (p := ⟨w.heap.size + 1, 0, none⟩) (by simp) _
  by_cases h2 : p.1 = base
  rotate_left
  · obtain rfl : ([], 0, 2) = r := by rw [← hr]; unfold putP; rw [hp, if_pos h1, if_neg h2]
    obtain ⟨p0, p1, p2⟩ := p
    obtain rfl : p2 = 0 := h1
    have e0 := ne_t h2
    simp only at e0
    clear hr h2 hA hG hp hX0 hY0
    go_enter Tryd.func20, Tryd.ntmps20
    go_wp2_with (go_at_call 22; rw [← hW0]; clear hW0; refine HO.out.mono ?_; rintro e w1 ⟨rfl, hb1⟩; obtain ⟨t0, y0, yf, tz, yz⟩ := HSK.out _ hb1)
    have k0 : (w1.setCell ⟨w.heap.size + 1, 0, none⟩ (.slice none 0 0)).cell? ⟨w.heap.size + 1, 0, none⟩ = some (.slice none 0 0) := World.cell?_setCell_same' _ _ _ (by rw [y0]; rfl)
    refine bodyPost_ret (v := .tuple #[.agg #[.slice none 0 0], .int .i64 0, .int .i64 2]) (by simp [results, Tryd.results20, go_sem, k0]) rfl ⟨none, 0, rfl, tab_nil _, ?_⟩
    exact (HB0.out.trans (hb1.mono HB0.out.size)).setCell (p := ⟨w.heap.size + 1, 0, none⟩) (by simp) _
  by_cases h3 : mayB n = true
  rotate_left
  · obtain rfl : ([], 0, 10) = r := by rw [← hr]; unfold putP; rw [hp, if_pos h1, if_pos h2, if_neg h3]
    obtain ⟨p0, p1, p2⟩ := p
    obtain rfl : p2 = 0 := h1
    have e0 := ne_f h2
    simp only at e0 h2
    obtain h3 : mayB n = false := by simpa using h3
    rw [h3] at HMy
    clear hr h3 h2 hA hG hp hX0 hY0
    go_enter Tryd.func20, Tryd.ntmps20
    go_wp2_with (first | (go_at_call 22; rw [← hW0]; clear hW0; refine HO.out.mono ?_; rintro e w1 ⟨rfl, hb1⟩) | (go_at_call 34; refine (HMy.out _).mono ?_; rintro e w2 ⟨rfl, hb2⟩; have hb12 := hb1.trans (hb2.mono hb1.size); obtain ⟨t0, y0, yf, tz, yz⟩ := HSK.out _ hb12))
    have k0 : (w2.setCell ⟨w.heap.size + 1, 0, none⟩ (.slice none 0 0)).cell? ⟨w.heap.size + 1, 0, none⟩ = some (.slice none 0 0) := World.cell?_setCell_same' _ _ _ (by rw [y0]; rfl)
    refine bodyPost_ret (v := .tuple #[.agg #[.slice none 0 0], .int .i64 0, .int .i64 10]) (by simp [results, Tryd.results20, go_sem, k0]) rfl ⟨none, 0, rfl, tab_nil _, ?_⟩
    exact (HB0.out.trans (hb12.mono HB0.out.size)).setCell (p := ⟨w.heap.size + 1, 0, none⟩) (by simp) _
  have hin := ofP_in (by rw [hp]; exact h1)
  obtain ⟨k, rfl⟩ : ∃ k : Nat, base = k := ⟨base.toNat, by omega⟩
  have hkl : k < l.length := by omega
  have hr2 : putF l (nodeP l k n) most = r := by rw [← hr]; unfold putP; rw [hp, if_pos h1, if_pos h2, if_pos h3, Int.toNat_natCast]
  have hNo := nodeP_ok (by omega) hkl hn hA.ok
  obtain ⟨N, hN⟩ : ∃ N, nodeP l k n = N := ⟨_, rfl⟩
  rw [hN] at hr2 hNo
  have HNd : Hid (∀ V, Below W0.heap.size W0 V → Calls Tryd.prog 35 #[.agg #[.slice a l.length c], .int .i64 k, .int .i64 n] V fun e w' => e = .returned (.agg #[.int .i8 N.op, .int .i8 N.len, .int .i64 N.a0, .int .i64 N.a1, .int .i64 N.a2, .int .i64 N.sort, .int .i64 N.fn, .int .i64 N.num]) ∧ Below W0.heap.size W0 w') := fun V hV => (node_any l a c k n _ V (hA.below (HB0.out.trans (hV.mono HB0.out.size))) (by omega) hkl hN).mono fun e w' ⟨h1, h2⟩ => ⟨h1, hV.trans (h2.mono hV.size)⟩
  have HPt : Hid (∀ V, Below W0.heap.size W0 V → Calls Tryd.prog 27 #[.agg #[.slice a l.length c], .agg #[.int .i8 N.op, .int .i8 N.len, .int .i64 N.a0, .int .i64 N.a1, .int .i64 N.a2, .int .i64 N.sort, .int .i64 N.fn, .int .i64 N.num], .int .i64 most] V fun e w' => ∃ a c, e = .returned (.tuple #[.agg #[.slice a r.1.length c], .int .i64 r.2.1, .int .i64 r.2.2]) ∧ TabR w' r.1 a c ∧ Below W0.heap.size W0 w') := fun V hV => (PutF_any l a c _ most r V (hG.below (HB0.out.trans (hV.mono HB0.out.size))) (hA.below (HB0.out.trans (hV.mono HB0.out.size))) hNo hmo hl hr2).mono fun e w' ⟨a', c', h1, h2, h3⟩ => ⟨a', c', h1, h2, hV.trans (h3.mono hV.size)⟩
  obtain ⟨p0, p1, p2⟩ := p
  obtain rfl : p2 = 0 := h1
  obtain rfl : p0 = k := h2
  rw [h3] at HMy
  have e0 := ne_f (rfl : (k : Int) = k)
  clear hr hr2 h3 hA hG hp hX0 hY0 hNo hN
  go_enter Tryd.func20, Tryd.ntmps20
  go_wp2_with (first | (go_at_call 22; rw [← hW0]; clear hW0; refine HO.out.mono ?_; rintro e w1 ⟨rfl, hb1⟩) | (go_at_call 34; refine (HMy.out _).mono ?_; rintro e w2 ⟨rfl, hb2⟩; have hb12 := hb1.trans (hb2.mono hb1.size); obtain ⟨t0, y0, yf, tz, yz⟩ := HSK.out _ hb12))
  have HB02 : Hid (Below W0.heap.size W0 w2) := hb12
  clear hb1 hb2 hb12
  go_region_held3 (fun W => W.cell? ⟨w.heap.size, 0, none⟩ = some (.slice a l.length c)) (first | exact t0 | go_keep) (first | (go_at_call 35; refine (HNd.out _ (by first | exact HB02.out | exact HB02.out.drew)).mono ?_; rintro e w3 ⟨rfl, hb3⟩; have HB03 := Lib.hid hb3; clear t0 y0 yf tz yz hb3; obtain ⟨t0, y0, yf, tz, yz⟩ := HSK.out _ HB03.out) | (go_at_call 27; refine (HPt.out _ (by first | exact HB03.out | exact HB03.out.drew)).mono ?_; rintro e w4 ⟨a4, c4, rfl, hT4, hb4⟩; have HT4 := Lib.hid hT4; have HB04 := Lib.hid hb4; clear t0 y0 yf tz yz hb4 hT4; obtain ⟨t0, y0, yf, tz, yz⟩ := HSK.out _ HB04.out))
  go_wp2_with fail
  have k0 : (w4.setCell ⟨w.heap.size + 1, 0, none⟩ (.slice a4 r.1.length c4)).cell? ⟨w.heap.size + 1, 0, none⟩ = some (.slice a4 r.1.length c4) := World.cell?_setCell_same' _ _ _ (by rw [y0]; rfl)
  refine bodyPost_ret (v := .tuple #[.agg #[.slice a4 r.1.length c4], .int .i64 r.2.1, .int .i64 r.2.2]) (by simp [results, Tryd.results20, go_sem, k0]) rfl ⟨a4, c4, rfl, HT4.out.box (HSR.out _ HB04.out) _, ?_⟩
  exact (HB0.out.trans (HB04.out.mono HB0.out.size)).setCell (p := ⟨w.heap.size + 1, 0, none⟩) (by simp) _
end Go.Proofs.YtgjidlfemfomcaaDoor
