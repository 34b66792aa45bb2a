/- CoreOffsets: its walk. -/
import Derived.Test.YtjibhkgphahbaaaDoorCpL0
namespace Go.Proofs.YtjibhkgphahbaaaDoor.Tm
open Go.RowKit
set_option linter.unusedVariables false
set_option maxRecDepth 100000 in
set_option maxHeartbeats 16000000 in
theorem CoreOffsets_c (w : World) (l : List NodeA) (a : Option Addr) (c : Nat) (hA : TabR w l a c) (xs : List Int) (b1 : Option Addr) (d1 : Nat) (hX : IntsR w xs b1 d1) (hG : GC w) :
    Calls Tryd.prog 4 #[.agg #[.slice a l.length c], .slice b1 xs.length d1] w fun e w' => e = .returned (.bool true) ∧ Below w.heap.size w w' := by
  have hlm : l.length ≤ 9223372036854775807 := by have h1 := hA.le; have h2 := hA.cap; simp only [maxLen] at h2; omega
  have hx1 := hX.le
  have hx2 : xs.length ≤ 9223372036854775807 := by have h2 := hX.cap; simp only [maxLen] at h2; omega
  have hle := hA.le
  obtain ⟨W0, hW0⟩ : ∃ W0, W0 = w.alloc (.cells #[.slice a l.length c] 24) := ⟨_, rfl⟩
  obtain ⟨hB0, hXX⟩ := tab_box hW0
  have HWk : Hid (∀ V, Below w.heap.size w V → Calls Tryd.prog 6 #[] V fun e w' => e = .returned (.bool true) ∧ Below V.heap.size V w') := fun V hV => wakes_any V (hG.below hV).t (hG.below hV).r
  have HXX := Lib.hid hXX
  have HB0 := Lib.hid hB0
  obtain ⟨x0, xz⟩ := hXX _ (Below.refl _ _)
  cases hgr : decide (300 < l.length) with
  | true =>
    have HGr : Hid (Calls Tryd.prog 5 #[.agg #[.slice a l.length c]] W0 fun e w' => e = .returned (.bool true) ∧ Below W0.heap.size W0 w') := Great_any l a c true W0 hlm hgr
    clear hgr hA hB0 hX hG hXX
    go_enter Tryd.func4, Tryd.ntmps4
    go_wp2_with fail
    rw [← hW0]
    clear hW0
    refine HGr.out.mono ?_
    rintro e w1 ⟨rfl, hb1⟩
    have HB1 : Hid (Below w.heap.size w w1) := HB0.out.trans (hb1.mono HB0.out.size)
    clear hb1
    go_wp2_with fail
    refine (HWk.out _ HB1.out).mono ?_
    rintro e w2 ⟨rfl, hb2⟩
    go_wp2_with fail
    go_ret
    exact ⟨rfl, ball HB1.out hb2⟩
  | false =>
  have HGr : Hid (Calls Tryd.prog 5 #[.agg #[.slice a l.length c]] W0 fun e w' => e = .returned (.bool false) ∧ Below W0.heap.size W0 w') := Great_any l a c false W0 hlm hgr
  have hl3 : l.length ≤ 300 := by have := of_decide_eq_false hgr; omega
  by_cases hfew : 100 < xs.length
  · have d5 : decide (100 < (xs.length : Int)) = true := decide_eq_true (by omega)
    clear hgr hA hB0 hX hG hXX
    go_enter Tryd.func4, Tryd.ntmps4
    go_wp2_with fail
    rw [← hW0]
    clear hW0
    refine HGr.out.mono ?_
    rintro e w1 ⟨rfl, hb1⟩
    have HB1 : Hid (Below w.heap.size w w1) := HB0.out.trans (hb1.mono HB0.out.size)
    clear hb1
    go_wp2_with fail
    refine (HWk.out _ HB1.out).mono ?_
    rintro e w2 ⟨rfl, hb2⟩
    go_wp2_with fail
    go_ret
    exact ⟨rfl, ball HB1.out hb2⟩
  have d5 : decide (100 < (xs.length : Int)) = false := decide_eq_false (by omega)
  have HOf : Hid (∀ V, Below w.heap.size w V → Calls Tryd.prog 7 #[.agg #[.slice a l.length c], .slice b1 xs.length d1, .int .i64 2000] V fun e w' => Below V.heap.size V w' ∧ ((∃ err : Int, e = .returned (.tuple #[.agg #[.slice none 0 0], .slice none 0 0, .int .i64 err]) ∧ ¬ err = 0) ∨
    (∃ (s : MkS) (ims : List Int) (a' : Option Addr) (c' : Nat) (b' : Option Addr) (d' : Nat), e = .returned (.tuple #[.agg #[.slice a' s.l.length c'], .slice b' ims.length d', .int .i64 0]) ∧ TabR w' s.l a' c' ∧ MkI s ∧ QO s.l ∧ WS s.l))) := fun V hV => OfL_any l a c xs b1 d1 V (hG.below hV) (hA.below hV) hl3 (hX.below hV) (by omega)
  have HROf : Hid (∀ (V : World) (s : MkS) (a' : Option Addr) (c' i : Nat) (n : NodeA), TabR V s.l a' c' → MkI s → s.l[i]? = some n → n.sort = 1 → ¬ n.op = 11 → (n.op = 10 → i = 1 ∧ n.num = 0) → Calls Tryd.prog 11 #[.agg #[.slice a' s.l.length c'], .int .i64 i] V fun e w' => e = .returned (.tuple #[.int .i64 i, .int .i64 0, .int .i64 0]) ∧ Below V.heap.size V w') := fun V s a' c' i n ht hs hn h1 h2 h3 => ROfB_any s.l a' c' i n V ht (by have := hs.len; omega) hs.may hn h1 h2 h3
  have HOrd : Hid (∀ (V : World) (s : MkS) (a' : Option Addr) (c' : Nat), TabR V s.l a' c' → MkI s → QO s.l → Calls Tryd.prog 9 #[.agg #[.slice a' s.l.length c']] V fun e w' => e = .returned (.bool true) ∧ Below V.heap.size V w') := fun V s a' c' ht hs hQ => ROrdered_any s.l a' c' true V ht (by have := hs.len; omega) (ord_of_QO hs hQ)
  have HChk : Hid (∀ (V : World) (s : MkS) (a' : Option Addr) (c' : Nat), TabR V s.l a' c' → MkI s → Calls Tryd.prog 10 #[.agg #[.slice a' s.l.length c']] V fun e w' => e = .returned (.int .i64 0) ∧ Below V.heap.size V w') := fun V s a' c' ht hs => RCheck_any s.l a' c' 0 V ht (by have := hs.len; omega) (by rw [hs.may]; rfl)
  clear hgr hA hX hG hXX hB0
  go_enter Tryd.func4, Tryd.ntmps4
  go_wp2_with fail
  rw [← hW0]
  clear hW0
  refine HGr.out.mono ?_
  rintro e w1 ⟨rfl, hb1⟩
  have HB1 : Hid (Below w.heap.size w w1) := HB0.out.trans (hb1.mono HB0.out.size)
  clear x0 xz
  obtain ⟨x0, xz⟩ := HXX.out w1 hb1
  clear hb1
  go_wp2_with fail
  refine (HOf.out _ HB1.out).mono ?_
  rintro e w2 ⟨hb2, ⟨err, rfl, he⟩ | ⟨s, ims, a', c', b', d', rfl, hT, hI, hQ, hW⟩⟩
  · have e0 := ne_t he
    have HB2 : Hid (Below w.heap.size w w2) := ball HB1.out hb2
    clear hb2 he x0 xz
    go_wp2_with fail
    have hb3 := (Below.refl _ w2).alloc (Nat.le_refl _) (.cells #[.slice none 0 0] 24)
    refine (HWk.out _ (ball HB2.out hb3)).mono ?_
    rintro e w4 ⟨rfl, hb4⟩
    have HB4 : Hid (Below w.heap.size w w4) := ball (ball HB2.out hb3) hb4
    clear hb3 hb4
    go_wp2_with fail
    go_ret
    exact ⟨rfl, HB4.out⟩
  have hsl := hI.len
  have hs2 := hI.le
  have hc' := hT.le
  obtain ⟨W3, hW3⟩ : ∃ W3, W3 = w2.alloc (.cells #[.slice a' s.l.length c'] 24) := ⟨_, rfl⟩
  obtain ⟨hb3, hYY⟩ := tab_box hW3
  have HB3 : Hid (Below w.heap.size w W3) := ball (ball HB1.out hb2) hb3
  have HT : Hid (∀ V, Below W3.heap.size W3 V → TabR V s.l a' c') := fun V hV => (hT.below hb3).below hV
  have HNd : Hid (∀ (V : World) (k : Nat) (n : NodeA), Below W3.heap.size W3 V → s.l[k]? = some n → ∃ g o : Nat, a' = some ⟨g, o, none⟩ ∧ g < V.heap.size ∧ V.cell? ⟨g, o + k * 8, none⟩ = some (.int .i8 n.op) ∧ V.cell? ⟨g, o + k * 8 + 1, none⟩ = some (.int .i8 n.len) ∧ V.cell? ⟨g, o + k * 8 + 2, none⟩ = some (.int .i64 n.a0) ∧ V.cell? ⟨g, o + k * 8 + 3, none⟩ = some (.int .i64 n.a1) ∧ V.cell? ⟨g, o + k * 8 + 4, none⟩ = some (.int .i64 n.a2) ∧ V.cell? ⟨g, o + k * 8 + 5, none⟩ = some (.int .i64 n.sort) ∧ V.cell? ⟨g, o + k * 8 + 6, none⟩ = some (.int .i64 n.fn) ∧ V.cell? ⟨g, o + k * 8 + 7, none⟩ = some (.int .i64 n.num)) := fun V k n hV hk => (HT.out V hV).node hk
  have HYY := Lib.hid hYY
  have HI := Lib.hid hI
  have HQ := Lib.hid hQ
  have HW := Lib.hid hW
  obtain ⟨y0, yz⟩ := hYY _ (Below.refl _ _)
  obtain ⟨g, o, rfl, gz, z0, z1, z2, z3, z4, z5, z6, z7⟩ := HNd.out W3 1 zeroN (Below.refl _ _) (mayT_zero hI.may)
  have HZ : Hid (∀ V, Below W3.heap.size W3 V → g < V.heap.size ∧ V.cell? ⟨g, o + 1 * 8, none⟩ = some (.int .i8 10)) := fun V hV => by
    obtain ⟨g2, o2, e2, gz2, q0, _⟩ := HNd.out V 1 zeroN hV (mayT_zero hI.may)
    cases e2; exact ⟨gz2, q0⟩
  clear hb2 hb3 hT hI hQ hW hYY gz z0 z1 z2 z3 z4 z5 z6 z7 x0 xz HXX HGr HOf
  go_wp2_with fail
  rw [← hW3]
  clear hW3
  refine (HOrd.out _ s _ _ (HT.out _ (Below.refl _ _)) HI.out HQ.out).mono ?_
  rintro e w4 ⟨rfl, hb4⟩
  have HB4 := Lib.hid hb4
  clear y0 yz
  obtain ⟨y0, yz⟩ := HYY.out w4 hb4
  clear hb4
  go_wp2_with fail
  refine (HChk.out _ s _ _ (HT.out _ HB4.out) HI.out).mono ?_
  rintro e w5 ⟨rfl, hb5⟩
  have HB5 : Hid (Below W3.heap.size W3 w5) := HB4.out.trans (hb5.mono HB4.out.size)
  clear y0 yz hb5
  obtain ⟨y0, yz⟩ := HYY.out w5 HB5.out
  obtain ⟨gz, z0⟩ := HZ.out w5 HB5.out
  go_wp2_with fail
  clear y0 yz gz z0
  go_loopw [8] (fun i wr => ∃ k : Nat, k ≤ s.l.length ∧ i = .int .i64 k ∧ Hid (Below W3.heap.size W3 wr)) (fun i _ => s.l.length - (intOf i).toNat)
  case atStart => exact ⟨0, Nat.zero_le _, rfl, HB5⟩
  case round =>
    obtain ⟨k, hkl, rfl, HR⟩ := hrel
    obtain ⟨y0, yz⟩ := HYY.out wr HR.out
    by_cases hlt : k < s.l.length
    · obtain ⟨n, hn⟩ : ∃ n, s.l[k]? = some n := ⟨_, List.getElem?_eq_getElem hlt⟩
      obtain ⟨g2, o2, e2, gz, q0, q1, q2, q3, q4, q5, q6, q7⟩ := HNd.out wr k n HR.out hn
      cases e2
      have hki : (k : Int) < (s.l.length : Int) := by omega
      have hk0 : (0 : Int) ≤ (k : Int) := by omega
      by_cases h0 : n.op = 12
      rotate_left
      · have e0 := ne_t h0
        have HR2 : Hid (∀ o, Below W3.heap.size W3 (wr.alloc o)) := fun o => HR.out.alloc HR.out.size o
        clear h0 hn
        go_wp2_with fail
        go_roundw
        case rel => exact ⟨k + 1, by omega, by go_num, HR2.out _⟩
        case measure => simp [intOf]; omega
      have e0 := ne_f h0
      obtain ⟨⟨i, x, hi, hx, x1, x2, x3⟩, ⟨j, y, hj, hy, y1, y2, y3⟩, hne⟩ := diff_bases HI.out HQ.out HW.out hn h0
      rw [hi, hj] at hne
      have d1 := eq_f hne
      rw [hi] at q2
      rw [hj] at q3
      obtain ⟨W4, hW4⟩ : ∃ W4, W4 = wr.alloc (.cells #[.int .i8 n.op, .int .i8 n.len, .int .i64 i, .int .i64 j, .int .i64 n.a2, .int .i64 n.sort, .int .i64 n.fn, .int .i64 n.num] 36) := ⟨_, rfl⟩
      have hb4 : Below wr.heap.size wr W4 := by rw [hW4]; exact (Below.refl _ _).alloc (Nat.le_refl _) _
      have hn4 : W4.heap[wr.heap.size]? = some (.cells #[.int .i8 n.op, .int .i8 n.len, .int .i64 i, .int .i64 j, .int .i64 n.a2, .int .i64 n.sort, .int .i64 n.fn, .int .i64 n.num] 36 (0, 0)) := by rw [hW4]; exact heap_alloc_new wr _
      have HBx : Hid (∀ V, Below W4.heap.size W4 V → (V.cell? ⟨wr.heap.size, 2, none⟩ = some (.int .i64 i) ∧ V.cell? ⟨wr.heap.size, 3, none⟩ = some (.int .i64 j) ∧ wr.heap.size < V.heap.size) ∧ Below W3.heap.size W3 V) := fun V hV => by
        have h1 := (hV.block _ (Array.getElem?_eq_some_iff.1 hn4).1).trans hn4
        exact ⟨⟨(cell_of_row _ _ 2 _ _ _ h1).trans rfl, (cell_of_row _ _ 3 _ _ _ h1).trans rfl, (Array.getElem?_eq_some_iff.1 h1).1⟩, HR.out.trans ((hb4.trans (hV.mono hb4.size)).mono HR.out.size)⟩
      have HO1 : Hid (∀ V, Below W4.heap.size W4 V → Calls Tryd.prog 11 #[.agg #[.slice (some ⟨g, o, none⟩) s.l.length c'], .int .i64 i] V fun e w' => e = .returned (.tuple #[.int .i64 i, .int .i64 0, .int .i64 0]) ∧ Below V.heap.size V w') := fun V hV => HROf.out V s _ _ i x (HT.out V (HBx.out V hV).2) HI.out hx x1 x2 x3
      have HO2 : Hid (∀ V, Below W4.heap.size W4 V → Calls Tryd.prog 11 #[.agg #[.slice (some ⟨g, o, none⟩) s.l.length c'], .int .i64 j] V fun e w' => e = .returned (.tuple #[.int .i64 j, .int .i64 0, .int .i64 0]) ∧ Below V.heap.size V w') := fun V hV => HROf.out V s _ _ j y (HT.out V (HBx.out V hV).2) HI.out hy y1 y2 y3
      have hb34 := (HBx.out W4 (Below.refl _ _)).2
      have HY4 : Hid (W4.cell? ⟨w2.heap.size, 0, none⟩ = some (.slice (some ⟨g, o, none⟩) s.l.length c') ∧ w2.heap.size < W4.heap.size) := HYY.out W4 hb34
      clear h0 hn hi hj hne x1 x2 x3 y1 y2 y3 hx hy hb4 hn4 hb34
      go_wp2_with fail
      rw [← hW4]
      clear hW4 y0 yz q0 q1 q2 q3 q4 q5 q6 q7 gz
      refine (HO1.out _ (Below.refl _ _)).mono ?_
      rintro e w6 ⟨rfl, hb6⟩
      have HB6 := Lib.hid hb6
      obtain ⟨⟨q2, q3, qz⟩, hb36⟩ := HBx.out w6 hb6
      obtain ⟨y0, yz⟩ := HYY.out w6 hb36
      clear hb6 hb36
      go_wp2_with fail
      refine (HO2.out _ HB6.out).mono ?_
      rintro e w7 ⟨rfl, hb7⟩
      have HB7 : Hid (Below W4.heap.size W4 w7) := HB6.out.trans (hb7.mono HB6.out.size)
      clear hb7 q2 q3 qz y0 yz
      obtain ⟨⟨q2, q3, qz⟩, hb37⟩ := HBx.out w7 HB7.out
      have HR7 := Lib.hid hb37
      clear hb37
      go_wp2_with fail
      go_roundw
      case rel => exact ⟨k + 1, by omega, by go_num, HR7.out⟩
      case measure => simp [intOf]; omega
    · obtain rfl : k = s.l.length := by omega
      go_wp2_with fail
      refine (HWk.out _ (ball HB3.out HR.out)).mono ?_
      rintro e w6 ⟨rfl, hb6⟩
      have HB6 : Hid (Below w.heap.size w w6) := ball (ball HB3.out HR.out) hb6
      clear hb6
      go_wp2_with fail
      go_ret
      exact ⟨rfl, HB6.out⟩
end Go.Proofs.YtjibhkgphahbaaaDoor.Tm
