/- OffsetBack, walked. -/
import Derived.Test.YtgjidlfemfomcaaDoorOfM
import Derived.Test.YtgjidlfemfomcaaDoorOfN
namespace Go.Proofs.YtgjidlfemfomcaaDoor
open Go.RowKit
set_option linter.unusedVariables false
theorem BoxT.at {W0 X V : World} {B : Nat} {L : List NodeA} {a : Option Addr} {c : Nat} (h : BoxT W0 X B L a c) (hV : Below X.heap.size X V) : V.cell? ⟨B, 0, none⟩ = some (.slice a L.length c) ∧ B < V.heap.size := by
  have e0 := (hV.block _ (Array.getElem?_eq_some_iff.1 h.box).1).trans h.box
  exact ⟨(cell_of_row _ _ 0 _ _ _ e0).trans rfl, (Array.getElem?_eq_some_iff.1 e0).1⟩
theorem BoxT.to {W0 X V : World} {B : Nat} {L : List NodeA} {a : Option Addr} {c : Nat} (h : BoxT W0 X B L a c) (hV : Below X.heap.size X V) : Below W0.heap.size W0 V := h.below.trans (hV.mono h.below.size)
theorem BoxT.tabV {W0 X V : World} {B : Nat} {L : List NodeA} {a : Option Addr} {c : Nat} (h : BoxT W0 X B L a c) (hV : Below X.heap.size X V) : TabR V L a c := h.tab.below hV
def Rets (W : World) (v : Value) (e : Ending) (w' : World) : Prop := e = .returned v ∧ Below W.heap.size W w'
set_option maxRecDepth 100000 in
set_option maxHeartbeats 8000000 in
theorem OffsetBack_c (w : World) (l : List NodeA) (ad : Option Addr) (cp : Nat) (hA : TabR w l ad cp) (a : Int) (ha : I64 a) (b : Int) (hb : I64 b) (m : Int) (hm : I64 m) (n : Int) (hn : I64 n) (hG : GT w) :
    Calls Tryd.prog 3 #[.agg #[.slice ad l.length cp], .int .i64 a, .int .i64 b, .int .i64 m, .int .i64 n] w fun e w' => e = .returned (.bool true) ∧ Below w.heap.size w w' := by
  have hlm : l.length ≤ 9223372036854775807 := by have h1 := hA.le; have h2 := hA.cap; simp only [maxLen] at h2; omega
  obtain ⟨W0, hW0⟩ : ∃ W0, W0 = w.alloc (.cells #[.slice ad l.length cp] 24) := ⟨_, rfl⟩
  have HT0 : Hid (Tab0 w W0 l ad cp) := by show Tab0 _ _ _ _ _; rw [hW0]; exact tab0 w l ad cp
  have HG : Hid (∀ V, Below W0.heap.size W0 V → GT V) := fun V hV => hG.below (HT0.out.to hV)
  have HTA : Hid (∀ V, Below W0.heap.size W0 V → TabR V l ad cp) := fun V hV => hA.below (HT0.out.to hV)
  have HWk : Hid (∀ V, Below W0.heap.size W0 V → Calls Tryd.prog 8 #[] V fun e w' => e = .returned (.bool true) ∧ Below W0.heap.size W0 w') := fun V hV => (wakes_any V (HG.out V hV)).mono fun e w' ⟨h1, h2⟩ => ⟨h1, hV.trans (h2.mono hV.size)⟩
  cases hgr : decide (300 < l.length) with
  | true =>
    have HGr : Hid (Calls Tryd.prog 6 #[.agg #[.slice ad l.length cp]] W0 fun e w' => e = .returned (.bool true) ∧ Below W0.heap.size W0 w') := Great_any l ad cp true W0 hlm hgr
    clear hgr hA hG
    go_enter Tryd.func3, Tryd.ntmps3
    go_wp2_with (first | (go_at_call 6; rw [← hW0]; clear hW0; refine HGr.out.mono ?_; rintro e w1 ⟨rfl, hb1⟩; have HB1 := Lib.hid hb1; clear hb1) | (go_at_call 8; refine (HWk.out _ HB1.out).mono ?_; rintro e w2 ⟨rfl, hb2⟩))
    go_ret
    exact ⟨rfl, HT0.out.to hb2⟩
  | false =>
  have hl3 : l.length ≤ 300 := by have := of_decide_eq_false hgr; omega
  have HGr : Hid (Calls Tryd.prog 6 #[.agg #[.slice ad l.length cp]] W0 fun e w' => e = .returned (.bool false) ∧ Below W0.heap.size W0 w') := Great_any l ad cp false W0 hlm hgr
  have HOr : Hid (∀ V, Below W0.heap.size W0 V → Calls Tryd.prog 7 #[.agg #[.slice ad l.length cp]] V fun e w' => e = .returned (.bool (ordB l)) ∧ Below W0.heap.size W0 w') := fun V hV => (ROrdered_any l ad cp _ V (HTA.out V hV) (by omega) rfl).mono fun e w' ⟨h1, h2⟩ => ⟨h1, hV.trans (h2.mono hV.size)⟩
  cases ho : ordB l with
  | false =>
    rw [ho] at HOr
    clear hgr hA hG ho
    go_enter Tryd.func3, Tryd.ntmps3
    go_wp2_with (first | (go_at_call 6; rw [← hW0]; clear hW0; refine HGr.out.mono ?_; rintro e w1 ⟨rfl, hb1⟩; have HB1 := Lib.hid hb1; obtain ⟨x0, xz⟩ := HT0.out.at hb1; clear hb1) | (go_at_call 7; refine (HOr.out _ HB1.out).mono ?_; rintro e w2 ⟨rfl, hb2⟩; have HB2 := Lib.hid hb2; clear hb2) | (go_at_call 8; refine (HWk.out _ HB2.out).mono ?_; rintro e w3 ⟨rfl, hb3⟩))
    go_ret
    exact ⟨rfl, HT0.out.to hb3⟩
  | true =>
  rw [ho] at HOr
  have HO := Lib.hid ho
  obtain ⟨r1, hr1⟩ : ∃ r, addP l a m 1000 = r := ⟨_, rfl⟩
  have HA1 : Hid (∀ V, Below W0.heap.size W0 V → Calls Tryd.prog 9 #[.agg #[.slice ad l.length cp], .int .i64 a, .int .i64 m, .int .i64 1000] V (TabOut V r1)) := fun V hV => Add_out l ad cp a m 1000 r1 V (HG.out V hV) (HTA.out V hV) (by omega) ha hm (i64_of (by omega)) hr1
  by_cases h1 : r1.2.2 = 0
  rotate_left
  · obtain ⟨L1, i1, e1⟩ := r1
    have e0 := ne_t h1
    simp only at e0
    clear hgr hA hG ho h1 hr1
    go_enter Tryd.func3, Tryd.ntmps3
    go_wp2_with (first | (go_at_call 6; rw [← hW0]; clear hW0; refine HGr.out.mono ?_; rintro e w1 ⟨rfl, hb1⟩; have HB1 := Lib.hid hb1; obtain ⟨x0, xz⟩ := HT0.out.at hb1; clear hb1) | (go_at_call 7; refine (HOr.out _ HB1.out).mono ?_; rintro e w2 ⟨rfl, hb2⟩; have HB2 := Lib.hid hb2; clear x0 xz; obtain ⟨x0, xz⟩ := HT0.out.at hb2; clear hb2))
    refine (HA1.out _ HB2.out).mono ?_
    rintro e w3 ⟨a3, c3, rfl, hT3, hb3⟩
    have X3 := Lib.hid (BoxT.new (HB2.out.trans (hb3.mono HB2.out.size)) hT3)
    clear hT3 hb3 x0 xz
    go_wp2_with (go_at_call 8; refine (HWk.out _ X3.out.below).mono ?_; rintro e w4 ⟨rfl, hb4⟩)
    go_ret
    exact ⟨rfl, HT0.out.to hb4⟩
  have hk1 := add_ok ho hr1 h1
  have HK1 := Lib.hid hk1
  have hin := ofP_in (l := r1.1) (id := r1.2.1) (by rw [hk1.of_])
  have hle1 := hk1.le
  obtain ⟨K, hK⟩ : ∃ K, (ofP l a).2.1 = K := ⟨_, rfl⟩
  obtain ⟨bs, hbs⟩ : ∃ bs, (ofP l a).1 = bs := ⟨_, rfl⟩
  have hsum := addOk_true.1 hk1.sum
  rw [hK] at hsum
  obtain ⟨L1, i1, e1⟩ := r1
  obtain rfl : e1 = 0 := h1
  simp only at hin hle1
  have hi1 : I64 i1 := i64_of (by omega)
  obtain ⟨⟨s1, s2⟩, ⟨s3, s4⟩, s5, s6⟩ := hsum
  have HOf1 : Hid (∀ V, Below W0.heap.size W0 V → Calls Tryd.prog 10 #[.agg #[.slice ad l.length cp], .int .i64 a] V (Rets V (.tuple #[.int .i64 bs, .int .i64 K, .int .i64 0]))) := fun V hV => (Of_any l ad cp a (bs, K, 0) V (HG.out V hV) (HTA.out V hV) (by omega) ha (by rw [OfP_eq (ord_may ho), ← hbs, ← hK, ← hk1.ok]))
  have HOf2 : Hid (∀ V a' c', Below W0.heap.size W0 V → TabR V L1 a' c' → Calls Tryd.prog 10 #[.agg #[.slice a' L1.length c'], .int .i64 i1] V (Rets V (.tuple #[.int .i64 bs, .int .i64 (K + m), .int .i64 0]))) := fun V a' c' hV hT => (Of_any L1 a' c' i1 (bs, K + m, 0) V (HG.out V hV) hT (by omega) hi1 (by rw [OfP_eq hk1.may, ← hbs, ← hK]; exact hk1.of_))
  have HOr1 : Hid (∀ V a' c', Below W0.heap.size W0 V → TabR V L1 a' c' → Calls Tryd.prog 11 #[.agg #[.slice a' L1.length c']] V (Rets V (.bool true))) := fun V a' c' hV hT => Ordered_any L1 a' c' true V (HG.out V hV) hT (by omega) hk1.ord
  have HRA : Hid (∀ V, Calls Tryd.prog 12 #[.int .i64 m, .int .i64 n] V fun e w' => e = .returned (.tuple #[.int .i64 (addV m n), .int .i64 (addE m n)]) ∧ V = w') := fun V => RAdd_any m n V
  obtain ⟨r2, hr2⟩ : ∃ r, addP L1 i1 n 1000 = r := ⟨_, rfl⟩
  have HA2 : Hid (∀ V a' c', Below W0.heap.size W0 V → TabR V L1 a' c' → Calls Tryd.prog 9 #[.agg #[.slice a' L1.length c'], .int .i64 i1, .int .i64 n, .int .i64 1000] V (TabOut V r2)) := fun V a' c' hV hT => Add_out L1 a' c' i1 n 1000 r2 V (HG.out V hV) hT (by omega) hi1 hn (i64_of (by omega)) hr2
  have HA3 : Hid (r2.2.2 = 0 → addE m n = 0 → r2.1.length ≤ 302 ∧ ordB r2.1 = true ∧ ∀ V a' c', Below W0.heap.size W0 V → TabR V L1 a' c' → Calls Tryd.prog 9 #[.agg #[.slice a' L1.length c'], .int .i64 a, .int .i64 (addV m n), .int .i64 1000] V (TabOut V r2)) := fun h2 hs => by
    have hk2 := add_ok hk1.ord hr2 h2
    have hs' := addE_ok hs
    have hle2 := hk2.le
    simp only at hle2
    refine ⟨by omega, hk2.ord, fun V a' c' hV hT => ?_⟩
    rw [addV_ok hs']
    have h5 := addOk_true.1 hs'
    exact Add_out L1 a' c' a (m + n) 1000 r2 V (HG.out V hV) hT (by omega) ha (i64_of (by omega)) (i64_of (by omega)) (add_two hk1 hk2 hs')
  obtain ⟨r4, hr4⟩ : ∃ r, leP l a b m 1000 = r := ⟨_, rfl⟩
  have HL : Hid (∀ V, Below W0.heap.size W0 V → Calls Tryd.prog 14 #[.agg #[.slice ad l.length cp], .int .i64 a, .int .i64 b, .int .i64 m, .int .i64 1000] V (LeOut V r4)) := fun V hV => Le_any l ad cp a b m 1000 r4 V (HG.out V hV) (HTA.out V hV) (by omega) ha hb hm (i64_of (by omega)) hr4
  have HOr4 : Hid (r4.2.2.2 = 0 → ∀ V a' c', Below W0.heap.size W0 V → TabR V r4.1 a' c' → Calls Tryd.prog 11 #[.agg #[.slice a' r4.1.length c']] V (Rets V (.bool true))) := fun h4 V a' c' hV hT => by
    have := le_ord (l := l) (a := a) (b := b) (c := m) ho (by rw [hr4]; exact h4)
    rw [hr4] at this
    exact Ordered_any r4.1 a' c' true V (HG.out V hV) hT (by omega) this.1
  obtain ⟨sv, hsv⟩ : ∃ s, addV m n = s := ⟨_, rfl⟩
  obtain ⟨se, hse⟩ : ∃ s, addE m n = s := ⟨_, rfl⟩
  rw [hsv, hse] at HRA HA3
  have eK : (K + m != K + m) = false := ne_f rfl
  have eb : (bs != bs) = false := ne_f rfl
  obtain ⟨L2, i2, e2⟩ := r2
  obtain ⟨L4, i4, b4, e4⟩ := r4
  simp only at HA3 HOr4
  clear hgr hA hG ho hr1 hk1 hin hK hbs hr2 hr4 hsv hse HK1 HO
  by_cases h4 : e4 = 0
  · subst h4
    have f0 := ne_f (rfl : (0 : Int) = 0)
    by_cases h2 : e2 = 0
    · subst h2
      by_cases hs : se = 0
      · subst hs
        obtain ⟨hle2, hord2, h3⟩ := HA3.out rfl rfl
        have H3 := Lib.hid h3
        have HSa : Hid (∀ V a' c' a'' c'', TabR V L2 a' c' → TabR V L2 a'' c'' → Calls Tryd.prog 13 #[.agg #[.slice a' L2.length c'], .agg #[.slice a'' L2.length c'']] V (Rets V (.bool true))) := fun V a' c' a'' c'' h1 h2 => Same_any L2 L2 a' a'' c' c'' true V h1 h2 (decide_eq_true rfl)
        have HOr2 : Hid (∀ V a' c', Below W0.heap.size W0 V → TabR V L2 a' c' → Calls Tryd.prog 11 #[.agg #[.slice a' L2.length c']] V (Rets V (.bool true))) := fun V a' c' hV hT => Ordered_any L2 a' c' true V (HG.out V hV) hT (by omega) hord2
        have ei : (i2 != i2) = false := ne_f rfl
        clear h3 hord2 HA3
        go_enter Tryd.func3, Tryd.ntmps3
        go_wp2_with (first | (go_at_call 6; rw [← hW0]; clear hW0; refine HGr.out.mono ?_; rintro e w1 ⟨rfl, hb1⟩; have HB1 := Lib.hid hb1; obtain ⟨x0, xz⟩ := HT0.out.at hb1; clear hb1) | (go_at_call 7; refine (HOr.out _ HB1.out).mono ?_; rintro e w2 ⟨rfl, hb2⟩; have HB2 := Lib.hid hb2; clear x0 xz; obtain ⟨x0, xz⟩ := HT0.out.at hb2; clear hb2))
        refine (HA1.out _ HB2.out).mono ?_
        rintro e w3 ⟨a3, c3, rfl, hT3, hb3⟩
        have X3 := Lib.hid (BoxT.new (HB2.out.trans (hb3.mono HB2.out.size)) hT3)
        clear x0 xz
        obtain ⟨x0, xz⟩ := HT0.out.at (HB2.out.trans (hb3.mono HB2.out.size))
        clear hT3 hb3
        go_wp2_with fail
        refine (HOf1.out _ X3.out.below).mono ?_
        rintro e w4 ⟨rfl, hb4⟩
        have HX4 := Lib.hid hb4
        clear x0 xz
        obtain ⟨x0, xz⟩ := HT0.out.at (X3.out.to hb4)
        obtain ⟨u0, uz⟩ := X3.out.at hb4
        clear hb4
        go_wp2_with fail
        refine (HOf2.out _ _ _ (X3.out.to HX4.out) (X3.out.tabV HX4.out)).mono ?_
        rintro e w5 ⟨rfl, hb5⟩
        have HX5 := Lib.hid (HX4.out.trans (hb5.mono HX4.out.size))
        clear x0 xz u0 uz hb5
        obtain ⟨x0, xz⟩ := HT0.out.at (X3.out.to HX5.out)
        obtain ⟨u0, uz⟩ := X3.out.at HX5.out
        go_wp2_with fail
        refine (HOr1.out _ _ _ (X3.out.to HX5.out) (X3.out.tabV HX5.out)).mono ?_
        rintro e w6 ⟨rfl, hb6⟩
        have HX6 := Lib.hid (HX5.out.trans (hb6.mono HX5.out.size))
        clear x0 xz u0 uz hb6
        obtain ⟨x0, xz⟩ := HT0.out.at (X3.out.to HX6.out)
        obtain ⟨u0, uz⟩ := X3.out.at HX6.out
        go_wp2_with fail
        refine (HRA.out _).mono ?_
        rintro e w6' ⟨rfl, rfl⟩
        go_wp2_with fail
        refine (HA2.out _ _ _ (X3.out.to HX6.out) (X3.out.tabV HX6.out)).mono ?_
        rintro e w7 ⟨a7, c7, rfl, hT7, hb7⟩
        have Y7 := Lib.hid (BoxT.new (W0 := w3.alloc (.cells #[.slice a3 L1.length c3] 24)) (HX6.out.trans (hb7.mono HX6.out.size)) hT7)
        clear x0 xz u0 uz
        obtain ⟨x0, xz⟩ := HT0.out.at (X3.out.to (HX6.out.trans (hb7.mono HX6.out.size)))
        obtain ⟨u0, uz⟩ := X3.out.at (HX6.out.trans (hb7.mono HX6.out.size))
        clear hT7 hb7
        go_wp2_with fail
        refine (H3.out _ _ _ (X3.out.to Y7.out.below) (X3.out.tabV Y7.out.below)).mono ?_
        rintro e w8 ⟨a8, c8, rfl, hT8, hb8⟩
        have Z8 := Lib.hid (BoxT.new (W0 := w7.alloc (.cells #[.slice a7 L2.length c7] 24)) hb8 hT8)
        clear x0 xz u0 uz
        obtain ⟨x0, xz⟩ := HT0.out.at (X3.out.to (Y7.out.to hb8))
        obtain ⟨v0, vz⟩ := Y7.out.at hb8
        clear hT8 hb8
        go_wp2_with fail
        refine (HSa.out _ _ _ _ _ (Y7.out.tabV Z8.out.below) Z8.out.tab).mono ?_
        rintro e w9 ⟨rfl, hb9⟩
        have HZ9 := Lib.hid hb9
        clear x0 xz v0 vz
        obtain ⟨x0, xz⟩ := HT0.out.at (X3.out.to (Y7.out.to (Z8.out.to hb9)))
        obtain ⟨v0, vz⟩ := Y7.out.at (Z8.out.to hb9)
        clear hb9
        go_wp2_with fail
        refine (HOr2.out _ _ _ (X3.out.to (Y7.out.to (Z8.out.to HZ9.out))) (Y7.out.tabV (Z8.out.to HZ9.out))).mono ?_
        rintro e w10 ⟨rfl, hb10⟩
        have HZ10 := Lib.hid (HZ9.out.trans (hb10.mono HZ9.out.size))
        clear x0 xz v0 vz hb10
        obtain ⟨x0, xz⟩ := HT0.out.at (X3.out.to (Y7.out.to (Z8.out.to HZ10.out)))
        go_wp2_with fail
        refine (HL.out _ (X3.out.to (Y7.out.to (Z8.out.to HZ10.out)))).mono ?_
        rintro e w20 ⟨a20, c20, rfl, hT20, hb20⟩
        have Z20 := Lib.hid (BoxT.new (W0 := W0) (((X3.out.to (Y7.out.to (Z8.out.to HZ10.out)))).trans (hb20.mono ((X3.out.to (Y7.out.to (Z8.out.to HZ10.out)))).size)) hT20)
        clear x0 xz hT20 hb20
        go_wp2_with fail
        refine (HOr4.out trivial _ _ _ Z20.out.below Z20.out.tab).mono ?_
        rintro e w21 ⟨rfl, hb21⟩
        have HZ21 := Lib.hid (Z20.out.to hb21)
        clear hb21
        go_wp2_with fail
        refine (HWk.out _ HZ21.out).mono ?_
        rintro e w22 ⟨rfl, hb22⟩
        go_wp2_with fail
        go_ret
        exact ⟨rfl, HT0.out.to hb22⟩
      · have es := eq_f hs
        clear hs HA3
        go_enter Tryd.func3, Tryd.ntmps3
        go_wp2_with (first | (go_at_call 6; rw [← hW0]; clear hW0; refine HGr.out.mono ?_; rintro e w1 ⟨rfl, hb1⟩; have HB1 := Lib.hid hb1; obtain ⟨x0, xz⟩ := HT0.out.at hb1; clear hb1) | (go_at_call 7; refine (HOr.out _ HB1.out).mono ?_; rintro e w2 ⟨rfl, hb2⟩; have HB2 := Lib.hid hb2; clear x0 xz; obtain ⟨x0, xz⟩ := HT0.out.at hb2; clear hb2))
        refine (HA1.out _ HB2.out).mono ?_
        rintro e w3 ⟨a3, c3, rfl, hT3, hb3⟩
        have X3 := Lib.hid (BoxT.new (HB2.out.trans (hb3.mono HB2.out.size)) hT3)
        clear x0 xz
        obtain ⟨x0, xz⟩ := HT0.out.at (HB2.out.trans (hb3.mono HB2.out.size))
        clear hT3 hb3
        go_wp2_with fail
        refine (HOf1.out _ X3.out.below).mono ?_
        rintro e w4 ⟨rfl, hb4⟩
        have HX4 := Lib.hid hb4
        clear x0 xz
        obtain ⟨x0, xz⟩ := HT0.out.at (X3.out.to hb4)
        obtain ⟨u0, uz⟩ := X3.out.at hb4
        clear hb4
        go_wp2_with fail
        refine (HOf2.out _ _ _ (X3.out.to HX4.out) (X3.out.tabV HX4.out)).mono ?_
        rintro e w5 ⟨rfl, hb5⟩
        have HX5 := Lib.hid (HX4.out.trans (hb5.mono HX4.out.size))
        clear x0 xz u0 uz hb5
        obtain ⟨x0, xz⟩ := HT0.out.at (X3.out.to HX5.out)
        obtain ⟨u0, uz⟩ := X3.out.at HX5.out
        go_wp2_with fail
        refine (HOr1.out _ _ _ (X3.out.to HX5.out) (X3.out.tabV HX5.out)).mono ?_
        rintro e w6 ⟨rfl, hb6⟩
        have HX6 := Lib.hid (HX5.out.trans (hb6.mono HX5.out.size))
        clear x0 xz u0 uz hb6
        obtain ⟨x0, xz⟩ := HT0.out.at (X3.out.to HX6.out)
        obtain ⟨u0, uz⟩ := X3.out.at HX6.out
        go_wp2_with fail
        refine (HRA.out _).mono ?_
        rintro e w6' ⟨rfl, rfl⟩
        go_wp2_with fail
        refine (HA2.out _ _ _ (X3.out.to HX6.out) (X3.out.tabV HX6.out)).mono ?_
        rintro e w7 ⟨a7, c7, rfl, hT7, hb7⟩
        have Y7 := Lib.hid (BoxT.new (W0 := w3.alloc (.cells #[.slice a3 L1.length c3] 24)) (HX6.out.trans (hb7.mono HX6.out.size)) hT7)
        clear x0 xz u0 uz
        obtain ⟨x0, xz⟩ := HT0.out.at (X3.out.to (HX6.out.trans (hb7.mono HX6.out.size)))
        obtain ⟨u0, uz⟩ := X3.out.at (HX6.out.trans (hb7.mono HX6.out.size))
        clear hT7 hb7
        go_wp2_with fail
        refine (HL.out _ (X3.out.to Y7.out.below)).mono ?_
        rintro e w20 ⟨a20, c20, rfl, hT20, hb20⟩
        have Z20 := Lib.hid (BoxT.new (W0 := W0) (((X3.out.to Y7.out.below)).trans (hb20.mono ((X3.out.to Y7.out.below)).size)) hT20)
        clear x0 xz hT20 hb20
        go_wp2_with fail
        refine (HOr4.out trivial _ _ _ Z20.out.below Z20.out.tab).mono ?_
        rintro e w21 ⟨rfl, hb21⟩
        have HZ21 := Lib.hid (Z20.out.to hb21)
        clear hb21
        go_wp2_with fail
        refine (HWk.out _ HZ21.out).mono ?_
        rintro e w22 ⟨rfl, hb22⟩
        go_wp2_with fail
        go_ret
        exact ⟨rfl, HT0.out.to hb22⟩
    · have es := eq_f h2
      clear h2 HA3
      go_enter Tryd.func3, Tryd.ntmps3
      go_wp2_with (first | (go_at_call 6; rw [← hW0]; clear hW0; refine HGr.out.mono ?_; rintro e w1 ⟨rfl, hb1⟩; have HB1 := Lib.hid hb1; obtain ⟨x0, xz⟩ := HT0.out.at hb1; clear hb1) | (go_at_call 7; refine (HOr.out _ HB1.out).mono ?_; rintro e w2 ⟨rfl, hb2⟩; have HB2 := Lib.hid hb2; clear x0 xz; obtain ⟨x0, xz⟩ := HT0.out.at hb2; clear hb2))
      refine (HA1.out _ HB2.out).mono ?_
      rintro e w3 ⟨a3, c3, rfl, hT3, hb3⟩
      have X3 := Lib.hid (BoxT.new (HB2.out.trans (hb3.mono HB2.out.size)) hT3)
      clear x0 xz
      obtain ⟨x0, xz⟩ := HT0.out.at (HB2.out.trans (hb3.mono HB2.out.size))
      clear hT3 hb3
      go_wp2_with fail
      refine (HOf1.out _ X3.out.below).mono ?_
      rintro e w4 ⟨rfl, hb4⟩
      have HX4 := Lib.hid hb4
      clear x0 xz
      obtain ⟨x0, xz⟩ := HT0.out.at (X3.out.to hb4)
      obtain ⟨u0, uz⟩ := X3.out.at hb4
      clear hb4
      go_wp2_with fail
      refine (HOf2.out _ _ _ (X3.out.to HX4.out) (X3.out.tabV HX4.out)).mono ?_
      rintro e w5 ⟨rfl, hb5⟩
      have HX5 := Lib.hid (HX4.out.trans (hb5.mono HX4.out.size))
      clear x0 xz u0 uz hb5
      obtain ⟨x0, xz⟩ := HT0.out.at (X3.out.to HX5.out)
      obtain ⟨u0, uz⟩ := X3.out.at HX5.out
      go_wp2_with fail
      refine (HOr1.out _ _ _ (X3.out.to HX5.out) (X3.out.tabV HX5.out)).mono ?_
      rintro e w6 ⟨rfl, hb6⟩
      have HX6 := Lib.hid (HX5.out.trans (hb6.mono HX5.out.size))
      clear x0 xz u0 uz hb6
      obtain ⟨x0, xz⟩ := HT0.out.at (X3.out.to HX6.out)
      obtain ⟨u0, uz⟩ := X3.out.at HX6.out
      go_wp2_with fail
      refine (HRA.out _).mono ?_
      rintro e w6' ⟨rfl, rfl⟩
      go_wp2_with fail
      refine (HA2.out _ _ _ (X3.out.to HX6.out) (X3.out.tabV HX6.out)).mono ?_
      rintro e w7 ⟨a7, c7, rfl, hT7, hb7⟩
      have Y7 := Lib.hid (BoxT.new (W0 := w3.alloc (.cells #[.slice a3 L1.length c3] 24)) (HX6.out.trans (hb7.mono HX6.out.size)) hT7)
      clear x0 xz u0 uz
      obtain ⟨x0, xz⟩ := HT0.out.at (X3.out.to (HX6.out.trans (hb7.mono HX6.out.size)))
      obtain ⟨u0, uz⟩ := X3.out.at (HX6.out.trans (hb7.mono HX6.out.size))
      clear hT7 hb7
      go_wp2_with fail
      refine (HL.out _ (X3.out.to Y7.out.below)).mono ?_
      rintro e w20 ⟨a20, c20, rfl, hT20, hb20⟩
      have Z20 := Lib.hid (BoxT.new (W0 := W0) (((X3.out.to Y7.out.below)).trans (hb20.mono ((X3.out.to Y7.out.below)).size)) hT20)
      clear x0 xz hT20 hb20
      go_wp2_with fail
      refine (HOr4.out trivial _ _ _ Z20.out.below Z20.out.tab).mono ?_
      rintro e w21 ⟨rfl, hb21⟩
      have HZ21 := Lib.hid (Z20.out.to hb21)
      clear hb21
      go_wp2_with fail
      refine (HWk.out _ HZ21.out).mono ?_
      rintro e w22 ⟨rfl, hb22⟩
      go_wp2_with fail
      go_ret
      exact ⟨rfl, HT0.out.to hb22⟩
  · have f0 := ne_t h4
    clear h4 HOr4
    by_cases h2 : e2 = 0
    · subst h2
      by_cases hs : se = 0
      · subst hs
        obtain ⟨hle2, hord2, h3⟩ := HA3.out rfl rfl
        have H3 := Lib.hid h3
        have HSa : Hid (∀ V a' c' a'' c'', TabR V L2 a' c' → TabR V L2 a'' c'' → Calls Tryd.prog 13 #[.agg #[.slice a' L2.length c'], .agg #[.slice a'' L2.length c'']] V (Rets V (.bool true))) := fun V a' c' a'' c'' h1 h2 => Same_any L2 L2 a' a'' c' c'' true V h1 h2 (decide_eq_true rfl)
        have HOr2 : Hid (∀ V a' c', Below W0.heap.size W0 V → TabR V L2 a' c' → Calls Tryd.prog 11 #[.agg #[.slice a' L2.length c']] V (Rets V (.bool true))) := fun V a' c' hV hT => Ordered_any L2 a' c' true V (HG.out V hV) hT (by omega) hord2
        have ei : (i2 != i2) = false := ne_f rfl
        clear h3 hord2 HA3
        go_enter Tryd.func3, Tryd.ntmps3
        go_wp2_with (first | (go_at_call 6; rw [← hW0]; clear hW0; refine HGr.out.mono ?_; rintro e w1 ⟨rfl, hb1⟩; have HB1 := Lib.hid hb1; obtain ⟨x0, xz⟩ := HT0.out.at hb1; clear hb1) | (go_at_call 7; refine (HOr.out _ HB1.out).mono ?_; rintro e w2 ⟨rfl, hb2⟩; have HB2 := Lib.hid hb2; clear x0 xz; obtain ⟨x0, xz⟩ := HT0.out.at hb2; clear hb2))
        refine (HA1.out _ HB2.out).mono ?_
        rintro e w3 ⟨a3, c3, rfl, hT3, hb3⟩
        have X3 := Lib.hid (BoxT.new (HB2.out.trans (hb3.mono HB2.out.size)) hT3)
        clear x0 xz
        obtain ⟨x0, xz⟩ := HT0.out.at (HB2.out.trans (hb3.mono HB2.out.size))
        clear hT3 hb3
        go_wp2_with fail
        refine (HOf1.out _ X3.out.below).mono ?_
        rintro e w4 ⟨rfl, hb4⟩
        have HX4 := Lib.hid hb4
        clear x0 xz
        obtain ⟨x0, xz⟩ := HT0.out.at (X3.out.to hb4)
        obtain ⟨u0, uz⟩ := X3.out.at hb4
        clear hb4
        go_wp2_with fail
        refine (HOf2.out _ _ _ (X3.out.to HX4.out) (X3.out.tabV HX4.out)).mono ?_
        rintro e w5 ⟨rfl, hb5⟩
        have HX5 := Lib.hid (HX4.out.trans (hb5.mono HX4.out.size))
        clear x0 xz u0 uz hb5
        obtain ⟨x0, xz⟩ := HT0.out.at (X3.out.to HX5.out)
        obtain ⟨u0, uz⟩ := X3.out.at HX5.out
        go_wp2_with fail
        refine (HOr1.out _ _ _ (X3.out.to HX5.out) (X3.out.tabV HX5.out)).mono ?_
        rintro e w6 ⟨rfl, hb6⟩
        have HX6 := Lib.hid (HX5.out.trans (hb6.mono HX5.out.size))
        clear x0 xz u0 uz hb6
        obtain ⟨x0, xz⟩ := HT0.out.at (X3.out.to HX6.out)
        obtain ⟨u0, uz⟩ := X3.out.at HX6.out
        go_wp2_with fail
        refine (HRA.out _).mono ?_
        rintro e w6' ⟨rfl, rfl⟩
        go_wp2_with fail
        refine (HA2.out _ _ _ (X3.out.to HX6.out) (X3.out.tabV HX6.out)).mono ?_
        rintro e w7 ⟨a7, c7, rfl, hT7, hb7⟩
        have Y7 := Lib.hid (BoxT.new (W0 := w3.alloc (.cells #[.slice a3 L1.length c3] 24)) (HX6.out.trans (hb7.mono HX6.out.size)) hT7)
        clear x0 xz u0 uz
        obtain ⟨x0, xz⟩ := HT0.out.at (X3.out.to (HX6.out.trans (hb7.mono HX6.out.size)))
        obtain ⟨u0, uz⟩ := X3.out.at (HX6.out.trans (hb7.mono HX6.out.size))
        clear hT7 hb7
        go_wp2_with fail
        refine (H3.out _ _ _ (X3.out.to Y7.out.below) (X3.out.tabV Y7.out.below)).mono ?_
        rintro e w8 ⟨a8, c8, rfl, hT8, hb8⟩
        have Z8 := Lib.hid (BoxT.new (W0 := w7.alloc (.cells #[.slice a7 L2.length c7] 24)) hb8 hT8)
        clear x0 xz u0 uz
        obtain ⟨x0, xz⟩ := HT0.out.at (X3.out.to (Y7.out.to hb8))
        obtain ⟨v0, vz⟩ := Y7.out.at hb8
        clear hT8 hb8
        go_wp2_with fail
        refine (HSa.out _ _ _ _ _ (Y7.out.tabV Z8.out.below) Z8.out.tab).mono ?_
        rintro e w9 ⟨rfl, hb9⟩
        have HZ9 := Lib.hid hb9
        clear x0 xz v0 vz
        obtain ⟨x0, xz⟩ := HT0.out.at (X3.out.to (Y7.out.to (Z8.out.to hb9)))
        obtain ⟨v0, vz⟩ := Y7.out.at (Z8.out.to hb9)
        clear hb9
        go_wp2_with fail
        refine (HOr2.out _ _ _ (X3.out.to (Y7.out.to (Z8.out.to HZ9.out))) (Y7.out.tabV (Z8.out.to HZ9.out))).mono ?_
        rintro e w10 ⟨rfl, hb10⟩
        have HZ10 := Lib.hid (HZ9.out.trans (hb10.mono HZ9.out.size))
        clear x0 xz v0 vz hb10
        obtain ⟨x0, xz⟩ := HT0.out.at (X3.out.to (Y7.out.to (Z8.out.to HZ10.out)))
        go_wp2_with fail
        refine (HL.out _ (X3.out.to (Y7.out.to (Z8.out.to HZ10.out)))).mono ?_
        rintro e w20 ⟨a20, c20, rfl, hT20, hb20⟩
        have Z20 := Lib.hid (BoxT.new (W0 := W0) (((X3.out.to (Y7.out.to (Z8.out.to HZ10.out)))).trans (hb20.mono ((X3.out.to (Y7.out.to (Z8.out.to HZ10.out)))).size)) hT20)
        clear x0 xz hT20 hb20
        go_wp2_with fail
        refine (HWk.out _ Z20.out.below).mono ?_
        rintro e w22 ⟨rfl, hb22⟩
        go_wp2_with fail
        go_ret
        exact ⟨rfl, HT0.out.to hb22⟩
      · have es := eq_f hs
        clear hs HA3
        go_enter Tryd.func3, Tryd.ntmps3
        go_wp2_with (first | (go_at_call 6; rw [← hW0]; clear hW0; refine HGr.out.mono ?_; rintro e w1 ⟨rfl, hb1⟩; have HB1 := Lib.hid hb1; obtain ⟨x0, xz⟩ := HT0.out.at hb1; clear hb1) | (go_at_call 7; refine (HOr.out _ HB1.out).mono ?_; rintro e w2 ⟨rfl, hb2⟩; have HB2 := Lib.hid hb2; clear x0 xz; obtain ⟨x0, xz⟩ := HT0.out.at hb2; clear hb2))
        refine (HA1.out _ HB2.out).mono ?_
        rintro e w3 ⟨a3, c3, rfl, hT3, hb3⟩
        have X3 := Lib.hid (BoxT.new (HB2.out.trans (hb3.mono HB2.out.size)) hT3)
        clear x0 xz
        obtain ⟨x0, xz⟩ := HT0.out.at (HB2.out.trans (hb3.mono HB2.out.size))
        clear hT3 hb3
        go_wp2_with fail
        refine (HOf1.out _ X3.out.below).mono ?_
        rintro e w4 ⟨rfl, hb4⟩
        have HX4 := Lib.hid hb4
        clear x0 xz
        obtain ⟨x0, xz⟩ := HT0.out.at (X3.out.to hb4)
        obtain ⟨u0, uz⟩ := X3.out.at hb4
        clear hb4
        go_wp2_with fail
        refine (HOf2.out _ _ _ (X3.out.to HX4.out) (X3.out.tabV HX4.out)).mono ?_
        rintro e w5 ⟨rfl, hb5⟩
        have HX5 := Lib.hid (HX4.out.trans (hb5.mono HX4.out.size))
        clear x0 xz u0 uz hb5
        obtain ⟨x0, xz⟩ := HT0.out.at (X3.out.to HX5.out)
        obtain ⟨u0, uz⟩ := X3.out.at HX5.out
        go_wp2_with fail
        refine (HOr1.out _ _ _ (X3.out.to HX5.out) (X3.out.tabV HX5.out)).mono ?_
        rintro e w6 ⟨rfl, hb6⟩
        have HX6 := Lib.hid (HX5.out.trans (hb6.mono HX5.out.size))
        clear x0 xz u0 uz hb6
        obtain ⟨x0, xz⟩ := HT0.out.at (X3.out.to HX6.out)
        obtain ⟨u0, uz⟩ := X3.out.at HX6.out
        go_wp2_with fail
        refine (HRA.out _).mono ?_
        rintro e w6' ⟨rfl, rfl⟩
        go_wp2_with fail
        refine (HA2.out _ _ _ (X3.out.to HX6.out) (X3.out.tabV HX6.out)).mono ?_
        rintro e w7 ⟨a7, c7, rfl, hT7, hb7⟩
        have Y7 := Lib.hid (BoxT.new (W0 := w3.alloc (.cells #[.slice a3 L1.length c3] 24)) (HX6.out.trans (hb7.mono HX6.out.size)) hT7)
        clear x0 xz u0 uz
        obtain ⟨x0, xz⟩ := HT0.out.at (X3.out.to (HX6.out.trans (hb7.mono HX6.out.size)))
        obtain ⟨u0, uz⟩ := X3.out.at (HX6.out.trans (hb7.mono HX6.out.size))
        clear hT7 hb7
        go_wp2_with fail
        refine (HL.out _ (X3.out.to Y7.out.below)).mono ?_
        rintro e w20 ⟨a20, c20, rfl, hT20, hb20⟩
        have Z20 := Lib.hid (BoxT.new (W0 := W0) (((X3.out.to Y7.out.below)).trans (hb20.mono ((X3.out.to Y7.out.below)).size)) hT20)
        clear x0 xz hT20 hb20
        go_wp2_with fail
        refine (HWk.out _ Z20.out.below).mono ?_
        rintro e w22 ⟨rfl, hb22⟩
        go_wp2_with fail
        go_ret
        exact ⟨rfl, HT0.out.to hb22⟩
    · have es := eq_f h2
      clear h2 HA3
      go_enter Tryd.func3, Tryd.ntmps3
      go_wp2_with (first | (go_at_call 6; rw [← hW0]; clear hW0; refine HGr.out.mono ?_; rintro e w1 ⟨rfl, hb1⟩; have HB1 := Lib.hid hb1; obtain ⟨x0, xz⟩ := HT0.out.at hb1; clear hb1) | (go_at_call 7; refine (HOr.out _ HB1.out).mono ?_; rintro e w2 ⟨rfl, hb2⟩; have HB2 := Lib.hid hb2; clear x0 xz; obtain ⟨x0, xz⟩ := HT0.out.at hb2; clear hb2))
      refine (HA1.out _ HB2.out).mono ?_
      rintro e w3 ⟨a3, c3, rfl, hT3, hb3⟩
      have X3 := Lib.hid (BoxT.new (HB2.out.trans (hb3.mono HB2.out.size)) hT3)
      clear x0 xz
      obtain ⟨x0, xz⟩ := HT0.out.at (HB2.out.trans (hb3.mono HB2.out.size))
      clear hT3 hb3
      go_wp2_with fail
      refine (HOf1.out _ X3.out.below).mono ?_
      rintro e w4 ⟨rfl, hb4⟩
      have HX4 := Lib.hid hb4
      clear x0 xz
      obtain ⟨x0, xz⟩ := HT0.out.at (X3.out.to hb4)
      obtain ⟨u0, uz⟩ := X3.out.at hb4
      clear hb4
      go_wp2_with fail
      refine (HOf2.out _ _ _ (X3.out.to HX4.out) (X3.out.tabV HX4.out)).mono ?_
      rintro e w5 ⟨rfl, hb5⟩
      have HX5 := Lib.hid (HX4.out.trans (hb5.mono HX4.out.size))
      clear x0 xz u0 uz hb5
      obtain ⟨x0, xz⟩ := HT0.out.at (X3.out.to HX5.out)
      obtain ⟨u0, uz⟩ := X3.out.at HX5.out
      go_wp2_with fail
      refine (HOr1.out _ _ _ (X3.out.to HX5.out) (X3.out.tabV HX5.out)).mono ?_
      rintro e w6 ⟨rfl, hb6⟩
      have HX6 := Lib.hid (HX5.out.trans (hb6.mono HX5.out.size))
      clear x0 xz u0 uz hb6
      obtain ⟨x0, xz⟩ := HT0.out.at (X3.out.to HX6.out)
      obtain ⟨u0, uz⟩ := X3.out.at HX6.out
      go_wp2_with fail
      refine (HRA.out _).mono ?_
      rintro e w6' ⟨rfl, rfl⟩
      go_wp2_with fail
      refine (HA2.out _ _ _ (X3.out.to HX6.out) (X3.out.tabV HX6.out)).mono ?_
      rintro e w7 ⟨a7, c7, rfl, hT7, hb7⟩
      have Y7 := Lib.hid (BoxT.new (W0 := w3.alloc (.cells #[.slice a3 L1.length c3] 24)) (HX6.out.trans (hb7.mono HX6.out.size)) hT7)
      clear x0 xz u0 uz
      obtain ⟨x0, xz⟩ := HT0.out.at (X3.out.to (HX6.out.trans (hb7.mono HX6.out.size)))
      obtain ⟨u0, uz⟩ := X3.out.at (HX6.out.trans (hb7.mono HX6.out.size))
      clear hT7 hb7
      go_wp2_with fail
      refine (HL.out _ (X3.out.to Y7.out.below)).mono ?_
      rintro e w20 ⟨a20, c20, rfl, hT20, hb20⟩
      have Z20 := Lib.hid (BoxT.new (W0 := W0) (((X3.out.to Y7.out.below)).trans (hb20.mono ((X3.out.to Y7.out.below)).size)) hT20)
      clear x0 xz hT20 hb20
      go_wp2_with fail
      refine (HWk.out _ Z20.out.below).mono ?_
      rintro e w22 ⟨rfl, hb22⟩
      go_wp2_with fail
      go_ret
      exact ⟨rfl, HT0.out.to hb22⟩
end Go.Proofs.YtgjidlfemfomcaaDoor
