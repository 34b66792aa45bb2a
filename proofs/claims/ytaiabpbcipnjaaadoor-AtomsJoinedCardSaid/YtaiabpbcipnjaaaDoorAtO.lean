/- AtomsJoined: its walk. -/
import Derived.Test.YtaiabpbcipnjaaaDoorAtN
namespace Go.Proofs.YtaiabpbcipnjaaaDoor.Tm
open Go.RowKit
set_option linter.unusedVariables false
set_option maxRecDepth 100000 in
set_option maxHeartbeats 4000000 in
theorem AtomsJoined_c (w : World) (l : List NodeA) (a : Option Addr) (c : Nat) (hA : TabR w l a c) (xs : List Int) (b1 : Option Addr) (d1 : Nat) (hX : IntsR w xs b1 d1) (hx7 : xs.length ≤ 17592186044416) (ys : List Int) (b2 : Option Addr) (d2 : Nat) (hY : IntsR w ys b2 d2) (hy7 : ys.length ≤ 17592186044416) (hG : GK w) :
    Calls Tryd.prog 4 #[.agg #[.slice a l.length c], .slice b1 xs.length d1, .slice b2 ys.length d2] w fun e w' => e = .returned (.bool true) ∧ Below w.heap.size w w' := by
  have hlm : l.length ≤ 9223372036854775807 := by have h1 := hA.le; have h2 := hA.cap; simp only [maxLen] at h2; omega
  have hx1 := hX.le
  have hy1 := hY.le
  have hle := hA.le
  obtain ⟨W0, hW0⟩ : ∃ W0, W0 = w.alloc (.cells #[.slice a l.length c] 24) := ⟨_, rfl⟩
  obtain ⟨hB0, hXX⟩ := tab_box hW0
  have HWk : Hid (∀ V, Below w.heap.size w V → Calls Tryd.prog 7 #[] V fun e w' => e = .returned (.bool true) ∧ Below w.heap.size w w') := fun V hV => (wakes_any V (hG.below hV)).mono fun e w' ⟨h1, h2⟩ => ⟨h1, ball hV h2⟩
  have HXX := Lib.hid hXX
  have HB0 := Lib.hid hB0
  obtain ⟨x0, xz⟩ := hXX _ (Below.refl _ _)
  cases hgr : decide (300 < l.length) with
  | true =>
    have HGr : Hid (Calls Tryd.prog 5 #[.agg #[.slice a l.length c]] W0 fun e w' => e = .returned (.bool true) ∧ Below W0.heap.size W0 w') := Great_any l a c true W0 hlm hgr
    clear hgr hA hB0 hX hY hG hXX
    go_enter Tryd.func4, Tryd.ntmps4
    go_wp2_with fail
    rw [← hW0]
    clear hW0
    refine HGr.out.mono ?_
    rintro e w1 ⟨rfl, hb1⟩
    have HB1 : Hid (Below w.heap.size w w1) := HB0.out.trans (hb1.mono HB0.out.size)
    clear hb1
    go_wp2_with fail
    refine (HWk.out _ HB1.out).mono ?_
    rintro e w2 ⟨rfl, hb2⟩
    go_wp2_with fail
    go_ret
    exact ⟨rfl, hb2⟩
  | false =>
  have HGr : Hid (Calls Tryd.prog 5 #[.agg #[.slice a l.length c]] W0 fun e w' => e = .returned (.bool false) ∧ Below W0.heap.size W0 w') := Great_any l a c false W0 hlm hgr
  have hl3 : l.length ≤ 300 := by have := of_decide_eq_false hgr; omega
  by_cases hfew : 300 < xs.length + ys.length
  · have d5 : decide (300 < (xs.length : Int) + (ys.length : Int)) = true := decide_eq_true (by omega)
    clear hgr hA hB0 hX hY hG hXX
    go_enter Tryd.func4, Tryd.ntmps4
    go_wp2_with fail
    rw [← hW0]
    clear hW0
    refine HGr.out.mono ?_
    rintro e w1 ⟨rfl, hb1⟩
    have HB1 : Hid (Below w.heap.size w w1) := HB0.out.trans (hb1.mono HB0.out.size)
    clear hb1
    go_wp2_with fail
    refine (HWk.out _ HB1.out).mono ?_
    rintro e w2 ⟨rfl, hb2⟩
    go_wp2_with fail
    go_ret
    exact ⟨rfl, hb2⟩
  have d5 : decide (300 < (xs.length : Int) + (ys.length : Int)) = false := decide_eq_false (by omega)
  obtain ⟨r1, hr1⟩ : ∃ r, (mayT l && mayL l xs) = r := ⟨_, rfl⟩
  have HM1 : Hid (∀ V, Below w.heap.size w V → Calls Tryd.prog 14 #[.agg #[.slice a l.length c], .slice b1 xs.length d1] V fun e w' => e = .returned (.bool r1) ∧ Below V.heap.size V w') := fun V hV => RMay_lits l a c xs b1 d1 r1 V (hA.below hV) (by omega) (hX.below hV) (by omega) hr1
  cases r1 with
  | false =>
    clear hgr hA hB0 hX hY hG hXX hr1
    go_enter Tryd.func4, Tryd.ntmps4
    go_wp2_with fail
    rw [← hW0]
    clear hW0
    refine HGr.out.mono ?_
    rintro e w1 ⟨rfl, hb1⟩
    have HB1 := Lib.hid hb1
    clear hb1 x0 xz
    obtain ⟨x0, xz⟩ := HXX.out _ HB1.out
    go_wp2_with fail
    refine (HM1.out _ (HB0.out.trans (HB1.out.mono HB0.out.size))).mono ?_
    rintro e w2 ⟨rfl, hb2⟩
    have HB2 : Hid (Below w.heap.size w w2) := HB0.out.trans ((HB1.out.trans (hb2.mono HB1.out.size)).mono HB0.out.size)
    clear hb2
    go_wp2_with fail
    refine (HWk.out _ HB2.out).mono ?_
    rintro e w3 ⟨rfl, hb3⟩
    go_wp2_with fail
    go_ret
    exact ⟨rfl, hb3⟩
  | true =>
  obtain ⟨r2, hr2⟩ : ∃ r, (mayT l && mayL l ys) = r := ⟨_, rfl⟩
  have HM2 : Hid (∀ V, Below w.heap.size w V → Calls Tryd.prog 14 #[.agg #[.slice a l.length c], .slice b2 ys.length d2] V fun e w' => e = .returned (.bool r2) ∧ Below V.heap.size V w') := fun V hV => RMay_lits l a c ys b2 d2 r2 V (hA.below hV) (by omega) (hY.below hV) (by omega) hr2
  cases r2 with
  | false =>
    clear hgr hA hB0 hX hY hG hXX hr1 hr2
    go_enter Tryd.func4, Tryd.ntmps4
    go_wp2_with fail
    rw [← hW0]
    clear hW0
    refine HGr.out.mono ?_
    rintro e w1 ⟨rfl, hb1⟩
    have HB1 := Lib.hid hb1
    clear hb1 x0 xz
    obtain ⟨x0, xz⟩ := HXX.out _ HB1.out
    go_wp2_with fail
    refine (HM1.out _ (HB0.out.trans (HB1.out.mono HB0.out.size))).mono ?_
    rintro e w2 ⟨rfl, hb2⟩
    have HB2 : Hid (Below W0.heap.size W0 w2) := HB1.out.trans (hb2.mono HB1.out.size)
    clear hb2 x0 xz
    obtain ⟨x0, xz⟩ := HXX.out _ HB2.out
    go_wp2_with fail
    refine (HM2.out _ (HB0.out.trans (HB2.out.mono HB0.out.size))).mono ?_
    rintro e w3 ⟨rfl, hb3⟩
    have HB3 : Hid (Below w.heap.size w w3) := HB0.out.trans ((HB2.out.trans (hb3.mono HB2.out.size)).mono HB0.out.size)
    clear hb3
    go_wp2_with fail
    refine (HWk.out _ HB3.out).mono ?_
    rintro e w4 ⟨rfl, hb4⟩
    go_wp2_with fail
    go_ret
    exact ⟨rfl, hb4⟩
  | true =>
  obtain ⟨hm, hmx⟩ : mayT l = true ∧ mayL l xs = true := by rw [Bool.and_eq_true] at hr1; exact hr1
  have hmy : mayL l ys = true := by rw [Bool.and_eq_true] at hr2; exact hr2.2
  obtain ⟨Z, hZ⟩ : ∃ Z, xs ++ ys = Z := ⟨_, rfl⟩
  have hzi : ∀ z ∈ Z, I64 z := fun z hz => by rw [← hZ] at hz; exact (List.mem_append.1 hz).elim (hX.ok z) (hY.ok z)
  have HZ := Lib.hid hZ
  have HZI := Lib.hid hzi
  have HEL : Hid (eufL l xs ++ eufL l ys = eufL l Z) := by rw [← hZ]; exact (eufL_app hmx hmy).symm
  have HIL : Hid (idlL l xs ++ idlL l ys = idlL l Z) := by rw [← hZ]; exact (idlL_app hmx hmy).symm
  have HZl : Hid (Z.length ≤ 300) := by show _ ≤ _; rw [← hZ, List.length_append]; omega
  have HE : Hid (∀ V zs b d, Below w.heap.size w V → IntsR V zs b d → zs.length ≤ 300 → Calls Tryd.prog 12 #[.agg #[.slice a l.length c], .slice b zs.length d] V fun e w' => ∃ b' d', e = .returned (.slice b' (eufL l zs).length d') ∧ Hid (IntsR w' (eufL l zs) b' d') ∧ Hid (Below w.heap.size w w') ∧ Hid (Below V.heap.size V w')) := fun V zs b d hV hZ hzl => (Euf_any l a c zs b d V (hG.below hV) (hA.below hV) hm (by omega) hZ (by omega)).mono fun e w' ⟨v, h1, h2, h3⟩ => by
    obtain ⟨b', d', rfl, h4⟩ := h2.ints (fun z hz => hZ.ok z (eufL_mem hz))
    exact ⟨b', d', h1, h4, ball hV h3, h3⟩
  have HI : Hid (∀ V zs b d, Below w.heap.size w V → IntsR V zs b d → zs.length ≤ 300 → Calls Tryd.prog 13 #[.agg #[.slice a l.length c], .slice b zs.length d] V fun e w' => ∃ b' d', e = .returned (.slice b' (idlL l zs).length d') ∧ Hid (IntsR w' (idlL l zs) b' d') ∧ Hid (Below w.heap.size w w') ∧ Hid (Below V.heap.size V w')) := fun V zs b d hV hZ hzl => (Idl_any l a c zs b d V (hG.below hV) (hA.below hV) hm (by omega) hZ (by omega)).mono fun e w' ⟨v, h1, h2, h3⟩ => by
    obtain ⟨b', d', rfl, h4⟩ := h2.ints (fun z hz => hZ.ok z (idlL_mem hz))
    exact ⟨b', d', h1, h4, ball hV h3, h3⟩
  have HM : Hid (∀ V b d, Below w.heap.size w V → IntsR V Z b d → Calls Tryd.prog 11 #[.agg #[.slice a l.length c], .slice b Z.length d] V fun e w' => e = .returned (.bool true) ∧ Hid (Below w.heap.size w w') ∧ Hid (Below V.heap.size V w')) := fun V b d hV hZ' => (May_any l a c Z b d true V (hG.below hV).t (hA.below hV) hm (by omega) hZ' (by have := HZl.out; omega) (by rw [← HZ.out, mayL_app, hmx, hmy]; rfl)).mono fun e w' ⟨h1, h2⟩ => ⟨h1, ball hV h2, h2⟩
  have HEx : Hid ((eufL l xs).length ≤ 300 ∧ (eufL l ys).length ≤ 300 ∧ (idlL l xs).length ≤ 300 ∧ (idlL l ys).length ≤ 300 ∧ xs.length ≤ 300 ∧ ys.length ≤ 300 ∧ xs.length + ys.length ≤ 300) := by
    have h1 := eufL_len l xs
    have h2 := eufL_len l ys
    have h3 := idlL_len l xs
    have h4 := idlL_len l ys
    exact ⟨by omega, by omega, by omega, by omega, by omega, by omega, by omega⟩
  have HEi : Hid ((∀ z ∈ eufL l Z, I64 z) ∧ (∀ z ∈ idlL l Z, I64 z)) := ⟨fun z hz => hzi z (eufL_mem hz), fun z hz => hzi z (idlL_mem hz)⟩
  have HEx2 : Hid ((∀ z ∈ eufL l xs, I64 z) ∧ (∀ z ∈ idlL l xs, I64 z)) := ⟨fun z hz => hX.ok z (eufL_mem hz), fun z hz => hX.ok z (idlL_mem hz)⟩
  have HX := Lib.hid hX
  have HY := Lib.hid hY
  clear hgr hA hB0 hX hY hG hXX hr1 hr2 hm hmx hmy hzi hZ
  go_enter Tryd.func4, Tryd.ntmps4
  go_wp2_with fail
  rw [← hW0]
  clear hW0
  refine HGr.out.mono ?_
  rintro e w1 ⟨rfl, hb1⟩
  have HB1 := Lib.hid hb1
  clear hb1 x0 xz
  obtain ⟨x0, xz⟩ := HXX.out _ HB1.out
  go_wp2_with fail
  refine (HM1.out _ (HB0.out.trans (HB1.out.mono HB0.out.size))).mono ?_
  rintro e w2 ⟨rfl, hb2⟩
  have HB2 : Hid (Below W0.heap.size W0 w2) := HB1.out.trans (hb2.mono HB1.out.size)
  clear hb2 x0 xz
  obtain ⟨x0, xz⟩ := HXX.out _ HB2.out
  go_wp2_with fail
  refine (HM2.out _ (HB0.out.trans (HB2.out.mono HB0.out.size))).mono ?_
  rintro e w3 ⟨rfl, hb3⟩
  have HB3 : Hid (Below W0.heap.size W0 w3) := HB2.out.trans (hb3.mono HB2.out.size)
  have HBw : Hid (Below w.heap.size w w3) := HB0.out.trans (HB3.out.mono HB0.out.size)
  clear hb3 x0 xz
  have hbz : Below w3.heap.size w3 (w3.alloc (.cells #[] 3)) := (Below.refl _ _).alloc (Nat.le_refl _) _
  have HB3z : Hid (Below W0.heap.size W0 (w3.alloc (.cells #[] 3))) := HB3.out.trans (hbz.mono HB3.out.size)
  have hX3 : IntsR (w3.alloc (.cells #[] 3)) xs b1 d1 := HX.out.below (ball HBw.out hbz)
  obtain ⟨_, _, _, _, ex5, ex6, ex7⟩ := HEx.out
  go_wp2_with (first
    | (at_builtin; refine wpList_app rfl _ _ rfl rfl w3.heap.size _ [] xs b1 d1 (by rfl) (by rfl) (row_zero w3) hX3 (by simp) (by simp; omega) ?_; intro v4 w4 hr4 hg4; have HB4 : Hid (Below W0.heap.size W0 w4) := HB3z.out.grown hg4 HB3z.out.size (fun k e => by cases e; exact HB3.out.size); rw [List.nil_append] at hr4; obtain ⟨a4, c4, rfl, hi4⟩ := hr4.ints HX.out.ok; have hY4 : IntsR w4 ys b2 d2 := HY.out.below (HB0.out.trans (HB4.out.mono HB0.out.size)); have hz4 : w3.heap.size ≤ w4.heap.size := (by have := hg4.size; simp at this; omega))
    | (at_builtin; refine wpList_app rfl _ _ rfl rfl w3.heap.size _ xs ys b2 d2 (by rfl) (by rfl) hr4 hY4 hz4 (by omega) ?_; intro v5 w5 hr5 hg5; have HB5 : Hid (Below W0.heap.size W0 w5) := HB4.out.grown hg5 HB4.out.size (fun k e => Nat.le_trans HB3.out.size (own_lt hr4 e).1); rw [HZ.out] at hr5; obtain ⟨a5, c5, rfl, hi5⟩ := hr5.ints HZI.out))
  have HI5 := Lib.hid hi5
  clear hbz hX3 hr4 hg4 hi4 hY4 hz4 hr5 hg5 hi5 HB4 HB3z
  obtain ⟨ex1, ex2, ex3, ex4, _, _, _⟩ := HEx.out
  refine wp_region_held_drew (S := fun V => V.cell? ⟨w.heap.size, 0, none⟩ = some (.slice a l.length c) ∧ w.heap.size < V.heap.size) (by kernel_rfl) (HXX.out _ HB5.out.drew) (fun hHeld => ?_)
  refine wpAnyH_take (i := 1) (oi := { dst := some 39, op := Op.load 24 (Operand.tmp 3), type := 24, pos := "law.go:101", after := #[], guard := none }) (v := .agg #[.slice a l.length c]) rfl (by kernel_rfl) (by kernel_rfl) (by kernel_rfl) (fun _ _ _ h => h) (Or.inl ⟨by rfl, ?_⟩) (by assumption) ?_
  · (intro w hSw; (try dsimp only at hSw); go_simp)
  try simp only [Act.put, List.setIfInBounds_toArray, List.set_cons_zero, List.set_cons_succ]
  refine wpAnyH_take (i := 2) (oi := { dst := some 40, op := Op.move (Operand.tmp 1), type := 25, pos := "law.go:101", after := #[], guard := none }) (v := .slice b1 xs.length d1) rfl (by kernel_rfl) (by kernel_rfl) (by kernel_rfl) (fun _ _ _ h => h) (Or.inl ⟨by rfl, ?_⟩) (by assumption) ?_
  · (intro w hSw; (try dsimp only at hSw); go_simp)
  try simp only [Act.put, List.setIfInBounds_toArray, List.set_cons_zero, List.set_cons_succ]
  refine wpAnyH_take (i := 5) (oi := { dst := some 43, op := Op.load 24 (Operand.tmp 3), type := 24, pos := "law.go:101", after := #[], guard := none }) (v := .agg #[.slice a l.length c]) rfl (by kernel_rfl) (by kernel_rfl) (by kernel_rfl) (fun _ _ _ h => h) (Or.inl ⟨by rfl, ?_⟩) (by assumption) ?_
  · (intro w hSw; (try dsimp only at hSw); go_simp)
  try simp only [Act.put, List.setIfInBounds_toArray, List.set_cons_zero, List.set_cons_succ]
  refine wpAnyH_take (i := 6) (oi := { dst := some 44, op := Op.move (Operand.tmp 2), type := 25, pos := "law.go:101", after := #[], guard := none }) (v := .slice b2 ys.length d2) rfl (by kernel_rfl) (by kernel_rfl) (by kernel_rfl) (fun _ _ _ h => h) (Or.inl ⟨by rfl, ?_⟩) (by assumption) ?_
  · (intro w hSw; (try dsimp only at hSw); go_simp)
  try simp only [Act.put, List.setIfInBounds_toArray, List.set_cons_zero, List.set_cons_succ]
  refine wpAnyH_ready (rs := [0, 3]) (by kernel_rfl) (by simp) ?_
  refine AllReadyH.cons (o := { dst := some 38, op := Op.buildSlice 25 0 #[], type := 25, pos := "law.go:101", after := #[], guard := none }) rfl (fun K hK => ?_) (AllReadyH.cons (o := { dst := some 41, op := Op.call { callee := Callee.value (Operand.func 12), args := #[Operand.tmp 39, Operand.tmp 40], argTypes := #[24, 25] }, type := 25, pos := "law.go:101", after := #[{ on := 1, ground := Ground.data }, { on := 2, ground := Ground.data }], guard := none }) rfl (fun K hK => ?_) AllReadyH.nil)
  · go_simp
    have hbz : Below W0.heap.size W0 (w5.drew.alloc (.cells #[] 3)) := HB5.out.drew.alloc HB5.out.size _
    refine hK.out _ _ ?_ (fun hHeld => ?_)
    · exact HXX.out _ hbz
    clear hK K
    try simp only [Act.put, List.setIfInBounds_toArray, List.set_cons_zero, List.set_cons_succ]
    have hz0 := row_zero w5.drew
    have hsz : (w5.drew.alloc (.cells #[] 3)).heap.size = w5.heap.size + 1 := by rw [World.size_alloc]; rfl
    refine wpAnyH_ready (rs := [3]) (by kernel_rfl) (by simp) ?_
    refine AllReadyH.cons (o := { dst := some 41, op := Op.call { callee := Callee.value (Operand.func 12), args := #[Operand.tmp 39, Operand.tmp 40], argTypes := #[24, 25] }, type := 25, pos := "law.go:101", after := #[{ on := 1, ground := Ground.data }, { on := 2, ground := Ground.data }], guard := none }) rfl (fun K hK => ?_) AllReadyH.nil
    go_simp
    go_at_call 12
    refine (HE.out (w5.drew.alloc (.cells #[] 3)) xs b1 d1 (HB0.out.trans (Below.mono (hbz) HB0.out.size)) (HX.out.below (HB0.out.trans (hbz.mono HB0.out.size))) (by omega)).mono ?_
    rintro e u1 ⟨e1, f1, rfl, HQ1, HBw1, HBV1⟩
    have HU1 : Hid (Below W0.heap.size W0 u1) := Below.trans (hbz) (HBV1.out.mono (Below.size (hbz)))
    go_wp2_with fail
    refine hK.out _ _ ?_ (fun hHeld => ?_)
    · exact HXX.out _ HU1.out
    clear hK K
    try simp only [Act.put, List.setIfInBounds_toArray, List.set_cons_zero, List.set_cons_succ]
    have hs1 : w5.heap.size + 1 ≤ u1.heap.size := by have := HBV1.out.size; omega
    have HD1 : Hid (Below w5.heap.size w5 (u1)) := (Below.trans (Below.alloc (Below.refl _ w5).drew (Nat.le_refl _) _) (Below.mono HBV1.out (by rw [hsz]; exact Nat.le_succ _)))
    refine wpAnyH_ready (rs := [4]) (by kernel_rfl) (by simp) ?_
    refine AllReadyH.cons (o := { dst := some 42, op := Op.call { callee := Callee.builtin Builtin.append, args := #[Operand.tmp 38, Operand.tmp 41], argTypes := #[25, 25] }, type := 25, pos := "law.go:101", after := #[{ on := 0, ground := Ground.data }, { on := 3, ground := Ground.data }, { on := 3, ground := Ground.chain }], guard := none }) rfl (fun K hK => ?_) AllReadyH.nil
    refine step_app rfl _ _ rfl rfl w5.heap.size _ [] (eufL l xs) e1 f1 (by rfl) (by rfl) (hz0.keep HBV1.out) HQ1.out (by first | omega | (simp <;> omega)) (by simp; omega) ?_
    intro v6 u6 hr6 hg6
    rw [List.nil_append] at hr6
    have HU6 : Hid (Below W0.heap.size W0 u6) := (HU1.out).grown hg6 (Below.size (HU1.out)) (fun k e => by cases e; exact HB5.out.size)
    have HD6 : Hid (Below w5.heap.size w5 u6) := HD1.out.grown hg6 HD1.out.size (fun k e => by cases e; first | exact Nat.le_refl _ | exact hs1)
    have hs6 := HU6.out.size
    obtain ⟨a6, c6, rfl, _⟩ := hr6.ints HEx2.out.1
    have HR6 := Lib.hid hr6
    have hu6 := hg6.size
    clear hr6 hg6
    refine hK.out _ _ ?_ (fun hHeld => ?_)
    · exact HXX.out _ HU6.out
    clear hK K
    try simp only [Act.put, List.setIfInBounds_toArray, List.set_cons_zero, List.set_cons_succ]
    refine wpAnyH_ready (rs := [7]) (by kernel_rfl) (by simp) ?_
    refine AllReadyH.cons (o := { dst := some 45, op := Op.call { callee := Callee.value (Operand.func 12), args := #[Operand.tmp 43, Operand.tmp 44], argTypes := #[24, 25] }, type := 25, pos := "law.go:101", after := #[{ on := 5, ground := Ground.data }, { on := 6, ground := Ground.data }, { on := 4, ground := Ground.chain }], guard := none }) rfl (fun K hK => ?_) AllReadyH.nil
    go_simp
    go_at_call 12
    refine (HE.out (u6) ys b2 d2 (HB0.out.trans (Below.mono (HU6.out) HB0.out.size)) (HY.out.below (HB0.out.trans (HU6.out.mono HB0.out.size))) (by omega)).mono ?_
    rintro e u7 ⟨e7, f7, rfl, HQ7, HBw7, HBV7⟩
    have HU7 : Hid (Below W0.heap.size W0 u7) := Below.trans (HU6.out) (HBV7.out.mono (Below.size (HU6.out)))
    go_wp2_with fail
    refine hK.out _ _ ?_ (fun hHeld => ?_)
    · exact HXX.out _ HU7.out
    clear hK K
    try simp only [Act.put, List.setIfInBounds_toArray, List.set_cons_zero, List.set_cons_succ]
    refine wpAnyH_ready (rs := [8]) (by kernel_rfl) (by simp) ?_
    refine AllReadyH.cons (o := { dst := some 46, op := Op.call { callee := Callee.builtin Builtin.append, args := #[Operand.tmp 42, Operand.tmp 45], argTypes := #[25, 25] }, type := 25, pos := "law.go:101", after := #[{ on := 4, ground := Ground.data }, { on := 7, ground := Ground.data }, { on := 7, ground := Ground.chain }], guard := none }) rfl (fun K hK => ?_) AllReadyH.nil
    refine step_app rfl _ _ rfl rfl w5.heap.size _ (eufL l xs) (eufL l ys) e7 f7 (by rfl) (by rfl) (HR6.out.keep HBV7.out) HQ7.out (by have := HBV7.out.size; first | omega | (simp at *; omega)) (by omega) ?_
    intro v8 u8 hr8 hg8
    have HU8 : Hid (Below W0.heap.size W0 u8) := HU7.out.grown hg8 HU7.out.size (fun k e => Nat.le_trans (HB5.out.size) (own_lt (HR6.out.keep HBV7.out) e).1)
    rw [HEL.out] at hr8
    have HBD0 : Hid (Below w5.heap.size w5 u8) := (HD6.out.trans (HBV7.out.mono HD6.out.size)).grown hg8 (HD6.out.trans (HBV7.out.mono HD6.out.size)).size (fun k e => (own_lt (HR6.out.keep HBV7.out) e).1)
    obtain ⟨a8, c8, rfl, hi8⟩ := hr8.ints HEi.out.1
    have HI8 := Lib.hid hi8
    clear hr8 hg8 hi8
    refine hK.out _ _ ?_ (fun hHeld => ?_)
    · exact HXX.out _ HU8.out
    clear hK K
    try simp only [Act.put, List.setIfInBounds_toArray, List.set_cons_zero, List.set_cons_succ]
    refine wpAnyH_take (i := 9) (oi := { dst := some 8, op := Op.assign (Operand.tmp 46), type := 25, pos := "law.go:101", after := #[{ on := 8, ground := Ground.data }, { on := 8, ground := Ground.chain }, { on := 0, ground := Ground.phase }, { on := 1, ground := Ground.phase }, { on := 2, ground := Ground.phase }, { on := 3, ground := Ground.phase }, { on := 4, ground := Ground.phase }, { on := 5, ground := Ground.phase }, { on := 6, ground := Ground.phase }, { on := 7, ground := Ground.phase }, { on := 8, ground := Ground.phase }], guard := none }) (v := .slice a8 (eufL l Z).length c8) rfl (by kernel_rfl) (by kernel_rfl) (by kernel_rfl) (fun _ _ _ h => h) (Or.inl ⟨by rfl, ?_⟩) (by assumption) ?_
    · (intro w hSw; (try dsimp only at hSw); go_simp)
    try simp only [Act.put, List.setIfInBounds_toArray, List.set_cons_zero, List.set_cons_succ]
    refine wpAnyH_done (by kernel_rfl) ?_ _
    clear hHeld
    have HBD : Hid (Below w5.heap.size w5 u8) := HBD0.out
    go_wp2_with fail
    refine wp_region_held_drew (S := fun V => V.cell? ⟨w.heap.size, 0, none⟩ = some (.slice a l.length c) ∧ w.heap.size < V.heap.size) (by kernel_rfl) (HXX.out _ HU8.out.drew) (fun hHeld => ?_)
    refine wpAnyH_take (i := 1) (oi := { dst := some 48, op := Op.load 24 (Operand.tmp 3), type := 24, pos := "law.go:102", after := #[], guard := none }) (v := .agg #[.slice a l.length c]) rfl (by kernel_rfl) (by kernel_rfl) (by kernel_rfl) (fun _ _ _ h => h) (Or.inl ⟨by rfl, ?_⟩) (by assumption) ?_
    · (intro w hSw; (try dsimp only at hSw); go_simp)
    try simp only [Act.put, List.setIfInBounds_toArray, List.set_cons_zero, List.set_cons_succ]
    refine wpAnyH_take (i := 2) (oi := { dst := some 49, op := Op.move (Operand.tmp 1), type := 25, pos := "law.go:102", after := #[], guard := none }) (v := .slice b1 xs.length d1) rfl (by kernel_rfl) (by kernel_rfl) (by kernel_rfl) (fun _ _ _ h => h) (Or.inl ⟨by rfl, ?_⟩) (by assumption) ?_
    · (intro w hSw; (try dsimp only at hSw); go_simp)
    try simp only [Act.put, List.setIfInBounds_toArray, List.set_cons_zero, List.set_cons_succ]
    refine wpAnyH_take (i := 5) (oi := { dst := some 52, op := Op.load 24 (Operand.tmp 3), type := 24, pos := "law.go:102", after := #[], guard := none }) (v := .agg #[.slice a l.length c]) rfl (by kernel_rfl) (by kernel_rfl) (by kernel_rfl) (fun _ _ _ h => h) (Or.inl ⟨by rfl, ?_⟩) (by assumption) ?_
    · (intro w hSw; (try dsimp only at hSw); go_simp)
    try simp only [Act.put, List.setIfInBounds_toArray, List.set_cons_zero, List.set_cons_succ]
    refine wpAnyH_take (i := 6) (oi := { dst := some 53, op := Op.move (Operand.tmp 2), type := 25, pos := "law.go:102", after := #[], guard := none }) (v := .slice b2 ys.length d2) rfl (by kernel_rfl) (by kernel_rfl) (by kernel_rfl) (fun _ _ _ h => h) (Or.inl ⟨by rfl, ?_⟩) (by assumption) ?_
    · (intro w hSw; (try dsimp only at hSw); go_simp)
    try simp only [Act.put, List.setIfInBounds_toArray, List.set_cons_zero, List.set_cons_succ]
    refine wpAnyH_ready (rs := [0, 3]) (by kernel_rfl) (by simp) ?_
    refine AllReadyH.cons (o := { dst := some 47, op := Op.buildSlice 25 0 #[], type := 25, pos := "law.go:102", after := #[], guard := none }) rfl (fun K hK => ?_) (AllReadyH.cons (o := { dst := some 50, op := Op.call { callee := Callee.value (Operand.func 13), args := #[Operand.tmp 48, Operand.tmp 49], argTypes := #[24, 25] }, type := 25, pos := "law.go:102", after := #[{ on := 1, ground := Ground.data }, { on := 2, ground := Ground.data }], guard := none }) rfl (fun K hK => ?_) AllReadyH.nil)
    · go_simp
      have hbz : Below W0.heap.size W0 (u8.drew.alloc (.cells #[] 3)) := HU8.out.drew.alloc HU8.out.size _
      refine hK.out _ _ ?_ (fun hHeld => ?_)
      · exact HXX.out _ hbz
      clear hK K
      try simp only [Act.put, List.setIfInBounds_toArray, List.set_cons_zero, List.set_cons_succ]
      have hz0 := row_zero u8.drew
      have hsz : (u8.drew.alloc (.cells #[] 3)).heap.size = u8.heap.size + 1 := by rw [World.size_alloc]; rfl
      refine wpAnyH_ready (rs := [3]) (by kernel_rfl) (by simp) ?_
      refine AllReadyH.cons (o := { dst := some 50, op := Op.call { callee := Callee.value (Operand.func 13), args := #[Operand.tmp 48, Operand.tmp 49], argTypes := #[24, 25] }, type := 25, pos := "law.go:102", after := #[{ on := 1, ground := Ground.data }, { on := 2, ground := Ground.data }], guard := none }) rfl (fun K hK => ?_) AllReadyH.nil
      go_simp
      go_at_call 13
      refine (HI.out (u8.drew.alloc (.cells #[] 3)) xs b1 d1 (HB0.out.trans (Below.mono (hbz) HB0.out.size)) (HX.out.below (HB0.out.trans (hbz.mono HB0.out.size))) (by omega)).mono ?_
      rintro e u1b ⟨e1b, f1b, rfl, HQ1b, HBw1b, HBV1b⟩
      have HU1b : Hid (Below W0.heap.size W0 u1b) := Below.trans (hbz) (HBV1b.out.mono (Below.size (hbz)))
      go_wp2_with fail
      refine hK.out _ _ ?_ (fun hHeld => ?_)
      · exact HXX.out _ HU1b.out
      clear hK K
      try simp only [Act.put, List.setIfInBounds_toArray, List.set_cons_zero, List.set_cons_succ]
      have hs1b : u8.heap.size + 1 ≤ u1b.heap.size := by have := HBV1b.out.size; omega
      have HD1b : Hid (Below u8.heap.size u8 (u1b)) := (Below.trans (Below.alloc (Below.refl _ u8).drew (Nat.le_refl _) _) (Below.mono HBV1b.out (by rw [hsz]; exact Nat.le_succ _)))
      refine wpAnyH_ready (rs := [4]) (by kernel_rfl) (by simp) ?_
      refine AllReadyH.cons (o := { dst := some 51, op := Op.call { callee := Callee.builtin Builtin.append, args := #[Operand.tmp 47, Operand.tmp 50], argTypes := #[25, 25] }, type := 25, pos := "law.go:102", after := #[{ on := 0, ground := Ground.data }, { on := 3, ground := Ground.data }, { on := 3, ground := Ground.chain }], guard := none }) rfl (fun K hK => ?_) AllReadyH.nil
      refine step_app rfl _ _ rfl rfl u8.heap.size _ [] (idlL l xs) e1b f1b (by rfl) (by rfl) (hz0.keep HBV1b.out) HQ1b.out (by first | omega | (simp <;> omega)) (by simp; omega) ?_
      intro v6b u6b hr6b hg6b
      rw [List.nil_append] at hr6b
      have HU6b : Hid (Below W0.heap.size W0 u6b) := (HU1b.out).grown hg6b (Below.size (HU1b.out)) (fun k e => by cases e; exact HU8.out.size)
      have HD6b : Hid (Below u8.heap.size u8 u6b) := HD1b.out.grown hg6b HD1b.out.size (fun k e => by cases e; first | exact Nat.le_refl _ | exact hs1b)
      have hs6b := HU6b.out.size
      obtain ⟨a6b, c6b, rfl, _⟩ := hr6b.ints HEx2.out.2
      have HR6b := Lib.hid hr6b
      have hu6b := hg6b.size
      clear hr6b hg6b
      refine hK.out _ _ ?_ (fun hHeld => ?_)
      · exact HXX.out _ HU6b.out
      clear hK K
      try simp only [Act.put, List.setIfInBounds_toArray, List.set_cons_zero, List.set_cons_succ]
      refine wpAnyH_ready (rs := [7]) (by kernel_rfl) (by simp) ?_
      refine AllReadyH.cons (o := { dst := some 54, op := Op.call { callee := Callee.value (Operand.func 13), args := #[Operand.tmp 52, Operand.tmp 53], argTypes := #[24, 25] }, type := 25, pos := "law.go:102", after := #[{ on := 5, ground := Ground.data }, { on := 6, ground := Ground.data }, { on := 4, ground := Ground.chain }], guard := none }) rfl (fun K hK => ?_) AllReadyH.nil
      go_simp
      go_at_call 13
      refine (HI.out (u6b) ys b2 d2 (HB0.out.trans (Below.mono (HU6b.out) HB0.out.size)) (HY.out.below (HB0.out.trans (HU6b.out.mono HB0.out.size))) (by omega)).mono ?_
      rintro e u7b ⟨e7b, f7b, rfl, HQ7b, HBw7b, HBV7b⟩
      have HU7b : Hid (Below W0.heap.size W0 u7b) := Below.trans (HU6b.out) (HBV7b.out.mono (Below.size (HU6b.out)))
      go_wp2_with fail
      refine hK.out _ _ ?_ (fun hHeld => ?_)
      · exact HXX.out _ HU7b.out
      clear hK K
      try simp only [Act.put, List.setIfInBounds_toArray, List.set_cons_zero, List.set_cons_succ]
      refine wpAnyH_ready (rs := [8]) (by kernel_rfl) (by simp) ?_
      refine AllReadyH.cons (o := { dst := some 55, op := Op.call { callee := Callee.builtin Builtin.append, args := #[Operand.tmp 51, Operand.tmp 54], argTypes := #[25, 25] }, type := 25, pos := "law.go:102", after := #[{ on := 4, ground := Ground.data }, { on := 7, ground := Ground.data }, { on := 7, ground := Ground.chain }], guard := none }) rfl (fun K hK => ?_) AllReadyH.nil
      refine step_app rfl _ _ rfl rfl u8.heap.size _ (idlL l xs) (idlL l ys) e7b f7b (by rfl) (by rfl) (HR6b.out.keep HBV7b.out) HQ7b.out (by have := HBV7b.out.size; first | omega | (simp at *; omega)) (by omega) ?_
      intro v8b u8b hr8b hg8b
      have HU8b : Hid (Below W0.heap.size W0 u8b) := HU7b.out.grown hg8b HU7b.out.size (fun k e => Nat.le_trans (HU8.out.size) (own_lt (HR6b.out.keep HBV7b.out) e).1)
      rw [HIL.out] at hr8b
      have HBD0b : Hid (Below u8.heap.size u8 u8b) := (HD6b.out.trans (HBV7b.out.mono HD6b.out.size)).grown hg8b (HD6b.out.trans (HBV7b.out.mono HD6b.out.size)).size (fun k e => (own_lt (HR6b.out.keep HBV7b.out) e).1)
      obtain ⟨a8b, c8b, rfl, hi8b⟩ := hr8b.ints HEi.out.2
      have HI8b := Lib.hid hi8b
      clear hr8b hg8b hi8b
      refine hK.out _ _ ?_ (fun hHeld => ?_)
      · exact HXX.out _ HU8b.out
      clear hK K
      try simp only [Act.put, List.setIfInBounds_toArray, List.set_cons_zero, List.set_cons_succ]
      refine wpAnyH_take (i := 9) (oi := { dst := some 9, op := Op.assign (Operand.tmp 55), type := 25, pos := "law.go:102", after := #[{ on := 8, ground := Ground.data }, { on := 8, ground := Ground.chain }, { on := 0, ground := Ground.phase }, { on := 1, ground := Ground.phase }, { on := 2, ground := Ground.phase }, { on := 3, ground := Ground.phase }, { on := 4, ground := Ground.phase }, { on := 5, ground := Ground.phase }, { on := 6, ground := Ground.phase }, { on := 7, ground := Ground.phase }, { on := 8, ground := Ground.phase }], guard := none }) (v := .slice a8b (idlL l Z).length c8b) rfl (by kernel_rfl) (by kernel_rfl) (by kernel_rfl) (fun _ _ _ h => h) (Or.inl ⟨by rfl, ?_⟩) (by assumption) ?_
      · (intro w hSw; (try dsimp only at hSw); go_simp)
      try simp only [Act.put, List.setIfInBounds_toArray, List.set_cons_zero, List.set_cons_succ]
      refine wpAnyH_done (by kernel_rfl) ?_ _
      have HBE : Hid (Below u8.heap.size u8 u8b) := HBD0b.out
      clear hHeld
      have HBx : Hid (Below w.heap.size w u8b) := HB0.out.trans (HU8b.out.mono HB0.out.size)
      have HJ8 : Hid (IntsR u8b (eufL l Z) a8 c8) := HI8.out.below HBE.out
      have HJ5 : Hid (IntsR u8b Z a5 c5) := (HI5.out.below HBD.out).below HBE.out
      obtain ⟨x0, xz⟩ := HXX.out _ HU8b.out
      have hzl := HZl.out
      go_wp2_with fail
      refine (HM.out _ _ _ HBx.out HJ5.out).mono ?_
      rintro e y1 ⟨rfl, HG1, HV1⟩
      clear x0 xz
      have HY1 : Hid (Below W0.heap.size W0 y1) := HU8b.out.trans (HV1.out.mono HU8b.out.size)
      obtain ⟨x0, xz⟩ := HXX.out _ HY1.out
      go_wp2_with fail
      refine (HE.out _ Z _ _ HG1.out (HJ5.out.below HV1.out) hzl).mono ?_
      rintro e y2 ⟨p2, q2, rfl, HQ2, HG2, HV2⟩
      clear x0 xz
      have HY2 : Hid (Below W0.heap.size W0 y2) := HY1.out.trans (HV2.out.mono HY1.out.size)
      obtain ⟨x0, xz⟩ := HXX.out _ HY2.out
      go_wp2_with fail
      refine (Ints_same _ _ _ _ _ _ HQ2.out ((HJ8.out.below HV1.out).below HV2.out)).mono ?_
      rintro e y3 ⟨rfl, hb3⟩
      have HV3 := Lib.hid hb3
      have HG3 := Lib.hid (ball HG2.out hb3)
      clear x0 xz
      have HY3 : Hid (Below W0.heap.size W0 y3) := HY2.out.trans (hb3.mono HY2.out.size)
      clear hb3
      obtain ⟨x0, xz⟩ := HXX.out _ HY3.out
      go_wp2_with fail
      refine (HI.out _ Z _ _ HG3.out (((HJ5.out.below HV1.out).below HV2.out).below HV3.out) hzl).mono ?_
      rintro e y4 ⟨p4, q4, rfl, HQ4, HG4, HV4⟩
      clear x0 xz
      go_wp2_with fail
      refine (Ints_same _ _ _ _ _ _ HQ4.out ((((HI8b.out.below HV1.out).below HV2.out).below HV3.out).below HV4.out)).mono ?_
      rintro e y5 ⟨rfl, hb5⟩
      have HG5 := Lib.hid (ball HG4.out hb5)
      clear hb5
      go_wp2_with fail
      refine (HWk.out _ HG5.out).mono ?_
      rintro e y6 ⟨rfl, hb6⟩
      go_wp2_with fail
      go_ret
      exact ⟨rfl, hb6⟩
    · go_simp
      go_at_call 13
      refine (HI.out (u8.drew) xs b1 d1 (HB0.out.trans (Below.mono (HU8.out.drew) HB0.out.size)) (HX.out.below (HB0.out.trans (HU8.out.drew.mono HB0.out.size))) (by omega)).mono ?_
      rintro e u1b ⟨e1b, f1b, rfl, HQ1b, HBw1b, HBV1b⟩
      have HU1b : Hid (Below W0.heap.size W0 u1b) := Below.trans (HU8.out.drew) (HBV1b.out.mono (Below.size (HU8.out.drew)))
      go_wp2_with fail
      refine hK.out _ _ ?_ (fun hHeld => ?_)
      · exact HXX.out _ HU1b.out
      clear hK K
      try simp only [Act.put, List.setIfInBounds_toArray, List.set_cons_zero, List.set_cons_succ]
      have hs1b : u8.heap.size ≤ u1b.heap.size := HBV1b.out.size
      refine wpAnyH_ready (rs := [0]) (by kernel_rfl) (by simp) ?_
      refine AllReadyH.cons (o := { dst := some 47, op := Op.buildSlice 25 0 #[], type := 25, pos := "law.go:102", after := #[], guard := none }) rfl (fun K hK => ?_) AllReadyH.nil
      go_simp
      have hbz : Below W0.heap.size W0 (u1b.alloc (.cells #[] 3)) := HU1b.out.alloc HU1b.out.size _
      refine hK.out _ _ ?_ (fun hHeld => ?_)
      · exact HXX.out _ hbz
      clear hK K
      try simp only [Act.put, List.setIfInBounds_toArray, List.set_cons_zero, List.set_cons_succ]
      have hqz : IntsR (u1b.alloc (.cells #[] 3)) (idlL l xs) e1b f1b := HQ1b.out.below ((Below.refl _ _).alloc (Nat.le_refl _) _)
      have HD1b : Hid (Below u8.heap.size u8 (u1b.alloc (.cells #[] 3))) := (Below.alloc (Below.trans (Below.refl _ u8).drew HBV1b.out) hs1b _)
      refine wpAnyH_ready (rs := [4]) (by kernel_rfl) (by simp) ?_
      refine AllReadyH.cons (o := { dst := some 51, op := Op.call { callee := Callee.builtin Builtin.append, args := #[Operand.tmp 47, Operand.tmp 50], argTypes := #[25, 25] }, type := 25, pos := "law.go:102", after := #[{ on := 0, ground := Ground.data }, { on := 3, ground := Ground.data }, { on := 3, ground := Ground.chain }], guard := none }) rfl (fun K hK => ?_) AllReadyH.nil
      refine step_app rfl _ _ rfl rfl u8.heap.size _ [] (idlL l xs) e1b f1b (by rfl) (by rfl) ((row_zero u1b).base hs1b) hqz (by first | omega | (simp <;> omega)) (by simp; omega) ?_
      intro v6b u6b hr6b hg6b
      rw [List.nil_append] at hr6b
      have HU6b : Hid (Below W0.heap.size W0 u6b) := (hbz).grown hg6b (Below.size (hbz)) (fun k e => by cases e; exact HU1b.out.size)
      have HD6b : Hid (Below u8.heap.size u8 u6b) := HD1b.out.grown hg6b HD1b.out.size (fun k e => by cases e; first | exact Nat.le_refl _ | exact hs1b)
      have hs6b := HU6b.out.size
      obtain ⟨a6b, c6b, rfl, _⟩ := hr6b.ints HEx2.out.2
      have HR6b := Lib.hid hr6b
      have hu6b := hg6b.size
      clear hr6b hg6b
      refine hK.out _ _ ?_ (fun hHeld => ?_)
      · exact HXX.out _ HU6b.out
      clear hK K
      try simp only [Act.put, List.setIfInBounds_toArray, List.set_cons_zero, List.set_cons_succ]
      refine wpAnyH_ready (rs := [7]) (by kernel_rfl) (by simp) ?_
      refine AllReadyH.cons (o := { dst := some 54, op := Op.call { callee := Callee.value (Operand.func 13), args := #[Operand.tmp 52, Operand.tmp 53], argTypes := #[24, 25] }, type := 25, pos := "law.go:102", after := #[{ on := 5, ground := Ground.data }, { on := 6, ground := Ground.data }, { on := 4, ground := Ground.chain }], guard := none }) rfl (fun K hK => ?_) AllReadyH.nil
      go_simp
      go_at_call 13
      refine (HI.out (u6b) ys b2 d2 (HB0.out.trans (Below.mono (HU6b.out) HB0.out.size)) (HY.out.below (HB0.out.trans (HU6b.out.mono HB0.out.size))) (by omega)).mono ?_
      rintro e u7b ⟨e7b, f7b, rfl, HQ7b, HBw7b, HBV7b⟩
      have HU7b : Hid (Below W0.heap.size W0 u7b) := Below.trans (HU6b.out) (HBV7b.out.mono (Below.size (HU6b.out)))
      go_wp2_with fail
      refine hK.out _ _ ?_ (fun hHeld => ?_)
      · exact HXX.out _ HU7b.out
      clear hK K
      try simp only [Act.put, List.setIfInBounds_toArray, List.set_cons_zero, List.set_cons_succ]
      refine wpAnyH_ready (rs := [8]) (by kernel_rfl) (by simp) ?_
      refine AllReadyH.cons (o := { dst := some 55, op := Op.call { callee := Callee.builtin Builtin.append, args := #[Operand.tmp 51, Operand.tmp 54], argTypes := #[25, 25] }, type := 25, pos := "law.go:102", after := #[{ on := 4, ground := Ground.data }, { on := 7, ground := Ground.data }, { on := 7, ground := Ground.chain }], guard := none }) rfl (fun K hK => ?_) AllReadyH.nil
      refine step_app rfl _ _ rfl rfl u8.heap.size _ (idlL l xs) (idlL l ys) e7b f7b (by rfl) (by rfl) (HR6b.out.keep HBV7b.out) HQ7b.out (by have := HBV7b.out.size; first | omega | (simp at *; omega)) (by omega) ?_
      intro v8b u8b hr8b hg8b
      have HU8b : Hid (Below W0.heap.size W0 u8b) := HU7b.out.grown hg8b HU7b.out.size (fun k e => Nat.le_trans (HU8.out.size) (own_lt (HR6b.out.keep HBV7b.out) e).1)
      rw [HIL.out] at hr8b
      have HBD0b : Hid (Below u8.heap.size u8 u8b) := (HD6b.out.trans (HBV7b.out.mono HD6b.out.size)).grown hg8b (HD6b.out.trans (HBV7b.out.mono HD6b.out.size)).size (fun k e => (own_lt (HR6b.out.keep HBV7b.out) e).1)
      obtain ⟨a8b, c8b, rfl, hi8b⟩ := hr8b.ints HEi.out.2
      have HI8b := Lib.hid hi8b
      clear hr8b hg8b hi8b
      refine hK.out _ _ ?_ (fun hHeld => ?_)
      · exact HXX.out _ HU8b.out
      clear hK K
      try simp only [Act.put, List.setIfInBounds_toArray, List.set_cons_zero, List.set_cons_succ]
      refine wpAnyH_take (i := 9) (oi := { dst := some 9, op := Op.assign (Operand.tmp 55), type := 25, pos := "law.go:102", after := #[{ on := 8, ground := Ground.data }, { on := 8, ground := Ground.chain }, { on := 0, ground := Ground.phase }, { on := 1, ground := Ground.phase }, { on := 2, ground := Ground.phase }, { on := 3, ground := Ground.phase }, { on := 4, ground := Ground.phase }, { on := 5, ground := Ground.phase }, { on := 6, ground := Ground.phase }, { on := 7, ground := Ground.phase }, { on := 8, ground := Ground.phase }], guard := none }) (v := .slice a8b (idlL l Z).length c8b) rfl (by kernel_rfl) (by kernel_rfl) (by kernel_rfl) (fun _ _ _ h => h) (Or.inl ⟨by rfl, ?_⟩) (by assumption) ?_
      · (intro w hSw; (try dsimp only at hSw); go_simp)
      try simp only [Act.put, List.setIfInBounds_toArray, List.set_cons_zero, List.set_cons_succ]
      refine wpAnyH_done (by kernel_rfl) ?_ _
      have HBE : Hid (Below u8.heap.size u8 u8b) := HBD0b.out
      clear hHeld
      have HBx : Hid (Below w.heap.size w u8b) := HB0.out.trans (HU8b.out.mono HB0.out.size)
      have HJ8 : Hid (IntsR u8b (eufL l Z) a8 c8) := HI8.out.below HBE.out
      have HJ5 : Hid (IntsR u8b Z a5 c5) := (HI5.out.below HBD.out).below HBE.out
      obtain ⟨x0, xz⟩ := HXX.out _ HU8b.out
      have hzl := HZl.out
      go_wp2_with fail
      refine (HM.out _ _ _ HBx.out HJ5.out).mono ?_
      rintro e y1 ⟨rfl, HG1, HV1⟩
      clear x0 xz
      have HY1 : Hid (Below W0.heap.size W0 y1) := HU8b.out.trans (HV1.out.mono HU8b.out.size)
      obtain ⟨x0, xz⟩ := HXX.out _ HY1.out
      go_wp2_with fail
      refine (HE.out _ Z _ _ HG1.out (HJ5.out.below HV1.out) hzl).mono ?_
      rintro e y2 ⟨p2, q2, rfl, HQ2, HG2, HV2⟩
      clear x0 xz
      have HY2 : Hid (Below W0.heap.size W0 y2) := HY1.out.trans (HV2.out.mono HY1.out.size)
      obtain ⟨x0, xz⟩ := HXX.out _ HY2.out
      go_wp2_with fail
      refine (Ints_same _ _ _ _ _ _ HQ2.out ((HJ8.out.below HV1.out).below HV2.out)).mono ?_
      rintro e y3 ⟨rfl, hb3⟩
      have HV3 := Lib.hid hb3
      have HG3 := Lib.hid (ball HG2.out hb3)
      clear x0 xz
      have HY3 : Hid (Below W0.heap.size W0 y3) := HY2.out.trans (hb3.mono HY2.out.size)
      clear hb3
      obtain ⟨x0, xz⟩ := HXX.out _ HY3.out
      go_wp2_with fail
      refine (HI.out _ Z _ _ HG3.out (((HJ5.out.below HV1.out).below HV2.out).below HV3.out) hzl).mono ?_
      rintro e y4 ⟨p4, q4, rfl, HQ4, HG4, HV4⟩
      clear x0 xz
      go_wp2_with fail
      refine (Ints_same _ _ _ _ _ _ HQ4.out ((((HI8b.out.below HV1.out).below HV2.out).below HV3.out).below HV4.out)).mono ?_
      rintro e y5 ⟨rfl, hb5⟩
      have HG5 := Lib.hid (ball HG4.out hb5)
      clear hb5
      go_wp2_with fail
      refine (HWk.out _ HG5.out).mono ?_
      rintro e y6 ⟨rfl, hb6⟩
      go_wp2_with fail
      go_ret
      exact ⟨rfl, hb6⟩
  · go_simp
    go_at_call 12
    refine (HE.out (w5.drew) xs b1 d1 (HB0.out.trans (Below.mono (HB5.out.drew) HB0.out.size)) (HX.out.below (HB0.out.trans (HB5.out.drew.mono HB0.out.size))) (by omega)).mono ?_
    rintro e u1 ⟨e1, f1, rfl, HQ1, HBw1, HBV1⟩
    have HU1 : Hid (Below W0.heap.size W0 u1) := Below.trans (HB5.out.drew) (HBV1.out.mono (Below.size (HB5.out.drew)))
    go_wp2_with fail
    refine hK.out _ _ ?_ (fun hHeld => ?_)
    · exact HXX.out _ HU1.out
    clear hK K
    try simp only [Act.put, List.setIfInBounds_toArray, List.set_cons_zero, List.set_cons_succ]
    have hs1 : w5.heap.size ≤ u1.heap.size := HBV1.out.size
    refine wpAnyH_ready (rs := [0]) (by kernel_rfl) (by simp) ?_
    refine AllReadyH.cons (o := { dst := some 38, op := Op.buildSlice 25 0 #[], type := 25, pos := "law.go:101", after := #[], guard := none }) rfl (fun K hK => ?_) AllReadyH.nil
    go_simp
    have hbz : Below W0.heap.size W0 (u1.alloc (.cells #[] 3)) := HU1.out.alloc HU1.out.size _
    refine hK.out _ _ ?_ (fun hHeld => ?_)
    · exact HXX.out _ hbz
    clear hK K
    try simp only [Act.put, List.setIfInBounds_toArray, List.set_cons_zero, List.set_cons_succ]
    have hqz : IntsR (u1.alloc (.cells #[] 3)) (eufL l xs) e1 f1 := HQ1.out.below ((Below.refl _ _).alloc (Nat.le_refl _) _)
    have HD1 : Hid (Below w5.heap.size w5 (u1.alloc (.cells #[] 3))) := (Below.alloc (Below.trans (Below.refl _ w5).drew HBV1.out) hs1 _)
    refine wpAnyH_ready (rs := [4]) (by kernel_rfl) (by simp) ?_
    refine AllReadyH.cons (o := { dst := some 42, op := Op.call { callee := Callee.builtin Builtin.append, args := #[Operand.tmp 38, Operand.tmp 41], argTypes := #[25, 25] }, type := 25, pos := "law.go:101", after := #[{ on := 0, ground := Ground.data }, { on := 3, ground := Ground.data }, { on := 3, ground := Ground.chain }], guard := none }) rfl (fun K hK => ?_) AllReadyH.nil
    refine step_app rfl _ _ rfl rfl w5.heap.size _ [] (eufL l xs) e1 f1 (by rfl) (by rfl) ((row_zero u1).base hs1) hqz (by first | omega | (simp <;> omega)) (by simp; omega) ?_
    intro v6 u6 hr6 hg6
    rw [List.nil_append] at hr6
    have HU6 : Hid (Below W0.heap.size W0 u6) := (hbz).grown hg6 (Below.size (hbz)) (fun k e => by cases e; exact HU1.out.size)
    have HD6 : Hid (Below w5.heap.size w5 u6) := HD1.out.grown hg6 HD1.out.size (fun k e => by cases e; first | exact Nat.le_refl _ | exact hs1)
    have hs6 := HU6.out.size
    obtain ⟨a6, c6, rfl, _⟩ := hr6.ints HEx2.out.1
    have HR6 := Lib.hid hr6
    have hu6 := hg6.size
    clear hr6 hg6
    refine hK.out _ _ ?_ (fun hHeld => ?_)
    · exact HXX.out _ HU6.out
    clear hK K
    try simp only [Act.put, List.setIfInBounds_toArray, List.set_cons_zero, List.set_cons_succ]
    refine wpAnyH_ready (rs := [7]) (by kernel_rfl) (by simp) ?_
    refine AllReadyH.cons (o := { dst := some 45, op := Op.call { callee := Callee.value (Operand.func 12), args := #[Operand.tmp 43, Operand.tmp 44], argTypes := #[24, 25] }, type := 25, pos := "law.go:101", after := #[{ on := 5, ground := Ground.data }, { on := 6, ground := Ground.data }, { on := 4, ground := Ground.chain }], guard := none }) rfl (fun K hK => ?_) AllReadyH.nil
    go_simp
    go_at_call 12
    refine (HE.out (u6) ys b2 d2 (HB0.out.trans (Below.mono (HU6.out) HB0.out.size)) (HY.out.below (HB0.out.trans (HU6.out.mono HB0.out.size))) (by omega)).mono ?_
    rintro e u7 ⟨e7, f7, rfl, HQ7, HBw7, HBV7⟩
    have HU7 : Hid (Below W0.heap.size W0 u7) := Below.trans (HU6.out) (HBV7.out.mono (Below.size (HU6.out)))
    go_wp2_with fail
    refine hK.out _ _ ?_ (fun hHeld => ?_)
    · exact HXX.out _ HU7.out
    clear hK K
    try simp only [Act.put, List.setIfInBounds_toArray, List.set_cons_zero, List.set_cons_succ]
    refine wpAnyH_ready (rs := [8]) (by kernel_rfl) (by simp) ?_
    refine AllReadyH.cons (o := { dst := some 46, op := Op.call { callee := Callee.builtin Builtin.append, args := #[Operand.tmp 42, Operand.tmp 45], argTypes := #[25, 25] }, type := 25, pos := "law.go:101", after := #[{ on := 4, ground := Ground.data }, { on := 7, ground := Ground.data }, { on := 7, ground := Ground.chain }], guard := none }) rfl (fun K hK => ?_) AllReadyH.nil
    refine step_app rfl _ _ rfl rfl w5.heap.size _ (eufL l xs) (eufL l ys) e7 f7 (by rfl) (by rfl) (HR6.out.keep HBV7.out) HQ7.out (by have := HBV7.out.size; first | omega | (simp at *; omega)) (by omega) ?_
    intro v8 u8 hr8 hg8
    have HU8 : Hid (Below W0.heap.size W0 u8) := HU7.out.grown hg8 HU7.out.size (fun k e => Nat.le_trans (HB5.out.size) (own_lt (HR6.out.keep HBV7.out) e).1)
    rw [HEL.out] at hr8
    have HBD0 : Hid (Below w5.heap.size w5 u8) := (HD6.out.trans (HBV7.out.mono HD6.out.size)).grown hg8 (HD6.out.trans (HBV7.out.mono HD6.out.size)).size (fun k e => (own_lt (HR6.out.keep HBV7.out) e).1)
    obtain ⟨a8, c8, rfl, hi8⟩ := hr8.ints HEi.out.1
    have HI8 := Lib.hid hi8
    clear hr8 hg8 hi8
    refine hK.out _ _ ?_ (fun hHeld => ?_)
    · exact HXX.out _ HU8.out
    clear hK K
    try simp only [Act.put, List.setIfInBounds_toArray, List.set_cons_zero, List.set_cons_succ]
    refine wpAnyH_take (i := 9) (oi := { dst := some 8, op := Op.assign (Operand.tmp 46), type := 25, pos := "law.go:101", after := #[{ on := 8, ground := Ground.data }, { on := 8, ground := Ground.chain }, { on := 0, ground := Ground.phase }, { on := 1, ground := Ground.phase }, { on := 2, ground := Ground.phase }, { on := 3, ground := Ground.phase }, { on := 4, ground := Ground.phase }, { on := 5, ground := Ground.phase }, { on := 6, ground := Ground.phase }, { on := 7, ground := Ground.phase }, { on := 8, ground := Ground.phase }], guard := none }) (v := .slice a8 (eufL l Z).length c8) rfl (by kernel_rfl) (by kernel_rfl) (by kernel_rfl) (fun _ _ _ h => h) (Or.inl ⟨by rfl, ?_⟩) (by assumption) ?_
    · (intro w hSw; (try dsimp only at hSw); go_simp)
    try simp only [Act.put, List.setIfInBounds_toArray, List.set_cons_zero, List.set_cons_succ]
    refine wpAnyH_done (by kernel_rfl) ?_ _
    clear hHeld
    have HBD : Hid (Below w5.heap.size w5 u8) := HBD0.out
    go_wp2_with fail
    refine wp_region_held_drew (S := fun V => V.cell? ⟨w.heap.size, 0, none⟩ = some (.slice a l.length c) ∧ w.heap.size < V.heap.size) (by kernel_rfl) (HXX.out _ HU8.out.drew) (fun hHeld => ?_)
    refine wpAnyH_take (i := 1) (oi := { dst := some 48, op := Op.load 24 (Operand.tmp 3), type := 24, pos := "law.go:102", after := #[], guard := none }) (v := .agg #[.slice a l.length c]) rfl (by kernel_rfl) (by kernel_rfl) (by kernel_rfl) (fun _ _ _ h => h) (Or.inl ⟨by rfl, ?_⟩) (by assumption) ?_
    · (intro w hSw; (try dsimp only at hSw); go_simp)
    try simp only [Act.put, List.setIfInBounds_toArray, List.set_cons_zero, List.set_cons_succ]
    refine wpAnyH_take (i := 2) (oi := { dst := some 49, op := Op.move (Operand.tmp 1), type := 25, pos := "law.go:102", after := #[], guard := none }) (v := .slice b1 xs.length d1) rfl (by kernel_rfl) (by kernel_rfl) (by kernel_rfl) (fun _ _ _ h => h) (Or.inl ⟨by rfl, ?_⟩) (by assumption) ?_
    · (intro w hSw; (try dsimp only at hSw); go_simp)
    try simp only [Act.put, List.setIfInBounds_toArray, List.set_cons_zero, List.set_cons_succ]
    refine wpAnyH_take (i := 5) (oi := { dst := some 52, op := Op.load 24 (Operand.tmp 3), type := 24, pos := "law.go:102", after := #[], guard := none }) (v := .agg #[.slice a l.length c]) rfl (by kernel_rfl) (by kernel_rfl) (by kernel_rfl) (fun _ _ _ h => h) (Or.inl ⟨by rfl, ?_⟩) (by assumption) ?_
    · (intro w hSw; (try dsimp only at hSw); go_simp)
    try simp only [Act.put, List.setIfInBounds_toArray, List.set_cons_zero, List.set_cons_succ]
    refine wpAnyH_take (i := 6) (oi := { dst := some 53, op := Op.move (Operand.tmp 2), type := 25, pos := "law.go:102", after := #[], guard := none }) (v := .slice b2 ys.length d2) rfl (by kernel_rfl) (by kernel_rfl) (by kernel_rfl) (fun _ _ _ h => h) (Or.inl ⟨by rfl, ?_⟩) (by assumption) ?_
    · (intro w hSw; (try dsimp only at hSw); go_simp)
    try simp only [Act.put, List.setIfInBounds_toArray, List.set_cons_zero, List.set_cons_succ]
    refine wpAnyH_ready (rs := [0, 3]) (by kernel_rfl) (by simp) ?_
    refine AllReadyH.cons (o := { dst := some 47, op := Op.buildSlice 25 0 #[], type := 25, pos := "law.go:102", after := #[], guard := none }) rfl (fun K hK => ?_) (AllReadyH.cons (o := { dst := some 50, op := Op.call { callee := Callee.value (Operand.func 13), args := #[Operand.tmp 48, Operand.tmp 49], argTypes := #[24, 25] }, type := 25, pos := "law.go:102", after := #[{ on := 1, ground := Ground.data }, { on := 2, ground := Ground.data }], guard := none }) rfl (fun K hK => ?_) AllReadyH.nil)
    · go_simp
      have hbz : Below W0.heap.size W0 (u8.drew.alloc (.cells #[] 3)) := HU8.out.drew.alloc HU8.out.size _
      refine hK.out _ _ ?_ (fun hHeld => ?_)
      · exact HXX.out _ hbz
      clear hK K
      try simp only [Act.put, List.setIfInBounds_toArray, List.set_cons_zero, List.set_cons_succ]
      have hz0 := row_zero u8.drew
      have hsz : (u8.drew.alloc (.cells #[] 3)).heap.size = u8.heap.size + 1 := by rw [World.size_alloc]; rfl
      refine wpAnyH_ready (rs := [3]) (by kernel_rfl) (by simp) ?_
      refine AllReadyH.cons (o := { dst := some 50, op := Op.call { callee := Callee.value (Operand.func 13), args := #[Operand.tmp 48, Operand.tmp 49], argTypes := #[24, 25] }, type := 25, pos := "law.go:102", after := #[{ on := 1, ground := Ground.data }, { on := 2, ground := Ground.data }], guard := none }) rfl (fun K hK => ?_) AllReadyH.nil
      go_simp
      go_at_call 13
      refine (HI.out (u8.drew.alloc (.cells #[] 3)) xs b1 d1 (HB0.out.trans (Below.mono (hbz) HB0.out.size)) (HX.out.below (HB0.out.trans (hbz.mono HB0.out.size))) (by omega)).mono ?_
      rintro e u1b ⟨e1b, f1b, rfl, HQ1b, HBw1b, HBV1b⟩
      have HU1b : Hid (Below W0.heap.size W0 u1b) := Below.trans (hbz) (HBV1b.out.mono (Below.size (hbz)))
      go_wp2_with fail
      refine hK.out _ _ ?_ (fun hHeld => ?_)
      · exact HXX.out _ HU1b.out
      clear hK K
      try simp only [Act.put, List.setIfInBounds_toArray, List.set_cons_zero, List.set_cons_succ]
      have hs1b : u8.heap.size + 1 ≤ u1b.heap.size := by have := HBV1b.out.size; omega
      have HD1b : Hid (Below u8.heap.size u8 (u1b)) := (Below.trans (Below.alloc (Below.refl _ u8).drew (Nat.le_refl _) _) (Below.mono HBV1b.out (by rw [hsz]; exact Nat.le_succ _)))
      refine wpAnyH_ready (rs := [4]) (by kernel_rfl) (by simp) ?_
      refine AllReadyH.cons (o := { dst := some 51, op := Op.call { callee := Callee.builtin Builtin.append, args := #[Operand.tmp 47, Operand.tmp 50], argTypes := #[25, 25] }, type := 25, pos := "law.go:102", after := #[{ on := 0, ground := Ground.data }, { on := 3, ground := Ground.data }, { on := 3, ground := Ground.chain }], guard := none }) rfl (fun K hK => ?_) AllReadyH.nil
      refine step_app rfl _ _ rfl rfl u8.heap.size _ [] (idlL l xs) e1b f1b (by rfl) (by rfl) (hz0.keep HBV1b.out) HQ1b.out (by first | omega | (simp <;> omega)) (by simp; omega) ?_
      intro v6b u6b hr6b hg6b
      rw [List.nil_append] at hr6b
      have HU6b : Hid (Below W0.heap.size W0 u6b) := (HU1b.out).grown hg6b (Below.size (HU1b.out)) (fun k e => by cases e; exact HU8.out.size)
      have HD6b : Hid (Below u8.heap.size u8 u6b) := HD1b.out.grown hg6b HD1b.out.size (fun k e => by cases e; first | exact Nat.le_refl _ | exact hs1b)
      have hs6b := HU6b.out.size
      obtain ⟨a6b, c6b, rfl, _⟩ := hr6b.ints HEx2.out.2
      have HR6b := Lib.hid hr6b
      have hu6b := hg6b.size
      clear hr6b hg6b
      refine hK.out _ _ ?_ (fun hHeld => ?_)
      · exact HXX.out _ HU6b.out
      clear hK K
      try simp only [Act.put, List.setIfInBounds_toArray, List.set_cons_zero, List.set_cons_succ]
      refine wpAnyH_ready (rs := [7]) (by kernel_rfl) (by simp) ?_
      refine AllReadyH.cons (o := { dst := some 54, op := Op.call { callee := Callee.value (Operand.func 13), args := #[Operand.tmp 52, Operand.tmp 53], argTypes := #[24, 25] }, type := 25, pos := "law.go:102", after := #[{ on := 5, ground := Ground.data }, { on := 6, ground := Ground.data }, { on := 4, ground := Ground.chain }], guard := none }) rfl (fun K hK => ?_) AllReadyH.nil
      go_simp
      go_at_call 13
      refine (HI.out (u6b) ys b2 d2 (HB0.out.trans (Below.mono (HU6b.out) HB0.out.size)) (HY.out.below (HB0.out.trans (HU6b.out.mono HB0.out.size))) (by omega)).mono ?_
      rintro e u7b ⟨e7b, f7b, rfl, HQ7b, HBw7b, HBV7b⟩
      have HU7b : Hid (Below W0.heap.size W0 u7b) := Below.trans (HU6b.out) (HBV7b.out.mono (Below.size (HU6b.out)))
      go_wp2_with fail
      refine hK.out _ _ ?_ (fun hHeld => ?_)
      · exact HXX.out _ HU7b.out
      clear hK K
      try simp only [Act.put, List.setIfInBounds_toArray, List.set_cons_zero, List.set_cons_succ]
      refine wpAnyH_ready (rs := [8]) (by kernel_rfl) (by simp) ?_
      refine AllReadyH.cons (o := { dst := some 55, op := Op.call { callee := Callee.builtin Builtin.append, args := #[Operand.tmp 51, Operand.tmp 54], argTypes := #[25, 25] }, type := 25, pos := "law.go:102", after := #[{ on := 4, ground := Ground.data }, { on := 7, ground := Ground.data }, { on := 7, ground := Ground.chain }], guard := none }) rfl (fun K hK => ?_) AllReadyH.nil
      refine step_app rfl _ _ rfl rfl u8.heap.size _ (idlL l xs) (idlL l ys) e7b f7b (by rfl) (by rfl) (HR6b.out.keep HBV7b.out) HQ7b.out (by have := HBV7b.out.size; first | omega | (simp at *; omega)) (by omega) ?_
      intro v8b u8b hr8b hg8b
      have HU8b : Hid (Below W0.heap.size W0 u8b) := HU7b.out.grown hg8b HU7b.out.size (fun k e => Nat.le_trans (HU8.out.size) (own_lt (HR6b.out.keep HBV7b.out) e).1)
      rw [HIL.out] at hr8b
      have HBD0b : Hid (Below u8.heap.size u8 u8b) := (HD6b.out.trans (HBV7b.out.mono HD6b.out.size)).grown hg8b (HD6b.out.trans (HBV7b.out.mono HD6b.out.size)).size (fun k e => (own_lt (HR6b.out.keep HBV7b.out) e).1)
      obtain ⟨a8b, c8b, rfl, hi8b⟩ := hr8b.ints HEi.out.2
      have HI8b := Lib.hid hi8b
      clear hr8b hg8b hi8b
      refine hK.out _ _ ?_ (fun hHeld => ?_)
      · exact HXX.out _ HU8b.out
      clear hK K
      try simp only [Act.put, List.setIfInBounds_toArray, List.set_cons_zero, List.set_cons_succ]
      refine wpAnyH_take (i := 9) (oi := { dst := some 9, op := Op.assign (Operand.tmp 55), type := 25, pos := "law.go:102", after := #[{ on := 8, ground := Ground.data }, { on := 8, ground := Ground.chain }, { on := 0, ground := Ground.phase }, { on := 1, ground := Ground.phase }, { on := 2, ground := Ground.phase }, { on := 3, ground := Ground.phase }, { on := 4, ground := Ground.phase }, { on := 5, ground := Ground.phase }, { on := 6, ground := Ground.phase }, { on := 7, ground := Ground.phase }, { on := 8, ground := Ground.phase }], guard := none }) (v := .slice a8b (idlL l Z).length c8b) rfl (by kernel_rfl) (by kernel_rfl) (by kernel_rfl) (fun _ _ _ h => h) (Or.inl ⟨by rfl, ?_⟩) (by assumption) ?_
      · (intro w hSw; (try dsimp only at hSw); go_simp)
      try simp only [Act.put, List.setIfInBounds_toArray, List.set_cons_zero, List.set_cons_succ]
      refine wpAnyH_done (by kernel_rfl) ?_ _
      have HBE : Hid (Below u8.heap.size u8 u8b) := HBD0b.out
      clear hHeld
      have HBx : Hid (Below w.heap.size w u8b) := HB0.out.trans (HU8b.out.mono HB0.out.size)
      have HJ8 : Hid (IntsR u8b (eufL l Z) a8 c8) := HI8.out.below HBE.out
      have HJ5 : Hid (IntsR u8b Z a5 c5) := (HI5.out.below HBD.out).below HBE.out
      obtain ⟨x0, xz⟩ := HXX.out _ HU8b.out
      have hzl := HZl.out
      go_wp2_with fail
      refine (HM.out _ _ _ HBx.out HJ5.out).mono ?_
      rintro e y1 ⟨rfl, HG1, HV1⟩
      clear x0 xz
      have HY1 : Hid (Below W0.heap.size W0 y1) := HU8b.out.trans (HV1.out.mono HU8b.out.size)
      obtain ⟨x0, xz⟩ := HXX.out _ HY1.out
      go_wp2_with fail
      refine (HE.out _ Z _ _ HG1.out (HJ5.out.below HV1.out) hzl).mono ?_
      rintro e y2 ⟨p2, q2, rfl, HQ2, HG2, HV2⟩
      clear x0 xz
      have HY2 : Hid (Below W0.heap.size W0 y2) := HY1.out.trans (HV2.out.mono HY1.out.size)
      obtain ⟨x0, xz⟩ := HXX.out _ HY2.out
      go_wp2_with fail
      refine (Ints_same _ _ _ _ _ _ HQ2.out ((HJ8.out.below HV1.out).below HV2.out)).mono ?_
      rintro e y3 ⟨rfl, hb3⟩
      have HV3 := Lib.hid hb3
      have HG3 := Lib.hid (ball HG2.out hb3)
      clear x0 xz
      have HY3 : Hid (Below W0.heap.size W0 y3) := HY2.out.trans (hb3.mono HY2.out.size)
      clear hb3
      obtain ⟨x0, xz⟩ := HXX.out _ HY3.out
      go_wp2_with fail
      refine (HI.out _ Z _ _ HG3.out (((HJ5.out.below HV1.out).below HV2.out).below HV3.out) hzl).mono ?_
      rintro e y4 ⟨p4, q4, rfl, HQ4, HG4, HV4⟩
      clear x0 xz
      go_wp2_with fail
      refine (Ints_same _ _ _ _ _ _ HQ4.out ((((HI8b.out.below HV1.out).below HV2.out).below HV3.out).below HV4.out)).mono ?_
      rintro e y5 ⟨rfl, hb5⟩
      have HG5 := Lib.hid (ball HG4.out hb5)
      clear hb5
      go_wp2_with fail
      refine (HWk.out _ HG5.out).mono ?_
      rintro e y6 ⟨rfl, hb6⟩
      go_wp2_with fail
      go_ret
      exact ⟨rfl, hb6⟩
    · go_simp
      go_at_call 13
      refine (HI.out (u8.drew) xs b1 d1 (HB0.out.trans (Below.mono (HU8.out.drew) HB0.out.size)) (HX.out.below (HB0.out.trans (HU8.out.drew.mono HB0.out.size))) (by omega)).mono ?_
      rintro e u1b ⟨e1b, f1b, rfl, HQ1b, HBw1b, HBV1b⟩
      have HU1b : Hid (Below W0.heap.size W0 u1b) := Below.trans (HU8.out.drew) (HBV1b.out.mono (Below.size (HU8.out.drew)))
      go_wp2_with fail
      refine hK.out _ _ ?_ (fun hHeld => ?_)
      · exact HXX.out _ HU1b.out
      clear hK K
      try simp only [Act.put, List.setIfInBounds_toArray, List.set_cons_zero, List.set_cons_succ]
      have hs1b : u8.heap.size ≤ u1b.heap.size := HBV1b.out.size
      refine wpAnyH_ready (rs := [0]) (by kernel_rfl) (by simp) ?_
      refine AllReadyH.cons (o := { dst := some 47, op := Op.buildSlice 25 0 #[], type := 25, pos := "law.go:102", after := #[], guard := none }) rfl (fun K hK => ?_) AllReadyH.nil
      go_simp
      have hbz : Below W0.heap.size W0 (u1b.alloc (.cells #[] 3)) := HU1b.out.alloc HU1b.out.size _
      refine hK.out _ _ ?_ (fun hHeld => ?_)
      · exact HXX.out _ hbz
      clear hK K
      try simp only [Act.put, List.setIfInBounds_toArray, List.set_cons_zero, List.set_cons_succ]
      have hqz : IntsR (u1b.alloc (.cells #[] 3)) (idlL l xs) e1b f1b := HQ1b.out.below ((Below.refl _ _).alloc (Nat.le_refl _) _)
      have HD1b : Hid (Below u8.heap.size u8 (u1b.alloc (.cells #[] 3))) := (Below.alloc (Below.trans (Below.refl _ u8).drew HBV1b.out) hs1b _)
      refine wpAnyH_ready (rs := [4]) (by kernel_rfl) (by simp) ?_
      refine AllReadyH.cons (o := { dst := some 51, op := Op.call { callee := Callee.builtin Builtin.append, args := #[Operand.tmp 47, Operand.tmp 50], argTypes := #[25, 25] }, type := 25, pos := "law.go:102", after := #[{ on := 0, ground := Ground.data }, { on := 3, ground := Ground.data }, { on := 3, ground := Ground.chain }], guard := none }) rfl (fun K hK => ?_) AllReadyH.nil
      refine step_app rfl _ _ rfl rfl u8.heap.size _ [] (idlL l xs) e1b f1b (by rfl) (by rfl) ((row_zero u1b).base hs1b) hqz (by first | omega | (simp <;> omega)) (by simp; omega) ?_
      intro v6b u6b hr6b hg6b
      rw [List.nil_append] at hr6b
      have HU6b : Hid (Below W0.heap.size W0 u6b) := (hbz).grown hg6b (Below.size (hbz)) (fun k e => by cases e; exact HU1b.out.size)
      have HD6b : Hid (Below u8.heap.size u8 u6b) := HD1b.out.grown hg6b HD1b.out.size (fun k e => by cases e; first | exact Nat.le_refl _ | exact hs1b)
      have hs6b := HU6b.out.size
      obtain ⟨a6b, c6b, rfl, _⟩ := hr6b.ints HEx2.out.2
      have HR6b := Lib.hid hr6b
      have hu6b := hg6b.size
      clear hr6b hg6b
      refine hK.out _ _ ?_ (fun hHeld => ?_)
      · exact HXX.out _ HU6b.out
      clear hK K
      try simp only [Act.put, List.setIfInBounds_toArray, List.set_cons_zero, List.set_cons_succ]
      refine wpAnyH_ready (rs := [7]) (by kernel_rfl) (by simp) ?_
      refine AllReadyH.cons (o := { dst := some 54, op := Op.call { callee := Callee.value (Operand.func 13), args := #[Operand.tmp 52, Operand.tmp 53], argTypes := #[24, 25] }, type := 25, pos := "law.go:102", after := #[{ on := 5, ground := Ground.data }, { on := 6, ground := Ground.data }, { on := 4, ground := Ground.chain }], guard := none }) rfl (fun K hK => ?_) AllReadyH.nil
      go_simp
      go_at_call 13
      refine (HI.out (u6b) ys b2 d2 (HB0.out.trans (Below.mono (HU6b.out) HB0.out.size)) (HY.out.below (HB0.out.trans (HU6b.out.mono HB0.out.size))) (by omega)).mono ?_
      rintro e u7b ⟨e7b, f7b, rfl, HQ7b, HBw7b, HBV7b⟩
      have HU7b : Hid (Below W0.heap.size W0 u7b) := Below.trans (HU6b.out) (HBV7b.out.mono (Below.size (HU6b.out)))
      go_wp2_with fail
      refine hK.out _ _ ?_ (fun hHeld => ?_)
      · exact HXX.out _ HU7b.out
      clear hK K
      try simp only [Act.put, List.setIfInBounds_toArray, List.set_cons_zero, List.set_cons_succ]
      refine wpAnyH_ready (rs := [8]) (by kernel_rfl) (by simp) ?_
      refine AllReadyH.cons (o := { dst := some 55, op := Op.call { callee := Callee.builtin Builtin.append, args := #[Operand.tmp 51, Operand.tmp 54], argTypes := #[25, 25] }, type := 25, pos := "law.go:102", after := #[{ on := 4, ground := Ground.data }, { on := 7, ground := Ground.data }, { on := 7, ground := Ground.chain }], guard := none }) rfl (fun K hK => ?_) AllReadyH.nil
      refine step_app rfl _ _ rfl rfl u8.heap.size _ (idlL l xs) (idlL l ys) e7b f7b (by rfl) (by rfl) (HR6b.out.keep HBV7b.out) HQ7b.out (by have := HBV7b.out.size; first | omega | (simp at *; omega)) (by omega) ?_
      intro v8b u8b hr8b hg8b
      have HU8b : Hid (Below W0.heap.size W0 u8b) := HU7b.out.grown hg8b HU7b.out.size (fun k e => Nat.le_trans (HU8.out.size) (own_lt (HR6b.out.keep HBV7b.out) e).1)
      rw [HIL.out] at hr8b
      have HBD0b : Hid (Below u8.heap.size u8 u8b) := (HD6b.out.trans (HBV7b.out.mono HD6b.out.size)).grown hg8b (HD6b.out.trans (HBV7b.out.mono HD6b.out.size)).size (fun k e => (own_lt (HR6b.out.keep HBV7b.out) e).1)
      obtain ⟨a8b, c8b, rfl, hi8b⟩ := hr8b.ints HEi.out.2
      have HI8b := Lib.hid hi8b
      clear hr8b hg8b hi8b
      refine hK.out _ _ ?_ (fun hHeld => ?_)
      · exact HXX.out _ HU8b.out
      clear hK K
      try simp only [Act.put, List.setIfInBounds_toArray, List.set_cons_zero, List.set_cons_succ]
      refine wpAnyH_take (i := 9) (oi := { dst := some 9, op := Op.assign (Operand.tmp 55), type := 25, pos := "law.go:102", after := #[{ on := 8, ground := Ground.data }, { on := 8, ground := Ground.chain }, { on := 0, ground := Ground.phase }, { on := 1, ground := Ground.phase }, { on := 2, ground := Ground.phase }, { on := 3, ground := Ground.phase }, { on := 4, ground := Ground.phase }, { on := 5, ground := Ground.phase }, { on := 6, ground := Ground.phase }, { on := 7, ground := Ground.phase }, { on := 8, ground := Ground.phase }], guard := none }) (v := .slice a8b (idlL l Z).length c8b) rfl (by kernel_rfl) (by kernel_rfl) (by kernel_rfl) (fun _ _ _ h => h) (Or.inl ⟨by rfl, ?_⟩) (by assumption) ?_
      · (intro w hSw; (try dsimp only at hSw); go_simp)
      try simp only [Act.put, List.setIfInBounds_toArray, List.set_cons_zero, List.set_cons_succ]
      refine wpAnyH_done (by kernel_rfl) ?_ _
      have HBE : Hid (Below u8.heap.size u8 u8b) := HBD0b.out
      clear hHeld
      have HBx : Hid (Below w.heap.size w u8b) := HB0.out.trans (HU8b.out.mono HB0.out.size)
      have HJ8 : Hid (IntsR u8b (eufL l Z) a8 c8) := HI8.out.below HBE.out
      have HJ5 : Hid (IntsR u8b Z a5 c5) := (HI5.out.below HBD.out).below HBE.out
      obtain ⟨x0, xz⟩ := HXX.out _ HU8b.out
      have hzl := HZl.out
      go_wp2_with fail
      refine (HM.out _ _ _ HBx.out HJ5.out).mono ?_
      rintro e y1 ⟨rfl, HG1, HV1⟩
      clear x0 xz
      have HY1 : Hid (Below W0.heap.size W0 y1) := HU8b.out.trans (HV1.out.mono HU8b.out.size)
      obtain ⟨x0, xz⟩ := HXX.out _ HY1.out
      go_wp2_with fail
      refine (HE.out _ Z _ _ HG1.out (HJ5.out.below HV1.out) hzl).mono ?_
      rintro e y2 ⟨p2, q2, rfl, HQ2, HG2, HV2⟩
      clear x0 xz
      have HY2 : Hid (Below W0.heap.size W0 y2) := HY1.out.trans (HV2.out.mono HY1.out.size)
      obtain ⟨x0, xz⟩ := HXX.out _ HY2.out
      go_wp2_with fail
      refine (Ints_same _ _ _ _ _ _ HQ2.out ((HJ8.out.below HV1.out).below HV2.out)).mono ?_
      rintro e y3 ⟨rfl, hb3⟩
      have HV3 := Lib.hid hb3
      have HG3 := Lib.hid (ball HG2.out hb3)
      clear x0 xz
      have HY3 : Hid (Below W0.heap.size W0 y3) := HY2.out.trans (hb3.mono HY2.out.size)
      clear hb3
      obtain ⟨x0, xz⟩ := HXX.out _ HY3.out
      go_wp2_with fail
      refine (HI.out _ Z _ _ HG3.out (((HJ5.out.below HV1.out).below HV2.out).below HV3.out) hzl).mono ?_
      rintro e y4 ⟨p4, q4, rfl, HQ4, HG4, HV4⟩
      clear x0 xz
      go_wp2_with fail
      refine (Ints_same _ _ _ _ _ _ HQ4.out ((((HI8b.out.below HV1.out).below HV2.out).below HV3.out).below HV4.out)).mono ?_
      rintro e y5 ⟨rfl, hb5⟩
      have HG5 := Lib.hid (ball HG4.out hb5)
      clear hb5
      go_wp2_with fail
      refine (HWk.out _ HG5.out).mono ?_
      rintro e y6 ⟨rfl, hb6⟩
      go_wp2_with fail
      go_ret
      exact ⟨rfl, hb6⟩
end Go.Proofs.YtaiabpbcipnjaaaDoor.Tm
