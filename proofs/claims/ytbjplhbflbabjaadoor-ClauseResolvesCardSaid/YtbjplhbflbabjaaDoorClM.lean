/- ClauseMakes: its walk. -/
import Derived.Test.YtbjplhbflbabjaaDoorClL
import Derived.Test.YtbjplhbflbabjaaDoorTk
import Derived.Deep.RegionLaw
namespace Go.Proofs.YtbjplhbflbabjaaDoor.Tm
open Go.RowKit Go.Sort Go.Lib Go.Shelf
set_option linter.unusedVariables false
theorem IntsR.dropAt {w : World} {xs : List Int} {g o c : Nat} (h : IntsR w xs (some ⟨g, o, none⟩) c) (k : Nat) (hk : k ≤ xs.length) : IntsR w (xs.drop k) (some ⟨g, o + k, none⟩) (c - k) := by
  have hle := h.le
  have hcap := h.cap
  refine ⟨by rw [List.length_drop]; omega, by omega, fun h0 => ?_, fun x hx => h.ok x (List.mem_of_mem_drop hx)⟩
  rw [List.length_map, List.length_drop] at h0
  obtain ⟨g', o', e, hg, hc⟩ := h.tat (by simp; omega)
  cases e
  refine ⟨g, o + k, rfl, hg, fun i v hv => ?_⟩
  rw [List.map_drop, List.getElem?_drop] at hv
  have := hc (k + i) v hv
  rw [Nat.add_assoc]
  exact this
theorem IntsR.takeAt {w : World} {xs : List Int} {a : Option Addr} {c : Nat} (h : IntsR w xs a c) (k : Nat) : IntsR w (xs.take k) a c :=
  ⟨by have := h.le; rw [List.length_take]; omega, h.cap, by rw [List.map_take]; exact h.tat.take _, fun x hx => h.ok x (List.mem_of_mem_take hx)⟩
theorem one_ints (V : World) {x : Int} (h : I64 x) : IntsR (V.alloc (.cells #[.int .i64 x] 3)) [x] (some ⟨V.heap.size, 0, none⟩) 1 := ints_row (ty := 3) (heap_alloc_new V _) (fun y hy => by
  rw [List.mem_singleton.1 hy]
  exact h) (by simp)
theorem turn_at (turn : Int) (n : Nat) (h0 : 0 < n) (h6 : n ≤ 60) : ∃ k : Nat, (wrap64 (turn.tmod ↑n + ↑n)).tmod ↑n = (k : Int) ∧ k < n := by
  have h1 := Int.natAbs_tmod turn n
  have h2 : turn.natAbs % (n : Int).natAbs < n := by rw [Int.natAbs_natCast]; exact Nat.mod_lt _ h0
  rw [← h1] at h2
  generalize turn.tmod ↑n = t at h2
  have h3 : wrap64 (t + n) = t + n := by unfold wrap64; omega
  rw [h3, Int.tmod_eq_emod_of_nonneg (by omega)]
  have h4 := Int.emod_nonneg (t + n) (show (n : Int) ≠ 0 by omega)
  have h5 := Int.emod_lt_of_pos (t + n) (show (0 : Int) < n by omega)
  exact ⟨((t + n) % n).toNat, by omega, by omega⟩
set_option maxRecDepth 100000 in
set_option maxHeartbeats 4000000 in
theorem ClauseMakes_c (w : World) (xs : List Int) (a : Option Addr) (c : Nat) (hA : IntsR w xs a c) (turn : Int) (ht : I64 turn) (hG : GC w) :
    Calls Tryd.prog 3 #[.slice a xs.length c, .int .i64 turn] w fun e w' => e = .returned (.bool true) ∧ Below w.heap.size w w' := by
  have HWk : Hid (∀ V, Below w.heap.size w V → Calls Tryd.prog 7 #[] V fun e w' => e = .returned (.bool true) ∧ Below w.heap.size w w') := fun V hV => (wakes_any V (hG.below hV)).mono fun e w' ⟨h1, h2⟩ => ⟨h1, ball hV h2⟩
  have HBr : Hid (Below w.heap.size w w) := Below.refl _ _
  have c1 : xs.length ≤ 9223372036854775807 := len_fits hA.le hA.cap
  by_cases h1 : 60 < xs.length
  · have d1 : decide (60 < (xs.length : Int)) = true := decide_eq_true (by omega)
    clear hA hG h1
    go_enter Tryd.func3, Tryd.ntmps3
    go_wp2_with fail
    refine (HWk.out _ HBr.out).mono ?_
    rintro e w1 ⟨rfl, hb1⟩
    go_wp2
    go_ret
    exact ⟨rfl, hb1⟩
  have d1 : decide (60 < (xs.length : Int)) = false := decide_eq_false (by omega)
  obtain ⟨m, hm⟩ : ∃ m, makeM xs = m := ⟨_, rfl⟩
  have hm6 : m.length ≤ 60 := by rw [← hm]; have := makeM_len xs; omega
  have HM1 : Hid (∀ V (zs : List Int) a1 c1, Below w.heap.size w V → IntsR V zs a1 c1 → zs.length ≤ 100 → makeM zs = m → Calls Tryd.prog 8 #[.slice a1 zs.length c1] V fun e w' => ∃ a' c', e = .returned (.slice a' m.length c') ∧ Hid (IntsR w' m a' c') ∧ Hid (Below w.heap.size w w') ∧ Hid (Below V.heap.size V w')) := fun V zs a1 c1 hV hI hl he => by
    refine (Make_any zs a1 c1 V hI (by omega)).mono ?_
    rintro e w' ⟨v, rfl, h1, h2⟩
    rw [he] at h1
    obtain ⟨a', c', rfl, h3⟩ := h1.ints (by rw [← he]; exact makeM_i64 hI.ok)
    exact ⟨a', c', rfl, h3, ball hV h2, h2⟩
  have HX : Hid (∀ V, Below w.heap.size w V → IntsR V xs a c) := fun V hV => hA.below hV
  have HM := Lib.hid hm
  have hmi : ∀ x ∈ m, I64 x := by rw [← hm]; exact makeM_i64 hA.ok
  have HWo : Hid (∀ V x a1 c1, Below w.heap.size w V → IntsR V m a1 c1 → x ∈ xs → 0 ≤ x → Calls Tryd.prog 9 #[.slice (some ⟨V.heap.size, 0, none⟩) 1 1, .slice a1 m.length c1] (V.alloc (.cells #[.int .i64 x] 3)) fun e w' => e = .returned (.bool true) ∧ Hid (Below w.heap.size w w') ∧ Hid (Below V.heap.size V w')) := fun V x a1 c1 hV hI hx h0 => by
    have hb := (Below.refl _ V).alloc (Nat.le_refl _) (.cells #[.int .i64 x] 3)
    have h1 := one_ints V (hA.ok x hx)
    refine (Within_any [x] _ 1 m a1 c1 true _ h1 (hI.below hb) (by omega) (within_of (fun y hy => ?_))).mono fun e w' ⟨k1, k2⟩ => ⟨k1, ball (ball hV hb) k2, ball hb k2⟩
    rw [List.mem_singleton.1 hy, ← hm]
    exact makeM_mem.2 ⟨hx, h0⟩
  have HIs : Hid (∀ V a1 c1, Below w.heap.size w V → IntsR V m a1 c1 → Calls Tryd.prog 10 #[.slice a1 m.length c1] V fun e w' => e = .returned (.bool true) ∧ Hid (Below w.heap.size w w') ∧ Hid (Below V.heap.size V w')) := fun V a1 c1 hV h1 => (Isc_any m a1 c1 true V h1 (by rw [← hm]; exact isM_make _)).mono fun e w' ⟨k1, k2⟩ => ⟨k1, ball hV k2, k2⟩
  have HWi : Hid (∀ V a1 c1, Below w.heap.size w V → IntsR V m a1 c1 → Calls Tryd.prog 9 #[.slice a1 m.length c1, .slice a xs.length c] V fun e w' => e = .returned (.bool true) ∧ Hid (Below w.heap.size w w') ∧ Hid (Below V.heap.size V w')) := fun V a1 c1 hV h1 => (Within_any m a1 c1 xs a c true V h1 (hA.below hV) (by omega) (within_of (fun y hy => by rw [← hm] at hy; exact (makeM_mem.1 hy).1))).mono fun e w' ⟨k1, k2⟩ => ⟨k1, ball hV k2, k2⟩
  have HSa : Hid (∀ V a1 c1 a2 c2, Below w.heap.size w V → IntsR V m a1 c1 → IntsR V m a2 c2 → Calls Tryd.prog 11 #[.slice a1 m.length c1, .slice a2 m.length c2] V fun e w' => e = .returned (.bool true) ∧ Hid (Below w.heap.size w w') ∧ Hid (Below V.heap.size V w')) := fun V a1 c1 a2 c2 hV h1 h2 => (Same_any m m a1 a2 c1 c2 true V h1 h2 (decide_eq_true rfl)).mono fun e w' ⟨k1, k2⟩ => ⟨k1, ball hV k2, k2⟩
  have HMm : Hid (∀ V a1 c1, Below w.heap.size w V → IntsR V m a1 c1 → Calls Tryd.prog 8 #[.slice a1 m.length c1] V fun e w' => ∃ a' c', e = .returned (.slice a' m.length c') ∧ Hid (IntsR w' m a' c') ∧ Hid (Below w.heap.size w w') ∧ Hid (Below V.heap.size V w')) := fun V a1 c1 hV hI => HM1.out V m a1 c1 hV hI (by omega) (by rw [← hm]; exact makeM_again _)
  cases hxs : xs with
  | nil =>
    rw [hxs] at hA HX hm HWi
    have HMx := Lib.hid (HM1.out w [] a c HBr.out hA (by simp) hm)
    rw [hxs] at d1
    have hnil : ∀ V, IntsR V [] none 0 := fun V => IntsR.nil V 0 (Nat.zero_le _) none
    have HMn : Hid (∀ V, Below w.heap.size w V → Calls Tryd.prog 8 #[.slice none 0 0] V fun e w' => ∃ a' c', e = .returned (.slice a' m.length c') ∧ Hid (IntsR w' m a' c') ∧ Hid (Below w.heap.size w w') ∧ Hid (Below V.heap.size V w')) := fun V hV => HM1.out V [] none 0 hV (hnil V) (by simp) hm
    have dn : decide (0 < (([] : List Int).length : Int)) = false := rfl
    clear hA hG h1 hm hxs hm6 hmi hnil
    go_enter Tryd.func3, Tryd.ntmps3
    go_wp2_with fail
    refine HMx.out.mono ?_
    rintro e w1 ⟨a1, e1, rfl, HI1, HB1, HV1⟩
    go_wp2
    go_loopw [40] (fun i wr => i = .int .i64 0 ∧ Hid (wr = w1)) (fun _ _ => 0)
    case atStart => exact ⟨rfl, rfl⟩
    case round =>
      obtain ⟨rfl, HW⟩ := hrel
      have hB := HB1.out
      rw [← HW.out] at hB
      have hI := HI1.out
      rw [← HW.out] at hI
      have HB2 := Lib.hid hB
      have HI2 := Lib.hid hI
      clear hB hI
      go_wp2_with fail
      refine (HIs.out _ _ _ HB2.out HI2.out).mono ?_
      rintro e w2 ⟨rfl, HB3, HV3⟩
      have HI3 := Lib.hid (HI2.out.below HV3.out)
      go_wp2_with fail
      refine (HWi.out _ _ _ HB3.out HI3.out).mono ?_
      rintro e w3 ⟨rfl, HB4, HV4⟩
      have HI4 := Lib.hid (HI3.out.below HV4.out)
      go_wp2_with fail
      refine (HMn.out _ HB4.out).mono ?_
      rintro e w4 ⟨a5, e5, rfl, HJ5, HB5, HV5⟩
      have HI5 := Lib.hid (HI4.out.below HV5.out)
      go_wp2_with fail
      refine (HSa.out _ _ _ _ _ HB5.out HJ5.out HI5.out).mono ?_
      rintro e w5 ⟨rfl, HB6, HV6⟩
      have HI6 := Lib.hid (HI5.out.below HV6.out)
      go_wp2_with fail
      refine (HMm.out _ _ _ HB6.out HI6.out).mono ?_
      rintro e w6 ⟨a7, e7, rfl, HJ7, HB7, HV7⟩
      have HI7 := Lib.hid (HI6.out.below HV7.out)
      go_wp2_with fail
      refine (HSa.out _ _ _ _ _ HB7.out HJ7.out HI7.out).mono ?_
      rintro e w7 ⟨rfl, HB8, HV8⟩
      go_wp2_with fail
      refine (HWk.out _ HB8.out).mono ?_
      rintro e w8 ⟨rfl, hb8⟩
      go_wp2
      go_ret
      exact ⟨rfl, hb8⟩
  | cons x0 xr =>
  obtain ⟨n, hn⟩ : ∃ n, xs.length = n := ⟨_, rfl⟩
  have hn0 : 0 < n := by rw [← hn, hxs]; simp
  obtain ⟨g, o, rfl, hg, _⟩ := hA.cell (show xs[0]? = some x0 by rw [hxs]; rfl)
  have hnc : n ≤ c := by rw [← hn]; exact hA.le
  rw [← hxs]
  have hn6 : n ≤ 60 := by omega
  rw [hn] at c1 d1 HWi ⊢
  have hnne : ¬ ((n : Int) = 0) := by omega
  have dn : decide (0 < (n : Int)) = true := decide_eq_true (by omega)
  have HMx := Lib.hid (HM1.out w xs _ c HBr.out hA (by omega) hm)
  rw [hn] at HMx
  have HXc : Hid (∀ V i x, Below w.heap.size w V → xs[i]? = some x → V.cell? ⟨g, o + i, none⟩ = some (.int .i64 x) ∧ g < V.heap.size) := fun V i x hV hx => by
    obtain ⟨g', o', e, h1, h2⟩ := (hA.below hV).cell hx
    cases e
    exact ⟨h2, h1⟩
  obtain ⟨k, hk, hkn⟩ := turn_at turn n hn0 hn6
  have hkc : k ≤ c := by omega
  have hki : (k : Int) ≤ (n : Int) := by omega
  have hkic : (k : Int) ≤ (c : Int) := by omega
  have hk0 : (0 : Int) ≤ (k : Int) := by omega
  have hD : Hid (∀ V, Below w.heap.size w V → IntsR V (xs.drop k) (some ⟨g, o + k, none⟩) (c - k)) := fun V hV => (hA.below hV).dropAt k (by omega)
  have hT : Hid (∀ V, Below w.heap.size w V → IntsR V (xs.take k) (some ⟨g, o, none⟩) c) := fun V hV => (hA.below hV).takeAt k
  obtain ⟨ys, hys⟩ : ∃ ys, xs.drop k = ys := ⟨_, rfl⟩
  obtain ⟨zs, hzs⟩ : ∃ zs, xs.take k = zs := ⟨_, rfl⟩
  rw [hys] at hD
  rw [hzs] at hT
  have hyl : ys.length = n - k := by rw [← hys, List.length_drop, hn]
  have hzl : zs.length = k := by rw [← hzs, List.length_take]; omega
  obtain ⟨us, hus⟩ : ∃ us, ys ++ zs = us := ⟨_, rfl⟩
  have hul : us.length = n := by rw [← hus, List.length_append]; omega
  have huM : makeM us = m := by
    rw [← hm]
    refine makeM_eq (fun x _ => ?_)
    rw [← hus, ← hys, ← hzs, List.mem_append]
    refine Or.comm.trans ?_
    rw [← List.mem_append, List.take_append_drop]
  have huok : ∀ x ∈ us, I64 x := fun x hx => by
    rw [← hus, ← hys, ← hzs] at hx
    exact (List.mem_append.1 hx).elim (fun h => hA.ok x (List.mem_of_mem_drop h)) (fun h => hA.ok x (List.mem_of_mem_take h))
  have hyok : ∀ x ∈ ys, I64 x := fun x hx => by
    rw [← hys] at hx
    exact hA.ok x (List.mem_of_mem_drop hx)
  have HYL := Lib.hid hyl
  have HZL := Lib.hid hzl
  have HUS := Lib.hid hus
  have HUL := Lib.hid hul
  have HUM := Lib.hid huM
  have HOk := Lib.hid (And.intro huok hyok)
  have HNN := Lib.hid (And.intro hn hn6)
  clear hA hG h1 hm hxs hys hzs hyl hzl hus hul huM huok hyok
  go_enter Tryd.func3, Tryd.ntmps3
  go_wp2_with fail
  refine HMx.out.mono ?_
  rintro e w1 ⟨a1, e1, rfl, HI1, HB1, HV1⟩
  go_wp2
  refine wp_region_held_drew (S := fun _ => True) (by kernel_rfl) trivial (fun hHeld => ?_)
  refine tkY 0 (.slice none 0 0) ?_
  try simp only [kP, kA, kZ, kS]
  refine tkY 1 (.slice (some ⟨g, o, none⟩) n c) ?_
  try simp only [kP, kA, kZ, kS]
  refine tkY 2 (.int .i64 k) ?_
  try simp only [kP, kA, kZ, kS]
  refine tkW 3 (.slice (some ⟨g, o + k, none⟩) (n - k) (c - k)) ?_ ?_
  · (intro w hSw; (try dsimp only at hSw); go_simp; intro h; omega)
  try simp only [kP, kA, kZ, kS]
  refine tkY 5 (.slice (some ⟨g, o, none⟩) n c) ?_
  try simp only [kP, kA, kZ, kS]
  refine tkY 6 (.int .i64 k) ?_
  try simp only [kP, kA, kZ, kS]
  refine tkW 7 (.slice (some ⟨g, o, none⟩) k c) ?_ ?_
  · (intro w hSw; (try dsimp only at hSw); go_simp)
  try simp only [kP, kA, kZ, kS]
  refine wpAnyH_ready (rs := [4]) (by kernel_rfl) (by simp) ?_
  refine AllReadyH.cons (o := { dst := some 33, op := Op.call { callee := Callee.builtin Builtin.append, args := #[Operand.tmp 29, Operand.tmp 32], argTypes := #[22, 22] }, type := 22, pos := "law.go:40", after := #[{ on := 0, ground := Ground.data }, { on := 3, ground := Ground.data }], guard := none }) rfl (fun K hK => ?_) AllReadyH.nil
  refine step_app rfl _ _ rfl rfl w1.drew.heap.size _ [] ys (some ⟨g, o + k, none⟩) (c - k) (by rfl) (by rw [HYL.out]; rfl) (nil_own _ _) (hD.out _ HB1.out.drew) (Nat.le_refl _) (by simp; have := HYL.out; have := HNN.out.2; omega) ?_
  intro v2 w2 hr2 hg2
  rw [List.nil_append] at hr2
  have hB2 : Below w.heap.size w w2 := below_row HB1.out.drew (nil_own _ w1.drew.heap.size) hg2 HB1.out.size
  have hs2 := hg2.size
  obtain ⟨a2, c2, rfl, _⟩ := hr2.ints HOk.out.2
  have hV2 : Below w1.heap.size w1 w2 := below_row (Below.refl _ w1).drew (nil_own _ w1.drew.heap.size) hg2 (Nat.le_refl _)
  have HR2 := Lib.hid hr2
  have HB2 := Lib.hid hB2
  have HV2 := Lib.hid hV2
  clear hr2 hg2 hB2 hV2
  refine hK.out _ _ ?_ (fun hHeld => ?_)
  · trivial
  clear hK K
  try simp only [kP, kA, kZ, kS]
  refine wpAnyH_ready (rs := [8]) (by kernel_rfl) (by simp) ?_
  refine AllReadyH.cons (o := { dst := some 37, op := Op.call { callee := Callee.builtin Builtin.append, args := #[Operand.tmp 33, Operand.tmp 36], argTypes := #[22, 22] }, type := 22, pos := "law.go:40", after := #[{ on := 4, ground := Ground.data }, { on := 7, ground := Ground.data }, { on := 4, ground := Ground.chain }], guard := none }) rfl (fun K hK => ?_) AllReadyH.nil
  refine step_app rfl _ _ rfl rfl w1.heap.size _ ys zs (some ⟨g, o, none⟩) c (by rfl) (by rw [HZL.out]; rfl) HR2.out (hT.out _ HB2.out) HV2.out.size (by have := HYL.out; have := HZL.out; have := HNN.out.2; omega) ?_
  intro v3 w3 hr3 hg3
  have hB3 : Below w.heap.size w w3 := below_row HB2.out HR2.out hg3 HB1.out.size
  have hV3 : Below w1.heap.size w1 w3 := below_row HV2.out HR2.out hg3 (Nat.le_refl _)
  rw [HUS.out] at hr3
  obtain ⟨a3, c3, rfl, hi3⟩ := hr3.ints HOk.out.1
  have HI3 := Lib.hid hi3
  have HB3 := Lib.hid hB3
  have HV3 := Lib.hid hV3
  clear hr3 hg3 hi3 hB3 hV3 HR2 HB2 HV2
  refine hK.out _ _ ?_ (fun hHeld => ?_)
  · trivial
  clear hK K
  try simp only [kP, kA, kZ, kS]
  refine tkY 9 (.slice a3 us.length c3) ?_
  try simp only [kP, kA, kZ, kS]
  refine wpAnyH_done (by kernel_rfl) ?_ _
  clear hHeld
  have HI1b := Lib.hid (HI1.out.below HV3.out)
  go_wp2
  go_loopw [40] (fun i wr => ∃ k : Nat, k ≤ n ∧ i = .int .i64 k ∧ Hid (Below w3.heap.size w3 wr)) (fun i _ => n - (intOf i).toNat)
  case atStart => exact ⟨0, Nat.zero_le _, rfl, by first | exact Below.refl _ _ | exact below_drewN (Below.refl _ _)⟩
  case round =>
    obtain ⟨j, hjn, rfl, HW⟩ := hrel
    have HBw : Hid (Below w.heap.size w wr) := ball HB3.out HW.out
    have HIm := Lib.hid (HI1b.out.below HW.out)
    by_cases hlt : j < n
    · obtain ⟨x, hx⟩ : ∃ x, xs[j]? = some x := ⟨_, List.getElem?_eq_getElem (by rw [HNN.out.1]; exact hlt)⟩
      obtain ⟨q0, gz⟩ := HXc.out wr j x HBw.out hx
      by_cases h0 : 0 ≤ x
      · have HWx := Lib.hid (HWo.out wr x _ _ HBw.out HIm.out (List.mem_of_getElem? hx) h0)
        have d0 : decide (0 ≤ x) = true := decide_eq_true h0
        clear hx h0
        go_wp2_with (first | (go_at_call 9; refine HWx.out.mono ?_; rintro e w5 ⟨rfl, HB5, HV5⟩))
        have HN : Hid (Below w3.heap.size w3 w5) := ball HW.out HV5.out
        go_roundw
        case rel => exact ⟨j + 1, by omega, by go_num, HN⟩
        case measure => simp [intOf]; omega
      · have d0 : decide (0 ≤ x) = false := decide_eq_false h0
        clear hx h0
        go_wp2
        go_roundw
        case rel => exact ⟨j + 1, by omega, by go_num, HW⟩
        case measure => simp [intOf]; omega
    · obtain rfl : j = n := by omega
      have HIu := Lib.hid (HI3.out.below HW.out)
      have hu100 : us.length ≤ 100 := by rw [HUL.out]; omega
      have HMu := Lib.hid (fun V hV hI => HM1.out V us a3 c3 hV hI hu100 HUM.out)
      go_wp2_with fail
      refine (HIs.out _ _ _ HBw.out HIm.out).mono ?_
      rintro e u2 ⟨rfl, HB3', HV3'⟩
      have HI3' := Lib.hid (HIm.out.below HV3'.out)
      go_wp2_with fail
      refine (HWi.out _ _ _ HB3'.out HI3'.out).mono ?_
      rintro e u3 ⟨rfl, HB4, HV4⟩
      have HI4 := Lib.hid (HI3'.out.below HV4.out)
      go_wp2_with fail
      refine (HMu.out _ HB4.out ((HIu.out.below HV3'.out).below HV4.out)).mono ?_
      rintro e u4 ⟨a5, e5, rfl, HJ5, HB5, HV5⟩
      have HI5 := Lib.hid (HI4.out.below HV5.out)
      go_wp2_with fail
      refine (HSa.out _ _ _ _ _ HB5.out HJ5.out HI5.out).mono ?_
      rintro e u5 ⟨rfl, HB6, HV6⟩
      have HI6 := Lib.hid (HI5.out.below HV6.out)
      go_wp2_with fail
      refine (HMm.out _ _ _ HB6.out HI6.out).mono ?_
      rintro e u6 ⟨a7, e7, rfl, HJ7, HB7, HV7⟩
      have HI7 := Lib.hid (HI6.out.below HV7.out)
      go_wp2_with fail
      refine (HSa.out _ _ _ _ _ HB7.out HJ7.out HI7.out).mono ?_
      rintro e u7 ⟨rfl, HB8, HV8⟩
      go_wp2_with fail
      refine (HWk.out _ HB8.out).mono ?_
      rintro e u8 ⟨rfl, hb8⟩
      go_wp2
      go_ret
      exact ⟨rfl, hb8⟩
end Go.Proofs.YtbjplhbflbabjaaDoor.Tm
