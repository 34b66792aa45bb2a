/- UnitsOrder. -/
import Derived.Test.YtaiclnlpehfdjaaDoorUoJ
namespace Go.Proofs.YtaiclnlpehfdjaaDoor.Tm
open Go.RowKit Go.Lib
set_option linter.unusedVariables false
def RowsO (w : World) (base : Nat) (M : List RowD) (v : Value) : Prop := w.ownsRow base 23 1 v M.length (M.map rowV)
theorem info_sl : (Tryd.prog.info? 23).map (fun i => (i.zero, i.size, i.bytes)) = some (some (.slice none 0 0), 1, 24) := by kernel_rfl
theorem RowsO.rows {w : World} {B : Nat} {M : List RowD} {a : Option Addr} {c : Nat} (h : RowsO w B M (.slice a M.length c)) (hok : ∀ r ∈ M, IntsR w r.xs r.a r.c) : RowsR w M a c := by
  obtain ⟨a', c', e, h1, h2, h3, _⟩ := own_at h
  cases e
  exact ⟨h1, h2, h3, hok⟩
theorem psV_self {r : List Int} (h : PsI r) : psV r = r := by
  have : ∀ (g ps : List Int), PsI (ps ++ g) → g.foldl stepV ps = ps ++ g := fun g => by
    induction g with
    | nil => exact fun ps _ => by rw [List.append_nil]; rfl
    | cons x g ih =>
      intro ps h
      have hm := h.may x (by simp)
      have hn := List.nodup_append.1 h.nodup
      have h0 : valL ps x = 0 := by
        unfold valL
        rw [if_pos hm, if_neg (fun hx => hn.2.2 x hx x (by simp) rfl), if_neg (fun hx => h.cons x (by simp) (by simp [hx]))]
      rw [List.foldl_cons]
      unfold stepV
      rw [if_pos h0]
      have := ih (ps ++ [x]) (by rw [List.append_assoc]; exact h)
      rw [List.append_assoc] at this
      exact this
  exact this r [] h
set_option maxRecDepth 100000 in
set_option maxHeartbeats 4000000 in
theorem UnitsOrder_c (w : World) (rs : List RowD) (a : Option Addr) (c : Nat) (hR : RowsR w rs a c) (gs : List Int) (b : Option Addr) (d : Nat) (hA : IntsR w gs b d) (hgl : gs.length ≤ 17592186043904) (turn : Int) (ht : I64 turn) (hG : GC w) :
    Calls Tryd.prog 7 #[.slice a rs.length c, .slice b gs.length d, .int .i64 turn] w fun e w' => e = .returned (.bool true) ∧ Below w.heap.size w w' := by
  obtain ⟨i1, hi_, hz0, hz1, hz2⟩ := info_parts info_sl
  obtain ⟨cls, hcl⟩ : ∃ cls, rs.map (·.xs) = cls := ⟨_, rfl⟩
  have HCl := Lib.hid hcl
  have HWk : Hid (∀ V, Below w.heap.size w V → Calls Tryd.prog 11 #[] V fun e w' => e = .returned (.bool true) ∧ Hid (Below w.heap.size w w')) := fun V hV => (wakes_any V (hG.below hV)).mono fun e w' ⟨h1, h2⟩ => ⟨h1, ball hV h2⟩
  have HGr : Hid (Calls Tryd.prog 10 #[.slice a rs.length c, .slice b gs.length d] w fun e w' => GrP e (SmallG rs gs) ∧ w = w') := great_any rs a c gs b d w hR hA
  have HRn : Hid (∀ V zs a1 c1, SmallG rs gs → Below w.heap.size w V → IntsR V zs a1 c1 → zs.length ≤ 10000 → Calls Tryd.prog 12 #[.slice a rs.length c, .slice a1 zs.length c1] V fun e w' => ∃ r k a' c', e = .returned (.tuple #[.slice a' r.length c', .int .i64 k]) ∧ Hid (RunRel cls zs r k ∧ IntsR w' r a' c') ∧ Hid (Below V.heap.size V w')) := fun V zs a1 c1 hS hV hz hl =>
    (Run_any rs a c zs a1 c1 cls V hcl (hG.below hV) (hR.below hV) hz (by have := hS.1.1; omega) (by rw [← hcl]; have := flat_sum hS.1.2; have := hS.1.1; omega) hl).mono fun e w' ⟨r, k, a', c', h0, h1, h2, h3⟩ => ⟨r, k, a', c', h0, ⟨h1, h2⟩, h3⟩
  have HRm : Hid (∀ V M a1 c1, SmallG rs gs → Below w.heap.size w V → RowsR V M a1 c1 → (∀ y ∈ M, y ∈ rs) → M.length ≤ 80 → Calls Tryd.prog 12 #[.slice a1 M.length c1, .slice b gs.length d] V fun e w' => ∃ r k a' c', e = .returned (.tuple #[.slice a' r.length c', .int .i64 k]) ∧ Hid (RunRel (M.map (·.xs)) gs r k ∧ IntsR w' r a' c') ∧ Hid (Below V.heap.size V w')) := fun V M a1 c1 hS hV hM hsub hl =>
    (Run_any M a1 c1 gs b d _ V rfl (hG.below hV) hM (hA.below hV) (by omega) (by have := flat_sum (rs := M) (fun y hy => hS.1.2 y (hsub y hy)); omega) (by have := hS.2.1; omega)).mono fun e w' ⟨r, k, a', c', h0, h1, h2, h3⟩ => ⟨r, k, a', c', h0, ⟨h1, h2⟩, h3⟩
  have HB0 : Hid (Below w.heap.size w w) := Below.refl _ _
  have HA : Hid (IntsR w gs b d) := hA
  have HR : Hid (∀ V, Below w.heap.size w V → RowsR V rs a c) := fun V hV => hR.below hV
  have l1 : rs.length ≤ c := hR.le
  have c1 : rs.length ≤ 9223372036854775807 := by have := hR.cap; simp only [maxLen] at this; omega
  have HTi := Lib.hid ht
  clear hR hA hG hcl ht
  go_enter Tryd.func7, Tryd.ntmps7
  go_wp2_with fail
  with_reducible refine HGr.out.mono ?_
  rintro e w5 ⟨⟨q, rfl, hq⟩, rfl⟩
  cases q with
  | true =>
    clear hq
    go_wp2_with (first | (go_at_call 11; with_reducible refine (HWk.out _ HB0.out).mono ?_; rintro e wz ⟨rfl, HBz⟩))
    go_ret
    exact ⟨rfl, HBz.out⟩
  | false =>
    have HS : Hid (SmallG rs gs) := hq rfl
    have HRn1 := Lib.hid (HRn.out w gs b d HS.out HB0.out HA.out (by have := HS.out.2.1; omega))
    have h80 : rs.length ≤ 80 := HS.out.1.1
    clear hq HGr
    go_wp2_with fail
    with_reducible refine HRn1.out.mono ?_
    rintro e w1 ⟨r, k, a1, c1', rfl, HX, HB1⟩
    clear HRn1
    have HK : Hid (∃ kk : Nat, 0 < rs.length → (wrap64 (turn.tmod ↑rs.length + ↑rs.length)).tmod ↑rs.length = (kk : Int) ∧ kk < rs.length) := by
      by_cases h : 0 < rs.length
      · obtain ⟨kk, h1, h2⟩ := turn_at turn rs.length h HS.out.1.1
        exact ⟨kk, fun _ => ⟨h1, h2⟩⟩
      · exact ⟨0, fun e => absurd e h⟩
    obtain ⟨kk, hkk⟩ := HK.out
    have HKk := Lib.hid hkk
    have HM0 : Hid (([] : List RowD).length = 0 ∧ ∀ y, y ∈ ([] : List RowD) ↔ ∃ t, t < 0 ∧ rs[(t + kk) % rs.length]? = some y) := ⟨rfl, fun y => ⟨fun h => (by cases h), fun ⟨t, h, _⟩ => absurd h (by omega)⟩⟩
    have HO0 : Hid (RowsO w1 w1.heap.size [] (.slice none 0 0) ∧ Below w1.heap.size w1 w1) := ⟨⟨rfl, .inl ⟨rfl, rfl⟩⟩, Below.refl _ _⟩
    have HBb : Hid (∀ V, Below w1.heap.size w1 V → Below w.heap.size w V) := fun V hV => ball HB1.out hV
    clear hkk HK
    go_wp2_with fail
    go_loopw [9, 10] (fun v iv wr => ∃ (i : Nat) (M : List RowD) (am : Option Addr) (cm : Nat), i ≤ rs.length ∧ iv = .int .i64 i ∧ v = .slice am M.length cm ∧ Hid (M.length = i ∧ ∀ y, y ∈ M ↔ ∃ t, t < i ∧ rs[(t + kk) % rs.length]? = some y) ∧ Hid (RowsO wr w1.heap.size M (.slice am M.length cm) ∧ Below w1.heap.size w1 wr)) (fun _ iv _ => rs.length - (intOf iv).toNat)
    case atStart => exact ⟨0, [], none, 0, Nat.zero_le _, rfl, rfl, HM0, HO0⟩
    case round =>
      clear HM0 HO0
      obtain ⟨i, M, am, cm, hil, rfl, rfl, HM, HO⟩ := hrel
      by_cases hlt : i < rs.length
      · obtain ⟨h1, hk2⟩ := HKk.out (by omega)
        obtain ⟨h3, hq1⟩ := rot_at i kk rs.length hlt hk2
        obtain ⟨q, hq⟩ : ∃ q, (i + kk) % rs.length = q := ⟨_, rfl⟩
        have HQ := Lib.hid hq
        rw [hq] at h3 hq1
        obtain ⟨y, hy⟩ : ∃ y, rs[q]? = some y := ⟨_, List.getElem?_eq_getElem hq1⟩
        obtain ⟨g, o, rfl, hg, q0⟩ := (HR.out wr (HBb.out _ HO.out.2)).cell hy
        have HY := Lib.hid hy
        have hn0 : ¬ (rs.length : Int) = 0 := by omega
        have ht1 := HTi.out.1
        have ht2 := HTi.out.2
        have hown := HO.out.1
        have hMl : M.length ≤ 80 := by have := HM.out.1; omega
        clear hq hy
        go_wp2_with (at_builtin; refine wpList_append_lies _ rfl _ _ 22 rfl w1.heap.size 23 i1 _ 1 24 Tryd.underlying22 hi_ hz0 hz1 hz2 rfl (by decide) (Value.slice am M.length cm) M.length (M.map rowV) (by rfl) (World.ownsRow.alloc hown _) ⟨wr.heap.size, 0, none⟩ 1 1 [rowV y] (by rfl) rfl (World.news_of_block (B := wr.heap.size) (cs := #[rowV y]) (t := 23) (fr := (0, 0)) (heap_alloc_new wr _)) (by simp [Value.oneCell', rowV]) (by omega) (by simp only [maxLen]; omega) (by omega) (by have := HO.out.2.size; simp; omega) _ rfl ?_; intro g9 c9 w9 hown9 hgrow9 hat9 hlt9; have hLen : M.length + 1 = (M ++ [y]).length := (by simp); have HLen := Lib.hid hLen; have hR9 : RowsO w9 w1.heap.size (M ++ [y]) (.slice (some ⟨g9, 0, none⟩) (M ++ [y]).length c9) := (by unfold RowsO; rw [← HLen.out, List.map_append]; exact hown9); have hB9 : Below w1.heap.size w1 w9 := (HO.out.2.alloc HO.out.2.size (.cells #[rowV y] 23)).grown hgrow9 (by have := HO.out.2.size; simp; omega) (fun k e => (own_lt hown e).1); have HO9 : Hid (RowsO w9 w1.heap.size (M ++ [y]) (.slice (some ⟨g9, 0, none⟩) (M ++ [y]).length c9) ∧ Below w1.heap.size w1 w9) := ⟨hR9, hB9⟩; clear hown9 hgrow9 hat9 hlt9 hR9 hB9 hLen)
        have HM9 : Hid ((M ++ [y]).length = i + 1 ∧ ∀ z, z ∈ M ++ [y] ↔ ∃ t, t < i + 1 ∧ rs[(t + kk) % rs.length]? = some z) := by
          refine ⟨by rw [← HLen.out, HM.out.1], fun z => ?_⟩
          rw [List.mem_append, HM.out.2 z]
          constructor
          · rintro (⟨t, h1, h2⟩ | h)
            · exact ⟨t, by omega, h2⟩
            · rw [List.mem_singleton.1 h]
              exact ⟨i, by omega, by rw [HQ.out]; exact HY.out⟩
          · rintro ⟨t, h1, h2⟩
            by_cases e : t = i
            · subst e
              rw [HQ.out, HY.out] at h2
              cases h2
              exact .inr (by simp)
            · exact .inl ⟨t, by omega, h2⟩
        clear h1 hk2 h3 hq1 q0 hg hn0 ht1 ht2 hown hMl
        go_roundw
        case rel => exact ⟨i + 1, M ++ [y], some ⟨g9, 0, none⟩, c9, by omega, by go_num, by rw [← HLen.out], HM9, HO9⟩
        case measure => simp [intOf]; omega
      · obtain rfl : i = rs.length := by omega
        have HMm : Hid (∀ z, z ∈ M ↔ z ∈ rs) := fun z => by
          rw [HM.out.2 z]
          constructor
          · exact fun ⟨t, _, h⟩ => List.mem_of_getElem? h
          · intro h
            obtain ⟨j, hj⟩ := List.getElem?_of_mem h
            have hjl := (List.getElem?_eq_some_iff.1 hj).1
            obtain ⟨t, h1, h2⟩ := rot_onto hjl (HKk.out (by omega)).2
            exact ⟨t, h1, by rw [h2]; exact hj⟩
        have HRmm := Lib.hid (HRm.out wr M am cm HS.out (HBb.out _ HO.out.2) (HO.out.1.rows (fun y hy => (HR.out wr (HBb.out _ HO.out.2)).ok y ((HMm.out y).1 hy))) (fun y hy => (HMm.out y).1 hy) (by have := HM.out.1; omega))
        go_wp2_with fail
        with_reducible refine HRmm.out.mono ?_
        rintro e w2 ⟨r', k', a2, c2', rfl, HX2, HB2⟩
        have HOp := Lib.hid (order_plain (fun cc => by
          rw [← HCl.out, List.mem_map, List.mem_map]
          exact ⟨fun ⟨y, h1, h2⟩ => ⟨y, (HMm.out y).2 h1, h2⟩, fun ⟨y, h1, h2⟩ => ⟨y, (HMm.out y).1 h1, h2⟩⟩) HX.out.1 HX2.out.1)
        have HV2 : Hid (Below w1.heap.size w1 w2) := ball HO.out.2 HB2.out
        have HW2 : Hid (Below w.heap.size w w2) := HBb.out _ HV2.out
        clear HRmm HM HMm
        by_cases hk : k = -1
        · have hk' : k' = -1 := HOp.out.1.1 hk
          have HP := Lib.hid (HOp.out.2 hk)
          subst hk
          subst hk'
          have HV := Lib.hid (Values_any r' a2 c2' w2 HX2.out.2)
          rw [psV_self HX2.out.1.inv.1] at HV
          obtain ⟨L, hL⟩ : ∃ L, vL r' = L := ⟨_, rfl⟩
          have HL := Lib.hid hL
          rw [hL] at HV
          clear hL
          go_wp2_with fail
          with_reducible refine HV.out.mono ?_
          rintro e w3 ⟨a3, c3, rfl, HX3⟩
          have HW3 : Hid (Below w.heap.size w w3) := ball HW2.out HX3.out.2
          have HI3 : Hid (IntsR w3 r a1 c1') := HX.out.2.below (ball HV2.out HX3.out.2)
          have HVl : Hid (∀ x, x ∈ r' → Calls Tryd.prog 22 #[.slice a3 L.length c3, .int .i64 x] w3 fun e w' => e = .returned (.int .i8 1) ∧ w3 = w') := fun x hx => by
            have hv : ValR w3 L a3 c3 := by
              have h1 := HX3.out.1
              have h2 := HL.out
              subst h2
              exact h1.val
            have hm := HX2.out.1.inv.1.may x hx
            refine RVal_any L a3 c3 x 1 w3 hv (by have := mayU_iff.1 hm; exact ⟨by omega, by omega⟩) ?_
            rw [← HL.out, valM_vL hm HX2.out.1.inv.1.cons, val_mem hm hx]
          have HRn3 := Lib.hid (HRn.out w3 r a1 c1' HS.out HW3.out HI3.out (by have := HX.out.1.len HS.out.2.2.1 (by rw [← HCl.out]; intro cc hc x hx; obtain ⟨y, hy, rfl⟩ := List.mem_map.1 hc; exact HS.out.2.2.2 y hy x hx); omega))
          have l4 : r.length ≤ c1' := HI3.out.le
          have c4 : r.length ≤ 9223372036854775807 := by have := HI3.out.cap; simp only [maxLen] at this; omega
          go_wp2_with fail
          go_loopw [14] (fun iv wr => ∃ i : Nat, i ≤ r.length ∧ iv = .int .i64 i ∧ wr = w3) (fun iv _ => r.length - (intOf iv).toNat)
          case atStart => exact ⟨0, Nat.zero_le _, rfl, rfl⟩
          case round =>
            obtain ⟨i, hil, rfl, rfl⟩ := hrel
            by_cases hlt : i < r.length
            · obtain ⟨x, hx⟩ : ∃ x, r[i]? = some x := ⟨_, List.getElem?_eq_getElem hlt⟩
              obtain ⟨g, o, rfl, hg, q0⟩ := HI3.out.cell hx
              have HVx := Lib.hid (HVl.out x (HP.out.2 x (List.mem_of_getElem? hx)))
              clear hx
              go_wp2_with fail
              with_reducible refine HVx.out.mono ?_
              rintro e wv ⟨rfl, rfl⟩
              go_wp2_with fail
              go_roundw
              case rel => exact ⟨i + 1, by omega, by go_num, trivial⟩
              case measure => simp [intOf]; omega
            · obtain rfl : i = r.length := by omega
              go_wp2_with fail
              with_reducible refine HRn3.out.mono ?_
              rintro e w4 ⟨r4, j, a4, c4', rfl, HX4, HB4⟩
              have hag := again_plain HX.out.1 HX4.out.1
              obtain ⟨e1, e2⟩ := hag
              subst e1
              subst e2
              have HW4 : Hid (Below w.heap.size w w4) := ball HW3.out HB4.out
              have HSm := Lib.hid (same_any r4 a1 a4 c1' c4' w4 (HI3.out.below HB4.out) HX4.out.2)
              have hlen : ((r4.length : Int) == (r'.length : Int)) = true := eq_t (by have := HP.out.1; omega)
              have hlen2 : (r4.length == r'.length) = true := by have := HP.out.1; simp; omega
              go_wp2_with fail
              with_reducible refine HSm.out.mono ?_
              rintro e w6 ⟨rfl, hb6⟩
              have HW6 : Hid (Below w.heap.size w w6) := ball HW4.out hb6
              clear hb6
              go_wp2_with (first | (go_at_call 11; with_reducible refine (HWk.out _ HW6.out).mono ?_; rintro e wz ⟨rfl, HBz⟩))
              go_ret
              exact ⟨rfl, HBz.out⟩
        · have hk' : ¬ k' = -1 := fun e => hk (HOp.out.1.2 e)
          have d1 : (k == -1) = false := eq_f hk
          have d2 : (k' == -1) = false := eq_f hk'
          have d3 : (k != -1) = true := ne_t hk
          clear hk hk'
          go_wp2_with (first | (go_at_call 11; with_reducible refine (HWk.out _ HW2.out).mono ?_; rintro e wz ⟨rfl, HBz⟩))
          go_ret
          exact ⟨rfl, HBz.out⟩
end Go.Proofs.YtaiclnlpehfdjaaDoor.Tm
