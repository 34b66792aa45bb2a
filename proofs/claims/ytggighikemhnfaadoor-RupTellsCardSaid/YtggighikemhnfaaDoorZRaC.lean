/- ref16's Run. -/
import Derived.Test.YtggighikemhnfaaDoorZRaB
namespace Go.Proofs.YtggighikemhnfaaDoor.Tm
open Go.RowKit Go.Lib
set_option linter.unusedVariables false
set_option maxRecDepth 100000 in
set_option maxHeartbeats 4000000 in
theorem RRun_any (rs : List RowD) (a : Option Addr) (c : Nat) (gs : List Int) (b : Option Addr) (d : Nat) (cls : List (List Int)) (w : World) (hcl : rs.map (·.xs) = cls) (hR : RowsR w rs a c) (hA : IntsR w gs b d) (hl : rs.length ≤ 1000) (hl2 : ∀ y ∈ rs, y.xs.length ≤ 1000) :
    Calls Tryd.prog 13 #[.slice a rs.length c, .slice b gs.length d] w fun e w' => ∃ r k a' c', e = .returned (.tuple #[.slice a' r.length c', .int .i64 k]) ∧ Hid (RunRel cls gs r k ∧ IntsR w' r a' c') ∧ Hid (Below w.heap.size w w') := by
  have HPl := Lib.hid (plain_any rs a c w hR hl hl2)
  have HF : Hid (∀ x r V, mayU x = r → Calls Tryd.prog 42 #[.int .i64 x] V fun e w' => e = .returned (.bool r) ∧ V = w') := fun x r V h => fits_any x r V h
  have HIn : Hid (∀ (V : World) (y : Int), I64 y → IntsR (V.alloc (.cells #[.int .i64 y] 3)) [y] (some ⟨V.heap.size, 0, none⟩) 1) := fun V y hy => ints_row (heap_alloc_new V _) (fun z hz => by rw [show z = y by simpa using hz]; exact hy) (by simp)
  have HOk0 := Lib.hid hA.ok
  have HPc : Hid (∀ M, PlP rs M rs.length → PlC cls M) := fun M h => plc_of h hcl
  have l1 : gs.length ≤ d := hA.le
  have c1 : gs.length ≤ 9223372036854775807 := by have := hA.cap; simp only [maxLen] at this; omega
  have HA0 := Lib.hid hA
  have HPi : Hid (∀ ps, PsI ps → ∀ x ∈ ps, I64 x) := fun ps h x hx => by have := mayU_iff.1 (h.may x hx); exact ⟨by omega, by omega⟩
  clear hR hA hl hl2 hcl
  go_enter Tryd.func13, Tryd.ntmps13
  go_wp2_with fail
  with_reducible refine HPl.out.mono ?_
  rintro e w1 ⟨M, am, cm, rfl, hP, hRM, hB⟩
  have HP : Hid (PlC cls M) := HPc.out M hP
  have HRM : Hid (∀ V, Below w1.heap.size w1 V → RowsR V M am cm) := fun V hV => hRM.below hV
  have HB1 := Lib.hid hB
  have HA : Hid (∀ V, Below w1.heap.size w1 V → IntsR V gs b d) := fun V hV => HA0.out.below (ball hB hV)
  have HS0 : Hid (PsI [] ∧ giveM [] gs = giveM [] (gs.drop 0)) := ⟨PsI.nil, rfl⟩
  have HO0 : Hid (RowO w1 w1.heap.size [] (.slice none 0 0) ∧ Row8 w1 w1.heap.size [] (.slice none 0 0) ∧ Below w1.heap.size w1 w1) := ⟨⟨rfl, .inl ⟨rfl, rfl⟩⟩, row8_nil _ _, Below.refl _ _⟩
  have HL0 : Hid (([] : List Int) = vL []) := rfl
  -- the steps that both loops take
  have HPut : Hid (∀ V ps L a7 c7 a6 c6 x, PsI ps → L = vL ps → valL ps x = 0 → RowO V w1.heap.size ps (.slice a6 ps.length c6) → Row8 V w1.heap.size L (.slice a7 L.length c7) → Below w1.heap.size w1 V → Calls Tryd.prog 43 #[.slice a7 L.length c7, .int .i64 x] V fun e w' => ∃ L' a c, e = .returned (.slice a L'.length c) ∧ Hid (L' = vL (ps ++ [x])) ∧ Hid (RowO w' w1.heap.size ps (.slice a6 ps.length c6) ∧ Row8 w' w1.heap.size L' (.slice a L'.length c) ∧ Below w1.heap.size w1 w')) := fun V ps L a7 c7 a6 c6 x hp hL hv h6 h7 hb => by
    have hm := mayU_iff.1 (valL_may (by rw [hv]; decide))
    refine (put8_kp w1.heap.size L _ x V hb.size h7 (by rw [hL, vL_len]; have := lenV_may hp; omega) hm.1 hm.2).mono ?_
    rintro e w' ⟨a', c', rfl, H⟩
    exact ⟨_, a', c', rfl, by show _ = _; rw [hL]; exact putL_vL hm.1 hv, ⟨own_kp h6 (by decide) H.out.2.2, H.out.1, hb.trans H.out.2.1⟩⟩
  have HRet : Hid (∀ V ps a6 c6, PsI ps → RowO V w1.heap.size ps (.slice a6 ps.length c6) → IntsR V ps a6 c6) := fun V ps a6 c6 hp h => by
    obtain ⟨_, _, e, hi⟩ := h.ints (HPi.out ps hp)
    cases e
    exact hi
  have HBw : Hid (∀ V, Below w1.heap.size w1 V → Below w.heap.size w V) := fun V hV => ball HB1.out hV
  clear hP hRM hB HPl
  go_wp2_with fail
  go_loopw [6, 7, 8] (fun lv av iv wr => ∃ (k : Nat) (ps : List Int) (a6 : Option Addr) (c6 : Nat) (L : List Int) (a7 : Option Addr) (c7 : Nat), k ≤ gs.length ∧ iv = .int .i64 k ∧ lv = .slice a6 ps.length c6 ∧ av = .slice a7 L.length c7 ∧ Hid (L = vL ps) ∧ Hid (PsI ps ∧ giveM [] gs = giveM ps (gs.drop k)) ∧ Hid (RowO wr w1.heap.size ps (.slice a6 ps.length c6) ∧ Row8 wr w1.heap.size L (.slice a7 L.length c7) ∧ Below w1.heap.size w1 wr)) (fun _ _ iv _ => gs.length - (intOf iv).toNat)
  case atStart => exact ⟨0, [], none, 0, [], none, 0, Nat.zero_le _, rfl, rfl, rfl, HL0, HS0, HO0⟩
  case round =>
    clear HS0 HO0 HL0
    obtain ⟨k, ps, a6, c6, L, a7, c7, hkl, rfl, rfl, rfl, HL, HS, HO⟩ := hrel
    by_cases hlt : k < gs.length
    · obtain ⟨x, hx⟩ : ∃ x, gs[k]? = some x := ⟨_, List.getElem?_eq_getElem hlt⟩
      obtain ⟨g, o, rfl, hg, q0⟩ := (HA.out wr HO.out.2.2).cell hx
      have HX := Lib.hid hx
      have HXi : Hid (I64 x) := HOk0.out x (List.mem_of_getElem? hx)
      have HD : Hid (gs.drop k = x :: gs.drop (k + 1)) := drop_get hx
      obtain ⟨f, hf⟩ : ∃ f, mayU x = f := ⟨_, rfl⟩
      have HM := Lib.hid hf
      have HFx := Lib.hid (HF.out x f wr hf)
      clear hf hx
      cases f with
      | false =>
        have HN : Hid (PsI ps ∧ giveM [] gs = giveM ps (gs.drop (k + 1))) := ⟨HS.out.1, by rw [HS.out.2, HD.out]; conv => lhs; unfold giveM; rw [if_neg (by rw [HM.out]; decide)]⟩
        go_wp2_with (first | (go_at_call 42; with_reducible refine HFx.out.mono ?_; rintro e w1 ⟨rfl, rfl⟩))
        go_roundw
        case rel => exact ⟨k + 1, ps, a6, c6, L, a7, c7, by omega, by go_num, rfl, rfl, HL, HN, HO⟩
        case measure => simp [intOf]; omega
      | true =>
        obtain ⟨z, hz⟩ : ∃ z, valL ps x = z := ⟨_, rfl⟩
        have hz2 : rvM L x = z := by rw [HL.out, valM_vL HM.out HS.out.1.cons]; exact hz
        have hval : ValR wr L a7 c7 := by have := HO.out.2.1; have e := HL.out; rw [e] at this ⊢; exact this.val
        have HV := Lib.hid (RVal_any L a7 c7 x z wr hval HXi.out hz2)
        have HZ := Lib.hid hz
        clear hz hz2 hval
        by_cases h2 : z = 2
        · have d2 : (z == 2) = true := eq_t h2
          have HE : Hid (RunRel cls gs ps (-2)) := by
            have e : giveM [] gs = (ps, false) := by
              rw [HS.out.2, HD.out]; conv => lhs; unfold giveM; rw [if_pos HM.out, if_neg (by rw [HZ.out, h2]; decide), if_pos (by rw [HZ.out, h2])]
            exact .inl ⟨by rw [e], by rw [e], rfl⟩
          have HI := Lib.hid (HRet.out wr ps a6 c6 HS.out.1 HO.out.1)
          clear h2
          go_wp2_with (first | (go_at_call 42; with_reducible refine HFx.out.mono ?_; rintro e w1 ⟨rfl, rfl⟩) | (go_at_call 21; with_reducible refine HV.out.mono ?_; rintro e w1 ⟨rfl, rfl⟩))
          go_ret2
          exact ⟨ps, -2, a6, c6, rfl, ⟨HE.out, HI.out⟩, HBw.out _ HO.out.2.2⟩
        · have d2 : (z == 2) = false := eq_f h2
          by_cases h0 : z = 0
          · have d0 : (z == 0) = true := eq_t h0
            have hv0 : valL ps x = 0 := HZ.out.trans h0
            have HPx := Lib.hid (HPut.out wr ps L a7 c7 a6 c6 x HS.out.1 HL.out hv0 HO.out.1 HO.out.2.1 HO.out.2.2)
            have HN : Hid (PsI (ps ++ [x]) ∧ giveM [] gs = giveM (ps ++ [x]) (gs.drop (k + 1))) := ⟨HS.out.1.put hv0, by rw [HS.out.2, HD.out]; conv => lhs; unfold giveM; rw [if_pos HM.out, if_pos hv0]⟩
            have hpl : ps.length ≤ 1048577 := HS.out.1.len
            have HAx : Hid (∀ V, Below w1.heap.size w1 V → V.cell? ⟨g, o + k, none⟩ = some (.int .i64 x)) := fun V hV => by
              obtain ⟨_, _, e, _, h⟩ := (HA.out V hV).cell HX.out
              cases e
              exact h
            clear h0 h2 hv0
            have HRs : Hid (∀ V o, Below w1.heap.size w1 V → w1.heap.size ≤ (V.alloc o).heap.size) := fun V o h => by
              have := h.size
              rw [World.size_alloc]
              omega
            go_wp2_with (first | (go_at_call 42; with_reducible refine HFx.out.mono ?_; rintro e w3 ⟨rfl, rfl⟩) | (go_at_call 21; with_reducible refine HV.out.mono ?_; rintro e w3 ⟨rfl, rfl⟩))
            with_reducible refine HPx.out.mono ?_
            rintro e w2 ⟨L', a8, c8, rfl, HL', HO'⟩
            have q1 := HAx.out w2 HO'.out.2.2
            go_wp2_with (at_builtin; refine wpList_appB rfl _ _ rfl rfl w1.heap.size _ ps [x] _ 1 (by rfl) (by rfl) (World.ownsRow.alloc HO'.out.1 _) (HIn.out _ _ HXi.out) (HRs.out _ _ HO'.out.2.2) (by show (_ + 1) * 8 ≤ _; omega) ?_; intro v4 w4 hr4 hg4; have HB4 : Hid (Below w1.heap.size w1 w4) := (HO'.out.2.2.alloc HO'.out.2.2.size _).grown hg4 (HRs.out _ _ HO'.out.2.2) (fun k e => (own_lt HO'.out.1 e).1); have HK4 : Hid (Row8 w4 w1.heap.size L' (.slice a8 L'.length c8)) := World.ownsRow.kept (World.ownsRow.alloc HO'.out.2.1 _) hg4 (own_ne HO'.out.2.1 HO'.out.1 (by decide)); obtain ⟨a4, c4, rfl, hi4⟩ := hr4.ints (HPi.out _ HN.out.1); have HR4 : Hid (RowO w4 w1.heap.size (ps ++ [x]) (.slice a4 (ps ++ [x]).length c4) ∧ Row8 w4 w1.heap.size L' (.slice a8 L'.length c8) ∧ Below w1.heap.size w1 w4) := ⟨hr4, HK4.out, HB4.out⟩; clear hi4 hr4 hg4)
            go_roundw
            case rel => exact ⟨k + 1, ps ++ [x], a4, c4, L', a8, c8, by omega, by go_num, by rw [List.length_append]; rfl, rfl, HL', HN, HR4⟩
            case measure => simp [intOf]; omega
          · have d0 : (z == 0) = false := eq_f h0
            have HN : Hid (PsI ps ∧ giveM [] gs = giveM ps (gs.drop (k + 1))) := ⟨HS.out.1, by rw [HS.out.2, HD.out]; conv => lhs; unfold giveM; rw [if_pos HM.out, if_neg (by rw [HZ.out]; exact h0), if_neg (by rw [HZ.out]; exact h2)]⟩
            clear h0 h2
            go_wp2_with (first | (go_at_call 42; with_reducible refine HFx.out.mono ?_; rintro e w1 ⟨rfl, rfl⟩) | (go_at_call 21; with_reducible refine HV.out.mono ?_; rintro e w1 ⟨rfl, rfl⟩))
            go_roundw
            case rel => exact ⟨k + 1, ps, a6, c6, L, a7, c7, by omega, by go_num, rfl, rfl, HL, HN, HO⟩
            case measure => simp [intOf]; omega
    · obtain rfl : k = gs.length := by omega
      have HE0 : Hid (giveM [] gs = (ps, true)) := by
        show _ = _
        rw [HS.out.2, List.drop_length]
        unfold giveM
        rfl
      have HS2 : Hid (PsI ps ∧ ∀ r e, RunsD cls ps r e → RunRel cls gs r e) := ⟨HS.out.1, fun r e h => .inr ⟨by rw [HE0.out], by rw [HE0.out]; exact h⟩⟩
      obtain ⟨N0, hN0⟩ : ∃ N0, opens cls ps = N0 := ⟨_, rfl⟩
      have HN0 : Hid (N0 = opens cls ps) := hN0.symm
      clear hN0 HS hlt hkl
      go_wp2_with fail
      go_loopg [6, 7] N0 (fun N lv av wr => ∃ (ps : List Int) (a6 : Option Addr) (c6 : Nat) (L : List Int) (a7 : Option Addr) (c7 : Nat), lv = .slice a6 ps.length c6 ∧ av = .slice a7 L.length c7 ∧ Hid (N = opens cls ps) ∧ Hid (L = vL ps) ∧ Hid (PsI ps ∧ ∀ r e, RunsD cls ps r e → RunRel cls gs r e) ∧ Hid (RowO wr w1.heap.size ps (.slice a6 ps.length c6) ∧ Row8 wr w1.heap.size L (.slice a7 L.length c7) ∧ Below w1.heap.size w1 wr))
      case atStart => exact ⟨ps, a6, c6, L, a7, c7, rfl, rfl, HN0, HL, HS2, HO⟩
      case round =>
        clear HN0 HL HS2 HO HE0
        rename World => wr
        rename ∃ _, _ => hrel
        obtain ⟨ps, a6, c6, L, a7, c7, rfl, rfl, HN, HL, HS, HO⟩ := hrel
        have HFi : Hid (∀ V st, Below wr.heap.size wr V → Calls Tryd.prog 44 #[.slice am M.length cm, .slice a7 L.length c7, .int .i8 st] V fun e w' => (∃ i l, e = .returned (.tuple #[.int .i64 i, .int .i64 l]) ∧ Hid (FiP (vL ps) M st i l)) ∧ Below V.heap.size V w') := fun V st hV => by
          have hval : ValR wr L a7 c7 := by have := HO.out.2.1; have e := HL.out; rw [e] at this ⊢; exact this.val
          refine (first_any M am cm L a7 c7 st V (HRM.out V (ball HO.out.2.2 hV)) (hval.below hV)).mono ?_
          rintro e w' ⟨⟨i, l, h1, h2⟩, h3⟩
          exact ⟨⟨i, l, h1, by have e := HL.out; rw [e] at h2; exact h2⟩, h3⟩
        have HF1 := Lib.hid (HFi.out wr 1 (Below.refl _ _))
        go_wp2_with fail
        with_reducible refine HF1.out.mono ?_
        rintro e w2 ⟨⟨i, l, rfl, HP1⟩, hb2⟩
        have HW2 := Lib.hid hb2
        clear hb2 HF1
        by_cases hi : 0 ≤ i
        · have d1 : decide (0 ≤ i) = true := decide_eq_true hi
          have HE : Hid (RunRel cls gs ps i) := HS.out.2 _ _ (fi_conf HP.out HS.out.1 HP1.out hi)
          have HI : Hid (IntsR w2 ps a6 c6) := (HRet.out wr ps a6 c6 HS.out.1 HO.out.1).below HW2.out
          clear hi
          go_wp2_with fail
          go_ret2
          exact ⟨ps, i, a6, c6, rfl, ⟨HE.out, HI.out⟩, HBw.out _ (ball HO.out.2.2 HW2.out)⟩
        · have d1 : decide (0 ≤ i) = false := decide_eq_false hi
          have HNc := Lib.hid (fi_noconf HP.out HS.out.1 HP1.out (by omega))
          have HF2 := Lib.hid (HFi.out w2 2 HW2.out)
          clear hi
          go_wp2_with fail
          with_reducible refine HF2.out.mono ?_
          rintro e w3 ⟨⟨i2, l2, rfl, HP2⟩, hb3⟩
          have HW3 : Hid (Below wr.heap.size wr w3) := ball HW2.out hb3
          clear hb3 HF2
          by_cases hi2 : i2 < 0
          · have d2 : decide (i2 < 0) = true := decide_eq_true hi2
            have HE : Hid (RunRel cls gs ps (-1)) := HS.out.2 _ _ (fi_done HP.out HS.out.1 HNc.out HP2.out hi2)
            have HI : Hid (IntsR w3 ps a6 c6) := (HRet.out wr ps a6 c6 HS.out.1 HO.out.1).below HW3.out
            clear hi2
            go_wp2_with fail
            go_ret2
            exact ⟨ps, -1, a6, c6, rfl, ⟨HE.out, HI.out⟩, HBw.out _ (ball HO.out.2.2 HW3.out)⟩
          · have d2 : decide (i2 < 0) = false := decide_eq_false hi2
            have HU := Lib.hid (fi_put HP.out HS.out.1 HNc.out HP2.out (by omega))
            have HO3 : Hid (RowO w3 w1.heap.size ps (.slice a6 ps.length c6) ∧ Row8 w3 w1.heap.size L (.slice a7 L.length c7) ∧ Below w1.heap.size w1 w3) := ⟨own_heap HO.out.1 (fun g _ hg => HW3.out.block g hg), own_heap HO.out.2.1 (fun g _ hg => HW3.out.block g hg), ball HO.out.2.2 HW3.out⟩
            have HPx := Lib.hid (HPut.out w3 ps L a7 c7 a6 c6 l2 HS.out.1 HL.out HU.out.1 HO3.out.1 HO3.out.2.1 HO3.out.2.2)
            have HS4 : Hid (PsI (ps ++ [l2]) ∧ ∀ r e, RunsD cls (ps ++ [l2]) r e → RunRel cls gs r e) := ⟨HS.out.1.put HU.out.1, fun r e h => HS.out.2 r e (HU.out.2.2 r e h)⟩
            have hpl : ps.length ≤ 1048577 := HS.out.1.len
            have HXi : Hid (I64 l2) := HPi.out _ HS4.out.1 l2 (by simp)
            have HRs : Hid (∀ V o, Below w1.heap.size w1 V → w1.heap.size ≤ (V.alloc o).heap.size) := fun V o h => by
              have := h.size
              rw [World.size_alloc]
              omega
            clear hi2
            go_wp2_with fail
            with_reducible refine HPx.out.mono ?_
            rintro e w5 ⟨L', a8, c8, rfl, HL', HO'⟩
            go_wp2_with (at_builtin; refine wpList_appB rfl _ _ rfl rfl w1.heap.size _ ps [l2] _ 1 (by rfl) (by rfl) (World.ownsRow.alloc HO'.out.1 _) (HIn.out _ _ HXi.out) (HRs.out _ _ HO'.out.2.2) (by show (_ + 1) * 8 ≤ _; omega) ?_; intro v4 w4 hr4 hg4; have HB4 : Hid (Below w1.heap.size w1 w4) := (HO'.out.2.2.alloc HO'.out.2.2.size _).grown hg4 (HRs.out _ _ HO'.out.2.2) (fun k e => (own_lt HO'.out.1 e).1); have HK4 : Hid (Row8 w4 w1.heap.size L' (.slice a8 L'.length c8)) := World.ownsRow.kept (World.ownsRow.alloc HO'.out.2.1 _) hg4 (own_ne HO'.out.2.1 HO'.out.1 (by decide)); obtain ⟨a4, c4, rfl, hi4⟩ := hr4.ints (HPi.out _ HS4.out.1); have HR4 : Hid (RowO w4 w1.heap.size (ps ++ [l2]) (.slice a4 (ps ++ [l2]).length c4) ∧ Row8 w4 w1.heap.size L' (.slice a8 L'.length c8) ∧ Below w1.heap.size w1 w4) := ⟨hr4, HK4.out, HB4.out⟩; clear hi4 hr4 hg4)
            go_roundg (opens cls (ps ++ [l2]))
            case measure => rw [HN.out]; exact HU.out.2.1
            case rel => exact ⟨ps ++ [l2], a4, c4, L', a8, c8, by rw [List.length_append]; rfl, rfl, rfl, HL', HS4, HR4⟩
end Go.Proofs.YtggighikemhnfaaDoor.Tm
