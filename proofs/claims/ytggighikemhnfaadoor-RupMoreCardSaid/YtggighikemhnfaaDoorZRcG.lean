/- RupMore. -/
import Derived.Test.YtggighikemhnfaaDoorZRcF
namespace Go.Proofs.YtggighikemhnfaaDoor.Tm
open Go.RowKit
set_option linter.unusedVariables false
theorem core_len {cls : List (List Int)} {c : List Int} : ∀ n K, (coreF cls c n K).length ≤ n + K.length
  | 0, K => by unfold coreF; omega
  | n + 1, K => by
    unfold coreF
    split
    · have := core_len (cls := cls) (c := c) n K
      omega
    · have := core_len (cls := cls) (c := c) n (n :: K)
      rw [List.length_cons] at this
      omega
theorem CoreP.facts {cls : List (List Int)} {c : List Int} {P : List Nat} (h : CoreP cls c P) (hF : Fol cls c) : Fol (sel cls P) c ∧ P.Pairwise (· < ·) ∧ (∀ x ∈ P, x < cls.length) ∧ P.length ≤ cls.length := by
  rcases h with ⟨h1, _⟩ | ⟨_, rfl⟩
  · exact absurd hF h1
  · obtain ⟨h2, h3, h4⟩ := core_inv (cls := cls) (c := c) cls.length [] (Nat.le_refl _) (hF.mono (fun d hd => List.mem_append_left _ (by rw [List.take_of_length_le (Nat.le_refl _)]; exact hd))) (fun x hx => by cases hx) List.Pairwise.nil
    exact ⟨h2, h3, h4, by simpa using core_len (cls := cls) (c := c) cls.length []⟩
set_option maxRecDepth 100000 in
set_option maxHeartbeats 4000000 in
theorem RupMore_c (w : World) (rs : List RowD) (a : Option Addr) (c : Nat) (hR : RowsR w rs a c) (ms : List RowD) (a' : Option Addr) (c' : Nat) (hS : RowsR w ms a' c') (xs : List Int) (b : Option Addr) (d : Nat) (hA : IntsR w xs b d) (hG : GC w) :
    Calls Tryd.prog 8 #[.slice a rs.length c, .slice a' ms.length c', .slice b xs.length d] w fun e w' => e = .returned (.bool true) ∧ Below w.heap.size w w' := by
  obtain ⟨cls, hcl⟩ : ∃ cls, rs.map (·.xs) = cls := ⟨_, rfl⟩
  have HCl := Lib.hid hcl
  have HLt : Hid (cls.length = rs.length) := by show cls.length = _; rw [← hcl, List.length_map]
  have HWk : Hid (∀ V, Below w.heap.size w V → Calls Tryd.prog 23 #[] V fun e w' => e = .returned (.bool true) ∧ Hid (Below w.heap.size w w')) := fun V hV => (wakes17_any V (hG.below hV)).mono fun e w' ⟨h1, h2⟩ => ⟨h1, ball hV h2⟩
  have HG1 : Hid (Calls Tryd.prog 22 #[.slice a rs.length c] w fun e w' => GrP e (rs.length ≤ 80 ∧ ∀ y ∈ rs, y.xs.length ≤ 20) ∧ w = w') := RGreat_any rs a c w hR
  have HG2 : Hid (Calls Tryd.prog 22 #[.slice a' ms.length c'] w fun e w' => GrP e (ms.length ≤ 80 ∧ ∀ y ∈ ms, y.xs.length ≤ 20) ∧ w = w') := RGreat_any ms a' c' w hS
  have HG3 : Hid (Calls Tryd.prog 22 #[.slice (some ⟨w.heap.size, 0, none⟩) 1 1] (w.alloc (.cells #[.slice b xs.length d] 23)) fun e w' => GrP e (xs.length ≤ 20) ∧ (w.alloc (.cells #[.slice b xs.length d] 23)) = w') := by
    refine (RGreat_any [⟨xs, b, d⟩] (some ⟨w.heap.size, 0, none⟩) 1 _ (lits_row ⟨xs, b, d⟩ hA)).mono ?_
    rintro e w' ⟨⟨q, h1, h2⟩, h3⟩
    exact ⟨⟨q, h1, fun e => (h2 e).2 ⟨xs, b, d⟩ (by simp)⟩, h3⟩
  have HFo : Hid (∀ V M am cm, Below w.heap.size w V → RowsR V M am cm → M.length ≤ 200 → (∀ y ∈ M, y.xs.length ≤ 20) → xs.length ≤ 20 → Calls Tryd.prog 24 #[.slice am M.length cm, .slice b xs.length d] V fun e w' => (∃ q : Bool, e = .returned (.bool q) ∧ (q = true ↔ Fol (M.map (·.xs)) xs)) ∧ Hid (Below V.heap.size V w')) := fun V M am cm hV hM hl hy hx => (Follows_any M am cm xs b d _ V rfl (hG.below hV) hM (hA.below hV) (by omega) (by have := flat_sum hy; omega) (by omega)).mono fun e w' ⟨h1, h2⟩ => ⟨h1, h2⟩
  have HCo : Hid (∀ V, Below w.heap.size w V → rs.length ≤ 80 → (∀ y ∈ rs, y.xs.length ≤ 20) → xs.length ≤ 20 → Calls Tryd.prog 31 #[.slice a rs.length c, .slice b xs.length d] V fun e w' => ∃ (P : List Nat) (a' : Option Addr) (c' : Nat), e = .returned (.slice a' P.length c') ∧ Hid (CoreP cls xs P ∧ IntsR w' (P.map (fun i : Nat => (i : Int))) a' c' ∧ Below w.heap.size w w')) := fun V hV h1 h2 h3 => by
    refine (Core_any rs a c xs b d cls V hcl (hG.below hV) (hR.below hV) (hA.below hV) (by omega) (fun y hy => by have := h2 y hy; omega) (by omega)).mono ?_
    rintro e w' ⟨P, a1, c1, h4, h5⟩
    exact ⟨P, a1, c1, h4, h5.out.1, h5.out.2.1, ball hV h5.out.2.2⟩
  have HNg : Hid (∀ V, Below w.heap.size w V → xs.length ≤ 20 → Calls Tryd.prog 35 #[.slice b xs.length d] V fun e w' => ∃ M a' c', e = .returned (.slice a' M.length c') ∧ Hid (M = gsF xs ∧ IntsR w' M a' c') ∧ Hid (Below w.heap.size w w')) := fun V hV h => (negs17_any xs b d V (hA.below hV) (by omega)).mono fun e w' ⟨M, a1, c1, h1, h2, h3⟩ => ⟨M, a1, c1, h1, h2, ball hV h3.out⟩
  have HRc : Hid (∀ V M a1 c1, Below w.heap.size w V → rs.length ≤ 80 → (∀ y ∈ rs, y.xs.length ≤ 20) → M = gsF xs → IntsR V M a1 c1 → Calls Tryd.prog 18 #[.slice a rs.length c, .slice a1 M.length c1] V fun e w' => (∃ q : Bool, e = .returned (.bool q) ∧ (q = true ↔ Fol cls xs)) ∧ Hid (Below w.heap.size w w')) := fun V M a1 c1 hV h1 h2 hM hI => by
    refine (RCloses_any rs a c M a1 c1 cls V hcl (hR.below hV) hI (by omega) (fun y hy => by have := h2 y hy; omega)).mono ?_
    rintro e w' ⟨⟨r, k, q, h3, h4, h5⟩, h6⟩
    subst hM
    refine ⟨⟨q, h4, ?_⟩, ball hV h6⟩
    rw [fol_gsF h3, h5]
    simp
  have HR : Hid (∀ V, Below w.heap.size w V → RowsR V rs a c) := fun V hV => hR.below hV
  have HS : Hid (∀ V, Below w.heap.size w V → RowsR V ms a' c') := fun V hV => hS.below hV
  have HB0 : Hid (Below w.heap.size w w) := Below.refl _ _
  have HBA : Hid (Below w.heap.size w (w.alloc (.cells #[.slice b xs.length d] 23))) := (Below.refl _ w).alloc (Nat.le_refl _) _
  have l1 : rs.length ≤ c := hR.le
  have l2 : c ≤ 9223372036854775807 := by have := hR.cap; simp only [maxLen] at this; omega
  clear hR hS hA hG hcl
  go_enter Tryd.func8, Tryd.ntmps8
  go_wp2_with fail
  with_reducible refine HG1.out.mono ?_
  rintro e w5 ⟨⟨q, rfl, hq⟩, rfl⟩
  cases q with
  | true =>
    clear hq
    go_wp2_with (first | (go_at_call 23; with_reducible refine (HWk.out _ HB0.out).mono ?_; rintro e wz ⟨rfl, HBz⟩))
    go_ret
    exact ⟨rfl, HBz.out⟩
  | false =>
    have HS1 : Hid (rs.length ≤ 80 ∧ ∀ y ∈ rs, y.xs.length ≤ 20) := hq rfl
    clear hq HG1
    go_wp2_with fail
    with_reducible refine HG2.out.mono ?_
    rintro e w5 ⟨⟨q, rfl, hq⟩, rfl⟩
    cases q with
    | true =>
      clear hq
      go_wp2_with (first | (go_at_call 23; with_reducible refine (HWk.out _ HB0.out).mono ?_; rintro e wz ⟨rfl, HBz⟩))
      go_ret
      exact ⟨rfl, HBz.out⟩
    | false =>
      have HS2 : Hid (ms.length ≤ 80 ∧ ∀ y ∈ ms, y.xs.length ≤ 20) := hq rfl
      clear hq HG2
      go_wp2_with fail
      with_reducible refine HG3.out.mono ?_
      rintro e w5 ⟨⟨q, rfl, hq⟩, rfl⟩
      cases q with
      | true =>
        clear hq
        go_wp2_with (first | (go_at_call 23; with_reducible refine (HWk.out _ HBA.out).mono ?_; rintro e wz ⟨rfl, HBz⟩))
        go_ret
        exact ⟨rfl, HBz.out⟩
      | false =>
        have HS3 : Hid (xs.length ≤ 20) := hq rfl
        clear hq HG3
        have HF1 := Lib.hid (HFo.out _ rs a c HBA.out (HR.out _ HBA.out) (by have := HS1.out.1; omega) HS1.out.2 HS3.out)
        go_wp2_with fail
        with_reducible refine HF1.out.mono ?_
        rintro e w2 ⟨⟨q, rfl, hq⟩, HB2⟩
        have HW2 : Hid (Below w.heap.size w w2) := ball HBA.out HB2.out
        rw [HCl.out] at hq
        clear HF1
        have HC1 := Lib.hid (HCo.out w2 HW2.out HS1.out.1 HS1.out.2 HS3.out)
        cases q with
        | false =>
          have hnF : ¬ Fol cls xs := fun h => by have := hq.2 h; cases this
          clear hq
          go_wp2_with fail
          with_reducible refine HC1.out.mono ?_
          rintro e w3 ⟨P, a3, c3, rfl, HX3⟩
          obtain rfl : P = [] := HX3.out.1.elim (fun h => h.2) (fun h => absurd h.1 hnF)
          clear hnF HC1
          go_wp2_with (first | (go_at_call 23; with_reducible refine (HWk.out _ HX3.out.2.2).mono ?_; rintro e wz ⟨rfl, HBz⟩))
          go_ret
          exact ⟨rfl, HBz.out⟩
        | true =>
          have HF : Hid (Fol cls xs) := hq.1 rfl
          clear hq
          go_wp2_with fail
          with_reducible refine HC1.out.mono ?_
          rintro e w3 ⟨P, a3, c3, rfl, HX3⟩
          clear HC1
          have HPf := Lib.hid (HX3.out.1.facts HF.out)
          have hPl : P.length ≤ 80 := by have := HPf.out.2.2.2; have := HLt.out; have := HS1.out.1; omega
          have hrl : rs.length ≤ 80 := HS1.out.1
          have HI : Hid (∀ V, Below w3.heap.size w3 V → IntsR V (P.map (fun i : Nat => (i : Int))) a3 c3) := fun V hV => HX3.out.2.1.below hV
          have p1 : P.length ≤ c3 := by have := HX3.out.2.1.le; rw [List.length_map] at this; exact this
          have p2 : c3 ≤ 9223372036854775807 := by have := HX3.out.2.1.cap; simp only [maxLen] at this; omega
          have HBw : Hid (∀ V, Below w3.heap.size w3 V → Below w.heap.size w V) := fun V hV => ball HX3.out.2.2 hV
          have HM0 : Hid (([] : List RowD) = (P.take 0).filterMap (fun i => rs[i]?) ∧ ∀ i : Nat, P[0]? = some i → (-1 : Int) < (i : Int)) := ⟨by simp, fun i _ => by omega⟩
          have HO0 : Hid (RowsO w3 w3.heap.size [] (.slice none 0 0) ∧ Below w3.heap.size w3 w3) := ⟨⟨rfl, .inl ⟨rfl, rfl⟩⟩, Below.refl _ _⟩
          go_wp2_with fail
          go_loopw [7, 8, 39] (fun mv lv iv wr => ∃ (k : Nat) (M : List RowD) (am : Option Addr) (cm : Nat) (la : Int), k ≤ P.length ∧ iv = .int .i64 k ∧ mv = .slice am M.length cm ∧ lv = .int .i64 la ∧ Hid (M = (P.take k).filterMap (fun i => rs[i]?) ∧ ∀ i : Nat, P[k]? = some i → la < (i : Int)) ∧ Hid (RowsO wr w3.heap.size M (.slice am M.length cm) ∧ Below w3.heap.size w3 wr)) (fun _ _ iv _ => P.length - (intOf iv).toNat)
          case atStart => exact ⟨0, [], none, 0, -1, Nat.zero_le _, rfl, rfl, rfl, HM0, HO0⟩
          case round =>
            clear HM0 HO0
            obtain ⟨k, M, am, cm, la, hkl, rfl, rfl, rfl, HM, HO⟩ := hrel
            have hMk : M.length ≤ 80 := by
              have := List.length_filterMap_le (fun i => rs[i]?) (P.take k)
              rw [← HM.out.1, List.length_take] at this
              omega
            by_cases hlt : k < P.length
            · obtain ⟨i, hi⟩ : ∃ i, P[k]? = some i := ⟨_, List.getElem?_eq_getElem hlt⟩
              have hil : i < rs.length := by have := HPf.out.2.2.1 i (List.mem_of_getElem? hi); have := HLt.out; omega
              have hla := HM.out.2 i hi
              have d1 : decide ((i : Int) ≤ la) = false := decide_eq_false (by omega)
              have d2 : decide ((rs.length : Int) ≤ (i : Int)) = false := decide_eq_false (by omega)
              have hil2 : (i : Int) < (rs.length : Int) := by omega
              have hlt2 : (k : Int) < (P.length : Int) := by omega
              obtain ⟨y, hy⟩ : ∃ y, rs[i]? = some y := ⟨_, List.getElem?_eq_getElem hil⟩
              obtain ⟨g3, o3, ha3, hg3, q3⟩ := (HI.out wr HO.out.2).cell (k := k) (x := (i : Int)) (by rw [List.getElem?_map, hi]; rfl)
              have hRr := HR.out wr (HBw.out _ HO.out.2)
              obtain ⟨g, o, ha, hg, q0⟩ := hRr.cell hy
              have HMn : Hid (M ++ [y] = (P.take (k + 1)).filterMap (fun i => rs[i]?) ∧ ∀ j : Nat, P[k + 1]? = some j → (i : Int) < (j : Int)) := by
                refine ⟨?_, fun j hj => ?_⟩
                · rw [List.take_add_one, hi, List.filterMap_append, ← HM.out.1]
                  simp [hy]
                · have h1 := (List.getElem?_eq_some_iff.1 hi)
                  have h2 := (List.getElem?_eq_some_iff.1 hj)
                  have h3 := List.pairwise_iff_getElem.1 HPf.out.2.1 k (k + 1) h1.1 h2.1 (by omega)
                  rw [h1.2, h2.2] at h3
                  omega
              have hLr : RowsR (wr.alloc (.cells #[.slice y.a y.xs.length y.c] 23)) [y] (some ⟨wr.heap.size, 0, none⟩) 1 := lits_row y (hRr.ok y (List.mem_of_getElem? hy))
              have hOa : RowsO (wr.alloc (.cells #[.slice y.a y.xs.length y.c] 23)) w3.heap.size M (.slice am M.length cm) := World.ownsRow.alloc HO.out.1 _
              have hza : w3.heap.size ≤ (wr.alloc (.cells #[.slice y.a y.xs.length y.c] 23)).heap.size := by have := HO.out.2.size; simp; omega
              clear hi hy hla hRr hil
              subst ha
              subst ha3
              go_wp2_with (at_builtin; refine wpList_appR rfl _ _ rfl rfl w3.heap.size _ M [y] (some ⟨wr.heap.size, 0, none⟩) 1 (by rfl) (by rfl) hOa hLr hza (by simp; omega) ?_; intro v9 w9 ho9 hg9; have hL9 : Hid (M.length + 1 = (M ++ [y]).length) := (by show _ = _; simp); have HB9 : Hid (Below w3.heap.size w3 w9) := (HO.out.2.alloc HO.out.2.size (.cells #[.slice y.a y.xs.length y.c] 23)).grown hg9 hza (fun k e => (own_lt hOa e).1); obtain ⟨M9, hM9⟩ : ∃ M9, M ++ [y] = M9 := ⟨_, rfl⟩; rw [hM9] at ho9 HMn; obtain ⟨a9, c9, rfl, _⟩ := own_at ho9; have HO9 : Hid (RowsO w9 w3.heap.size M9 (.slice a9 M9.length c9) ∧ Below w3.heap.size w3 w9) := ⟨ho9, HB9.out⟩; clear ho9 hg9 hOa hLr hza hM9)
              go_roundw
              case rel => exact ⟨k + 1, M9, a9, c9, i, by omega, by go_num, rfl, rfl, HMn, HO9⟩
              case measure => simp [intOf]; omega
            · obtain rfl : k = P.length := by omega
              have HMe : Hid (M = P.filterMap (fun i => rs[i]?)) := by show _ = _; have h := HM.out.1; rw [List.take_of_length_le (Nat.le_refl _)] at h; exact h
              have HWr : Hid (Below w.heap.size w wr) := HBw.out _ HO.out.2
              have HSm : Hid (∀ V, Below wr.heap.size wr V → RowsR V M am cm) := fun V hV => (RowsO.rows HO.out.1 (fun y hy => (HR.out _ HWr.out).ok y (sel_sub y (HMe.out ▸ hy)))).below hV
              have HMy : Hid (∀ y ∈ M, y.xs.length ≤ 20) := fun y hy => HS1.out.2 y (sel_sub y (HMe.out ▸ hy))
              obtain ⟨M2, hM2⟩ : ∃ M2, ms ++ rs = M2 := ⟨_, rfl⟩
              have HM2 := Lib.hid hM2
              have hro := rows_zero wr
              have hRm : RowsR (wr.alloc (.cells #[] 23)) ms a' c' := HS.out _ (HWr.out.alloc HWr.out.size _)
              have hml : ms.length ≤ 80 := HS2.out.1
              clear hM2
              go_wp2_with (first
                | (at_builtin; refine wpList_appR rfl _ _ rfl rfl wr.heap.size _ [] ms a' c' (by rfl) (by rfl) hro hRm (by simp) (by simp; omega) ?_; intro v4 w4 ho4 hg4; rw [List.nil_append] at ho4; have HB4 : Hid (Below wr.heap.size wr w4) := ((Below.refl _ wr).alloc (Nat.le_refl _) (.cells #[] 23)).grown hg4 (by simp) (fun k e => by cases e; exact Nat.le_refl _); obtain ⟨a4, c4, rfl, _⟩ := own_at ho4; have HO4 : Hid (RowsO w4 wr.heap.size ms (.slice a4 ms.length c4)) := ho4; have hRr4 : RowsR w4 rs a c := HR.out _ (ball HWr.out HB4.out); clear ho4 hg4 hro hRm)
                | (at_builtin; refine wpList_appR rfl _ _ rfl rfl wr.heap.size _ ms rs a c (by rfl) (by rfl) HO4.out hRr4 HB4.out.size (by omega) ?_; intro v6 w6 ho6 hg6; rw [HM2.out] at ho6; have HB6 : Hid (Below wr.heap.size wr w6) := HB4.out.grown hg6 HB4.out.size (fun k e => (own_lt HO4.out e).1); obtain ⟨a6, c6, rfl, _⟩ := own_at ho6; have HO6 : Hid (RowsO w6 wr.heap.size M2 (.slice a6 M2.length c6)) := ho6; clear ho6 hg6 hRr4 HO4))
              have HW6 : Hid (Below w.heap.size w w6) := ball HWr.out HB6.out
              have hR6 : RowsR w6 M2 a6 c6 := RowsO.rows HO6.out (fun y hy => by rw [← HM2.out] at hy; exact (List.mem_append.1 hy).elim ((HS.out _ HW6.out).ok y) ((HR.out _ HW6.out).ok y))
              have HF2 := Lib.hid (HFo.out w6 M2 a6 c6 HW6.out hR6 (by rw [← HM2.out, List.length_append]; omega) (fun y hy => by rw [← HM2.out] at hy; exact (List.mem_append.1 hy).elim (HS2.out.2 y) (HS1.out.2 y)) HS3.out)
              clear hR6
              with_reducible refine HF2.out.mono ?_
              rintro e w7 ⟨⟨q, rfl, hq⟩, HB7⟩
              obtain rfl : q = true := hq.2 (HF.out.mono (fun x hx => by rw [← HM2.out, List.map_append, HCl.out]; exact List.mem_append_right _ hx))
              have HR7 : Hid (Below wr.heap.size wr w7) := HB6.out.trans (HB7.out.mono HB6.out.size)
              have HF3 := Lib.hid (HFo.out w7 M am cm (ball HWr.out HR7.out) (HSm.out _ HR7.out) (by omega) HMy.out HS3.out)
              clear hq HF2
              go_wp2_with fail
              with_reducible refine HF3.out.mono ?_
              rintro e w8 ⟨⟨q, rfl, hq⟩, HB8⟩
              obtain rfl : q = true := hq.2 (by rw [HMe.out, sel_map HCl.out]; exact HPf.out.1)
              have HW8 : Hid (Below w.heap.size w w8) := ball (ball HWr.out HR7.out) HB8.out
              have HN8 := Lib.hid (HNg.out w8 HW8.out HS3.out)
              clear hq HF3
              go_wp2_with fail
              with_reducible refine HN8.out.mono ?_
              rintro e w9 ⟨N, an, cn, rfl, HXn, HW9⟩
              have HC9 := Lib.hid (HRc.out w9 N an cn HW9.out HS1.out.1 HS1.out.2 HXn.out.1 HXn.out.2)
              clear HN8
              go_wp2_with fail
              with_reducible refine HC9.out.mono ?_
              rintro e w10 ⟨⟨q, rfl, hq⟩, HW10⟩
              obtain rfl : q = true := hq.2 HF.out
              clear hq HC9
              go_wp2_with (first | (go_at_call 23; with_reducible refine (HWk.out _ HW10.out).mono ?_; rintro e wz ⟨rfl, HBz⟩))
              go_ret
              exact ⟨rfl, HBz.out⟩
end Go.Proofs.YtggighikemhnfaaDoor.Tm
