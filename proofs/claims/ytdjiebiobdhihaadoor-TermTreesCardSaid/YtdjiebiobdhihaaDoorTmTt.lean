/- The law TermTrees, walked. -/
import Derived.Test.YtdjiebiobdhihaaDoorTmX
import Derived.Deep.RegionHeld3
import Derived.BigQuiet
namespace Go.Proofs.YtdjiebiobdhihaaDoor
open Go.RowKit
set_option linter.unusedVariables false
theorem TabR.arg {w : World} {l : List NodeA} {a : Option Addr} {c i k : Nat} {n : NodeA} (h : TabR w l a c) (hi : l[i]? = some n) (hk : k < 3) {g o : Nat} (ha : a = some ⟨g, o, none⟩) : w.cell? ⟨g, o + i * 8 + 2 + k, none⟩ = some (.int .i64 (argA n k)) := by
  obtain ⟨g', o', e, _, _, _, h2, h3, h4, _⟩ := h.node hi
  rw [ha] at e
  cases e
  match k, hk with
  | 0, _ => exact h2
  | 1, _ => exact h3
  | 2, _ => exact h4
theorem wrap_small {x : Int} (h : 0 ≤ x) (h2 : x ≤ 10000000000) : wrap64 x = x := by unfold wrap64; omega
theorem kwrap_small {x : Int} (h : 0 ≤ x) (h2 : x ≤ 10000000000) : IntKind.i64.wrap x = x := by rw [IntKind.wrap_i64]; omega
theorem trees_fin {l : List NodeA} {n : NodeA} {i k : Nat} {s m : Int} (hk : n.len.toNat = k) (hs : sumT l n k = s) (hm : maxD l n k = m) (ht : treeV l i = min (sumT l n n.len.toNat) 1073741824 ∧ 1 ≤ sumT l n n.len.toNat ∧ sumT l n n.len.toNat ≤ 4000000000) (hd : depthV l i = maxD l n n.len.toNat + 1 ∧ 0 ≤ maxD l n n.len.toNat ∧ maxD l n n.len.toNat ≤ 2000 ∧ depthV l i ≤ i + 1) :
    treeV l i = min s 1073741824 ∧ depthV l i = m + 1 ∧ 1 ≤ s ∧ 0 ≤ m ∧ m ≤ 2000 ∧ m ≤ i := by
  rw [hk, hs] at ht
  rw [hk, hm] at hd
  exact ⟨ht.1, hd.1, ht.2.1, hd.2.1, hd.2.2.1, by have := hd.2.2.2; rw [hd.1] at this; omega⟩
theorem min_is {s : Int} (h : s ≤ 1073741824) : min s 1073741824 = s := by omega
theorem min_isnt {s : Int} (h : ¬ s ≤ 1073741824) : min s 1073741824 = 1073741824 := by omega
set_option maxRecDepth 100000 in
set_option maxHeartbeats 8000000 in
theorem TermTrees_c (w : World) (l : List NodeA) (a : Option Addr) (c : Nat) (hA : TabR w l a c) (hG : GT w) :
    Calls Tryd.prog 5 #[.agg #[.slice a l.length c]] w fun e w' => e = .returned (.bool true) ∧ Below w.heap.size w w' := by
  have hlm : l.length ≤ 9223372036854775807 := by have h1 := hA.le; have h2 := hA.cap; simp only [maxLen] at h2; omega
  have hle := hA.le
  obtain ⟨W0, hW0⟩ : ∃ W0, W0 = w.alloc (.cells #[.slice a l.length c] 24) := ⟨_, rfl⟩
  have hB0 : Below w.heap.size w W0 := by rw [hW0]; exact (Below.refl _ w).alloc (Nat.le_refl _) _
  have hsz : W0.heap.size = w.heap.size + 1 := by rw [hW0]; simp
  have hX0 : W0.heap[w.heap.size]? = some (.cells #[.slice a l.length c] 24 (0, 0)) := by rw [hW0]; exact heap_alloc_new w _
  have HWk : Hid (∀ V, Below w.heap.size w V → Calls Tryd.prog 9 #[] V fun e w' => e = .returned (.bool true) ∧ Below V.heap.size V w') := fun V hV => wakes_any V (hG.below hV)
  have HA := Lib.hid hA
  have HB0 := Lib.hid hB0
  have HX0 := Lib.hid hX0
  have HXX : Hid (∀ V, Below W0.heap.size W0 V → V.cell? ⟨w.heap.size, 0, none⟩ = some (.slice a l.length c) ∧ w.heap.size < V.heap.size) := fun V hV => by
    have e0 := (hV.block _ (by omega)).trans hX0
    exact ⟨(cell_of_row _ _ 0 _ _ _ e0).trans rfl, (Array.getElem?_eq_some_iff.1 e0).1⟩
  obtain ⟨x0, xz⟩ := HXX.out _ (Below.refl _ _)
  cases hgr : decide (300 < l.length) with
  | true =>
    have HGr : Hid (Calls Tryd.prog 7 #[.agg #[.slice a l.length c]] W0 fun e w' => e = .returned (.bool true) ∧ Below W0.heap.size W0 w') := Great_any l a c true W0 hlm hgr
    clear hgr hA hB0 hX0 hsz hG
    go_enter Tryd.func5, Tryd.ntmps5
    go_wp2_with (first | (go_at_call 7; rw [← hW0]; clear hW0; refine HGr.out.mono ?_; rintro e w1 ⟨rfl, hb1⟩; have HB1 : Hid (Below w.heap.size w w1) := HB0.out.trans (hb1.mono HB0.out.size)) | (go_at_call 9; refine (HWk.out _ HB1.out).mono ?_; rintro e w2 ⟨rfl, hb2⟩))
    go_ret
    exact ⟨rfl, HB1.out.trans (hb2.mono HB1.out.size)⟩
  | false =>
  have HGr : Hid (Calls Tryd.prog 7 #[.agg #[.slice a l.length c]] W0 fun e w' => e = .returned (.bool false) ∧ Below W0.heap.size W0 w') := Great_any l a c false W0 hlm hgr
  have hl3 : l.length ≤ 300 := by have := of_decide_eq_false hgr; omega
  cases hm : mayT l with
  | false =>
    have HCk : Hid (∀ V, Below w.heap.size w V → Calls Tryd.prog 8 #[.agg #[.slice a l.length c]] V fun e w' => e = .returned (.int .i64 2) ∧ Below V.heap.size V w') := fun V hV => RCheck_any l a c 2 V (hA.below hV) (by omega) (by rw [hm]; rfl)
    clear hgr hA hB0 hX0 hsz hG hm
    go_enter Tryd.func5, Tryd.ntmps5
    go_wp2_with (first | (go_at_call 7; rw [← hW0]; clear hW0; refine HGr.out.mono ?_; rintro e w1 ⟨rfl, hb1⟩; have HB1 : Hid (Below w.heap.size w w1) := HB0.out.trans (hb1.mono HB0.out.size); clear x0 xz; obtain ⟨x0, xz⟩ := HXX.out _ hb1) | (go_at_call 8; refine (HCk.out _ HB1.out).mono ?_; rintro e w2 ⟨rfl, hb2⟩; have HB2 : Hid (Below w.heap.size w w2) := HB1.out.trans (hb2.mono HB1.out.size)) | (go_at_call 9; refine (HWk.out _ HB2.out).mono ?_; rintro e w3 ⟨rfl, hb3⟩))
    go_ret
    exact ⟨rfl, HB2.out.trans (hb3.mono HB2.out.size)⟩
  | true =>
  have HCk : Hid (∀ V, Below w.heap.size w V → Calls Tryd.prog 8 #[.agg #[.slice a l.length c]] V fun e w' => e = .returned (.int .i64 0) ∧ Below V.heap.size V w') := fun V hV => RCheck_any l a c 0 V (hA.below hV) (by omega) (by rw [hm]; rfl)
  have HT : Hid (∀ V q r, Below w.heap.size w V → q < l.length → treeV l q = r → Calls Tryd.prog 16 #[.agg #[.slice a l.length c], .int .i64 (q : Nat)] V fun e w' => e = .returned (.int .i64 r) ∧ Below V.heap.size V w') := fun V q r hV hq hr => Tree_any l a c q r V (hA.below hV) hq (by omega) hr
  have HD : Hid (∀ V q r, Below w.heap.size w V → q < l.length → depthV l q = r → Calls Tryd.prog 17 #[.agg #[.slice a l.length c], .int .i64 (q : Nat)] V fun e w' => e = .returned (.int .i64 r) ∧ Below V.heap.size V w') := fun V q r hV hq hr => Depth_any l a c q r V (hA.below hV) hq (by omega) hr
  have HOK := Lib.hid (mayT_ok hm).2
  clear hgr hA hB0 hX0 hsz hG hm
  go_enter Tryd.func5, Tryd.ntmps5
  go_wp2_with (first | (go_at_call 7; rw [← hW0]; clear hW0; refine HGr.out.mono ?_; rintro e w1 ⟨rfl, hb1⟩; have HB1 : Hid (Below w.heap.size w w1) := HB0.out.trans (hb1.mono HB0.out.size); clear x0 xz; obtain ⟨x0, xz⟩ := HXX.out _ hb1) | (go_at_call 8; refine (HCk.out _ HB1.out).mono ?_; rintro e w2 ⟨rfl, hb2⟩; have HB2 : Hid (Below w.heap.size w w2) := HB1.out.trans (hb2.mono HB1.out.size); have HC2 : Hid (Below W0.heap.size W0 w2) := hb1.trans (hb2.mono hb1.size); clear x0 xz; obtain ⟨x0, xz⟩ := HXX.out _ HC2.out))
  clear x0 xz hb1 hb2
  go_loopw [18] (fun i wr => ∃ k : Nat, k ≤ l.length ∧ i = .int .i64 k ∧ Hid (Below w.heap.size w wr) ∧ Hid (Below W0.heap.size W0 wr)) (fun i _ => l.length - (intOf i).toNat)
  case atStart => exact ⟨0, Nat.zero_le _, rfl, HB2, HC2⟩
  case round =>
    obtain ⟨i, hil, rfl, HW, HV⟩ := hrel
    by_cases hlt : i < l.length
    rotate_left
    · obtain rfl : i = l.length := by omega
      go_wp2_with (go_at_call 9; refine (HWk.out _ HW.out).mono ?_; rintro e w3 ⟨rfl, hb3⟩)
      go_ret
      exact ⟨rfl, HW.out.trans (hb3.mono HW.out.size)⟩
    obtain ⟨n, hn⟩ : ∃ n, l[i]? = some n := ⟨_, List.getElem?_eq_getElem hlt⟩
    obtain ⟨g, o, rfl, hg, _⟩ := HA.out.node hn
    obtain ⟨hs1, hs2, hs3, hs4⟩ := below_stands (ok_at HOK.out hn).1
    have HTo := Lib.hid (tree_of HOK.out hn)
    have HDo := Lib.hid (depth_of HOK.out (by omega) hn)
    have HSt := Lib.hid hs3
    have hno := HA.out.ok n (List.mem_of_getElem? hn)
    obtain ⟨p3, p4⟩ := hno.len
    have HN := Lib.hid hn
    obtain ⟨x0, xz⟩ := HXX.out _ HV.out
    clear hs3 hs4 hn hno
    go_wp2
    clear x0 xz
    go_loopw [4, 5, 6] (fun vn vd vk wr => ∃ k : Nat, (k : Int) ≤ n.len ∧ vk = .int .i64 k ∧ vn = .int .i64 (sumT l n k) ∧ vd = .int .i64 (maxD l n k) ∧ Hid (Below w.heap.size w wr) ∧ Hid (Below W0.heap.size W0 wr)) (fun _ _ vk _ => 3 - (intOf vk).toNat)
    case atStart => exact ⟨0, by omega, rfl, rfl, rfl, HW, HV⟩
    case round =>
      obtain ⟨k, hkl, rfl, rfl, rfl, HW, HV⟩ := hrel
      obtain ⟨x0, xz⟩ := HXX.out _ HV.out
      have hTA := HA.out.below HW.out
      obtain ⟨g', o', he, hg', _, q1, _⟩ := hTA.node HN.out
      cases he
      obtain ⟨s, hs⟩ : ∃ s, sumT l n k = s := ⟨_, rfl⟩
      obtain ⟨m, hmd⟩ : ∃ m, maxD l n k = m := ⟨_, rfl⟩
      rw [hs, hmd]
      by_cases hk : (k : Int) < n.len
      · obtain ⟨ha0, ha1⟩ := HSt.out k hk
        obtain ⟨q, hq⟩ : ∃ q : Nat, argA n k = q := ⟨(argA n k).toNat, by omega⟩
        have hc := hTA.arg HN.out (k := k) (by omega) rfl
        rw [hq] at hc
        have hql : q < l.length := by omega
        obtain ⟨tv, htv⟩ : ∃ tv, treeV l q = tv := ⟨_, rfl⟩
        obtain ⟨dv, hdv⟩ : ∃ dv, depthV l q = dv := ⟨_, rfl⟩
        have hsb := (tree_fold l n (fun j => tree_bd HOK.out (j + 1) j (by omega)) k (by omega)).2
        have hmb := (depth_fold l n (fun j => by have := depth_bd HOK.out (by omega) (j + 1) j (by omega); omega) k (by omega)).2
        have htb := tree_bd HOK.out (q + 1) q (by omega)
        have hdb := depth_bd HOK.out (by omega) (q + 1) q (by omega)
        rw [hs] at hsb
        rw [hmd] at hmb
        rw [htv] at htb
        rw [hdv] at hdb
        have hw0 : wrap64 (s + tv) = s + tv := wrap_small (by omega) (by omega)
        have hw1 : IntKind.i64.wrap (s + tv) = s + tv := kwrap_small (by clear hw0; omega) (by clear hw0; omega)
        have HS1 : Hid (sumT l n (k + 1) = s + tv) := by show _ = _; simp only [sumT]; rw [hs, hq, Int.toNat_natCast, htv]
        have HM1 : Hid (maxD l n (k + 1) = max m dv) := by show _ = _; simp only [maxD]; rw [hmd, hq, Int.toNat_natCast, hdv]
        have HT1 : Hid (∀ V, Below w.heap.size w V → Calls Tryd.prog 16 #[.agg #[.slice (some ⟨g, o, none⟩) l.length c], .int .i64 q] V fun e w' => e = .returned (.int .i64 tv) ∧ Below V.heap.size V w') := fun V hV => HT.out V q tv hV hql htv
        have HD1 : Hid (∀ V, Below w.heap.size w V → Calls Tryd.prog 17 #[.agg #[.slice (some ⟨g, o, none⟩) l.length c], .int .i64 q] V fun e w' => e = .returned (.int .i64 dv) ∧ Below V.heap.size V w') := fun V hV => HD.out V q dv hV hql hdv
        have hkl2 : (k : Int) ≤ 2 := by omega
        have hk2 : k ≤ 2 := by omega
        have hk3 : (k : Int) < 3 := by omega
        have hk0 : (0 : Int) ≤ (k : Int) := by omega
        have hwk : IntKind.i64.wrap ((k : Int) + 1) = (k : Int) + 1 := by rw [IntKind.wrap_i64]; omega
        clear hs hmd hq htv hdv hTA hsb htb ha0 ha1
        have H0 : Hid (wr.cell? ⟨w.heap.size, 0, none⟩ = some (.slice (some ⟨g, o, none⟩) l.length c) ∧ wr.cell? ⟨g, o + i * 8 + 2 + k, none⟩ = some (.int .i64 q)) := ⟨x0, hc⟩
        go_wp2
        go_region_held3 (fun W => W.cell? ⟨w.heap.size, 0, none⟩ = some (.slice (some ⟨g, o, none⟩) l.length c) ∧ W.cell? ⟨g, o + i * 8 + 2 + k, none⟩ = some (.int .i64 q))
          (first | exact H0.out | exact ⟨(hc1 _ _ xz).trans H0.out.1, (hc1 _ _ hg').trans H0.out.2⟩ | go_keep)
          (first | (go_at_call 16; refine (HT1.out _ (by first | exact HW.out.drew | exact HW.out)).mono ?_; rintro e w3 ⟨rfl, hb3⟩; obtain ⟨hc1, hf1⟩ := bcell hb3))
        have HW3 : Hid (Below w.heap.size w w3) := HW.out.drew.trans (hb3.mono HW.out.size)
        have HV3 : Hid (Below W0.heap.size W0 w3) := HV.out.drew.trans (hb3.mono HV.out.size)
        have H3 : Hid (w3.cell? ⟨w.heap.size, 0, none⟩ = some (.slice (some ⟨g, o, none⟩) l.length c) ∧ w3.cell? ⟨g, o + i * 8 + 2 + k, none⟩ = some (.int .i64 q)) := ⟨(hc1 _ _ xz).trans H0.out.1, (hc1 _ _ hg').trans H0.out.2⟩
        have xz3 : w.heap.size < w3.heap.size := Nat.lt_of_lt_of_le xz hb3.size
        have hg3 : g < w3.heap.size := Nat.lt_of_lt_of_le hg' hb3.size
        clear hc1 hf1 hb3 H0 x0 xz hg' hc q1
        by_cases hmx : dv ≤ m
        · have hm1 : ¬ m < dv := by omega
          have hm2 : max m dv = m := by omega
          go_wp2_with fail
          go_region_held3 (fun W => W.cell? ⟨w.heap.size, 0, none⟩ = some (.slice (some ⟨g, o, none⟩) l.length c) ∧ W.cell? ⟨g, o + i * 8 + 2 + k, none⟩ = some (.int .i64 q))
            (first | exact H3.out | exact ⟨(hc1 _ _ xz3).trans H3.out.1, (hc1 _ _ hg3).trans H3.out.2⟩ | go_keep)
            (first | (go_at_call 17; refine (HD1.out _ (by first | exact HW3.out.drew | exact HW3.out)).mono ?_; rintro e w4 ⟨rfl, hb4⟩; obtain ⟨hc1, hf1⟩ := bcell hb4))
          go_wp2_with fail
          have HW4 : Hid (Below w.heap.size w w4) := HW3.out.drew.trans (hb4.mono HW3.out.size)
          have HV4 : Hid (Below W0.heap.size W0 w4) := HV3.out.drew.trans (hb4.mono HV3.out.size)
          go_roundw
          case rel => exact ⟨k + 1, by omega, by go_num, val_int HS1.out.symm, val_int (by rw [HM1.out]; (try split) <;> omega), HW4, HV4⟩
          case measure => simp [intOf]; omega
        · have hm1 : m < dv := by omega
          have hm2 : max m dv = dv := by omega
          have hm3 : m ≤ dv := by omega
          go_wp2_with fail
          go_region_held3 (fun W => W.cell? ⟨w.heap.size, 0, none⟩ = some (.slice (some ⟨g, o, none⟩) l.length c) ∧ W.cell? ⟨g, o + i * 8 + 2 + k, none⟩ = some (.int .i64 q))
            (first | exact H3.out | exact ⟨(hc1 _ _ xz3).trans H3.out.1, (hc1 _ _ hg3).trans H3.out.2⟩ | go_keep)
            (first | (go_at_call 17; refine (HD1.out _ (by first | exact HW3.out.drew | exact HW3.out)).mono ?_; rintro e w4 ⟨rfl, hb4⟩; obtain ⟨hc1, hf1⟩ := bcell hb4))
          go_wp2_with fail
          have HW4 : Hid (Below w.heap.size w w4) := HW3.out.drew.trans (hb4.mono HW3.out.size)
          have HV4 : Hid (Below W0.heap.size W0 w4) := HV3.out.drew.trans (hb4.mono HV3.out.size)
          go_roundw
          case rel => exact ⟨k + 1, by omega, by go_num, val_int HS1.out.symm, val_int (by rw [HM1.out]; (try split) <;> omega), HW4, HV4⟩
          case measure => simp [intOf]; omega
      · have hkn : n.len.toNat = k := by omega
        obtain ⟨t1, d1, t2, d2, d3, hmi2⟩ := trees_fin hkn hs hmd HTo.out HDo.out
        have HD1 : Hid (∀ V, Below w.heap.size w V → Calls Tryd.prog 17 #[.agg #[.slice (some ⟨g, o, none⟩) l.length c], .int .i64 i] V fun e w' => e = .returned (.int .i64 (m + 1)) ∧ Below V.heap.size V w') := fun V hV => HD.out V i (m + 1) hV hlt d1
        have hmi : m + 1 ≤ (i : Int) + 1 := Int.add_le_add_right hmi2 1
        have hwm : wrap64 (m + 1) = m + 1 := wrap_small (Int.add_nonneg d2 (by decide)) (Int.le_trans (Int.add_le_add_right d3 1) (by decide))
        have hwi : wrap64 ((i : Int) + 1) = (i : Int) + 1 := wrap_small (by clear hwm hmi hmi2; omega) (by clear hwm hmi hmi2; omega)
        have hnm := ne_f (a := m + 1) rfl
        clear hs hmd hTA hkn d1
        by_cases hms : s ≤ 1073741824
        · have hmn := min_is hms
          have HT1 : Hid (∀ V, Below w.heap.size w V → Calls Tryd.prog 16 #[.agg #[.slice (some ⟨g, o, none⟩) l.length c], .int .i64 i] V fun e w' => e = .returned (.int .i64 s) ∧ Below V.heap.size V w') := fun V hV => HT.out V i s hV hlt (by rw [t1, hmn])
          have hns := ne_f (a := s) rfl
          clear t1 hmn
          go_wp2_with (first | (go_at_call 16; refine (HT1.out _ HW.out).mono ?_; rintro e w3 ⟨rfl, hb3⟩; have HW3 : Hid (Below w.heap.size w w3) := HW.out.trans (hb3.mono HW.out.size); have HV3 : Hid (Below W0.heap.size W0 w3) := HV.out.trans (hb3.mono HV.out.size); clear x0 xz; obtain ⟨x0, xz⟩ := HXX.out _ HV3.out) | (go_at_call 17; fail))
          refine (HD1.out _ HW3.out).mono ?_
          rintro e w4 ⟨rfl, hb4⟩
          have HW4 : Hid (Below w.heap.size w w4) := HW3.out.trans (hb4.mono HW3.out.size)
          have HV4 : Hid (Below W0.heap.size W0 w4) := HV3.out.trans (hb4.mono HV3.out.size)
          clear x0 xz hb3 hb4
          obtain ⟨x0, xz⟩ := HXX.out _ HV4.out
          go_wp2_with (fail)
          refine (HD1.out _ HW4.out).mono ?_
          rintro e w5 ⟨rfl, hb5⟩
          have HW5 : Hid (Below w.heap.size w w5) := HW4.out.trans (hb5.mono HW4.out.size)
          have HV5 : Hid (Below W0.heap.size W0 w5) := HV4.out.trans (hb5.mono HV4.out.size)
          clear hb5 hwm hnm d2 d3 t2 hms x0 xz
          go_wp2_with (fail)
          go_roundw
          case rel => exact ⟨i + 1, by omega, by go_num, HW5, HV5⟩
          case measure => simp [intOf]; omega
        · have hmn := min_isnt hms
          have HT1 : Hid (∀ V, Below w.heap.size w V → Calls Tryd.prog 16 #[.agg #[.slice (some ⟨g, o, none⟩) l.length c], .int .i64 i] V fun e w' => e = .returned (.int .i64 1073741824) ∧ Below V.heap.size V w') := fun V hV => HT.out V i 1073741824 hV hlt (by rw [t1, hmn])
          have hns : 1073741824 < s := Int.not_le.1 hms
          clear t1 hmn
          go_wp2_with (first | (go_at_call 16; refine (HT1.out _ HW.out).mono ?_; rintro e w3 ⟨rfl, hb3⟩; have HW3 : Hid (Below w.heap.size w w3) := HW.out.trans (hb3.mono HW.out.size); have HV3 : Hid (Below W0.heap.size W0 w3) := HV.out.trans (hb3.mono HV.out.size); clear x0 xz; obtain ⟨x0, xz⟩ := HXX.out _ HV3.out) | (go_at_call 17; fail))
          refine (HD1.out _ HW3.out).mono ?_
          rintro e w4 ⟨rfl, hb4⟩
          have HW4 : Hid (Below w.heap.size w w4) := HW3.out.trans (hb4.mono HW3.out.size)
          have HV4 : Hid (Below W0.heap.size W0 w4) := HV3.out.trans (hb4.mono HV3.out.size)
          clear x0 xz hb3 hb4
          obtain ⟨x0, xz⟩ := HXX.out _ HV4.out
          go_wp2_with (fail)
          refine (HD1.out _ HW4.out).mono ?_
          rintro e w5 ⟨rfl, hb5⟩
          have HW5 : Hid (Below w.heap.size w w5) := HW4.out.trans (hb5.mono HW4.out.size)
          have HV5 : Hid (Below W0.heap.size W0 w5) := HV4.out.trans (hb5.mono HV4.out.size)
          clear hb5 hwm hnm d2 d3 t2 hms x0 xz
          go_wp2_with (fail)
          go_roundw
          case rel => exact ⟨i + 1, by omega, by go_num, HW5, HV5⟩
          case measure => simp [intOf]; omega
end Go.Proofs.YtdjiebiobdhihaaDoor
