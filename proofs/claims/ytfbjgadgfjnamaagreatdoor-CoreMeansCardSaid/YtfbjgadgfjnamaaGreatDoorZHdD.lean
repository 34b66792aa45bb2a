/- The document's Sort, Fun, Macro and Free. -/
import Derived.Test.YtfbjgadgfjnamaaGreatDoorZHdC
namespace Go.Proofs.YtfbjgadgfjnamaaGreatDoor
open Go.RowKit
set_option linter.unusedVariables false
/-- Is it among them? -/
def hasN (l : List ByteArray) (s : ByteArray) : Bool := l.any (fun y => decide (y = s))
theorem hasN_yes {l : List ByteArray} {s y : ByteArray} {k : Nat} (h : l[k]? = some y) (he : y = s) : hasN l s = true :=
  List.any_eq_true.2 ⟨y, List.mem_of_getElem? h, decide_eq_true he⟩
theorem hasN_take {l : List ByteArray} {s y : ByteArray} {k : Nat} (h : l[k]? = some y) : hasN (l.take (k + 1)) s = (hasN (l.take k) s || decide (y = s)) := by
  unfold hasN
  rw [tk_snoc h, List.any_append]; simp
def sortQ (ss : List ByteArray) (s : ByteArray) : Bool := (s.toList == [66, 111, 111, 108]) || ((s.toList == [73, 110, 116]) || hasN ss s)
set_option maxRecDepth 100000 in
theorem RSort_any (x : SigV) (s : ByteArray) (q : Bool) (w : World) (hR : SigR w x) (hq : sortQ x.sorts s = q) :
    Calls Tryz.prog 132 #[.agg #[.slice x.sa x.sorts.length x.sc, .slice x.fa x.funs.length x.fc, .slice x.ma x.macs.length x.mc], .string s] w fun e w' => (∃ n : Int, e = .returned (.tuple #[.int .i64 n, .bool q])) ∧ Below w.heap.size w w' := by
  have HAt := Lib.hid hR.sat
  have hll := hR.sl
  have hmx := hR.sm
  have hlm : x.sorts.length ≤ 9223372036854775807 := by simp only [maxLen] at hmx; omega
  obtain ⟨ss, sa, sc, fs, fa, fc, ms, ma, mc⟩ := x
  simp only at hq HAt hll hmx hlm ⊢
  obtain ⟨W0, hW0⟩ : ∃ W0, W0 = w.alloc (.cells #[.slice sa ss.length sc, .slice fa fs.length fc, .slice ma ms.length mc] 26) := ⟨_, rfl⟩
  have HB0 : Hid (Below w.heap.size w W0) := by show Below _ _ _; rw [hW0]; exact (Below.refl _ w).alloc (Nat.le_refl _) _
  obtain ⟨x0, x1, x2, xz⟩ := sig_cells (show W0.heap[w.heap.size]? = some (.cells #[.slice sa ss.length sc, .slice fa fs.length fc, .slice ma ms.length mc] 26 (0, 0)) by rw [hW0]; exact heap_alloc_new w _)
  unfold sortQ at hq
  clear hR
  by_cases h1 : (s.toList == [66, 111, 111, 108]) = true
  · obtain rfl : q = true := by rw [← hq, h1]; rfl
    clear hq x0 x1 x2 xz
    go_enter Tryz.func132, Tryz.ntmps132
    go_wp2
    rw [← hW0]
    go_ret2
    exact ⟨⟨_, rfl⟩, HB0.out⟩
  rw [Bool.not_eq_true] at h1
  by_cases h2 : (s.toList == [73, 110, 116]) = true
  · obtain rfl : q = true := by rw [← hq, h1, h2]; rfl
    clear hq x0 x1 x2 xz
    go_enter Tryz.func132, Tryz.ntmps132
    go_wp2
    rw [← hW0]
    go_ret2
    exact ⟨⟨_, rfl⟩, HB0.out⟩
  rw [Bool.not_eq_true] at h2
  rw [h1, h2, Bool.false_or, Bool.false_or] at hq
  have HQ := Lib.hid hq
  clear hq
  go_enter Tryz.func132, Tryz.ntmps132
  go_wp2
  rw [← hW0]
  clear hW0 h1 h2
  go_loop [6] (fun i => ∃ k : Nat, k ≤ ss.length ∧ i = .int .i64 k ∧ Hid (hasN (ss.take k) s = false)) (fun i => ss.length - (intOf i).toNat)
  case atStart => exact ⟨0, Nat.zero_le _, rfl, by show _ = _; rw [List.take_zero]; rfl⟩
  case round =>
    obtain ⟨k, hk, rfl, HN⟩ := hrel
    by_cases hlt : k < ss.length
    · obtain ⟨y, hy⟩ : ∃ y, ss[k]? = some y := ⟨_, List.getElem?_eq_getElem hlt⟩
      obtain ⟨g, o, rfl, hg, hcell⟩ := HAt.out.below HB0.out (by rw [len_flat strC_len]; omega)
      have c0 := hcell _ _ ((get_flat strC_len ss k 0 y hy (by omega)).trans rfl)
      simp only [Nat.mul_one, Nat.add_zero] at c0
      have hgw : g < W0.heap.size := Nat.lt_of_lt_of_le hg HB0.out.size
      have HM := Lib.hid hy
      have hki : (k : Int) < (ss.length : Int) := by omega
      have hk0 : (0 : Int) ≤ (k : Int) := by omega
      clear hy hcell
      by_cases he : y = s
      · have e0 := tl_yes s
        have HF : Hid (q = true) := by show _ = _; rw [← HQ.out]; exact hasN_yes HM.out he
        rw [he] at c0
        clear he
        go_wp2
        go_ret2
        exact ⟨⟨_, ret_two rfl (val_bool HF.out.symm)⟩, HB0.out⟩
      · have e0 := tl_no he
        have HNX : Hid (hasN (ss.take (k + 1)) s = false) := by show _ = _; rw [hasN_take HM.out, HN.out, decide_eq_false he]; rfl
        clear he
        go_wp2
        go_round
        case rel => exact ⟨k + 1, by omega, by go_num, HNX⟩
        case measure => simp [intOf]; omega
    · obtain rfl : k = ss.length := by omega
      have HF : Hid (q = false) := by show _ = _; rw [← HQ.out]; have h := HN.out; rwa [List.take_length] at h
      go_wp2
      go_ret2
      exact ⟨⟨_, ret_two rfl (val_bool HF.out.symm)⟩, HB0.out⟩
set_option maxRecDepth 100000 in
theorem RFun_any (x : SigV) (s : ByteArray) (q : Bool) (w : World) (hR : SigR w x) (hq : hasN (x.funs.map (·.name)) s = q) :
    Calls Tryz.prog 133 #[.agg #[.slice x.sa x.sorts.length x.sc, .slice x.fa x.funs.length x.fc, .slice x.ma x.macs.length x.mc], .string s] w fun e w' => (∃ n : Int, e = .returned (.tuple #[.int .i64 n, .bool q])) ∧ Below w.heap.size w w' := by
  have HQ := Lib.hid hq
  have HAt := Lib.hid hR.fat
  have hll := hR.fl
  have hmx := hR.fm
  have hlm : x.funs.length ≤ 9223372036854775807 := by simp only [maxLen] at hmx; omega
  obtain ⟨ss, sa, sc, fs, fa, fc, ms, ma, mc⟩ := x
  simp only at HQ HAt hll hmx hlm ⊢
  obtain ⟨W0, hW0⟩ : ∃ W0, W0 = w.alloc (.cells #[.slice sa ss.length sc, .slice fa fs.length fc, .slice ma ms.length mc] 26) := ⟨_, rfl⟩
  have HB0 : Hid (Below w.heap.size w W0) := by show Below _ _ _; rw [hW0]; exact (Below.refl _ w).alloc (Nat.le_refl _) _
  obtain ⟨x0, x1, x2, xz⟩ := sig_cells (show W0.heap[w.heap.size]? = some (.cells #[.slice sa ss.length sc, .slice fa fs.length fc, .slice ma ms.length mc] 26 (0, 0)) by rw [hW0]; exact heap_alloc_new w _)
  clear hq hR
  go_enter Tryz.func133, Tryz.ntmps133
  go_wp2
  rw [← hW0]
  clear hW0
  go_loop [6] (fun i => ∃ k : Nat, k ≤ fs.length ∧ i = .int .i64 k ∧ Hid (hasN ((fs.map (·.name)).take k) s = false)) (fun i => fs.length - (intOf i).toNat)
  case atStart => exact ⟨0, Nat.zero_le _, rfl, by show _ = _; rw [List.take_zero]; rfl⟩
  case round =>
    obtain ⟨k, hk, rfl, HN⟩ := hrel
    by_cases hlt : k < fs.length
    · obtain ⟨y, hy⟩ : ∃ y, fs[k]? = some y := ⟨_, List.getElem?_eq_getElem hlt⟩
      obtain ⟨g, o, rfl, hg, hcell⟩ := HAt.out.below HB0.out (by rw [len_flat funC_len]; omega)
      have c0 := hcell _ _ ((get_flat funC_len fs k 0 y hy (by omega)).trans rfl)
      simp only [Nat.add_zero] at c0
      have hgw : g < W0.heap.size := Nat.lt_of_lt_of_le hg HB0.out.size
      have hm : (fs.map (·.name))[k]? = some y.name := by rw [List.getElem?_map, hy]; rfl
      have HM := Lib.hid hm
      have hki : (k : Int) < (fs.length : Int) := by omega
      have hk0 : (0 : Int) ≤ (k : Int) := by omega
      clear hy hcell hm
      by_cases he : y.name = s
      · have e0 := tl_yes s
        have HF : Hid (q = true) := by show _ = _; rw [← HQ.out]; exact hasN_yes HM.out he
        rw [he] at c0
        clear he
        go_wp2
        go_ret2
        exact ⟨⟨_, ret_two rfl (val_bool HF.out.symm)⟩, HB0.out⟩
      · have e0 := tl_no he
        have HNX : Hid (hasN ((fs.map (·.name)).take (k + 1)) s = false) := by show _ = _; rw [hasN_take HM.out, HN.out, decide_eq_false he]; rfl
        clear he
        go_wp2
        go_round
        case rel => exact ⟨k + 1, by omega, by go_num, HNX⟩
        case measure => simp [intOf]; omega
    · obtain rfl : k = fs.length := by omega
      have HF : Hid (q = false) := by show _ = _; rw [← HQ.out]; have h := HN.out; rwa [List.take_of_length_le (by rw [List.length_map]; omega)] at h
      go_wp2
      go_ret2
      exact ⟨⟨_, ret_two rfl (val_bool HF.out.symm)⟩, HB0.out⟩
set_option maxRecDepth 100000 in
theorem RMacro_any (x : SigV) (s : ByteArray) (q : Bool) (w : World) (hR : SigR w x) (hq : hasN (x.macs.map (·.m.name)) s = q) :
    Calls Tryz.prog 134 #[.agg #[.slice x.sa x.sorts.length x.sc, .slice x.fa x.funs.length x.fc, .slice x.ma x.macs.length x.mc], .string s] w fun e w' => (∃ n : Int, e = .returned (.tuple #[.int .i64 n, .bool q])) ∧ Below w.heap.size w w' := by
  have HQ := Lib.hid hq
  have HAt := Lib.hid hR.mat
  have hll := hR.ml
  have hmx := hR.mm
  have hlm : x.macs.length ≤ 9223372036854775807 := by simp only [maxLen] at hmx; omega
  obtain ⟨ss, sa, sc, fs, fa, fc, ms, ma, mc⟩ := x
  simp only at HQ HAt hll hmx hlm ⊢
  obtain ⟨W0, hW0⟩ : ∃ W0, W0 = w.alloc (.cells #[.slice sa ss.length sc, .slice fa fs.length fc, .slice ma ms.length mc] 26) := ⟨_, rfl⟩
  have HB0 : Hid (Below w.heap.size w W0) := by show Below _ _ _; rw [hW0]; exact (Below.refl _ w).alloc (Nat.le_refl _) _
  obtain ⟨x0, x1, x2, xz⟩ := sig_cells (show W0.heap[w.heap.size]? = some (.cells #[.slice sa ss.length sc, .slice fa fs.length fc, .slice ma ms.length mc] 26 (0, 0)) by rw [hW0]; exact heap_alloc_new w _)
  clear hq hR
  go_enter Tryz.func134, Tryz.ntmps134
  go_wp2
  rw [← hW0]
  clear hW0
  go_loop [6] (fun i => ∃ k : Nat, k ≤ ms.length ∧ i = .int .i64 k ∧ Hid (hasN ((ms.map (·.m.name)).take k) s = false)) (fun i => ms.length - (intOf i).toNat)
  case atStart => exact ⟨0, Nat.zero_le _, rfl, by show _ = _; rw [List.take_zero]; rfl⟩
  case round =>
    obtain ⟨k, hk, rfl, HN⟩ := hrel
    by_cases hlt : k < ms.length
    · obtain ⟨y, hy⟩ : ∃ y, ms[k]? = some y := ⟨_, List.getElem?_eq_getElem hlt⟩
      obtain ⟨g, o, rfl, hg, hcell⟩ := HAt.out.below HB0.out (by rw [len_flat macC_len]; omega)
      have c0 := hcell _ _ ((get_flat macC_len ms k 0 y hy (by omega)).trans rfl)
      simp only [Nat.add_zero] at c0
      have hgw : g < W0.heap.size := Nat.lt_of_lt_of_le hg HB0.out.size
      have hm : (ms.map (·.m.name))[k]? = some y.m.name := by rw [List.getElem?_map, hy]; rfl
      have HM := Lib.hid hm
      have hki : (k : Int) < (ms.length : Int) := by omega
      have hk0 : (0 : Int) ≤ (k : Int) := by omega
      clear hy hcell hm
      by_cases he : y.m.name = s
      · have e0 := tl_yes s
        have HF : Hid (q = true) := by show _ = _; rw [← HQ.out]; exact hasN_yes HM.out he
        rw [he] at c0
        clear he
        go_wp2
        go_ret2
        exact ⟨⟨_, ret_two rfl (val_bool HF.out.symm)⟩, HB0.out⟩
      · have e0 := tl_no he
        have HNX : Hid (hasN ((ms.map (·.m.name)).take (k + 1)) s = false) := by show _ = _; rw [hasN_take HM.out, HN.out, decide_eq_false he]; rfl
        clear he
        go_wp2
        go_round
        case rel => exact ⟨k + 1, by omega, by go_num, HNX⟩
        case measure => simp [intOf]; omega
    · obtain rfl : k = ms.length := by omega
      have HF : Hid (q = false) := by show _ = _; rw [← HQ.out]; have h := HN.out; rwa [List.take_of_length_le (by rw [List.length_map]; omega)] at h
      go_wp2
      go_ret2
      exact ⟨⟨_, ret_two rfl (val_bool HF.out.symm)⟩, HB0.out⟩
theorem nameB_of (s : ByteArray) : (decide (s.size ≤ 100) && s.data.toList.all inBar) = nameB s.data.toList := by
  unfold nameB
  have h : s.data.toList.length = s.size := by simp
  rw [h]
/-- What Free tells. -/
def freeQ (ss fs ms : List ByteArray) (s : ByteArray) (sort : Bool) : Int :=
  if nameB s.data.toList = true then (if resB s.data.toList = true then 31 else if sort = true then (if sortQ ss s = true then 32 else 0) else (if (hasN fs s || (hasN ms s || coreB s.data.toList)) = true then 32 else 0)) else 31
set_option maxRecDepth 100000 in
set_option maxHeartbeats 2000000 in
theorem RFree_any (x : SigV) (s : ByteArray) (sort : Bool) (r : Int) (w : World) (hR : SigR w x) (hs : s.size ≤ maxLen) (hr : freeQ x.sorts (x.funs.map (·.name)) (x.macs.map (·.m.name)) s sort = r) :
    Calls Tryz.prog 89 #[.agg #[.slice x.sa x.sorts.length x.sc, .slice x.fa x.funs.length x.fc, .slice x.ma x.macs.length x.mc], .string s, .bool sort] w fun e w' => e = .returned (.int .i64 r) ∧ Below w.heap.size w w' := by
  obtain ⟨W0, hW0⟩ : ∃ W0, W0 = w.alloc (.cells #[.slice x.sa x.sorts.length x.sc, .slice x.fa x.funs.length x.fc, .slice x.ma x.macs.length x.mc] 26) := ⟨_, rfl⟩
  have hB0 : Below w.heap.size w W0 := by rw [hW0]; exact (Below.refl _ w).alloc (Nat.le_refl _) _
  have HB0 := Lib.hid hB0
  have HX : Hid (∀ V, Below W0.heap.size W0 V → V.cell? ⟨w.heap.size, 0, none⟩ = some (.slice x.sa x.sorts.length x.sc) ∧ V.cell? ⟨w.heap.size, 1, none⟩ = some (.slice x.fa x.funs.length x.fc) ∧ V.cell? ⟨w.heap.size, 2, none⟩ = some (.slice x.ma x.macs.length x.mc) ∧ w.heap.size < V.heap.size) := fun V hV => by
    have h : W0.heap[w.heap.size]? = some (.cells #[.slice x.sa x.sorts.length x.sc, .slice x.fa x.funs.length x.fc, .slice x.ma x.macs.length x.mc] 26 (0, 0)) := by rw [hW0]; exact heap_alloc_new w _
    exact sig_cells ((hV.block _ (Array.getElem?_eq_some_iff.1 h).1).trans h)
  obtain ⟨qn, hqn⟩ : ∃ q, nameB s.data.toList = q := ⟨_, rfl⟩
  obtain ⟨qr, hqr⟩ : ∃ q, resB s.data.toList = q := ⟨_, rfl⟩
  obtain ⟨qs, hqs⟩ : ∃ q, sortQ x.sorts s = q := ⟨_, rfl⟩
  obtain ⟨qf, hqf⟩ : ∃ q, hasN (x.funs.map (·.name)) s = q := ⟨_, rfl⟩
  obtain ⟨qm, hqm⟩ : ∃ q, hasN (x.macs.map (·.m.name)) s = q := ⟨_, rfl⟩
  obtain ⟨qc, hqc⟩ : ∃ q, coreB s.data.toList = q := ⟨_, rfl⟩
  have HMy : Hid (∀ V, Calls Tryz.prog 130 #[.string s] V fun e w' => e = .returned (.bool qn) ∧ V = w') := fun V => MayR_any s qn V (by simp only [maxLen] at hs; omega) (by rw [← hqn]; exact nameB_of s)
  have HRs : Hid (∀ V, Calls Tryz.prog 131 #[.string s] V fun e w' => e = .returned (.bool qr) ∧ V = w') := fun V => by
    cases qr with
    | true => exact ResR_yes s V hqr
    | false => exact ResR_no s V hqr
  have HSo : Hid (∀ V, Below W0.heap.size W0 V → Calls Tryz.prog 132 #[.agg #[.slice x.sa x.sorts.length x.sc, .slice x.fa x.funs.length x.fc, .slice x.ma x.macs.length x.mc], .string s] V fun e w' => (∃ n : Int, e = .returned (.tuple #[.int .i64 n, .bool qs])) ∧ Below W0.heap.size W0 w') := fun V hV => (RSort_any x s qs V (hR.below (hB0.trans (hV.mono hB0.size))) hqs).mono fun e w' ⟨h1, h2⟩ => ⟨h1, hV.trans (h2.mono hV.size)⟩
  have HFu : Hid (∀ V, Below W0.heap.size W0 V → Calls Tryz.prog 133 #[.agg #[.slice x.sa x.sorts.length x.sc, .slice x.fa x.funs.length x.fc, .slice x.ma x.macs.length x.mc], .string s] V fun e w' => (∃ n : Int, e = .returned (.tuple #[.int .i64 n, .bool qf])) ∧ Below W0.heap.size W0 w') := fun V hV => (RFun_any x s qf V (hR.below (hB0.trans (hV.mono hB0.size))) hqf).mono fun e w' ⟨h1, h2⟩ => ⟨h1, hV.trans (h2.mono hV.size)⟩
  have HMa : Hid (∀ V, Below W0.heap.size W0 V → Calls Tryz.prog 134 #[.agg #[.slice x.sa x.sorts.length x.sc, .slice x.fa x.funs.length x.fc, .slice x.ma x.macs.length x.mc], .string s] V fun e w' => (∃ n : Int, e = .returned (.tuple #[.int .i64 n, .bool qm])) ∧ Below W0.heap.size W0 w') := fun V hV => (RMacro_any x s qm V (hR.below (hB0.trans (hV.mono hB0.size))) hqm).mono fun e w' ⟨h1, h2⟩ => ⟨h1, hV.trans (h2.mono hV.size)⟩
  have HCo : Hid (∀ V, Calls Tryz.prog 135 #[.string s] V fun e w' => e = .returned (.bool qc) ∧ V = w') := fun V => Core_is s qc V hqc
  have hr2 : (if qn = true then (if qr = true then (31 : Int) else if sort = true then (if qs = true then 32 else 0) else (if (qf || (qm || qc)) = true then 32 else 0)) else 31) = r := by
    rw [← hr]; unfold freeQ; rw [hqn, hqr, hqs, hqf, hqm, hqc]
  obtain ⟨t0, t1, t2, tz⟩ := HX.out _ (Below.refl _ _)
  clear hR hr hqn hqr hqs hqf hqm hqc hB0 hs
  cases qn with
  | false =>
    obtain rfl : 31 = r := hr2
    go_enter Tryz.func89, Tryz.ntmps89
    go_wp2_with (first | (go_at_call 130; rw [← hW0]; clear hW0; refine (HMy.out _).mono ?_; rintro e w1 ⟨rfl, rfl⟩))
    go_ret
    exact ⟨rfl, HB0.out⟩
  | true =>
  cases qr with
  | true =>
    obtain rfl : 31 = r := hr2
    go_enter Tryz.func89, Tryz.ntmps89
    go_wp2_with (first | (go_at_call 130; rw [← hW0]; clear hW0; refine (HMy.out _).mono ?_; rintro e w1 ⟨rfl, rfl⟩) | (go_at_call 131; refine (HRs.out _).mono ?_; rintro e w1 ⟨rfl, rfl⟩))
    go_ret
    exact ⟨rfl, HB0.out⟩
  | false =>
  cases sort with
  | true =>
    cases qs
    all_goals
      first | (obtain rfl : 32 = r := hr2) | (obtain rfl : 0 = r := hr2)
      go_enter Tryz.func89, Tryz.ntmps89
      go_wp2_with (first | (go_at_call 130; rw [← hW0]; clear hW0; refine (HMy.out _).mono ?_; rintro e w1 ⟨rfl, rfl⟩) | (go_at_call 131; refine (HRs.out _).mono ?_; rintro e w1 ⟨rfl, rfl⟩) | (go_at_call 132; refine (HSo.out _ (Below.refl _ _)).mono ?_; rintro e w2 ⟨⟨n2, rfl⟩, hb2⟩))
      go_ret
      exact ⟨rfl, HB0.out.trans (hb2.mono HB0.out.size)⟩
  | false =>
    cases qf
    all_goals cases qm
    all_goals cases qc
    all_goals
      first | (obtain rfl : 32 = r := hr2) | (obtain rfl : 0 = r := hr2)
      go_enter Tryz.func89, Tryz.ntmps89
      go_wp2_with (first | (go_at_call 130; rw [← hW0]; clear hW0; refine (HMy.out _).mono ?_; rintro e w1 ⟨rfl, rfl⟩) | (go_at_call 131; refine (HRs.out _).mono ?_; rintro e w1 ⟨rfl, rfl⟩) | (go_at_call 132; refine (HSo.out _ (Below.refl _ _)).mono ?_; rintro e w2 ⟨⟨n2, rfl⟩, hb2⟩; have HB2 := Lib.hid hb2; clear hb2 t0 t1 t2 tz; obtain ⟨t0, t1, t2, tz⟩ := HX.out _ HB2.out) | (go_at_call 133; refine (HFu.out _ HB2.out).mono ?_; rintro e w3 ⟨⟨n3, rfl⟩, hb3⟩; have HB3 := Lib.hid hb3; clear hb3 t0 t1 t2 tz; obtain ⟨t0, t1, t2, tz⟩ := HX.out _ HB3.out) | (go_at_call 134; refine (HMa.out _ HB3.out).mono ?_; rintro e w4 ⟨⟨n4, rfl⟩, hb4⟩; have HB4 := Lib.hid hb4; clear hb4 t0 t1 t2 tz; obtain ⟨t0, t1, t2, tz⟩ := HX.out _ HB4.out) | (go_at_call 135; refine (HCo.out _).mono ?_; rintro e w5 ⟨rfl, rfl⟩))
      go_ret
      exact ⟨rfl, HB0.out.trans (HB4.out.mono HB0.out.size)⟩
end Go.Proofs.YtfbjgadgfjnamaaGreatDoor
