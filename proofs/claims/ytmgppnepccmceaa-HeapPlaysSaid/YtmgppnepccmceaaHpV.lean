/- HeapPuts. -/
import Derived.Test.YtmgppnepccmceaaHpU
namespace Go.Proofs.Ytmgppnepccmceaa
open Go.RowKit
set_option linter.unusedVariables false
theorem turn_at (turn : Int) (n : Nat) (h0 : 0 < n) (h6 : n ≤ 300) : ∃ k : Nat, (wrap64 (turn.tmod ↑n + ↑n)).tmod ↑n = (k : Int) ∧ k < n := by
  have h1 := Int.natAbs_tmod turn n
  have h2 : turn.natAbs % (n : Int).natAbs < n := by rw [Int.natAbs_natCast]; exact Nat.mod_lt _ h0
  rw [← h1] at h2
  generalize turn.tmod ↑n = t at h2
  have h3 : wrap64 (t + n) = t + n := by unfold wrap64; omega
  rw [h3, Int.tmod_eq_emod_of_nonneg (by omega)]
  have h4 := Int.emod_nonneg (t + n) (show (n : Int) ≠ 0 by omega)
  have h5 := Int.emod_lt_of_pos (t + n) (show (0 : Int) < n by omega)
  exact ⟨((t + n) % n).toNat, by omega, by omega⟩
theorem rot1_at (k n : Nat) (hk : k < n) : ((k : Int) + 1).tmod (n : Int) = (((k + 1) % n : Nat) : Int) ∧ (k + 1) % n < n := by
  refine ⟨?_, Nat.mod_lt _ (by omega)⟩
  rw [Int.tmod_eq_emod_of_nonneg (by omega)]
  simp
/-- A node put. -/
theorem putS_in (s : St) {k : Nat} (hk : k < s.A.length) : (putS s k).A = s.A ∧ k ∈ (putS s k).S := by
  unfold putS
  by_cases h : k ∈ s.S
  · rw [if_neg (fun e => e.2.2 h)]; exact ⟨rfl, h⟩
  · rw [if_pos ⟨by omega, by omega, h⟩]
    refine ⟨rfl, ?_⟩
    show k ∈ s.S ++ [k]
    simp
theorem putS_old (s : St) {k : Nat} (hk : k ∈ s.S) : putS s k = s := by
  unfold putS
  rw [if_neg (fun e => e.2.2 hk)]
theorem halfS_getD (s : St) (x : Nat) : (halfS s).A.getD x 0 = s.A.getD x 0 / 2 := by
  show (s.A.map (· / 2)).getD x 0 = _
  rw [List.getD_eq_getElem?_getD, List.getD_eq_getElem?_getD, List.getElem?_map]
  cases s.A[x]? <;> rfl
/-- Behind two halvings and a bump above all. -/
def topS (s : St) (k : Nat) : St := bumpS (halfS (halfS s)) k 1099511627776
theorem topS_is (s : St) {k : Nat} (hk : k < s.A.length) (hact : ∀ a ∈ s.A, 0 ≤ a ∧ a ≤ 1099511627776) : topS s k = ⟨(halfS (halfS s)).A.set k 1099511627776, s.S⟩ := by
  have hl : (halfS (halfS s)).A.length = s.A.length := by show (halfA (halfA s.A)).length = _; rw [halfA_len, halfA_len]
  have h0 := getD_act hact k
  unfold topS bumpS
  rw [if_pos ⟨by omega, by rw [hl]; omega, by omega, by omega⟩]
  have : min ((halfS (halfS s)).A.getD (k : Int).toNat 0 + 1099511627776) 1099511627776 = 1099511627776 := by
    rw [show (k : Int).toNat = k from rfl, halfS_getD, halfS_getD]
    omega
  rw [this]
  rfl
theorem topS_first (s : St) {k : Nat} (hk : k ∈ s.S) (hl : ∀ x ∈ s.S, x < s.A.length) (h3 : s.A.length ≤ 300) (hact : ∀ a ∈ s.A, 0 ≤ a ∧ a ≤ 1099511627776) : bestN (topS s k).A (topS s k).S = some k := by
  have hkA := hl k hk
  have hln : (halfS (halfS s)).A.length = s.A.length := by show (halfA (halfA s.A)).length = _; rw [halfA_len, halfA_len]
  rw [topS_is s hkA hact]
  refine best_is (fun x hx => by have := hl x hx; omega) hk (fun y hy => ?_)
  rw [key_set (by rw [hln]; exact hkA), key_set (by rw [hln]; exact hkA), if_pos rfl]
  by_cases e : y = k
  · rw [if_pos e]; exact Int.le_refl _
  · rw [if_neg e]
    unfold keyA
    rw [halfS_getD, halfS_getD]
    have := getD_act hact y
    have := hl y hy
    omega
theorem topS_act (s : St) {k j : Nat} (hk : k < s.A.length) (hact : ∀ a ∈ s.A, 0 ≤ a ∧ a ≤ 1099511627776) : actV (topS s k).A k = 1099511627776 ∧ (j ≠ k → actV (topS s k).A j = s.A.getD j 0 / 4) := by
  have hln : (halfS (halfS s)).A.length = s.A.length := by show (halfA (halfA s.A)).length = _; rw [halfA_len, halfA_len]
  rw [topS_is s hk hact]
  unfold actV
  refine ⟨?_, fun e => ?_⟩
  · rw [if_pos (by omega)]
    show ((halfS (halfS s)).A.set k 1099511627776).getD k 0 = _
    rw [getD_set (by rw [hln]; exact hk), if_pos rfl]
  · rw [if_pos (by omega)]
    show ((halfS (halfS s)).A.set k 1099511627776).getD j 0 = _
    rw [getD_set (by rw [hln]; exact hk), if_neg e, halfS_getD, halfS_getD]
    omega
set_option maxRecDepth 100000 in
set_option maxHeartbeats 1000000 in
theorem HeapPuts_w (w : World) (n : Int) (hn : I64 n) (az : List ActA) (a : Option Addr) (c : Nat) (hA : ActsR w az a c) (x : Int) (hx : I64 x) :
    Calls Try.prog 6 #[.int .i64 n, .slice a az.length c, .int .i64 x] w fun e w' => e = .returned (.bool true) ∧ Below w.heap.size w w' := by
  have HWk := Lib.hid (wakes_any w)
  have hle := hA.le
  have hcm : c ≤ 9223372036854775807 := by have := hA.cap; simp only [maxLen] at this; omega
  obtain ⟨l, hl⟩ : ∃ l, az.length = l := ⟨_, rfl⟩
  have HLL := Lib.hid hl
  rw [hl] at hle ⊢
  have HA := Lib.hid hA
  clear hA hl
  by_cases h1 : 300 < l
  · have h1i : (300 : Int) < (l : Int) := by omega
    go_enter Try.func6, Try.ntmps6
    go_wp2_with fail
    with_reducible refine HWk.out.mono ?_
    rintro e w1 ⟨rfl, hb⟩
    go_wp2
    go_ret
    exact ⟨rfl, hb⟩
  · have h1i : ¬ (300 : Int) < (l : Int) := by omega
    by_cases h2 : n < 1
    · go_enter Try.func6, Try.ntmps6
      go_wp2_with fail
      with_reducible refine HWk.out.mono ?_
      rintro e w1 ⟨rfl, hb⟩
      go_wp2
      go_ret
      exact ⟨rfl, hb⟩
    · by_cases h3 : 300 < n
      · go_enter Try.func6, Try.ntmps6
        go_wp2_with fail
        with_reducible refine HWk.out.mono ?_
        rintro e w1 ⟨rfl, hb⟩
        go_wp2
        go_ret
        exact ⟨rfl, hb⟩
      · obtain ⟨m, rfl⟩ : ∃ m : Nat, n = (m : Int) := ⟨n.toNat, by omega⟩
        have CB : Hid (Calls Try.prog 28 #[.int .i64 m, .slice a l c] w fun e w' => BehindP m az w e w') := by
          have := behind_any m az a c w (by omega) (by rw [HLL.out]; omega) HA.out
          rw [HLL.out] at this
          exact this
        have hm0 : 0 < m := by omega
        have hm3 : m ≤ 300 := by omega
        obtain ⟨k, hk, hkm⟩ := turn_at x m hm0 hm3
        obtain ⟨hj, hjm⟩ := rot1_at k m hkm
        obtain ⟨j, hje⟩ : ∃ j, (k + 1) % m = j := ⟨_, rfl⟩
        rw [hje] at hj hjm
        have hmz : ((m : Int) == 0) = false := by simp; omega
        have hmn : ¬ (m : Int) = 0 := by omega
        clear HWk hje
        go_enter Try.func6, Try.ntmps6
        go_wp2_with fail
        with_reducible refine CB.out.mono ?_
        rintro e w1 ⟨h, t, nb, ib, rfl, q1, o1, o2, o3, o4, hb1⟩
        obtain ⟨s, hs⟩ : ∃ s, runS (s0 m) az = s := ⟨_, rfl⟩
        rw [hs] at q1
        have hsA : s.A.length = m := by rw [← hs]; exact runS_len _ _
        have C1 := Put_q q1 k
        rw [hsA, show faultV m (k : Int) = 0 by unfold faultV; rw [if_pos ⟨by omega, by omega⟩]] at C1
        have HC1 := Lib.hid C1
        have HO := Lib.hid (show w.heap.size ≤ t ∧ w.heap.size ≤ nb ∧ w.heap.size ≤ ib ∧ Below w.heap.size w w1 from ⟨o2, o3, o4, hb1⟩)
        clear CB hs q1 o1 o2 o3 o4 hb1 C1
        go_wp2_with fail
        with_reducible refine HC1.out.mono ?_
        rintro e w2 ⟨rfl, HW2⟩
        obtain ⟨s1, hs1⟩ : ∃ s1, putS s k = s1 := ⟨_, rfl⟩
        have hin := putS_in s (k := k) (by omega)
        rw [hs1] at HW2 hin
        obtain ⟨_, hSA, hA3, hSl, hact⟩ := HW2.out.1.lt
        have hkS := hin.2
        have hA1 : s1.A.length = m := by rw [hin.1, hsA]
        have HP : Hid (k ∈ s1.S ∧ (∀ x ∈ s1.S, x < s1.A.length) ∧ s1.A.length ≤ 300 ∧ (∀ a ∈ s1.A, 0 ≤ a ∧ a ≤ 1099511627776) ∧ s1.A.length = m) := ⟨hkS, hSA, hA3, hact, hA1⟩
        obtain ⟨z, hz⟩ : ∃ z, s1.S.length = z := ⟨_, rfl⟩
        have HZ := Lib.hid hz
        have hzp : 0 < z := by rw [← hz]; exact List.length_pos_of_mem hkS
        have hz3 : z ≤ 300 := by omega
        have L1 := Len_q HW2.out.1
        rw [hz] at L1
        have HL1 := Lib.hid L1
        have P2 := Put_q HW2.out.1 k
        rw [hA1, show faultV m (k : Int) = 0 by unfold faultV; rw [if_pos ⟨by omega, by omega⟩], putS_old s1 hkS] at P2
        have HP2 := Lib.hid P2
        clear hs1 hin hSA hA3 hSl hact hkS hA1 hz L1 P2 hsA HC1
        go_wp2_with fail
        with_reducible refine HL1.out.mono ?_
        rintro e w3 ⟨rfl, rfl⟩
        go_wp2_with fail
        with_reducible refine HP2.out.mono ?_
        rintro e w4 ⟨rfl, HW4⟩
        have L2 := Len_q HW4.out.1
        rw [show s1.S.length = z from HZ.out] at L2
        have HL2 := Lib.hid L2
        have HH2 := Lib.hid (Has_q HW4.out.1 (k : Int) (r := true) (by unfold hasV; exact decide_eq_true ⟨by omega, HP.out.1⟩))
        obtain ⟨v, hv⟩ : ∃ v, s1.A.getD j 0 = v := ⟨_, rfl⟩
        have hv0 := getD_act HP.out.2.2.2.1 j
        rw [hv] at hv0
        have HA2 := Lib.hid (Act_q HW4.out.1 (j : Int) (r := v) (by unfold actV; rw [if_pos (by omega)]; exact hv))
        have HHa := Lib.hid (Halve_q HW4.out.1)
        clear L2
        go_wp2_with fail
        with_reducible refine HL2.out.mono ?_
        rintro e w5 ⟨rfl, rfl⟩
        go_wp2_with fail
        with_reducible refine HH2.out.mono ?_
        rintro e w5 ⟨rfl, rfl⟩
        go_wp2_with fail
        with_reducible refine HA2.out.mono ?_
        rintro e w5 ⟨rfl, rfl⟩
        go_wp2_with fail
        with_reducible refine HHa.out.mono ?_
        rintro e w5 ⟨rfl, HW5⟩
        have HHb := Lib.hid (Halve_q HW5.out.1)
        go_wp2_with fail
        with_reducible refine HHb.out.mono ?_
        rintro e w6 ⟨rfl, HW6⟩
        have B1 := Bump_q HW6.out.1 (k : Int) 1099511627776
        rw [show (halfS (halfS s1)).A.length = m by rw [halfS_len, halfS_len]; exact HP.out.2.2.2.2, show bumpE m (k : Int) 1099511627776 = 0 by unfold bumpE; rw [if_pos ⟨by omega, by omega, by omega, by omega⟩]] at B1
        have HB1 : Hid (Calls Try.prog 15 #[.pointer (some ⟨h, 0, none⟩), .int .i64 k, .int .i64 1099511627776] w6 fun e w' => e = .returned (.int .i64 0) ∧ Hid (HQ w' h t nb ib (topS s1 k) ∧ Gr (Oth t nb ib) w6 w')) := B1
        clear B1
        go_wp2_with fail
        with_reducible refine HB1.out.mono ?_
        rintro e w7 ⟨rfl, HW7⟩
        have htop := topS_first s1 HP.out.1 HP.out.2.1 HP.out.2.2.1 HP.out.2.2.2.1
        have hta := topS_act s1 (k := k) (j := j) (HP.out.2.1 k HP.out.1) HP.out.2.2.2.1
        have hts := topS_is s1 (HP.out.2.1 k HP.out.1) HP.out.2.2.2.1
        have HAk := Lib.hid (Act_q HW7.out.1 (k : Int) hta.1)
        have HAj : Hid (j ≠ k → Calls Try.prog 21 #[.pointer (some ⟨h, 0, none⟩), .int .i64 j] w7 fun e w' => e = .returned (.int .i64 (v / 4)) ∧ w7 = w') := fun e => by
          have := Act_q HW7.out.1 (j : Int) (hta.2 e)
          rw [hv] at this
          exact this
        have P3 := Pop_q HW7.out.1
        rw [show popV (topS s1 k) = (k : Int) by unfold popV; rw [htop], show popB (topS s1 k) = true by unfold popB; rw [htop]; rfl] at P3
        have HP3 := Lib.hid P3
        have HLz : Hid ((popS (topS s1 k)).S.length = z - 1) := by
          show _ = _
          have : popS (topS s1 k) = ⟨(topS s1 k).A, (topS s1 k).S.erase k⟩ := by unfold popS; rw [htop]
          rw [this, hts]
          show (s1.S.erase k).length = _
          rw [List.length_erase_of_mem HP.out.1, HZ.out]
        have hzm : ((z - 1 : Nat) : Int) = (z : Int) - 1 := by omega
        clear htop hta hts P3 hv
        by_cases hjk : j = k
        · have hjki : (j : Int) = (k : Int) := by omega
          have dne : ((j : Int) != (k : Int)) = false := by rw [hjki]; simp
          have HJ := Lib.hid hjki
          clear hjki
          go_wp2_with fail
          with_reducible refine HAk.out.mono ?_
          rintro e w8 ⟨rfl, rfl⟩
          go_wp2_with fail
          with_reducible refine HP3.out.mono ?_
          rintro e w8 ⟨rfl, HW8⟩
          have L3 := Len_q HW8.out.1
          rw [HLz.out, hzm] at L3
          have HL3 := Lib.hid L3
          have HWk := Lib.hid (wakes_any w8)
          have HF : Hid (Below w.heap.size w w8) := below_gr HO.out.2.2.2 (((((HW2.out.2.trans HW4.out.2).trans HW5.out.2).trans HW6.out.2).trans HW7.out.2).trans HW8.out.2) HO.out.1 HO.out.2.1 HO.out.2.2.1
          clear L3
          go_wp2_with fail
          with_reducible refine HL3.out.mono ?_
          rintro e w9 ⟨rfl, rfl⟩
          go_wp2_with fail
          with_reducible refine HWk.out.mono ?_
          rintro e w9 ⟨rfl, hb9⟩
          have HB9 := Lib.hid hb9
          clear hb9
          go_wp2
          go_ret
          exact ⟨rfl, below_two HF.out HB9.out⟩
        · have dne : ((j : Int) != (k : Int)) = true := by simp; omega
          have HAj1 := Lib.hid (HAj.out hjk)
          go_wp2_with fail
          with_reducible refine HAj1.out.mono ?_
          rintro e w8 ⟨rfl, rfl⟩
          go_wp2_with fail
          with_reducible refine HAk.out.mono ?_
          rintro e w8 ⟨rfl, rfl⟩
          go_wp2_with fail
          with_reducible refine HP3.out.mono ?_
          rintro e w8 ⟨rfl, HW8⟩
          have L3 := Len_q HW8.out.1
          rw [HLz.out, hzm] at L3
          have HL3 := Lib.hid L3
          have HWk := Lib.hid (wakes_any w8)
          have HF : Hid (Below w.heap.size w w8) := below_gr HO.out.2.2.2 (((((HW2.out.2.trans HW4.out.2).trans HW5.out.2).trans HW6.out.2).trans HW7.out.2).trans HW8.out.2) HO.out.1 HO.out.2.1 HO.out.2.2.1
          clear L3
          go_wp2_with fail
          with_reducible refine HL3.out.mono ?_
          rintro e w9 ⟨rfl, rfl⟩
          go_wp2_with fail
          with_reducible refine HWk.out.mono ?_
          rintro e w9 ⟨rfl, hb9⟩
          have HB9 := Lib.hid hb9
          clear hb9
          go_wp2
          go_ret
          exact ⟨rfl, below_two HF.out HB9.out⟩
end Go.Proofs.Ytmgppnepccmceaa
