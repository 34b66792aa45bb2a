/- The law TermReaches, walked. -/
import Derived.Test.YtdjiebiobdhihaaDoorTmX
import Derived.Test.YtdjiebiobdhihaaDoorTmW
import Derived.Deep.RegionHeld3
import Derived.BigQuiet
namespace Go.Proofs.YtdjiebiobdhihaaDoor
open Go.RowKit
set_option linter.unusedVariables false
theorem arg_at {w : World} {l : List NodeA} {a : Option Addr} {c i k : Nat} {n : NodeA} (h : TabR w l a c) (hi : l[i]? = some n) (hk : k < 3) {g o : Nat} (ha : a = some ⟨g, o, none⟩) : w.cell? ⟨g, o + i * 8 + 2 + k, none⟩ = some (.int .i64 (argA n k)) := by
  obtain ⟨g', o', e, _, _, _, h2, h3, h4, _⟩ := h.node hi
  rw [ha] at e
  cases e
  match k, hk with
  | 0, _ => exact h2
  | 1, _ => exact h3
  | 2, _ => exact h4
theorem wrap_re {x : Int} (h : 0 ≤ x) (h2 : x ≤ 10000000000) : wrap64 x = x := by unfold wrap64; omega
theorem re_num {k : Nat} (h : k ≤ 300) : Value.int .i64 (wrap64 ((k : Int) + 1)) = .int .i64 ((k + 1 : Nat) : Int) := by rw [wrap_re (by omega) (by omega)]; rfl
theorem reach_short (l : List NodeA) (rs : List Int) : (reachL l rs).length ≤ l.length := by unfold reachL; exact idxL_len _ _
/-- The places of those that were seen bear a one. -/
def Ones (L : List Int) (k : Nat) (N : Nat) (bs : List Int) : Prop := bs.length = N ∧ ∀ (j q : Nat), j < k → L[j]? = some (q : Int) → bs[q]? = some 1
theorem Ones.step {L : List Int} {k N q : Nat} {bs : List Int} (h : Ones L k N bs) (hk : L[k]? = some (q : Int)) (hq : q < N) : Ones L (k + 1) N (bs.set q 1) := by
  refine ⟨by rw [List.length_set]; exact h.1, fun j r hj hr => ?_⟩
  by_cases e : q = r
  · subst e
    rw [List.getElem?_set_self (by rw [h.1]; exact hq)]
  · rw [List.getElem?_set_ne e]
    refine h.2 j r ?_ hr
    by_cases hjk : j = k
    · subst hjk
      rw [hk] at hr
      simp at hr
      omega
    · omega
theorem Ones.mem {L : List Int} {N q : Nat} {bs : List Int} (h : Ones L L.length N bs) (hm : (q : Int) ∈ L) : bs[q]? = some 1 := by
  obtain ⟨j, hj⟩ := List.getElem?_of_mem hm
  exact h.2 j q (List.getElem?_eq_some_iff.1 hj).1 hj
theorem int_free {w : World} {b : Nat} {xs : List Int} {ty : TypeId} (h : w.heap[b]? = some (.cells (intRow xs) ty (0, 0))) (i : Nat) : w.frozen? ⟨b, i, none⟩ = false := by simp [World.frozen?, h]
theorem below_mem {n : NodeA} {q k : Nat} {p : Nat} (h : standsB n q = true) (hk : (k : Int) < n.len) (hp : argA n k = p) : p ∈ belowL n q := by
  obtain ⟨h1, h2, h3, h4⟩ := below_stands h
  rw [h4]
  exact List.mem_map.2 ⟨k, List.mem_range.2 (by omega), by rw [hp]; rfl⟩
set_option maxRecDepth 100000 in
set_option maxHeartbeats 8000000 in
theorem TermReaches_c (w : World) (l : List NodeA) (a : Option Addr) (c : Nat) (hA : TabR w l a c) (rs : List Int) (ra : Option Addr) (rc : Nat) (hR : IntsR w rs ra rc) (hG : GT w) :
    Calls Tryd.prog 4 #[.agg #[.slice a l.length c], .slice ra rs.length rc] w fun e w' => e = .returned (.bool true) ∧ Below w.heap.size w w' := by
  have hlm : l.length ≤ 9223372036854775807 := by have h1 := hA.le; have h2 := hA.cap; simp only [maxLen] at h2; omega
  have hrm : rs.length ≤ 9223372036854775807 := by have h1 := hR.le; have h2 := hR.cap; simp only [maxLen] at h2; omega
  have hle := hA.le
  have hrle := hR.le
  obtain ⟨W0, hW0⟩ : ∃ W0, W0 = w.alloc (.cells #[.slice a l.length c] 24) := ⟨_, rfl⟩
  have hB0 : Below w.heap.size w W0 := by rw [hW0]; exact (Below.refl _ w).alloc (Nat.le_refl _) _
  have hsz : W0.heap.size = w.heap.size + 1 := by rw [hW0]; simp
  have hX0 : W0.heap[w.heap.size]? = some (.cells #[.slice a l.length c] 24 (0, 0)) := by rw [hW0]; exact heap_alloc_new w _
  have HWk : Hid (∀ V, Below w.heap.size w V → Calls Tryd.prog 9 #[] V fun e w' => e = .returned (.bool true) ∧ Below V.heap.size V w') := fun V hV => wakes_any V (hG.below hV)
  have HA := Lib.hid hA
  have HR := Lib.hid hR
  have HB0 := Lib.hid hB0
  have HXX : Hid (∀ V, Below W0.heap.size W0 V → V.cell? ⟨w.heap.size, 0, none⟩ = some (.slice a l.length c) ∧ w.heap.size < V.heap.size) := fun V hV => by
    have e0 := (hV.block _ (by omega)).trans hX0
    exact ⟨(cell_of_row _ _ 0 _ _ _ e0).trans rfl, (Array.getElem?_eq_some_iff.1 e0).1⟩
  obtain ⟨x0, xz⟩ := HXX.out _ (Below.refl _ _)
  cases hgr : decide (300 < l.length) with
  | true =>
    have HGr : Hid (Calls Tryd.prog 7 #[.agg #[.slice a l.length c]] W0 fun e w' => e = .returned (.bool true) ∧ Below W0.heap.size W0 w') := Great_any l a c true W0 hlm hgr
    clear hgr hA hB0 hX0 hsz hG hR
    go_enter Tryd.func4, Tryd.ntmps4
    go_wp2_with (first | (go_at_call 7; rw [← hW0]; clear hW0; refine HGr.out.mono ?_; rintro e w1 ⟨rfl, hb1⟩; have HB1 : Hid (Below w.heap.size w w1) := HB0.out.trans (hb1.mono HB0.out.size)) | (go_at_call 9; refine (HWk.out _ HB1.out).mono ?_; rintro e w2 ⟨rfl, hb2⟩))
    go_ret
    exact ⟨rfl, HB1.out.trans (hb2.mono HB1.out.size)⟩
  | false =>
  have HGr : Hid (Calls Tryd.prog 7 #[.agg #[.slice a l.length c]] W0 fun e w' => e = .returned (.bool false) ∧ Below W0.heap.size W0 w') := Great_any l a c false W0 hlm hgr
  have hl3 : l.length ≤ 300 := by have := of_decide_eq_false hgr; omega
  cases hm : mayT l with
  | false =>
    have HCk : Hid (∀ V, Below w.heap.size w V → Calls Tryd.prog 8 #[.agg #[.slice a l.length c]] V fun e w' => e = .returned (.int .i64 2) ∧ Below V.heap.size V w') := fun V hV => RCheck_any l a c 2 V (hA.below hV) (by omega) (by rw [hm]; rfl)
    clear hgr hA hB0 hX0 hsz hG hm hR
    go_enter Tryd.func4, Tryd.ntmps4
    go_wp2_with (first | (go_at_call 7; rw [← hW0]; clear hW0; refine HGr.out.mono ?_; rintro e w1 ⟨rfl, hb1⟩; have HB1 : Hid (Below w.heap.size w w1) := HB0.out.trans (hb1.mono HB0.out.size); clear x0 xz; obtain ⟨x0, xz⟩ := HXX.out _ hb1) | (go_at_call 8; refine (HCk.out _ HB1.out).mono ?_; rintro e w2 ⟨rfl, hb2⟩; have HB2 : Hid (Below w.heap.size w w2) := HB1.out.trans (hb2.mono HB1.out.size)) | (go_at_call 9; refine (HWk.out _ HB2.out).mono ?_; rintro e w3 ⟨rfl, hb3⟩))
    go_ret
    exact ⟨rfl, HB2.out.trans (hb3.mono HB2.out.size)⟩
  | true =>
  have HCk : Hid (∀ V, Below w.heap.size w V → Calls Tryd.prog 8 #[.agg #[.slice a l.length c]] V fun e w' => e = .returned (.int .i64 0) ∧ Below V.heap.size V w') := fun V hV => RCheck_any l a c 0 V (hA.below hV) (by omega) (by rw [hm]; rfl)
  by_cases hfew : 50 < rs.length
  · have d5 : decide (50 < (rs.length : Int)) = true := decide_eq_true (by omega)
    have d5' : decide (50 < rs.length) = true := decide_eq_true hfew
    clear hgr hA hB0 hX0 hsz hG hm hR
    go_enter Tryd.func4, Tryd.ntmps4
    go_wp2_with (first | (go_at_call 7; rw [← hW0]; clear hW0; refine HGr.out.mono ?_; rintro e w1 ⟨rfl, hb1⟩; have HB1 : Hid (Below w.heap.size w w1) := HB0.out.trans (hb1.mono HB0.out.size); clear x0 xz; obtain ⟨x0, xz⟩ := HXX.out _ hb1) | (go_at_call 8; refine (HCk.out _ HB1.out).mono ?_; rintro e w2 ⟨rfl, hb2⟩; have HB2 : Hid (Below w.heap.size w w2) := HB1.out.trans (hb2.mono HB1.out.size)) | (go_at_call 9; refine (HWk.out _ HB2.out).mono ?_; rintro e w3 ⟨rfl, hb3⟩))
    go_ret
    exact ⟨rfl, HB2.out.trans (hb3.mono HB2.out.size)⟩
  obtain ⟨L, hL⟩ : ∃ L, reachL l rs = L := ⟨_, rfl⟩
  have hLl : L.length ≤ l.length := by rw [← hL]; exact reach_short l rs
  have HRe : Hid (∀ V, Below w.heap.size w V → Calls Tryd.prog 14 #[.agg #[.slice a l.length c], .slice ra rs.length rc] V fun e w' => ∃ La Lc, e = .returned (.slice La L.length Lc) ∧ IntsR w' L La Lc ∧ Below V.heap.size V w') := fun V hV => by
    refine (Reach_any l a c rs ra rc V (hA.below hV) (by omega) (hR.below hV) (by omega)).mono ?_
    rintro e w' ⟨L', La, Lc, rfl, rfl, hI, hb⟩
    rw [hL] at hI ⊢
    exact ⟨La, Lc, rfl, hI, hb⟩
  have HRa : Hid (∀ V La Lc, Below w.heap.size w V → IntsR V L La Lc → Calls Tryd.prog 14 #[.agg #[.slice a l.length c], .slice La L.length Lc] V fun e w' => ∃ Ma Mc, e = .returned (.slice Ma L.length Mc) ∧ IntsR w' L Ma Mc ∧ Below V.heap.size V w') := fun V La Lc hV hI => by
    refine (Reach_any l a c L La Lc V (hA.below hV) (by omega) hI (by omega)).mono ?_
    rintro e w' ⟨L', Ma, Mc, rfl, rfl, hI', hb⟩
    have e := reach_again l rs
    rw [hL] at e
    rw [e] at hI' ⊢
    exact ⟨Ma, Mc, rfl, hI', hb⟩
  have HSt : Hid (∀ (q : Nat) n, l[q]? = some n → standsB n q = true) := fun q n h => (ok_at (mayT_ok hm).2 h).1
  have HRng : Hid (∀ x ∈ L, ∃ q : Nat, x = q ∧ q < l.length) := fun x hx => by rw [← hL] at hx; exact reach_rng hx
  have HRis : Hid (∀ (i j : Nat) (x y : Int), i < j → L[i]? = some x → L[j]? = some y → x < y) := fun i j x y hij hx hy => by rw [← hL] at hx hy; exact reach_rises hij hx hy
  have HRo : Hid (∀ q : Nat, q < l.length → (q : Int) ∈ rs → (q : Int) ∈ L) := fun q hq h => by rw [← hL]; exact reach_root hq h
  have HAr : Hid (∀ (q : Nat) n, l[q]? = some n → (q : Int) ∈ L → ∀ b ∈ belowL n q, ((b : Nat) : Int) ∈ L) := fun q n hn h b hb => by rw [← hL] at h ⊢; exact reach_arg hn h hb
  have HR50 : Hid (rs.length ≤ 50) := by show _ ≤ _; omega
  have d5 : decide (50 < (rs.length : Int)) = false := decide_eq_false (by omega)
  have d5' : decide (50 < rs.length) = false := decide_eq_false hfew
  have hmk := make_int (l.length : Int) l.length rfl (by omega)
  have HGl := Lib.hid hG
  clear hgr hA hB0 hX0 hsz hG hm hR hL hfew
  go_enter Tryd.func4, Tryd.ntmps4
  go_wp2_with (first | (go_at_call 7; rw [← hW0]; clear hW0; refine HGr.out.mono ?_; rintro e w1 ⟨rfl, hb1⟩; have HB1 : Hid (Below w.heap.size w w1) := HB0.out.trans (hb1.mono HB0.out.size); clear x0 xz; obtain ⟨x0, xz⟩ := HXX.out _ hb1) | (go_at_call 8; refine (HCk.out _ HB1.out).mono ?_; rintro e w2 ⟨rfl, hb2⟩; have HB2 : Hid (Below w.heap.size w w2) := HB1.out.trans (hb2.mono HB1.out.size); have HC2 : Hid (Below W0.heap.size W0 w2) := hb1.trans (hb2.mono hb1.size); clear x0 xz; obtain ⟨x0, xz⟩ := HXX.out _ HC2.out) | (go_at_call 14; refine (HRe.out _ HB2.out).mono ?_; rintro e w3 ⟨La, Lc, rfl, hI3, hb3⟩; have HB3 : Hid (Below w.heap.size w w3) := HB2.out.trans (hb3.mono HB2.out.size); have HC3 : Hid (Below W0.heap.size W0 w3) := HC2.out.trans (hb3.mono HC2.out.size); have HI3 := Lib.hid hI3; clear x0 xz hI3; obtain ⟨x0, xz⟩ := HXX.out _ HC3.out))
  clear hb1 hb2 hb3 x0 xz d5 d5' hmk
  obtain ⟨S, hS⟩ : ∃ S, S = w3.heap.size := ⟨_, rfl⟩
  have HS0 : Hid ((w3.alloc (.cells (intRow (List.replicate l.length 0)) 3)).heap[S]? = some (.cells (intRow (List.replicate l.length 0)) 3 (0, 0))) := by rw [hS]; exact heap_alloc_new w3 _
  have HD0 : Hid (Below w3.heap.size w3 (w3.alloc (.cells (intRow (List.replicate l.length 0)) 3))) := (Below.refl _ _).alloc (Nat.le_refl _) _
  have hSz : w3.heap.size ≤ S := by omega
  have HSz := Lib.hid hSz
  rw [← hS]
  clear hS
  have hIc : L.length ≤ Lc := HI3.out.le
  go_loopw [36] (fun vi wr => ∃ (k : Nat) (bs : List Int), k ≤ L.length ∧ vi = .int .i64 k ∧ Hid (Below w3.heap.size w3 wr) ∧ Hid (Ones L k l.length bs) ∧ Hid (wr.heap[S]? = some (.cells (intRow bs) 3 (0, 0)))) (fun vi _ => L.length - (intOf vi).toNat)
  case atStart => exact ⟨0, List.replicate l.length 0, Nat.zero_le _, rfl, HD0, ⟨List.length_replicate, fun j q hj _ => absurd hj (Nat.not_lt_zero _)⟩, HS0⟩
  case round =>
    obtain ⟨k, bs, hkl, rfl, HD, HOn, HSr⟩ := hrel
    by_cases hlt : k < L.length
    · obtain ⟨x, hx⟩ : ∃ x, L[k]? = some x := ⟨_, List.getElem?_eq_getElem hlt⟩
      obtain ⟨q, rfl, hq⟩ := HRng.out x (List.mem_of_getElem? hx)
      obtain ⟨g, o, he, gz, q0⟩ := (HI3.out.below HD.out).cell hx
      subst he
      obtain ⟨b, hb⟩ : ∃ b, bs[q]? = some b := ⟨_, List.getElem?_eq_getElem (by rw [HOn.out.1]; exact hq)⟩
      have sq := int_cell HSr.out hb
      have fq := int_free HSr.out q
      have hsz := (Array.getElem?_eq_some_iff.1 HSr.out).1
      have HX := Lib.hid hx
      have hON := HOn.out.step hx hq
      have HON := Lib.hid hON
      have HSn : Hid ((wr.setCell ⟨S, q, none⟩ (.int .i64 1)).heap[S]? = some (.cells (intRow (bs.set q 1)) 3 (0, 0))) := int_set HSr.out q 1
      have e1 : decide ((q : Int) < 0) = false := decide_eq_false (by omega)
      have e2 : decide ((l.length : Int) ≤ (q : Int)) = false := decide_eq_false (by omega)
      have e2' : decide (l.length ≤ q) = false := decide_eq_false (by omega)
      have hqi : (q : Int) < (l.length : Int) := by omega
      have hqi0 : (0 : Int) ≤ (q : Int) := by omega
      have HKb : Hid (k ≤ 300) := by show _ ≤ _; omega
      clear hx hb hON
      have hkL : (k : Int) < (L.length : Int) := by omega
      have hk00 : (0 : Int) ≤ (k : Int) := by omega
      by_cases hk0 : k = 0
      · have e4 : decide (0 < (k : Int)) = false := decide_eq_false (by omega)
        have e4' : decide (0 < k) = false := decide_eq_false (by omega)
        clear hk0 hlm hrm hle hrle hkl hLl hl3 hSz hsz
        go_wp2
        go_roundw
        case rel =>
          have hk3 := HKb.out
          exact ⟨k + 1, bs.set q 1, by omega, re_num hk3, HD.out.setCell (p := ⟨S, q, none⟩) HSz.out _, HON, HSn⟩
        case measure =>
          have hk3 := HKb.out
          rw [wrap_re (by omega) (by omega)]
          simp [intOf]; omega
      · obtain ⟨k', hk'⟩ : ∃ k', k = k' + 1 := ⟨k - 1, by omega⟩
        obtain ⟨y, hy⟩ : ∃ y, L[k']? = some y := ⟨_, List.getElem?_eq_getElem (by omega)⟩
        obtain ⟨q', rfl, hq'⟩ := HRng.out y (List.mem_of_getElem? hy)
        obtain ⟨g', o', he, gz', q1⟩ := (HI3.out.below HD.out).cell hy
        cases he
        have hrs := HRis.out k' k _ _ (by omega) hy HX.out
        have e3 : decide ((q : Int) ≤ (q' : Int)) = false := decide_eq_false (by omega)
        have e3' : decide (q ≤ q') = false := decide_eq_false (by omega)
        have hwm : wrap64 ((k : Int) - 1) = (k' : Int) := by rw [wrap_re (by omega) (by omega)]; omega
        have e4 : decide (0 < (k : Int)) = true := decide_eq_true (by omega)
        have e4' : decide (0 < k) = true := decide_eq_true (by omega)
        have hk'L : (k' : Int) < (L.length : Int) := by omega
        have hk'0 : (0 : Int) ≤ (k' : Int) := by omega
        have hk'N : k' < L.length := by omega
        clear hy hrs hk' hq' hk0 hlm hrm hle hrle hkl hLl hl3 hSz hsz
        go_wp2
        go_roundw
        case rel =>
          have hk3 := HKb.out
          exact ⟨k + 1, bs.set q 1, by omega, re_num hk3, HD.out.setCell (p := ⟨S, q, none⟩) HSz.out _, HON, HSn⟩
        case measure =>
          have hk3 := HKb.out
          rw [wrap_re (by omega) (by omega)]
          simp [intOf]; omega
    · obtain rfl : k = L.length := by omega
      have HIr := Lib.hid (HI3.out.below HD.out)
      have HWr : Hid (Below w.heap.size w wr) := HB3.out.trans (HD.out.mono HB3.out.size)
      have HVr : Hid (Below W0.heap.size W0 wr) := HC3.out.trans (HD.out.mono HC3.out.size)
      have HM : Hid (∀ q : Nat, (q : Int) ∈ L → wr.cell? ⟨S, q, none⟩ = some (.int .i64 1)) := fun q hq => int_cell HSr.out (HOn.out.mem hq)
      obtain ⟨wA, hwA⟩ : ∃ wA, wA = wr := ⟨_, rfl⟩
      rw [← hwA] at HIr HWr HVr HM ⊢
      clear hwA HSr HOn HD hlt hkl hSz hlm hrm hle
      go_wp2
      go_loopw [68] (fun vi wr => ∃ k : Nat, k ≤ rs.length ∧ vi = .int .i64 k ∧ wr = wA) (fun vi _ => rs.length - (intOf vi).toNat)
      case atStart => exact ⟨0, Nat.zero_le _, rfl, rfl⟩
      case round =>
        obtain ⟨k, hkl, rfl, rfl⟩ := hrel
        have HKb : Hid (k ≤ 50) := Nat.le_trans hkl HR50.out
        by_cases hlt : k < rs.length
        · obtain ⟨x, hx⟩ : ∃ x, rs[k]? = some x := ⟨_, List.getElem?_eq_getElem hlt⟩
          obtain ⟨g, o, he, gz, q0⟩ := (HR.out.below HWr.out).cell hx
          subst he
          have hkL : (k : Int) < (rs.length : Int) := by omega
          have hk00 : (0 : Int) ≤ (k : Int) := by omega
          by_cases h0 : 0 ≤ x
          · by_cases h1 : x < l.length
            · obtain ⟨q, rfl⟩ : ∃ q : Nat, x = q := ⟨x.toNat, by omega⟩
              have c1 := HM.out q (HRo.out q (by omega) (List.mem_of_getElem? hx))
              have e1 : decide ((0 : Int) ≤ (q : Int)) = true := decide_eq_true h0
              have e2 : decide ((q : Int) < (l.length : Int)) = true := decide_eq_true h1
              have hql : q < l.length := by omega
              have e2' : decide (q < l.length) = true := decide_eq_true hql
              clear hx hrle hkl hLl hl3
              go_wp2
              go_roundw
              case rel =>
                have hk3 := HKb.out
                exact ⟨k + 1, by omega, by first | exact re_num (by omega) | go_num, by first | trivial | rfl⟩
              case measure =>
                have hk3 := HKb.out
                rw [wrap_re (by omega) (by omega)]
                simp [intOf]; omega
            · have e1 : decide ((0 : Int) ≤ x) = true := decide_eq_true h0
              have e2 : decide (x < (l.length : Int)) = false := decide_eq_false h1
              clear hx hrle hkl hLl hl3
              go_wp2
              go_roundw
              case rel =>
                have hk3 := HKb.out
                exact ⟨k + 1, by omega, by first | exact re_num (by omega) | go_num, by first | trivial | rfl⟩
              case measure =>
                have hk3 := HKb.out
                rw [wrap_re (by omega) (by omega)]
                simp [intOf]; omega
          · have e1 : decide ((0 : Int) ≤ x) = false := decide_eq_false h0
            clear hx hrle hkl hLl hl3
            go_wp2
            go_roundw
            case rel =>
              have hk3 := HKb.out
              exact ⟨k + 1, by omega, by first | exact re_num (by omega) | go_num, by first | trivial | rfl⟩
            case measure =>
              have hk3 := HKb.out
              rw [wrap_re (by omega) (by omega)]
              simp [intOf]; omega
        · obtain rfl : k = rs.length := by omega
          clear hlt hkl HKb
          go_wp2
          obtain ⟨wB, hwB⟩ : ∃ wB, wB = wr := ⟨_, rfl⟩
          rw [← hwB] at HIr HWr HVr HM ⊢
          clear hwB
          go_loopw [90] (fun vi wr => ∃ k : Nat, k ≤ L.length ∧ vi = .int .i64 k ∧ wr = wB) (fun vi _ => L.length - (intOf vi).toNat)
          case atStart => exact ⟨0, Nat.zero_le _, rfl, rfl⟩
          case round =>
            obtain ⟨k, hkl, rfl, rfl⟩ := hrel
            have HKb : Hid (k ≤ 300) := by show _ ≤ _; omega
            by_cases hlt : k < L.length
            · obtain ⟨x, hx⟩ : ∃ x, L[k]? = some x := ⟨_, List.getElem?_eq_getElem hlt⟩
              have hmem := List.mem_of_getElem? hx
              obtain ⟨q, rfl, hq⟩ := HRng.out x hmem
              obtain ⟨g, o, he, gz, q0⟩ := HIr.out.cell hx
              subst he
              obtain ⟨n, hn⟩ : ∃ n, l[q]? = some n := ⟨_, List.getElem?_eq_getElem hq⟩
              obtain ⟨g2, o2, he2, gz2, _, n1, _⟩ := (HA.out.below HWr.out).node hn
              subst he2
              obtain ⟨hs1, hs2, hs3, hs4⟩ := below_stands (HSt.out q n hn)
              have HS3 := Lib.hid hs3
              have HN := Lib.hid hn
              have HQ := Lib.hid hmem
              have HQl := Lib.hid hq
              obtain ⟨p3, p4⟩ := (HA.out.ok n (List.mem_of_getElem? hn)).len
              obtain ⟨x0, xz⟩ := HXX.out _ HVr.out
              have hqi : (q : Int) < (l.length : Int) := by omega
              have hqi0 : (0 : Int) ≤ (q : Int) := by omega
              have hkL : (k : Int) < (L.length : Int) := by omega
              have hk00 : (0 : Int) ≤ (k : Int) := by omega
              clear hs3 hs4 hn hx hmem hrle hkl hLl hl3
              go_wp2
              clear x0 xz n1 q0 gz gz2
              go_loopw [13] (fun vi V => ∃ m : Nat, (m : Int) ≤ n.len ∧ vi = .int .i64 m ∧ V = wr) (fun vi _ => 3 - (intOf vi).toNat)
              case atStart => exact ⟨0, by omega, rfl, rfl⟩
              case round =>
                obtain ⟨m, hml, rfl, rfl⟩ := hrel
                obtain ⟨x0, xz⟩ := HXX.out _ HVr.out
                have hTA := HA.out.below HWr.out
                obtain ⟨g', o', he, hg', _, n1, _⟩ := hTA.node HN.out
                cases he
                by_cases hm : (m : Int) < n.len
                · obtain ⟨ha0, ha1⟩ := HS3.out m hm
                  obtain ⟨r, hr⟩ : ∃ r : Nat, argA n m = r := ⟨(argA n m).toNat, by omega⟩
                  have hc := arg_at hTA HN.out (k := m) (by omega) rfl
                  rw [hr] at hc ha0 ha1
                  have c1 := HM.out r (HAr.out q n HN.out HQ.out r (below_mem (HSt.out q n HN.out) hm hr))
                  have hrl : r < l.length := by omega
                  have hrl2 : (r : Int) < (l.length : Int) := by omega
                  have hm3 : m < 3 := by omega
                  have hm3i : (m : Int) < 3 := by omega
                  have hm0 : (0 : Int) ≤ (m : Int) := by omega
                  have HMb : Hid (m < 3) := hm3
                  clear hTA hr ha1
                  go_wp2
                  go_roundw
                  case rel =>
                    have hk3 := HMb.out
                    exact ⟨m + 1, by omega, by first | exact re_num (by omega) | go_num, by first | trivial | rfl⟩
                  case measure =>
                    have hk3 := HMb.out
                    try rw [wrap_re (by omega) (by omega)]
                    simp [intOf]; omega
                · clear hTA
                  go_wp2
                  go_roundw
                  case rel =>
                    have hk3 := HKb.out
                    exact ⟨k + 1, by omega, by first | exact re_num (by omega) | go_num, by first | trivial | rfl⟩
                  case measure =>
                    have hk3 := HKb.out
                    try rw [wrap_re (by omega) (by omega)]
                    simp [intOf]; omega
            · obtain rfl : k = L.length := by omega
              have HRe2 := Lib.hid (HRa.out _ La Lc HWr.out HIr.out)
              obtain ⟨x0, xz⟩ := HXX.out _ HVr.out
              clear hlt hkl HKb
              go_wp2_with (go_at_call 14; refine HRe2.out.mono ?_; rintro e w6 ⟨Ma, Mc, rfl, hI6, hb6⟩; have HW6 : Hid (Below w.heap.size w w6) := HWr.out.trans (hb6.mono HWr.out.size); have HIn := Lib.hid (Ints_same L Ma La Mc Lc w6 hI6 (HIr.out.below hb6)); clear hI6 hb6)
              go_wp2_with (first | (go_at_call 15; refine HIn.out.mono ?_; rintro e w7 ⟨rfl, hb7⟩; have HW7 : Hid (Below w.heap.size w w7) := HW6.out.trans (hb7.mono HW6.out.size)) | (go_at_call 9; refine (HWk.out _ HW7.out).mono ?_; rintro e w8 ⟨rfl, hb8⟩))
              go_ret
              exact ⟨rfl, HW7.out.trans (hb8.mono HW7.out.size)⟩
end Go.Proofs.YtdjiebiobdhihaaDoor
