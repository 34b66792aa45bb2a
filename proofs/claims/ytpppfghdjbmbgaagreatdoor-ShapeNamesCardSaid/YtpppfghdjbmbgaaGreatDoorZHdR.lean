/- The document's eval: fits, AtMost, bit. -/
import Derived.Test.YtpppfghdjbmbgaaGreatDoorZHdN
import Derived.Laws.Bits128
namespace Go.Proofs.YtpppfghdjbmbgaaGreatDoor
open Go.RowKit
set_option linter.unusedVariables false
def opO (op : Int) (l : List Int) : Option Int :=
  if op = 0 then some 0 else if op = 10 then some 1 else if op = 11 then (if alikeB l 1 1 = true then some 1 else none)
  else if op = 6 then (if l.getD 0 0 = l.getD 1 0 then some 0 else none)
  else if op = 7 then (if l.getD 0 0 = 0 ∧ l.getD 1 0 = l.getD 2 0 then some (l.getD 1 0) else none)
  else if op = 8 ∨ op = 9 ∨ op = 12 then (if alikeB l 2 1 = true then some 0 else none)
  else (if alikeB l (manyN op) 0 = true then some 0 else none)
def opE (op : Int) (l : List Int) : Int := if manyN op < 0 ∨ ¬ (l.length : Int) = manyN op then 2 else if l.any (fun s => decide (s < 0)) = true then 33 else if (opO op l).isSome = true then 0 else 33
def opV (op : Int) (l : List Int) : Int := if opE op l = 0 then (opO op l).getD 0 else 0
set_option maxRecDepth 100000 in
set_option maxHeartbeats 4000000 in
theorem Op_any (op : Int) (l : List Int) (la : Option Addr) (lc : Nat) (V E : Int) (w : World) (hl : At w w.heap.size (l.flatMap numL) la) (hln : l.length ≤ 3) (hV : opV op l = V) (hE : opE op l = E) :
    Calls Tryz.prog 36 #[.int .i8 op, .slice la l.length lc] w fun e w' => e = .returned (.tuple #[.int .i64 V, .int .i64 E]) ∧ Below w.heap.size w w' := by
  obtain ⟨n, hn⟩ : ∃ n, manyN op = n := ⟨_, rfl⟩
  have HMn := Lib.hid (Many_any op n w hn)
  have HL := Lib.hid hl
  have hnb : n ≤ 3 := by
    rw [← hn]; unfold manyN Tm.arityA
    repeat' split
    all_goals omega
  by_cases h0 : n < 0
  · obtain rfl : E = 2 := by rw [← hE]; unfold opE; rw [if_pos (Or.inl (by omega))]
    obtain rfl : V = 0 := by rw [← hV]; unfold opV; rw [hE]; rfl
    clear hn hV hE hl
    go_enter Tryz.func36, Tryz.ntmps36
    go_wp2_with (go_at_call 49; refine HMn.out.mono ?_; rintro e w1 ⟨rfl, rfl⟩)
    go_ret2
    exact ⟨rfl, Below.refl _ _⟩
  by_cases h1 : (l.length : Int) = n
  rotate_left
  · obtain rfl : E = 2 := by rw [← hE]; unfold opE; rw [if_pos (Or.inr (by rw [hn]; exact h1))]
    obtain rfl : V = 0 := by rw [← hV]; unfold opV; rw [hE]; rfl
    have e1 := ne_true h1
    clear hn hV hE hl h1
    go_enter Tryz.func36, Tryz.ntmps36
    go_wp2_with (go_at_call 49; refine HMn.out.mono ?_; rintro e w1 ⟨rfl, rfl⟩)
    go_ret2
    exact ⟨rfl, Below.refl _ _⟩
  subst h1
  have HN := Lib.hid hn
  have hE2 : opE op l = (if l.any (fun s => decide (s < 0)) = true then 33 else if (opO op l).isSome = true then 0 else 33) := by
    unfold opE; rw [if_neg (by rw [hn]; omega)]
  have HNeg : Hid (∀ (j : Nat) (s : Int), l[j]? = some s → s < 0 → V = 0 ∧ E = 33) := fun j s hs h => by
    have he : opE op l = 33 := by rw [hE2, if_pos (any_yes hs (decide_eq_true h))]
    refine ⟨?_, by rw [← hE, he]⟩
    rw [← hV]; unfold opV; rw [he]; rfl
  have HPos : Hid ((∀ (j : Nat) (s : Int), l[j]? = some s → decide (s < 0) = false) → ∀ o, opO op l = o → V = o.getD 0 ∧ E = (if o.isSome = true then 0 else 33)) := fun h o ho => by
    have he : opE op l = (if o.isSome = true then 0 else 33) := by rw [hE2, any_no h, ho]; rfl
    refine ⟨?_, by rw [← hE, he]⟩
    rw [← hV]; unfold opV; rw [he, ho]
    cases o <;> rfl
  have hop : op = 0 ∨ op = 1 ∨ op = 2 ∨ op = 3 ∨ op = 4 ∨ op = 5 ∨ op = 6 ∨ op = 7 ∨ op = 8 ∨ op = 9 ∨ op = 10 ∨ op = 11 ∨ op = 12 := by
    have h := hn
    unfold manyN Tm.arityA at h
    repeat' (split at h)
    all_goals omega
  clear hn hV hE hE2 hl
  go_enter Tryz.func36, Tryz.ntmps36
  go_wp2_with (go_at_call 49; refine HMn.out.mono ?_; rintro e w1 ⟨rfl, rfl⟩)
  go_loopw [7] (fun i wr => ∃ j : Nat, j ≤ l.length ∧ i = .int .i64 j ∧ Hid (∀ (i : Nat) (y : Int), i < j → l[i]? = some y → decide (y < 0) = false) ∧ Hid (Below w.heap.size w wr)) (fun i _ => l.length - (intOf i).toNat)
  case atStart => exact ⟨0, Nat.zero_le _, rfl, fun j _ hj => absurd hj (Nat.not_lt_zero _), Below.refl _ _⟩
  case round =>
    obtain ⟨j, hj, rfl, HNo, HB⟩ := hrel
    by_cases hlt : j < l.length
    · obtain ⟨y, hy⟩ : ∃ y, l[j]? = some y := ⟨_, List.getElem?_eq_getElem hlt⟩
      obtain ⟨g, o, ha, hg, hcell⟩ := HL.out.below HB.out (by rw [len_flat numL_len]; omega)
      have n0 := hcell _ _ ((get_flat numL_len l j 0 y hy (by omega)).trans rfl)
      simp only [Nat.add_zero, Nat.mul_one] at n0
      subst ha
      have hji : (j : Int) < (l.length : Int) := by omega
      by_cases hys : y < 0
      · obtain ⟨rfl, rfl⟩ := HNeg.out j y hy hys
        clear hcell hy
        go_wp2
        go_ret2
        exact ⟨rfl, HB.out⟩
      · have HN2 : Hid (∀ (i : Nat) (z : Int), i < j + 1 → l[i]? = some z → decide (z < 0) = false) := fun i z hi hz => by
          by_cases hij : i < j
          · exact HNo.out i z hij hz
          · obtain rfl : i = j := by omega
            obtain rfl : y = z := by rw [hy] at hz; exact Option.some.inj hz
            exact decide_eq_false hys
        clear hcell hy
        go_wp2
        go_roundw
        case rel => exact ⟨j + 1, by omega, by go_num, HN2, by first | exact HB | exact HB.out.drew⟩
        case measure => simp [intOf]; omega
    obtain rfl : j = l.length := by omega
    have HP2 := Lib.hid (HPos.out (fun i s hs => HNo.out i s (List.getElem?_eq_some_iff.1 hs).1 hs))
    have HLw : Hid (At wr wr.heap.size (l.flatMap numL) la) := (HL.out.below HB.out).more HB.out.size
    have HAl : Hid (∀ (a s : Int) (q : Bool), alikeB l a s = q → Calls Tryz.prog 50 #[.slice la l.length lc, .int .i64 a, .int .i64 s] wr fun e w' => e = .returned (.bool q) ∧ wr = w') := fun a s q hq => alike_any l la lc a s q wr HLw.out hln hq
    clear HPos HNeg HMn
    rcases hop with rfl | rfl | rfl | rfl | rfl | rfl | rfl | rfl | rfl | rfl | rfl | rfl | rfl
    · obtain ⟨rfl, rfl⟩ := HP2.out (some 0) rfl
      go_wp2
      go_ret2
      exact ⟨rfl, HB.out⟩
    · have hlen : (l.length : Int) = 1 := by rw [← HN.out]; rfl
      cases hq : alikeB l 1 0 with
      | false =>
        obtain ⟨rfl, rfl⟩ := HP2.out none (by show (if alikeB l (manyN 1) 0 = true then some (0 : Int) else none) = _; rw [show manyN 1 = 1 from rfl, hq]; rfl)
        have HC := Lib.hid (HAl.out _ _ _ hq)
        clear hq
        go_wp2_with (go_at_call 50; refine HC.out.mono ?_; rintro e w5 ⟨rfl, rfl⟩)
        go_ret2
        exact ⟨rfl, HB.out⟩
      | true =>
        obtain ⟨rfl, rfl⟩ := HP2.out (some 0) (by show (if alikeB l (manyN 1) 0 = true then some (0 : Int) else none) = _; rw [show manyN 1 = 1 from rfl, hq]; rfl)
        have HC := Lib.hid (HAl.out _ _ _ hq)
        clear hq
        go_wp2_with (go_at_call 50; refine HC.out.mono ?_; rintro e w5 ⟨rfl, rfl⟩)
        go_ret2
        exact ⟨rfl, HB.out⟩
    · have hlen : (l.length : Int) = 2 := by rw [← HN.out]; rfl
      cases hq : alikeB l 2 0 with
      | false =>
        obtain ⟨rfl, rfl⟩ := HP2.out none (by show (if alikeB l (manyN 2) 0 = true then some (0 : Int) else none) = _; rw [show manyN 2 = 2 from rfl, hq]; rfl)
        have HC := Lib.hid (HAl.out _ _ _ hq)
        clear hq
        go_wp2_with (go_at_call 50; refine HC.out.mono ?_; rintro e w5 ⟨rfl, rfl⟩)
        go_ret2
        exact ⟨rfl, HB.out⟩
      | true =>
        obtain ⟨rfl, rfl⟩ := HP2.out (some 0) (by show (if alikeB l (manyN 2) 0 = true then some (0 : Int) else none) = _; rw [show manyN 2 = 2 from rfl, hq]; rfl)
        have HC := Lib.hid (HAl.out _ _ _ hq)
        clear hq
        go_wp2_with (go_at_call 50; refine HC.out.mono ?_; rintro e w5 ⟨rfl, rfl⟩)
        go_ret2
        exact ⟨rfl, HB.out⟩
    · have hlen : (l.length : Int) = 2 := by rw [← HN.out]; rfl
      cases hq : alikeB l 2 0 with
      | false =>
        obtain ⟨rfl, rfl⟩ := HP2.out none (by show (if alikeB l (manyN 3) 0 = true then some (0 : Int) else none) = _; rw [show manyN 3 = 2 from rfl, hq]; rfl)
        have HC := Lib.hid (HAl.out _ _ _ hq)
        clear hq
        go_wp2_with (go_at_call 50; refine HC.out.mono ?_; rintro e w5 ⟨rfl, rfl⟩)
        go_ret2
        exact ⟨rfl, HB.out⟩
      | true =>
        obtain ⟨rfl, rfl⟩ := HP2.out (some 0) (by show (if alikeB l (manyN 3) 0 = true then some (0 : Int) else none) = _; rw [show manyN 3 = 2 from rfl, hq]; rfl)
        have HC := Lib.hid (HAl.out _ _ _ hq)
        clear hq
        go_wp2_with (go_at_call 50; refine HC.out.mono ?_; rintro e w5 ⟨rfl, rfl⟩)
        go_ret2
        exact ⟨rfl, HB.out⟩
    · have hlen : (l.length : Int) = 2 := by rw [← HN.out]; rfl
      cases hq : alikeB l 2 0 with
      | false =>
        obtain ⟨rfl, rfl⟩ := HP2.out none (by show (if alikeB l (manyN 4) 0 = true then some (0 : Int) else none) = _; rw [show manyN 4 = 2 from rfl, hq]; rfl)
        have HC := Lib.hid (HAl.out _ _ _ hq)
        clear hq
        go_wp2_with (go_at_call 50; refine HC.out.mono ?_; rintro e w5 ⟨rfl, rfl⟩)
        go_ret2
        exact ⟨rfl, HB.out⟩
      | true =>
        obtain ⟨rfl, rfl⟩ := HP2.out (some 0) (by show (if alikeB l (manyN 4) 0 = true then some (0 : Int) else none) = _; rw [show manyN 4 = 2 from rfl, hq]; rfl)
        have HC := Lib.hid (HAl.out _ _ _ hq)
        clear hq
        go_wp2_with (go_at_call 50; refine HC.out.mono ?_; rintro e w5 ⟨rfl, rfl⟩)
        go_ret2
        exact ⟨rfl, HB.out⟩
    · have hlen : (l.length : Int) = 2 := by rw [← HN.out]; rfl
      cases hq : alikeB l 2 0 with
      | false =>
        obtain ⟨rfl, rfl⟩ := HP2.out none (by show (if alikeB l (manyN 5) 0 = true then some (0 : Int) else none) = _; rw [show manyN 5 = 2 from rfl, hq]; rfl)
        have HC := Lib.hid (HAl.out _ _ _ hq)
        clear hq
        go_wp2_with (go_at_call 50; refine HC.out.mono ?_; rintro e w5 ⟨rfl, rfl⟩)
        go_ret2
        exact ⟨rfl, HB.out⟩
      | true =>
        obtain ⟨rfl, rfl⟩ := HP2.out (some 0) (by show (if alikeB l (manyN 5) 0 = true then some (0 : Int) else none) = _; rw [show manyN 5 = 2 from rfl, hq]; rfl)
        have HC := Lib.hid (HAl.out _ _ _ hq)
        clear hq
        go_wp2_with (go_at_call 50; refine HC.out.mono ?_; rintro e w5 ⟨rfl, rfl⟩)
        go_ret2
        exact ⟨rfl, HB.out⟩
    · have hlen : (l.length : Int) = 2 := by rw [← HN.out]; rfl
      obtain ⟨g, o, ha, hg, hcell⟩ := HLw.out (by rw [len_flat numL_len]; omega)
      obtain ⟨a, ha_⟩ : ∃ a, l[0]? = some a := ⟨_, List.getElem?_eq_getElem (by omega)⟩
      have ga : l.getD 0 0 = a := by rw [List.getD_eq_getElem?_getD, ha_]; rfl
      have na := hcell _ _ ((get_flat numL_len l 0 0 a ha_ (by omega)).trans rfl)
      have da : (0 : Int) < (l.length : Int) := by omega
      obtain ⟨b, hb⟩ : ∃ b, l[1]? = some b := ⟨_, List.getElem?_eq_getElem (by omega)⟩
      have gb : l.getD 1 0 = b := by rw [List.getD_eq_getElem?_getD, hb]; rfl
      have nb := hcell _ _ ((get_flat numL_len l 1 0 b hb (by omega)).trans rfl)
      have db : (1 : Int) < (l.length : Int) := by omega
      have hO : opO 6 l = (if a = b then some 0 else none) := by
        show (if l.getD 0 0 = l.getD 1 0 then some (0 : Int) else none) = _
        rw [ga, gb]
      simp only [Nat.add_zero, Nat.mul_one] at na nb
      subst ha
      clear hcell ha_ hb ga gb
      by_cases hab : a = b
      · obtain ⟨rfl, rfl⟩ := HP2.out (some 0) (by rw [hO, if_pos hab])
        have e1 := eq_true_ hab
        clear hO hab
        go_wp2_with fail
        go_quiet (fail)
        go_wp2_with fail
        go_ret2
        exact ⟨rfl, below_dN HB.out⟩
      · obtain ⟨rfl, rfl⟩ := HP2.out none (by rw [hO, if_neg hab])
        have e1 := eq_false hab
        clear hO hab
        go_wp2_with fail
        go_quiet (fail)
        go_wp2_with fail
        go_ret2
        exact ⟨rfl, below_dN HB.out⟩
    · have hlen : (l.length : Int) = 3 := by rw [← HN.out]; rfl
      obtain ⟨g, o, ha, hg, hcell⟩ := HLw.out (by rw [len_flat numL_len]; omega)
      obtain ⟨a, ha_⟩ : ∃ a, l[0]? = some a := ⟨_, List.getElem?_eq_getElem (by omega)⟩
      have ga : l.getD 0 0 = a := by rw [List.getD_eq_getElem?_getD, ha_]; rfl
      have na := hcell _ _ ((get_flat numL_len l 0 0 a ha_ (by omega)).trans rfl)
      have da : (0 : Int) < (l.length : Int) := by omega
      obtain ⟨b, hb⟩ : ∃ b, l[1]? = some b := ⟨_, List.getElem?_eq_getElem (by omega)⟩
      have gb : l.getD 1 0 = b := by rw [List.getD_eq_getElem?_getD, hb]; rfl
      have nb := hcell _ _ ((get_flat numL_len l 1 0 b hb (by omega)).trans rfl)
      have db : (1 : Int) < (l.length : Int) := by omega
      obtain ⟨c, hc⟩ : ∃ c, l[2]? = some c := ⟨_, List.getElem?_eq_getElem (by omega)⟩
      have gc : l.getD 2 0 = c := by rw [List.getD_eq_getElem?_getD, hc]; rfl
      have nc := hcell _ _ ((get_flat numL_len l 2 0 c hc (by omega)).trans rfl)
      have dc : (2 : Int) < (l.length : Int) := by omega
      have hO : opO 7 l = (if a = 0 ∧ b = c then some b else none) := by
        show (if l.getD 0 0 = 0 ∧ l.getD 1 0 = l.getD 2 0 then some (l.getD 1 0) else none) = _
        rw [ga, gb, gc]
      simp only [Nat.add_zero, Nat.mul_one] at na nb nc
      subst ha
      clear hcell ha_ hb hc ga gb gc
      by_cases h0a : a = 0
      · have e0 := eq_true_ h0a
        by_cases hbc : b = c
        · obtain ⟨rfl, rfl⟩ := HP2.out (some b) (by rw [hO, if_pos ⟨h0a, hbc⟩])
          have e1 := eq_true_ hbc
          clear hO hbc h0a
          go_wp2_with fail
          go_quiet (fail)
          go_wp2_with fail
          go_ret2
          exact ⟨rfl, below_dN HB.out⟩
        · obtain ⟨rfl, rfl⟩ := HP2.out none (by rw [hO, if_neg (fun h => hbc h.2)])
          have e1 := eq_false hbc
          clear hO hbc h0a
          go_wp2_with fail
          go_quiet (fail)
          go_wp2_with fail
          go_ret2
          exact ⟨rfl, below_dN HB.out⟩
      · obtain ⟨rfl, rfl⟩ := HP2.out none (by rw [hO, if_neg (fun h => h0a h.1)])
        have e0 := eq_false h0a
        clear hO h0a
        go_wp2_with fail
        go_quiet (fail)
        go_wp2_with fail
        go_ret2
        exact ⟨rfl, below_dN HB.out⟩
    · have hlen : (l.length : Int) = 2 := by rw [← HN.out]; rfl
      cases hq : alikeB l 2 1 with
      | false =>
        obtain ⟨rfl, rfl⟩ := HP2.out none (by show (if alikeB l 2 1 = true then some (0 : Int) else none) = _; rw [hq]; rfl)
        have HC := Lib.hid (HAl.out _ _ _ hq)
        clear hq
        go_wp2_with (go_at_call 50; refine HC.out.mono ?_; rintro e w5 ⟨rfl, rfl⟩)
        go_ret2
        exact ⟨rfl, HB.out⟩
      | true =>
        obtain ⟨rfl, rfl⟩ := HP2.out (some 0) (by show (if alikeB l 2 1 = true then some (0 : Int) else none) = _; rw [hq]; rfl)
        have HC := Lib.hid (HAl.out _ _ _ hq)
        clear hq
        go_wp2_with (go_at_call 50; refine HC.out.mono ?_; rintro e w5 ⟨rfl, rfl⟩)
        go_ret2
        exact ⟨rfl, HB.out⟩
    · have hlen : (l.length : Int) = 2 := by rw [← HN.out]; rfl
      cases hq : alikeB l 2 1 with
      | false =>
        obtain ⟨rfl, rfl⟩ := HP2.out none (by show (if alikeB l 2 1 = true then some (0 : Int) else none) = _; rw [hq]; rfl)
        have HC := Lib.hid (HAl.out _ _ _ hq)
        clear hq
        go_wp2_with (go_at_call 50; refine HC.out.mono ?_; rintro e w5 ⟨rfl, rfl⟩)
        go_ret2
        exact ⟨rfl, HB.out⟩
      | true =>
        obtain ⟨rfl, rfl⟩ := HP2.out (some 0) (by show (if alikeB l 2 1 = true then some (0 : Int) else none) = _; rw [hq]; rfl)
        have HC := Lib.hid (HAl.out _ _ _ hq)
        clear hq
        go_wp2_with (go_at_call 50; refine HC.out.mono ?_; rintro e w5 ⟨rfl, rfl⟩)
        go_ret2
        exact ⟨rfl, HB.out⟩
    · obtain ⟨rfl, rfl⟩ := HP2.out (some 1) rfl
      go_wp2
      go_ret2
      exact ⟨rfl, HB.out⟩
    · have hlen : (l.length : Int) = 1 := by rw [← HN.out]; rfl
      cases hq : alikeB l 1 1 with
      | false =>
        obtain ⟨rfl, rfl⟩ := HP2.out none (by show (if alikeB l 1 1 = true then some (1 : Int) else none) = _; rw [hq]; rfl)
        have HC := Lib.hid (HAl.out _ _ _ hq)
        clear hq
        go_wp2_with (go_at_call 50; refine HC.out.mono ?_; rintro e w5 ⟨rfl, rfl⟩)
        go_ret2
        exact ⟨rfl, HB.out⟩
      | true =>
        obtain ⟨rfl, rfl⟩ := HP2.out (some 1) (by show (if alikeB l 1 1 = true then some (1 : Int) else none) = _; rw [hq]; rfl)
        have HC := Lib.hid (HAl.out _ _ _ hq)
        clear hq
        go_wp2_with (go_at_call 50; refine HC.out.mono ?_; rintro e w5 ⟨rfl, rfl⟩)
        go_ret2
        exact ⟨rfl, HB.out⟩
    · have hlen : (l.length : Int) = 2 := by rw [← HN.out]; rfl
      cases hq : alikeB l 2 1 with
      | false =>
        obtain ⟨rfl, rfl⟩ := HP2.out none (by show (if alikeB l 2 1 = true then some (0 : Int) else none) = _; rw [hq]; rfl)
        have HC := Lib.hid (HAl.out _ _ _ hq)
        clear hq
        go_wp2_with (go_at_call 50; refine HC.out.mono ?_; rintro e w5 ⟨rfl, rfl⟩)
        go_ret2
        exact ⟨rfl, HB.out⟩
      | true =>
        obtain ⟨rfl, rfl⟩ := HP2.out (some 0) (by show (if alikeB l 2 1 = true then some (0 : Int) else none) = _; rw [hq]; rfl)
        have HC := Lib.hid (HAl.out _ _ _ hq)
        clear hq
        go_wp2_with (go_at_call 50; refine HC.out.mono ?_; rintro e w5 ⟨rfl, rfl⟩)
        go_ret2
        exact ⟨rfl, HB.out⟩
end Go.Proofs.YtpppfghdjbmbgaaGreatDoor
namespace Go.Proofs.YtpppfghdjbmbgaaGreatDoor
open Go.RowKit
set_option linter.unusedVariables false
/-- A function's sorts, one by one. -/
def argsB (f : FunA) (l : List Int) : Bool := (List.range l.length).all (fun j => decide (l.getD j 0 = argV f j))
def appE (x : SigV) (f : Int) (l : List Int) : Int := if checkQ x.a = true ∧ 0 ≤ f ∧ f < (x.funs.length : Int) ∧ (l.length : Int) = (fnA x f).len then (if argsB (fnA x f) l = true then 0 else 33) else 2
def appV (x : SigV) (f : Int) (l : List Int) : Int := if appE x f l = 0 then (fnA x f).res else 0
end Go.Proofs.YtpppfghdjbmbgaaGreatDoor
namespace Go.Proofs.YtpppfghdjbmbgaaGreatDoor
open Go.RowKit
set_option linter.unusedVariables false
/-- Whether a less b is at most n, of numbers that may be. -/
def atM (a b n : Int) : Bool := (mayB a && (mayB b && mayB n)) && decide (a - b ≤ n)

end Go.Proofs.YtpppfghdjbmbgaaGreatDoor
