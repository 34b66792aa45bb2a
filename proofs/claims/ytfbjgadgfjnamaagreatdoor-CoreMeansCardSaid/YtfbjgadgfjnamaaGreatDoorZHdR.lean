/- The document's eval: fits, AtMost, bit. -/
import Derived.Test.YtfbjgadgfjnamaaGreatDoorZHdM
import Derived.Test.YtfbjgadgfjnamaaGreatDoorZTmB
import Derived.Laws.Bits128
namespace Go.Proofs.YtfbjgadgfjnamaaGreatDoor
open Go.RowKit
set_option linter.unusedVariables false
def manyN (op : Int) : Int := if Tm.arityA op < 0 then -1 else Tm.arityA op
theorem Many_any (op : Int) (k : Int) (w : World) (hk : manyN op = k) : Calls Tryz.prog 110 #[.int .i8 op] w fun e w' => e = .returned (.int .i64 k) ∧ w = w' := by
  by_cases h : op = 0 ∨ op = 1 ∨ op = 2 ∨ op = 3 ∨ op = 4 ∨ op = 5 ∨ op = 6 ∨ op = 7 ∨ op = 8 ∨ op = 9 ∨ op = 10 ∨ op = 11 ∨ op = 12
  · rcases h with rfl | rfl | rfl | rfl | rfl | rfl | rfl | rfl | rfl | rfl | rfl | rfl | rfl <;>
    · obtain rfl : _ = k := (show _ = k from hk)
      go_enter Tryz.func110, Tryz.ntmps110
      go_wp2
      go_ret
      exact ⟨rfl, rfl⟩
  · have hk2 : k = -1 := by
      rw [← hk]; unfold manyN Tm.arityA
      by_cases h13 : op = 13
      · subst h13; rfl
      · repeat (rw [if_neg (by omega : ¬ (op = 0 ∨ op = 10)), if_neg (by omega : ¬ (op = 1 ∨ op = 11)), if_neg (by omega : ¬ (op = 2 ∨ op = 3 ∨ op = 4 ∨ op = 5 ∨ op = 6 ∨ op = 8 ∨ op = 9 ∨ op = 12)), if_neg (by omega : ¬ op = 7), if_neg h13])
        rfl
    subst hk2
    have e0 := eq_false (x := op) (y := 0) (by omega)
    have e1 := eq_false (x := op) (y := 1) (by omega)
    have e2 := eq_false (x := op) (y := 2) (by omega)
    have e3 := eq_false (x := op) (y := 3) (by omega)
    have e4 := eq_false (x := op) (y := 4) (by omega)
    have e5 := eq_false (x := op) (y := 5) (by omega)
    have e6 := eq_false (x := op) (y := 6) (by omega)
    have e7 := eq_false (x := op) (y := 7) (by omega)
    have e8 := eq_false (x := op) (y := 8) (by omega)
    have e9 := eq_false (x := op) (y := 9) (by omega)
    have e10 := eq_false (x := op) (y := 10) (by omega)
    have e11 := eq_false (x := op) (y := 11) (by omega)
    have e12 := eq_false (x := op) (y := 12) (by omega)
    clear hk h
    go_enter Tryz.func110, Tryz.ntmps110
    go_wp2
    go_ret
    exact ⟨rfl, rfl⟩
/-- So many, each one this. -/
def alikeB (l : List Int) (n s : Int) : Bool := l.all (fun y => decide (y = s)) && decide ((l.length : Int) = n)
theorem alike_any (l : List Int) (la : Option Addr) (lc : Nat) (n s : Int) (r : Bool) (w : World) (hl : At w w.heap.size (l.flatMap numL) la) (hln : l.length ≤ 3) (hr : alikeB l n s = r) :
    Calls Tryz.prog 111 #[.slice la l.length lc, .int .i64 n, .int .i64 s] w fun e w' => e = .returned (.bool r) ∧ w = w' := by
  have HL := Lib.hid hl
  have HR : Hid (alikeB l n s = r) := hr
  clear hl hr
  go_enter Tryz.func111, Tryz.ntmps111
  go_wp2
  go_loop [7] (fun i => ∃ j : Nat, j ≤ l.length ∧ i = .int .i64 j ∧ Hid (∀ (i : Nat) (y : Int), i < j → l[i]? = some y → decide (y = s) = true)) (fun i => l.length - (intOf i).toNat)
  case atStart => exact ⟨0, Nat.zero_le _, rfl, fun j _ hj => absurd hj (Nat.not_lt_zero _)⟩
  case round =>
    obtain ⟨j, hj, rfl, HN⟩ := hrel
    by_cases hlt : j < l.length
    rotate_left
    · obtain rfl : j = l.length := by omega
      have ha : l.all (fun y => decide (y = s)) = true := all_yes (fun i y hy => HN.out i y (List.getElem?_eq_some_iff.1 hy).1 hy)
      by_cases hn : (l.length : Int) = n
      · obtain rfl : r = true := by rw [← HR.out]; unfold alikeB; rw [ha, decide_eq_true hn]; rfl
        have e1 := eq_true_ hn
        clear hn ha
        go_wp2
        go_ret
        exact ⟨rfl, rfl⟩
      · obtain rfl : r = false := by rw [← HR.out]; unfold alikeB; rw [decide_eq_false hn]; simp
        have e1 := eq_false hn
        clear hn ha
        go_wp2
        go_ret
        exact ⟨rfl, rfl⟩
    obtain ⟨y, hy⟩ : ∃ y, l[j]? = some y := ⟨_, List.getElem?_eq_getElem hlt⟩
    obtain ⟨g, o, ha, hg, hcell⟩ := HL.out (by rw [len_flat numL_len]; omega)
    have n0 := hcell _ _ ((get_flat numL_len l j 0 y hy (by omega)).trans rfl)
    simp only [Nat.add_zero, Nat.mul_one] at n0
    subst ha
    have hji : (j : Int) < (l.length : Int) := by omega
    by_cases hys : y = s
    · have HN2 : Hid (∀ (i : Nat) (z : Int), i < j + 1 → l[i]? = some z → decide (z = s) = true) := fun i z hi hz => by
        by_cases hij : i < j
        · exact HN.out i z hij hz
        · obtain rfl : i = j := by omega
          obtain rfl : y = z := by rw [hy] at hz; exact Option.some.inj hz
          exact decide_eq_true hys
      have e1 := ne_false hys
      clear hys hcell hy
      go_wp2
      go_round
      case rel => exact ⟨j + 1, by omega, by go_num, HN2⟩
      case measure => simp [intOf]; omega
    · obtain rfl : r = false := by rw [← HR.out]; unfold alikeB; rw [all_no hy (decide_eq_false hys)]; rfl
      have e1 := ne_true hys
      clear hys hcell hy
      go_wp2
      go_ret
      exact ⟨rfl, rfl⟩
end Go.Proofs.YtfbjgadgfjnamaaGreatDoor
namespace Go.Proofs.YtfbjgadgfjnamaaGreatDoor
open Go.RowKit
set_option linter.unusedVariables false
def opO (op : Int) (l : List Int) : Option Int :=
  if op = 0 then some 0 else if op = 10 then some 1 else if op = 11 then (if alikeB l 1 1 = true then some 1 else none)
  else if op = 6 then (if l.getD 0 0 = l.getD 1 0 then some 0 else none)
  else if op = 7 then (if l.getD 0 0 = 0 ∧ l.getD 1 0 = l.getD 2 0 then some (l.getD 1 0) else none)
  else if op = 8 ∨ op = 9 ∨ op = 12 then (if alikeB l 2 1 = true then some 0 else none)
  else (if alikeB l (manyN op) 0 = true then some 0 else none)
def opE (op : Int) (l : List Int) : Int := if manyN op < 0 ∨ ¬ (l.length : Int) = manyN op then 2 else if l.any (fun s => decide (s < 0)) = true then 33 else if (opO op l).isSome = true then 0 else 33
def opV (op : Int) (l : List Int) : Int := if opE op l = 0 then (opO op l).getD 0 else 0
set_option maxRecDepth 100000 in
set_option maxHeartbeats 4000000 in
theorem Op_any (op : Int) (l : List Int) (la : Option Addr) (lc : Nat) (V E : Int) (w : World) (hl : At w w.heap.size (l.flatMap numL) la) (hln : l.length ≤ 3) (hV : opV op l = V) (hE : opE op l = E) :
    Calls Tryz.prog 77 #[.int .i8 op, .slice la l.length lc] w fun e w' => e = .returned (.tuple #[.int .i64 V, .int .i64 E]) ∧ Below w.heap.size w w' := by
  obtain ⟨n, hn⟩ : ∃ n, manyN op = n := ⟨_, rfl⟩
  have HMn := Lib.hid (Many_any op n w hn)
  have HL := Lib.hid hl
  have hnb : n ≤ 3 := by
    rw [← hn]; unfold manyN Tm.arityA
    repeat' split
    all_goals omega
  by_cases h0 : n < 0
  · obtain rfl : E = 2 := by rw [← hE]; unfold opE; rw [if_pos (Or.inl (by omega))]
    obtain rfl : V = 0 := by rw [← hV]; unfold opV; rw [hE]; rfl
    clear hn hV hE hl
    go_enter Tryz.func77, Tryz.ntmps77
    go_wp2_with (go_at_call 110; refine HMn.out.mono ?_; rintro e w1 ⟨rfl, rfl⟩)
    go_ret2
    exact ⟨rfl, Below.refl _ _⟩
  by_cases h1 : (l.length : Int) = n
  rotate_left
  · obtain rfl : E = 2 := by rw [← hE]; unfold opE; rw [if_pos (Or.inr (by rw [hn]; exact h1))]
    obtain rfl : V = 0 := by rw [← hV]; unfold opV; rw [hE]; rfl
    have e1 := ne_true h1
    clear hn hV hE hl h1
    go_enter Tryz.func77, Tryz.ntmps77
    go_wp2_with (go_at_call 110; refine HMn.out.mono ?_; rintro e w1 ⟨rfl, rfl⟩)
    go_ret2
    exact ⟨rfl, Below.refl _ _⟩
  subst h1
  have HN := Lib.hid hn
  have hE2 : opE op l = (if l.any (fun s => decide (s < 0)) = true then 33 else if (opO op l).isSome = true then 0 else 33) := by
    unfold opE; rw [if_neg (by rw [hn]; omega)]
  have HNeg : Hid (∀ (j : Nat) (s : Int), l[j]? = some s → s < 0 → V = 0 ∧ E = 33) := fun j s hs h => by
    have he : opE op l = 33 := by rw [hE2, if_pos (any_yes hs (decide_eq_true h))]
    refine ⟨?_, by rw [← hE, he]⟩
    rw [← hV]; unfold opV; rw [he]; rfl
  have HPos : Hid ((∀ (j : Nat) (s : Int), l[j]? = some s → decide (s < 0) = false) → ∀ o, opO op l = o → V = o.getD 0 ∧ E = (if o.isSome = true then 0 else 33)) := fun h o ho => by
    have he : opE op l = (if o.isSome = true then 0 else 33) := by rw [hE2, any_no h, ho]; rfl
    refine ⟨?_, by rw [← hE, he]⟩
    rw [← hV]; unfold opV; rw [he, ho]
    cases o <;> rfl
  have hop : op = 0 ∨ op = 1 ∨ op = 2 ∨ op = 3 ∨ op = 4 ∨ op = 5 ∨ op = 6 ∨ op = 7 ∨ op = 8 ∨ op = 9 ∨ op = 10 ∨ op = 11 ∨ op = 12 := by
    have h := hn
    unfold manyN Tm.arityA at h
    repeat' (split at h)
    all_goals omega
  clear hn hV hE hE2 hl
  go_enter Tryz.func77, Tryz.ntmps77
  go_wp2_with (go_at_call 110; refine HMn.out.mono ?_; rintro e w1 ⟨rfl, rfl⟩)
  go_loopw [7] (fun i wr => ∃ j : Nat, j ≤ l.length ∧ i = .int .i64 j ∧ Hid (∀ (i : Nat) (y : Int), i < j → l[i]? = some y → decide (y < 0) = false) ∧ Hid (Below w.heap.size w wr)) (fun i _ => l.length - (intOf i).toNat)
  case atStart => exact ⟨0, Nat.zero_le _, rfl, fun j _ hj => absurd hj (Nat.not_lt_zero _), Below.refl _ _⟩
  case round =>
    obtain ⟨j, hj, rfl, HNo, HB⟩ := hrel
    by_cases hlt : j < l.length
    · obtain ⟨y, hy⟩ : ∃ y, l[j]? = some y := ⟨_, List.getElem?_eq_getElem hlt⟩
      obtain ⟨g, o, ha, hg, hcell⟩ := HL.out.below HB.out (by rw [len_flat numL_len]; omega)
      have n0 := hcell _ _ ((get_flat numL_len l j 0 y hy (by omega)).trans rfl)
      simp only [Nat.add_zero, Nat.mul_one] at n0
      subst ha
      have hji : (j : Int) < (l.length : Int) := by omega
      by_cases hys : y < 0
      · obtain ⟨rfl, rfl⟩ := HNeg.out j y hy hys
        clear hcell hy
        go_wp2
        go_ret2
        exact ⟨rfl, HB.out⟩
      · have HN2 : Hid (∀ (i : Nat) (z : Int), i < j + 1 → l[i]? = some z → decide (z < 0) = false) := fun i z hi hz => by
          by_cases hij : i < j
          · exact HNo.out i z hij hz
          · obtain rfl : i = j := by omega
            obtain rfl : y = z := by rw [hy] at hz; exact Option.some.inj hz
            exact decide_eq_false hys
        clear hcell hy
        go_wp2
        go_roundw
        case rel => exact ⟨j + 1, by omega, by go_num, HN2, by first | exact HB | exact HB.out.drew⟩
        case measure => simp [intOf]; omega
    obtain rfl : j = l.length := by omega
    have HP2 := Lib.hid (HPos.out (fun i s hs => HNo.out i s (List.getElem?_eq_some_iff.1 hs).1 hs))
    have HLw : Hid (At wr wr.heap.size (l.flatMap numL) la) := (HL.out.below HB.out).more HB.out.size
    have HAl : Hid (∀ (a s : Int) (q : Bool), alikeB l a s = q → Calls Tryz.prog 111 #[.slice la l.length lc, .int .i64 a, .int .i64 s] wr fun e w' => e = .returned (.bool q) ∧ wr = w') := fun a s q hq => alike_any l la lc a s q wr HLw.out hln hq
    clear HPos HNeg HMn
    rcases hop with rfl | rfl | rfl | rfl | rfl | rfl | rfl | rfl | rfl | rfl | rfl | rfl | rfl
    · obtain ⟨rfl, rfl⟩ := HP2.out (some 0) rfl
      go_wp2
      go_ret2
      exact ⟨rfl, HB.out⟩
    · have hlen : (l.length : Int) = 1 := by rw [← HN.out]; rfl
      cases hq : alikeB l 1 0 with
      | false =>
        obtain ⟨rfl, rfl⟩ := HP2.out none (by show (if alikeB l (manyN 1) 0 = true then some (0 : Int) else none) = _; rw [show manyN 1 = 1 from rfl, hq]; rfl)
        have HC := Lib.hid (HAl.out _ _ _ hq)
        clear hq
        go_wp2_with (go_at_call 111; refine HC.out.mono ?_; rintro e w5 ⟨rfl, rfl⟩)
        go_ret2
        exact ⟨rfl, HB.out⟩
      | true =>
        obtain ⟨rfl, rfl⟩ := HP2.out (some 0) (by show (if alikeB l (manyN 1) 0 = true then some (0 : Int) else none) = _; rw [show manyN 1 = 1 from rfl, hq]; rfl)
        have HC := Lib.hid (HAl.out _ _ _ hq)
        clear hq
        go_wp2_with (go_at_call 111; refine HC.out.mono ?_; rintro e w5 ⟨rfl, rfl⟩)
        go_ret2
        exact ⟨rfl, HB.out⟩
    · have hlen : (l.length : Int) = 2 := by rw [← HN.out]; rfl
      cases hq : alikeB l 2 0 with
      | false =>
        obtain ⟨rfl, rfl⟩ := HP2.out none (by show (if alikeB l (manyN 2) 0 = true then some (0 : Int) else none) = _; rw [show manyN 2 = 2 from rfl, hq]; rfl)
        have HC := Lib.hid (HAl.out _ _ _ hq)
        clear hq
        go_wp2_with (go_at_call 111; refine HC.out.mono ?_; rintro e w5 ⟨rfl, rfl⟩)
        go_ret2
        exact ⟨rfl, HB.out⟩
      | true =>
        obtain ⟨rfl, rfl⟩ := HP2.out (some 0) (by show (if alikeB l (manyN 2) 0 = true then some (0 : Int) else none) = _; rw [show manyN 2 = 2 from rfl, hq]; rfl)
        have HC := Lib.hid (HAl.out _ _ _ hq)
        clear hq
        go_wp2_with (go_at_call 111; refine HC.out.mono ?_; rintro e w5 ⟨rfl, rfl⟩)
        go_ret2
        exact ⟨rfl, HB.out⟩
    · have hlen : (l.length : Int) = 2 := by rw [← HN.out]; rfl
      cases hq : alikeB l 2 0 with
      | false =>
        obtain ⟨rfl, rfl⟩ := HP2.out none (by show (if alikeB l (manyN 3) 0 = true then some (0 : Int) else none) = _; rw [show manyN 3 = 2 from rfl, hq]; rfl)
        have HC := Lib.hid (HAl.out _ _ _ hq)
        clear hq
        go_wp2_with (go_at_call 111; refine HC.out.mono ?_; rintro e w5 ⟨rfl, rfl⟩)
        go_ret2
        exact ⟨rfl, HB.out⟩
      | true =>
        obtain ⟨rfl, rfl⟩ := HP2.out (some 0) (by show (if alikeB l (manyN 3) 0 = true then some (0 : Int) else none) = _; rw [show manyN 3 = 2 from rfl, hq]; rfl)
        have HC := Lib.hid (HAl.out _ _ _ hq)
        clear hq
        go_wp2_with (go_at_call 111; refine HC.out.mono ?_; rintro e w5 ⟨rfl, rfl⟩)
        go_ret2
        exact ⟨rfl, HB.out⟩
    · have hlen : (l.length : Int) = 2 := by rw [← HN.out]; rfl
      cases hq : alikeB l 2 0 with
      | false =>
        obtain ⟨rfl, rfl⟩ := HP2.out none (by show (if alikeB l (manyN 4) 0 = true then some (0 : Int) else none) = _; rw [show manyN 4 = 2 from rfl, hq]; rfl)
        have HC := Lib.hid (HAl.out _ _ _ hq)
        clear hq
        go_wp2_with (go_at_call 111; refine HC.out.mono ?_; rintro e w5 ⟨rfl, rfl⟩)
        go_ret2
        exact ⟨rfl, HB.out⟩
      | true =>
        obtain ⟨rfl, rfl⟩ := HP2.out (some 0) (by show (if alikeB l (manyN 4) 0 = true then some (0 : Int) else none) = _; rw [show manyN 4 = 2 from rfl, hq]; rfl)
        have HC := Lib.hid (HAl.out _ _ _ hq)
        clear hq
        go_wp2_with (go_at_call 111; refine HC.out.mono ?_; rintro e w5 ⟨rfl, rfl⟩)
        go_ret2
        exact ⟨rfl, HB.out⟩
    · have hlen : (l.length : Int) = 2 := by rw [← HN.out]; rfl
      cases hq : alikeB l 2 0 with
      | false =>
        obtain ⟨rfl, rfl⟩ := HP2.out none (by show (if alikeB l (manyN 5) 0 = true then some (0 : Int) else none) = _; rw [show manyN 5 = 2 from rfl, hq]; rfl)
        have HC := Lib.hid (HAl.out _ _ _ hq)
        clear hq
        go_wp2_with (go_at_call 111; refine HC.out.mono ?_; rintro e w5 ⟨rfl, rfl⟩)
        go_ret2
        exact ⟨rfl, HB.out⟩
      | true =>
        obtain ⟨rfl, rfl⟩ := HP2.out (some 0) (by show (if alikeB l (manyN 5) 0 = true then some (0 : Int) else none) = _; rw [show manyN 5 = 2 from rfl, hq]; rfl)
        have HC := Lib.hid (HAl.out _ _ _ hq)
        clear hq
        go_wp2_with (go_at_call 111; refine HC.out.mono ?_; rintro e w5 ⟨rfl, rfl⟩)
        go_ret2
        exact ⟨rfl, HB.out⟩
    · have hlen : (l.length : Int) = 2 := by rw [← HN.out]; rfl
      obtain ⟨g, o, ha, hg, hcell⟩ := HLw.out (by rw [len_flat numL_len]; omega)
      obtain ⟨a, ha_⟩ : ∃ a, l[0]? = some a := ⟨_, List.getElem?_eq_getElem (by omega)⟩
      have ga : l.getD 0 0 = a := by rw [List.getD_eq_getElem?_getD, ha_]; rfl
      have na := hcell _ _ ((get_flat numL_len l 0 0 a ha_ (by omega)).trans rfl)
      have da : (0 : Int) < (l.length : Int) := by omega
      obtain ⟨b, hb⟩ : ∃ b, l[1]? = some b := ⟨_, List.getElem?_eq_getElem (by omega)⟩
      have gb : l.getD 1 0 = b := by rw [List.getD_eq_getElem?_getD, hb]; rfl
      have nb := hcell _ _ ((get_flat numL_len l 1 0 b hb (by omega)).trans rfl)
      have db : (1 : Int) < (l.length : Int) := by omega
      have hO : opO 6 l = (if a = b then some 0 else none) := by
        show (if l.getD 0 0 = l.getD 1 0 then some (0 : Int) else none) = _
        rw [ga, gb]
      simp only [Nat.add_zero, Nat.mul_one] at na nb
      subst ha
      clear hcell ha_ hb ga gb
      by_cases hab : a = b
      · obtain ⟨rfl, rfl⟩ := HP2.out (some 0) (by rw [hO, if_pos hab])
        have e1 := eq_true_ hab
        clear hO hab
        go_wp2_with fail
        go_quiet (fail)
        go_wp2_with fail
        go_ret2
        exact ⟨rfl, below_dN HB.out⟩
      · obtain ⟨rfl, rfl⟩ := HP2.out none (by rw [hO, if_neg hab])
        have e1 := eq_false hab
        clear hO hab
        go_wp2_with fail
        go_quiet (fail)
        go_wp2_with fail
        go_ret2
        exact ⟨rfl, below_dN HB.out⟩
    · have hlen : (l.length : Int) = 3 := by rw [← HN.out]; rfl
      obtain ⟨g, o, ha, hg, hcell⟩ := HLw.out (by rw [len_flat numL_len]; omega)
      obtain ⟨a, ha_⟩ : ∃ a, l[0]? = some a := ⟨_, List.getElem?_eq_getElem (by omega)⟩
      have ga : l.getD 0 0 = a := by rw [List.getD_eq_getElem?_getD, ha_]; rfl
      have na := hcell _ _ ((get_flat numL_len l 0 0 a ha_ (by omega)).trans rfl)
      have da : (0 : Int) < (l.length : Int) := by omega
      obtain ⟨b, hb⟩ : ∃ b, l[1]? = some b := ⟨_, List.getElem?_eq_getElem (by omega)⟩
      have gb : l.getD 1 0 = b := by rw [List.getD_eq_getElem?_getD, hb]; rfl
      have nb := hcell _ _ ((get_flat numL_len l 1 0 b hb (by omega)).trans rfl)
      have db : (1 : Int) < (l.length : Int) := by omega
      obtain ⟨c, hc⟩ : ∃ c, l[2]? = some c := ⟨_, List.getElem?_eq_getElem (by omega)⟩
      have gc : l.getD 2 0 = c := by rw [List.getD_eq_getElem?_getD, hc]; rfl
      have nc := hcell _ _ ((get_flat numL_len l 2 0 c hc (by omega)).trans rfl)
      have dc : (2 : Int) < (l.length : Int) := by omega
      have hO : opO 7 l = (if a = 0 ∧ b = c then some b else none) := by
        show (if l.getD 0 0 = 0 ∧ l.getD 1 0 = l.getD 2 0 then some (l.getD 1 0) else none) = _
        rw [ga, gb, gc]
      simp only [Nat.add_zero, Nat.mul_one] at na nb nc
      subst ha
      clear hcell ha_ hb hc ga gb gc
      by_cases h0a : a = 0
      · have e0 := eq_true_ h0a
        by_cases hbc : b = c
        · obtain ⟨rfl, rfl⟩ := HP2.out (some b) (by rw [hO, if_pos ⟨h0a, hbc⟩])
          have e1 := eq_true_ hbc
          clear hO hbc h0a
          go_wp2_with fail
          go_quiet (fail)
          go_wp2_with fail
          go_ret2
          exact ⟨rfl, below_dN HB.out⟩
        · obtain ⟨rfl, rfl⟩ := HP2.out none (by rw [hO, if_neg (fun h => hbc h.2)])
          have e1 := eq_false hbc
          clear hO hbc h0a
          go_wp2_with fail
          go_quiet (fail)
          go_wp2_with fail
          go_ret2
          exact ⟨rfl, below_dN HB.out⟩
      · obtain ⟨rfl, rfl⟩ := HP2.out none (by rw [hO, if_neg (fun h => h0a h.1)])
        have e0 := eq_false h0a
        clear hO h0a
        go_wp2_with fail
        go_quiet (fail)
        go_wp2_with fail
        go_ret2
        exact ⟨rfl, below_dN HB.out⟩
    · have hlen : (l.length : Int) = 2 := by rw [← HN.out]; rfl
      cases hq : alikeB l 2 1 with
      | false =>
        obtain ⟨rfl, rfl⟩ := HP2.out none (by show (if alikeB l 2 1 = true then some (0 : Int) else none) = _; rw [hq]; rfl)
        have HC := Lib.hid (HAl.out _ _ _ hq)
        clear hq
        go_wp2_with (go_at_call 111; refine HC.out.mono ?_; rintro e w5 ⟨rfl, rfl⟩)
        go_ret2
        exact ⟨rfl, HB.out⟩
      | true =>
        obtain ⟨rfl, rfl⟩ := HP2.out (some 0) (by show (if alikeB l 2 1 = true then some (0 : Int) else none) = _; rw [hq]; rfl)
        have HC := Lib.hid (HAl.out _ _ _ hq)
        clear hq
        go_wp2_with (go_at_call 111; refine HC.out.mono ?_; rintro e w5 ⟨rfl, rfl⟩)
        go_ret2
        exact ⟨rfl, HB.out⟩
    · have hlen : (l.length : Int) = 2 := by rw [← HN.out]; rfl
      cases hq : alikeB l 2 1 with
      | false =>
        obtain ⟨rfl, rfl⟩ := HP2.out none (by show (if alikeB l 2 1 = true then some (0 : Int) else none) = _; rw [hq]; rfl)
        have HC := Lib.hid (HAl.out _ _ _ hq)
        clear hq
        go_wp2_with (go_at_call 111; refine HC.out.mono ?_; rintro e w5 ⟨rfl, rfl⟩)
        go_ret2
        exact ⟨rfl, HB.out⟩
      | true =>
        obtain ⟨rfl, rfl⟩ := HP2.out (some 0) (by show (if alikeB l 2 1 = true then some (0 : Int) else none) = _; rw [hq]; rfl)
        have HC := Lib.hid (HAl.out _ _ _ hq)
        clear hq
        go_wp2_with (go_at_call 111; refine HC.out.mono ?_; rintro e w5 ⟨rfl, rfl⟩)
        go_ret2
        exact ⟨rfl, HB.out⟩
    · obtain ⟨rfl, rfl⟩ := HP2.out (some 1) rfl
      go_wp2
      go_ret2
      exact ⟨rfl, HB.out⟩
    · have hlen : (l.length : Int) = 1 := by rw [← HN.out]; rfl
      cases hq : alikeB l 1 1 with
      | false =>
        obtain ⟨rfl, rfl⟩ := HP2.out none (by show (if alikeB l 1 1 = true then some (1 : Int) else none) = _; rw [hq]; rfl)
        have HC := Lib.hid (HAl.out _ _ _ hq)
        clear hq
        go_wp2_with (go_at_call 111; refine HC.out.mono ?_; rintro e w5 ⟨rfl, rfl⟩)
        go_ret2
        exact ⟨rfl, HB.out⟩
      | true =>
        obtain ⟨rfl, rfl⟩ := HP2.out (some 1) (by show (if alikeB l 1 1 = true then some (1 : Int) else none) = _; rw [hq]; rfl)
        have HC := Lib.hid (HAl.out _ _ _ hq)
        clear hq
        go_wp2_with (go_at_call 111; refine HC.out.mono ?_; rintro e w5 ⟨rfl, rfl⟩)
        go_ret2
        exact ⟨rfl, HB.out⟩
    · have hlen : (l.length : Int) = 2 := by rw [← HN.out]; rfl
      cases hq : alikeB l 2 1 with
      | false =>
        obtain ⟨rfl, rfl⟩ := HP2.out none (by show (if alikeB l 2 1 = true then some (0 : Int) else none) = _; rw [hq]; rfl)
        have HC := Lib.hid (HAl.out _ _ _ hq)
        clear hq
        go_wp2_with (go_at_call 111; refine HC.out.mono ?_; rintro e w5 ⟨rfl, rfl⟩)
        go_ret2
        exact ⟨rfl, HB.out⟩
      | true =>
        obtain ⟨rfl, rfl⟩ := HP2.out (some 0) (by show (if alikeB l 2 1 = true then some (0 : Int) else none) = _; rw [hq]; rfl)
        have HC := Lib.hid (HAl.out _ _ _ hq)
        clear hq
        go_wp2_with (go_at_call 111; refine HC.out.mono ?_; rintro e w5 ⟨rfl, rfl⟩)
        go_ret2
        exact ⟨rfl, HB.out⟩
end Go.Proofs.YtfbjgadgfjnamaaGreatDoor
namespace Go.Proofs.YtfbjgadgfjnamaaGreatDoor
open Go.RowKit
set_option linter.unusedVariables false
/-- A function's sorts, one by one. -/
def argsB (f : FunA) (l : List Int) : Bool := (List.range l.length).all (fun j => decide (l.getD j 0 = argV f j))
def appE (x : SigV) (f : Int) (l : List Int) : Int := if checkQ x.a = true ∧ 0 ≤ f ∧ f < (x.funs.length : Int) ∧ (l.length : Int) = (fnA x f).len then (if argsB (fnA x f) l = true then 0 else 33) else 2
def appV (x : SigV) (f : Int) (l : List Int) : Int := if appE x f l = 0 then (fnA x f).res else 0
theorem appE_no {x : SigV} {f : Int} {l : List Int} (h : ¬ (checkQ x.a = true ∧ 0 ≤ f ∧ f < (x.funs.length : Int) ∧ (l.length : Int) = (fnA x f).len)) : appE x f l = 2 ∧ appV x f l = 0 := by
  have he : appE x f l = 2 := if_neg h
  refine ⟨he, ?_⟩
  unfold appV; rw [he]; rfl
theorem argsB_no {f : FunA} {l : List Int} {j : Nat} (hj : j < l.length) (h : ¬ l.getD j 0 = argV f j) : argsB f l = false := by
  unfold argsB
  exact all_no (j := j) (y := j) (by rw [List.getElem?_range hj]) (decide_eq_false h)
theorem argsB_yes {f : FunA} {l : List Int} (h : ∀ j, j < l.length → l.getD j 0 = argV f j) : argsB f l = true := by
  unfold argsB
  rw [List.all_eq_true]
  intro j hj
  exact decide_eq_true (h j (List.mem_range.1 hj))
theorem checkQ_fun {x : SigV} (h : checkQ x.a = true) {k : Nat} {f : FunA} (hf : x.funs[k]? = some f) : 0 ≤ f.len ∧ f.len ≤ 3 := by
  have h2 := h
  unfold checkQ at h2
  simp only [Bool.and_eq_true] at h2
  have h3 := seqQ_at h2.2.2.2.2.1 (k := k) (p := f) hf
  unfold oneF funB at h3
  simp only [Bool.and_eq_true, decide_eq_true_eq] at h3
  exact ⟨h3.2.1, h3.2.2.1⟩
set_option maxRecDepth 100000 in
set_option maxHeartbeats 4000000 in
theorem App_any (x : SigV) (f : Int) (l : List Int) (la : Option Addr) (lc : Nat) (V E : Int) (w : World) (hX : SigR w x) (hf : I64 f) (hl : At w w.heap.size (l.flatMap numL) la) (hln : l.length ≤ 3) (hV : appV x f l = V) (hE : appE x f l = E) :
    Calls Tryz.prog 92 #[.agg #[.slice x.sa x.sorts.length x.sc, .slice x.fa x.funs.length x.fc, .slice x.ma x.macs.length x.mc], .int .i64 f, .slice la l.length lc] w fun e w' => e = .returned (.tuple #[.int .i64 V, .int .i64 E]) ∧ Below w.heap.size w w' := by
  obtain ⟨W0, hW0⟩ : ∃ W0, W0 = w.alloc (.cells #[.slice x.sa x.sorts.length x.sc, .slice x.fa x.funs.length x.fc, .slice x.ma x.macs.length x.mc] 26) := ⟨_, rfl⟩
  have hB0 : Below w.heap.size w W0 := by rw [hW0]; exact (Below.refl _ _).alloc (Nat.le_refl _) _
  have HB0 := Lib.hid hB0
  have hX0 : W0.heap[w.heap.size]? = some (.cells #[.slice x.sa x.sorts.length x.sc, .slice x.fa x.funs.length x.fc, .slice x.ma x.macs.length x.mc] 26 (0, 0)) := by rw [hW0]; exact heap_alloc_new w _
  have HK : Hid (∀ V, Below W0.heap.size W0 V → V.cell? ⟨w.heap.size, 0, none⟩ = some (.slice x.sa x.sorts.length x.sc) ∧ V.cell? ⟨w.heap.size, 1, none⟩ = some (.slice x.fa x.funs.length x.fc) ∧ V.cell? ⟨w.heap.size, 2, none⟩ = some (.slice x.ma x.macs.length x.mc) ∧ w.heap.size < V.heap.size) := fun V hV => sig_cells ((hV.block _ (Array.getElem?_eq_some_iff.1 hX0).1).trans hX0)
  have hC : ∀ q, checkQ x.a = q → Calls Tryz.prog 58 #[.agg #[.slice x.sa x.sorts.length x.sc, .slice x.fa x.funs.length x.fc, .slice x.ma x.macs.length x.mc]] W0 fun e w' => e = .returned (.int .i64 (if q = true then 0 else 2)) ∧ Below W0.heap.size W0 w' := fun q hq => RSigCheck_any x q W0 (hX.below hB0) hq
  have HX := Lib.hid hX
  have HL := Lib.hid hl
  obtain ⟨f1, f2⟩ := hf
  obtain ⟨c0, c1, c2, z0⟩ := HK.out _ (Below.refl _ _)
  clear hX0 hX hl hB0
  cases hq : checkQ x.a with
  | false =>
    obtain ⟨h1, h2⟩ := appE_no (x := x) (f := f) (l := l) (fun h => by rw [hq] at h; cases h.1)
    obtain rfl : E = 2 := hE.symm.trans h1
    obtain rfl : V = 0 := hV.symm.trans h2
    have HC := Lib.hid (hC _ hq)
    clear hC hq hE hV h1 h2
    go_enter Tryz.func92, Tryz.ntmps92
    go_wp2_with (go_at_call 58; rw [← hW0]; clear hW0; refine HC.out.mono ?_; rintro e w3 ⟨rfl, hb1⟩; have HB1 := Lib.hid hb1; clear hb1 c0 c1 c2 z0; obtain ⟨c0, c1, c2, z0⟩ := HK.out _ HB1.out; simp only [reduceIte, Bool.false_eq_true])
    go_ret2
    exact ⟨rfl, HB0.out.trans (HB1.out.mono HB0.out.size)⟩
  | true =>
  have HC := Lib.hid (hC _ hq)
  have HQ := Lib.hid hq
  obtain ⟨l4, l12⟩ := checkQ_len hq
  clear hC hq
  by_cases h0 : f < 0
  · obtain ⟨h1, h2⟩ := appE_no (x := x) (f := f) (l := l) (fun h => by have := h.2.1; omega)
    obtain rfl : E = 2 := hE.symm.trans h1
    obtain rfl : V = 0 := hV.symm.trans h2
    clear hE hV h1 h2
    go_enter Tryz.func92, Tryz.ntmps92
    go_wp2_with (go_at_call 58; rw [← hW0]; clear hW0; refine HC.out.mono ?_; rintro e w3 ⟨rfl, hb1⟩; have HB1 := Lib.hid hb1; clear hb1 c0 c1 c2 z0; obtain ⟨c0, c1, c2, z0⟩ := HK.out _ HB1.out; simp only [reduceIte])
    go_ret2
    exact ⟨rfl, HB0.out.trans (HB1.out.mono HB0.out.size)⟩
  by_cases h1 : (x.funs.length : Int) ≤ f
  · obtain ⟨h1, h2⟩ := appE_no (x := x) (f := f) (l := l) (fun h => by have := h.2.2.1; omega)
    obtain rfl : E = 2 := hE.symm.trans h1
    obtain rfl : V = 0 := hV.symm.trans h2
    clear hE hV h1 h2
    go_enter Tryz.func92, Tryz.ntmps92
    go_wp2_with (go_at_call 58; rw [← hW0]; clear hW0; refine HC.out.mono ?_; rintro e w3 ⟨rfl, hb1⟩; have HB1 := Lib.hid hb1; clear hb1 c0 c1 c2 z0; obtain ⟨c0, c1, c2, z0⟩ := HK.out _ HB1.out; simp only [reduceIte])
    go_ret2
    exact ⟨rfl, HB0.out.trans (HB1.out.mono HB0.out.size)⟩
  obtain ⟨k, rfl⟩ : ∃ k : Nat, f = (k : Int) := ⟨f.toNat, by omega⟩
  have hk : k < x.funs.length := by omega
  obtain ⟨fn, hfn⟩ : ∃ fn, x.funs[k]? = some fn := ⟨_, List.getElem?_eq_getElem hk⟩
  have hfA : fnA x (k : Int) = fn := by unfold fnA; rw [Int.toNat_natCast, hfn]; rfl
  obtain ⟨m0, m3⟩ := checkQ_fun HQ.out hfn
  obtain ⟨g, o, ha, hg, hcell⟩ := HX.out.fat (by rw [len_flat funC_len]; omega)
  have HFn : Hid (∀ V, Below w.heap.size w V → V.cell? ⟨g, o + k * 6 + 1, none⟩ = some (.int .i64 fn.len) ∧ V.cell? ⟨g, o + k * 6 + 2, none⟩ = some (.int .i64 fn.a0) ∧ V.cell? ⟨g, o + k * 6 + 3, none⟩ = some (.int .i64 fn.a1) ∧ V.cell? ⟨g, o + k * 6 + 4, none⟩ = some (.int .i64 fn.a2) ∧ V.cell? ⟨g, o + k * 6 + 5, none⟩ = some (.int .i64 fn.res) ∧ g < V.heap.size) := fun V hV => by
    have q1 := hcell _ _ ((get_flat funC_len x.funs k 1 fn hfn (by omega)).trans rfl)
    have q2 := hcell _ _ ((get_flat funC_len x.funs k 2 fn hfn (by omega)).trans rfl)
    have q3 := hcell _ _ ((get_flat funC_len x.funs k 3 fn hfn (by omega)).trans rfl)
    have q4 := hcell _ _ ((get_flat funC_len x.funs k 4 fn hfn (by omega)).trans rfl)
    have q5 := hcell _ _ ((get_flat funC_len x.funs k 5 fn hfn (by omega)).trans rfl)
    simp only [← Nat.add_assoc] at q1 q2 q3 q4 q5
    exact ⟨(hV.cell (p := ⟨g, o + k * 6 + 1, none⟩) hg).trans q1, (hV.cell (p := ⟨g, o + k * 6 + 2, none⟩) hg).trans q2, (hV.cell (p := ⟨g, o + k * 6 + 3, none⟩) hg).trans q3, (hV.cell (p := ⟨g, o + k * 6 + 4, none⟩) hg).trans q4, (hV.cell (p := ⟨g, o + k * 6 + 5, none⟩) hg).trans q5, Nat.lt_of_lt_of_le hg hV.size⟩
  have HA1 := Lib.hid ha
  have hkx : (k : Int) < (x.funs.length : Int) := by omega
  have hk0 : (0 : Int) ≤ (k : Int) := by omega
  clear hcell hfn ha c0 c1 c2 z0
  by_cases h2 : (l.length : Int) = fn.len
  rotate_left
  · obtain ⟨h3, h4⟩ := appE_no (x := x) (f := (k : Int)) (l := l) (fun h => by have := h.2.2.2; rw [hfA] at this; exact h2 this)
    obtain rfl : E = 2 := hE.symm.trans h3
    obtain rfl : V = 0 := hV.symm.trans h4
    have e2 := ne_true h2
    clear hE hV h3 h4 h2
    go_enter Tryz.func92, Tryz.ntmps92
    go_wp2_with (go_at_call 58; rw [← hW0]; clear hW0; refine HC.out.mono ?_; rintro e w3 ⟨rfl, hb1⟩; have HB1 := Lib.hid hb1; clear hb1; obtain ⟨c0, c1, c2, z0⟩ := HK.out _ HB1.out; rw [HA1.out] at c1; obtain ⟨q1, q2, q3, q4, q5, z1⟩ := HFn.out _ (HB0.out.trans (HB1.out.mono HB0.out.size)); simp only [reduceIte])
    go_ret2
    exact ⟨rfl, HB0.out.trans (HB1.out.mono HB0.out.size)⟩
  have hEE : appE x (k : Int) l = (if argsB fn l = true then 0 else 33) := by
    unfold appE
    rw [hfA, if_pos ⟨HQ.out, by omega, by omega, h2⟩]
  have HNo : Hid (∀ j, j < l.length → ¬ l.getD j 0 = argV fn j → V = 0 ∧ E = 33) := fun j hj h => by
    have he : appE x (k : Int) l = 33 := by rw [hEE, argsB_no hj h]; rfl
    refine ⟨?_, by rw [← hE, he]⟩
    rw [← hV]; unfold appV; rw [he]; rfl
  have HYes : Hid ((∀ j, j < l.length → l.getD j 0 = argV fn j) → V = fn.res ∧ E = 0) := fun h => by
    have he : appE x (k : Int) l = 0 := by rw [hEE, argsB_yes h]; rfl
    refine ⟨?_, by rw [← hE, he]⟩
    rw [← hV]; unfold appV; rw [he, if_pos rfl, hfA]
  have e2 : ((l.length : Int) != fn.len) = false := ne_false h2
  clear hE hV hEE hfA h2
  go_enter Tryz.func92, Tryz.ntmps92
  go_wp2_with (go_at_call 58; rw [← hW0]; clear hW0; refine HC.out.mono ?_; rintro e w3 ⟨rfl, hb1⟩; have HB1 := Lib.hid hb1; clear hb1; obtain ⟨c0, c1, c2, z0⟩ := HK.out _ HB1.out; rw [HA1.out] at c1; obtain ⟨q1, q2, q3, q4, q5, z1⟩ := HFn.out _ (HB0.out.trans (HB1.out.mono HB0.out.size)); simp only [reduceIte])
  clear c0 c1 c2 z0 q1 q2 q3 q4 q5 z1
  go_loopw [8] (fun i wr => ∃ j : Nat, j ≤ l.length ∧ i = .int .i64 j ∧ Hid (∀ i, i < j → l.getD i 0 = argV fn i) ∧ Hid (Below W0.heap.size W0 wr)) (fun i _ => l.length - (intOf i).toNat)
  case atStart => exact ⟨0, Nat.zero_le _, rfl, fun j hj => absurd hj (Nat.not_lt_zero _), HB1⟩
  case round =>
    obtain ⟨j, hj, rfl, HN, HB⟩ := hrel
    obtain ⟨c0, c1, c2, z0⟩ := HK.out _ HB.out
    rw [HA1.out] at c1
    have HBw : Hid (Below w.heap.size w wr) := HB0.out.trans (HB.out.mono HB0.out.size)
    obtain ⟨q1, q2, q3, q4, q5, z1⟩ := HFn.out _ HBw.out
    by_cases hlt : j < l.length
    rotate_left
    · obtain rfl : j = l.length := by omega
      obtain ⟨rfl, rfl⟩ := HYes.out HN.out
      go_wp2
      go_ret2
      exact ⟨rfl, HBw.out⟩
    obtain ⟨n, hn⟩ : ∃ n, l[j]? = some n := ⟨_, List.getElem?_eq_getElem hlt⟩
    have hgd : l.getD j 0 = n := by rw [List.getD_eq_getElem?_getD, hn]; rfl
    obtain ⟨g4, o4, ha4, hg4, hcell4⟩ := HL.out.below HBw.out (by rw [len_flat numL_len]; omega)
    have n0 := hcell4 _ _ ((get_flat numL_len l j 0 n hn (by omega)).trans rfl)
    simp only [Nat.add_zero, Nat.mul_one] at n0
    subst ha4
    have hjj : (j : Int) < (l.length : Int) := by omega
    have hc : j = 0 ∨ j = 1 ∨ j = 2 := by omega
    have hg4w : g4 < wr.heap.size := Nat.lt_of_lt_of_le hg4 HBw.out.size
    have hNo := HNo.out j hlt
    have hY2 : l.getD j 0 = argV fn j → ∀ i, i < j + 1 → l.getD i 0 = argV fn i := fun h i hi => by
      by_cases hij : i < j
      · exact HN.out i hij
      · obtain rfl : i = j := by omega
        exact h
    rw [hgd] at hNo hY2
    have HNo2 := Lib.hid hNo
    have HY2 := Lib.hid hY2
    clear hcell4 hn hNo hY2 hgd
    rcases hc with rfl | rfl | rfl
    · try simp only [Nat.add_zero] at n0
      by_cases hv : n = fn.a0
      · have HN3 := Lib.hid (HY2.out hv)
        have e1 := ne_false hv
        clear hv
        go_wp2_with fail
        go_quiet (fail)
        go_wp2_with fail
        go_roundw
        case rel => exact ⟨0 + 1, by omega, by go_num, HN3, below_dN HB.out⟩
        case measure => first | (simp [intOf]; done) | (simp [intOf]; omega)
      · obtain ⟨rfl, rfl⟩ := HNo2.out hv
        have e1 := ne_true hv
        clear hv
        go_wp2_with fail
        go_quiet (fail)
        go_wp2_with fail
        go_ret2
        exact ⟨rfl, below_dN HBw.out⟩
    · try simp only [Nat.add_zero] at n0
      by_cases hv : n = fn.a1
      · have HN3 := Lib.hid (HY2.out hv)
        have e1 := ne_false hv
        clear hv
        go_wp2_with fail
        go_quiet (fail)
        go_wp2_with fail
        go_roundw
        case rel => exact ⟨1 + 1, by omega, by go_num, HN3, below_dN HB.out⟩
        case measure => first | (simp [intOf]; done) | (simp [intOf]; omega)
      · obtain ⟨rfl, rfl⟩ := HNo2.out hv
        have e1 := ne_true hv
        clear hv
        go_wp2_with fail
        go_quiet (fail)
        go_wp2_with fail
        go_ret2
        exact ⟨rfl, below_dN HBw.out⟩
    · try simp only [Nat.add_zero] at n0
      by_cases hv : n = fn.a2
      · have HN3 := Lib.hid (HY2.out hv)
        have e1 := ne_false hv
        clear hv
        go_wp2_with fail
        go_quiet (fail)
        go_wp2_with fail
        go_roundw
        case rel => exact ⟨2 + 1, by omega, by go_num, HN3, below_dN HB.out⟩
        case measure => first | (simp [intOf]; done) | (simp [intOf]; omega)
      · obtain ⟨rfl, rfl⟩ := HNo2.out hv
        have e1 := ne_true hv
        clear hv
        go_wp2_with fail
        go_quiet (fail)
        go_wp2_with fail
        go_ret2
        exact ⟨rfl, below_dN HBw.out⟩
end Go.Proofs.YtfbjgadgfjnamaaGreatDoor
namespace Go.Proofs.YtfbjgadgfjnamaaGreatDoor
open Go.RowKit
set_option linter.unusedVariables false
/-- Whether a less b is at most n, of numbers that may be. -/
def atM (a b n : Int) : Bool := (mayB a && (mayB b && mayB n)) && decide (a - b ≤ n)

theorem i64_m {x : Int} (h : mayB x = true) : -4611686018427387904 ≤ x ∧ x ≤ 4611686018427387904 := mayB_true.1 h

theorem i64_and1 (n : Int) : bits .and .i64 n 1 = n % 2 := by
  have h1 : (BitVec.ofInt 64 1).toNat = 2 ^ 1 - 1 := by decide
  have key : (BitVec.ofInt 64 n &&& BitVec.ofInt 64 1).toNat = (n % ((2 ^ 64 : Nat) : Int)).toNat % 2 ^ 1 := by
    rw [BitVec.toNat_and, BitVec.toNat_ofInt, h1, Nat.and_two_pow_sub_one_eq_mod]
  show IntKind.i64.wrap ((BitVec.ofInt 64 n &&& BitVec.ofInt 64 1).toNat : Nat) = n % 2
  rw [key, IntKind.wrap_i64]
  omega
theorem rfits_any (n : Int) (w : World) (hn : I64 n) :
    Calls Tryz.prog 64 #[.int .i64 n] w fun e w' => e = .returned (.bool (mayB n)) ∧ w = w' := by
  obtain ⟨n1, n2⟩ := hn
  by_cases h : -4611686018427387904 ≤ n ∧ n ≤ 4611686018427387904
  · have hm : mayB n = true := mayB_true.2 h
    rw [hm]
    clear hm
    obtain ⟨h1, h2⟩ := h
    go_enter Tryz.func64, Tryz.ntmps64
    go_wp2
    go_ret
    exact ⟨rfl, rfl⟩
  · have hm : mayB n = false := by
      cases hq : mayB n with
      | true => exact absurd (mayB_true.1 hq) h
      | false => rfl
    rw [hm]
    clear hm
    by_cases h1 : -4611686018427387904 ≤ n
    · have h2 : ¬ n ≤ 4611686018427387904 := fun h2 => h ⟨h1, h2⟩
      clear h
      have h3 : decide (n ≤ 4611686018427387904) = false := decide_eq_false h2
      go_enter Tryz.func64, Tryz.ntmps64
      go_wp2
      go_ret
      exact ⟨rfl, rfl⟩
    · clear h
      go_enter Tryz.func64, Tryz.ntmps64
      go_wp2
      go_ret
      exact ⟨rfl, rfl⟩
theorem ret_le {p q : Prop} [Decidable p] [Decidable q] {r : Bool} (hr : r = decide q) (h : p ↔ q) : Ending.returned (.bool (decide p)) = .returned (.bool r) := by
  rw [hr, decide_eq_decide.2 h]
set_option maxHeartbeats 1000000 in
theorem RAtMost_any (a b n : Int) (r : Bool) (w : World) (ha : I64 a) (hb : I64 b) (hn : I64 n) (hr : atM a b n = r) :
    Calls Tryz.prog 63 #[.int .i64 a, .int .i64 b, .int .i64 n] w fun e w' => e = .returned (.bool r) ∧ w = w' := by
  have HM : Hid (∀ x q V, I64 x → mayB x = q → Calls Tryz.prog 64 #[.int .i64 x] V fun e w' => e = .returned (.bool q) ∧ V = w') := fun x q V hx hq => by
    refine (rfits_any x V hx).mono ?_
    rintro e w' ⟨rfl, h⟩
    exact ⟨by rw [hq], h⟩
  have HA := Lib.hid ha
  have HB := Lib.hid hb
  have HN := Lib.hid hn
  clear ha hb hn
  cases h1 : mayB a with
  | false =>
    have e : r = false := by rw [← hr]; unfold atM; rw [h1]; rfl
    subst e
    have H1 := Lib.hid h1
    clear hr h1
    go_enter Tryz.func63, Tryz.ntmps63
    go_wp2_with (go_at_call 64; refine (HM.out a false _ HA.out H1.out).mono ?_; rintro e w1 ⟨rfl, rfl⟩)
    go_ret
    exact ⟨rfl, rfl⟩
  | true =>
    cases h2 : mayB b with
    | false =>
      have e : r = false := by rw [← hr]; unfold atM; rw [h1, h2]; rfl
      subst e
      have H1 := Lib.hid h1
      have H2 := Lib.hid h2
      clear hr h1 h2
      go_enter Tryz.func63, Tryz.ntmps63
      go_wp2_with fail
      refine (HM.out a true _ HA.out H1.out).mono ?_
      rintro e w1 ⟨rfl, rfl⟩
      go_wp2_with fail
      refine (HM.out b false _ HB.out H2.out).mono ?_
      rintro e w2 ⟨rfl, rfl⟩
      go_wp2
      go_ret
      exact ⟨rfl, rfl⟩
    | true =>
      cases h3 : mayB n with
      | false =>
        have e : r = false := by rw [← hr]; unfold atM; rw [h1, h2, h3]; rfl
        subst e
        have H1 := Lib.hid h1
        have H2 := Lib.hid h2
        have H3 := Lib.hid h3
        clear hr h1 h2 h3
        go_enter Tryz.func63, Tryz.ntmps63
        go_wp2_with fail
        refine (HM.out a true _ HA.out H1.out).mono ?_
        rintro e w1 ⟨rfl, rfl⟩
        go_wp2_with fail
        refine (HM.out b true _ HB.out H2.out).mono ?_
        rintro e w2 ⟨rfl, rfl⟩
        go_wp2_with fail
        refine (HM.out n false _ HN.out H3.out).mono ?_
        rintro e w3 ⟨rfl, rfl⟩
        go_wp2
        go_ret
        exact ⟨rfl, rfl⟩
      | true =>
        have e : r = decide (a - b ≤ n) := by rw [← hr]; unfold atM; rw [h1, h2, h3]; rfl
        have HR := Lib.hid e
        have H1 := Lib.hid h1
        have H2 := Lib.hid h2
        have H3 := Lib.hid h3
        obtain ⟨a1, a2⟩ := i64_m h1
        obtain ⟨b1, b2⟩ := i64_m h2
        obtain ⟨n1, n2⟩ := i64_m h3
        have ea := i64_and1 a
        have eb := i64_and1 b
        have en := i64_and1 n
        clear hr h1 h2 h3 e
        go_enter Tryz.func63, Tryz.ntmps63
        go_wp2_with fail
        refine (HM.out a true _ HA.out H1.out).mono ?_
        rintro e w1 ⟨rfl, rfl⟩
        go_wp2_with fail
        refine (HM.out b true _ HB.out H2.out).mono ?_
        rintro e w2 ⟨rfl, rfl⟩
        go_wp2_with fail
        refine (HM.out n true _ HN.out H3.out).mono ?_
        rintro e w3 ⟨rfl, rfl⟩
        go_wp2
        all_goals (go_ret; exact ⟨ret_le HR.out (by omega), rfl⟩)
theorem bit_any (q : Bool) (w : World) : Calls Tryz.prog 62 #[.bool q] w fun e w' => e = .returned (.int .i64 (if q = true then 1 else 0)) ∧ w = w' := by
  cases q with
  | true =>
    go_enter Tryz.func62, Tryz.ntmps62
    go_wp2
    go_ret
    exact ⟨rfl, rfl⟩
  | false =>
    go_enter Tryz.func62, Tryz.ntmps62
    go_wp2
    go_ret
    exact ⟨rfl, rfl⟩
end Go.Proofs.YtfbjgadgfjnamaaGreatDoor
