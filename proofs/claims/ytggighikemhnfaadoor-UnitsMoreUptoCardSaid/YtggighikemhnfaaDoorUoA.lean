/- Small functions of the laws; Contains. -/
import Derived.Test.YtggighikemhnfaaDoorUnZ
namespace Go.Proofs.YtggighikemhnfaaDoor.Tm
open Go.RowKit
set_option linter.unusedVariables false
theorem index_any (xs : List Int) (a : Option Addr) (c : Nat) (x : Int) (w : World) (hA : IntsR w xs a c) :
    Calls Tryd.prog 67 #[.slice a xs.length c, .int .i64 x] w fun e w' => (∃ i : Int, e = .returned (.int .i64 i) ∧ decide (0 ≤ i) = decide (x ∈ xs)) ∧ Below w.heap.size w w' := by
  have HA := Lib.hid hA
  have l1 : xs.length ≤ c := hA.le
  have c1 : xs.length ≤ 9223372036854775807 := by have := hA.cap; simp only [maxLen] at this; omega
  have HBr : Hid (Below w.heap.size w w) := Below.refl _ _
  clear hA
  go_enter Tryd.func67, Tryd.ntmps67
  go_wp2
  go_loopw [8] (fun iv wr => ∃ k : Nat, k ≤ xs.length ∧ iv = .int .i64 k ∧ Hid (∀ j y, j < k → xs[j]? = some y → y ≠ x) ∧ Hid (Below w.heap.size w wr)) (fun iv _ => xs.length - (intOf iv).toNat)
  case atStart => exact ⟨0, Nat.zero_le _, rfl, (fun j y h _ => absurd h (by omega)), HBr⟩
  case round =>
    obtain ⟨k, hkl, rfl, HE, HW⟩ := hrel
    by_cases hlt : k < xs.length
    · obtain ⟨y, hy⟩ : ∃ y, xs[k]? = some y := ⟨_, List.getElem?_eq_getElem hlt⟩
      obtain ⟨g, o, rfl, hg, q0⟩ := (HA.out.below HW.out).cell hy
      have HY := Lib.hid hy
      clear hy
      by_cases hxy : x = y
      · have e1 : (x == y) = true := eq_t hxy
        have HR : Hid (decide (0 ≤ (k : Int)) = decide (x ∈ xs)) := by
          show _ = _
          rw [decide_eq_true (by omega), decide_eq_true (by rw [hxy]; exact List.mem_of_getElem? HY.out)]
        clear hxy
        go_wp2
        go_ret
        exact ⟨⟨k, rfl, HR.out⟩, HW.out⟩
      · have e1 : (x == y) = false := eq_f hxy
        have HN : Hid (∀ j z, j < k + 1 → xs[j]? = some z → z ≠ x) := fun j z hj h1 => by
          by_cases e : j = k
          · subst e
            rw [HY.out] at h1
            cases h1
            exact fun e => hxy e.symm
          · exact HE.out j z (by omega) h1
        clear hxy
        go_wp2
        go_roundw
        case rel => exact ⟨k + 1, by omega, by go_num, HN, HW⟩
        case measure => simp [intOf]; omega
    · obtain rfl : k = xs.length := by omega
      have HR : Hid (decide (0 ≤ (-1 : Int)) = decide (x ∈ xs)) := by
        show _ = _
        rw [decide_eq_false (by omega), decide_eq_false (fun h => by
          obtain ⟨j, hj⟩ := List.getElem?_of_mem h
          exact HE.out j x (List.getElem?_eq_some_iff.1 hj).1 hj rfl)]
      go_wp2
      go_ret
      exact ⟨⟨-1, rfl, HR.out⟩, HW.out⟩
theorem contains_any (xs : List Int) (a : Option Addr) (c : Nat) (x : Int) (w : World) (hA : IntsR w xs a c) :
    Calls Tryd.prog 48 #[.slice a xs.length c, .int .i64 x] w fun e w' => e = .returned (.bool (decide (x ∈ xs))) ∧ Below w.heap.size w w' := by
  have HI := Lib.hid (index_any xs a c x w hA)
  obtain ⟨q, hq⟩ : ∃ q, decide (x ∈ xs) = q := ⟨_, rfl⟩
  rw [hq] at HI ⊢
  clear hA hq
  go_enter Tryd.func48, Tryd.ntmps48
  go_wp2_with fail
  with_reducible refine HI.out.mono ?_
  rintro e w1 ⟨⟨i, rfl, hi⟩, hb⟩
  have HB := Lib.hid hb
  have HQ := Lib.hid hi
  clear hb hi
  go_wp2
  go_ret
  exact ⟨ret_bool HQ.out, HB.out⟩
theorem Closes_any (rs : List RowD) (a : Option Addr) (c : Nat) (gs : List Int) (a2 : Option Addr) (c2 : Nat) (cls : List (List Int)) (w : World) (hcl : rs.map (·.xs) = cls) (hG : GC w) (hR : RowsR w rs a c) (hA : IntsR w gs a2 c2) (hl : rs.length ≤ 1000) (hf : cls.flatten.length ≤ 600000) (hgl : gs.length ≤ 10000) :
    Calls Tryd.prog 17 #[.slice a rs.length c, .slice a2 gs.length c2] w fun e w' => (∃ r k q, RunRel cls gs r k ∧ e = .returned (.bool q) ∧ q = decide (k ≠ -1)) ∧ Below w.heap.size w w' := by
  have HR := Lib.hid (Run_any rs a c gs a2 c2 cls w hcl hG hR hA hl hf hgl)
  clear hcl hG hR hA hl hf hgl
  go_enter Tryd.func17, Tryd.ntmps17
  go_wp2_with fail
  with_reducible refine HR.out.mono ?_
  rintro e w1 ⟨r, k, a', c', rfl, h1, h2, h3⟩
  have HX := Lib.hid (And.intro h1 h3)
  clear h1 h2 h3
  by_cases hk : k = -1
  · have e1 : (k != -1) = false := ne_f hk
    have HQ : Hid (false = decide (k ≠ -1)) := (decide_eq_false (fun e => e hk)).symm
    clear hk
    go_wp2
    go_ret
    exact ⟨⟨r, k, false, HX.out.1, rfl, HQ.out⟩, HX.out.2⟩
  · have e1 : (k != -1) = true := ne_t hk
    have HQ : Hid (true = decide (k ≠ -1)) := (decide_eq_true hk).symm
    clear hk
    go_wp2
    go_ret
    exact ⟨⟨r, k, true, HX.out.1, rfl, HQ.out⟩, HX.out.2⟩
theorem Implies_any (rs : List RowD) (a : Option Addr) (c : Nat) (gs : List Int) (a2 : Option Addr) (c2 : Nat) (x : Int) (cls : List (List Int)) (w : World) (hcl : rs.map (·.xs) = cls) (hG : GC w) (hR : RowsR w rs a c) (hA : IntsR w gs a2 c2) (hl : rs.length ≤ 1000) (hf : cls.flatten.length ≤ 600000) (hgl : gs.length ≤ 10000) :
    Calls Tryd.prog 19 #[.slice a rs.length c, .slice a2 gs.length c2, .int .i64 x] w fun e w' => (∃ r k q, RunRel cls gs r k ∧ e = .returned (.bool q) ∧ q = decide (k ≠ -1 ∨ x ∈ r)) ∧ Below w.heap.size w w' := by
  have HR := Lib.hid (Run_any rs a c gs a2 c2 cls w hcl hG hR hA hl hf hgl)
  clear hcl hG hR hA hl hf hgl
  go_enter Tryd.func19, Tryd.ntmps19
  go_wp2_with fail
  with_reducible refine HR.out.mono ?_
  rintro e w1 ⟨r, k, a', c', rfl, h1, h2, h3⟩
  have HX := Lib.hid (And.intro h1 h3)
  have HC := Lib.hid (contains_any r a' c' x w1 h2)
  clear h1 h2 h3
  by_cases hk : k = -1
  · have e1 : (k != -1) = false := ne_f hk
    obtain ⟨q, hq⟩ : ∃ q, decide (x ∈ r) = q := ⟨_, rfl⟩
    rw [hq] at HC
    have HQ : Hid (q = decide (k ≠ -1 ∨ x ∈ r)) := by
      show _ = _
      rw [← hq]
      by_cases hx : x ∈ r
      · rw [decide_eq_true hx, decide_eq_true (.inr hx)]
      · rw [decide_eq_false hx, decide_eq_false (fun e => e.elim (fun e => e hk) hx)]
    clear hk hq
    go_wp2_with (first | (go_at_call 48; with_reducible refine HC.out.mono ?_; rintro e w2 ⟨rfl, hb2⟩; have HB2 := Lib.hid hb2; clear hb2))
    go_ret
    exact ⟨⟨r, k, q, HX.out.1, rfl, HQ.out⟩, ball HX.out.2 HB2.out⟩
  · have e1 : (k != -1) = true := ne_t hk
    have HQ : Hid (true = decide (k ≠ -1 ∨ x ∈ r)) := (decide_eq_true (.inl hk)).symm
    clear hk
    go_wp2
    go_ret
    exact ⟨⟨r, k, true, HX.out.1, rfl, HQ.out⟩, HX.out.2⟩
end Go.Proofs.YtggighikemhnfaaDoor.Tm
