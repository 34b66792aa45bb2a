/- EvalAtMost: whether a difference is at most a number, as integers. -/
import Derived.Test.YtbddghcdibdloaaGreatDoorEvX
import Derived.Laws.Bits128
namespace Go.Proofs.YtbddghcdibdloaaGreatDoor
open Go.RowKit
set_option linter.unusedVariables false
theorem i64_and1 (n : Int) : bits .and .i64 n 1 = n % 2 := by
  have h1 : (BitVec.ofInt 64 1).toNat = 2 ^ 1 - 1 := by decide
  have key : (BitVec.ofInt 64 n &&& BitVec.ofInt 64 1).toNat = (n % ((2 ^ 64 : Nat) : Int)).toNat % 2 ^ 1 := by
    rw [BitVec.toNat_and, BitVec.toNat_ofInt, h1, Nat.and_two_pow_sub_one_eq_mod]
  show IntKind.i64.wrap ((BitVec.ofInt 64 n &&& BitVec.ofInt 64 1).toNat : Nat) = n % 2
  rw [key, IntKind.wrap_i64]
  omega
theorem rfits_any (n : Int) (w : World) (hn : I64 n) :
    Calls Tryz.prog 8 #[.int .i64 n] w fun e w' => e = .returned (.bool (mayB n)) ∧ w = w' := by
  obtain ⟨n1, n2⟩ := hn
  by_cases h : -4611686018427387904 ≤ n ∧ n ≤ 4611686018427387904
  · have hm : mayB n = true := mayB_true.2 h
    rw [hm]
    clear hm
    obtain ⟨h1, h2⟩ := h
    go_enter Tryz.func8, Tryz.ntmps8
    go_wp2
    go_ret
    exact ⟨rfl, rfl⟩
  · have hm : mayB n = false := by
      cases hq : mayB n with
      | true => exact absurd (mayB_true.1 hq) h
      | false => rfl
    rw [hm]
    clear hm
    by_cases h1 : -4611686018427387904 ≤ n
    · have h2 : ¬ n ≤ 4611686018427387904 := fun h2 => h ⟨h1, h2⟩
      clear h
      have h3 : decide (n ≤ 4611686018427387904) = false := decide_eq_false h2
      go_enter Tryz.func8, Tryz.ntmps8
      go_wp2
      go_ret
      exact ⟨rfl, rfl⟩
    · clear h
      go_enter Tryz.func8, Tryz.ntmps8
      go_wp2
      go_ret
      exact ⟨rfl, rfl⟩
theorem ret_le {p q : Prop} [Decidable p] [Decidable q] {r : Bool} (hr : r = decide q) (h : p ↔ q) : Ending.returned (.bool (decide p)) = .returned (.bool r) := by
  rw [hr, decide_eq_decide.2 h]
set_option maxHeartbeats 1000000 in
theorem RAtMost_any (a b n : Int) (r : Bool) (w : World) (ha : I64 a) (hb : I64 b) (hn : I64 n) (hr : atM a b n = r) :
    Calls Tryz.prog 5 #[.int .i64 a, .int .i64 b, .int .i64 n] w fun e w' => e = .returned (.bool r) ∧ w = w' := by
  have HM : Hid (∀ x q V, I64 x → mayB x = q → Calls Tryz.prog 8 #[.int .i64 x] V fun e w' => e = .returned (.bool q) ∧ V = w') := fun x q V hx hq => by
    refine (rfits_any x V hx).mono ?_
    rintro e w' ⟨rfl, h⟩
    exact ⟨by rw [hq], h⟩
  have HA := Lib.hid ha
  have HB := Lib.hid hb
  have HN := Lib.hid hn
  clear ha hb hn
  cases h1 : mayB a with
  | false =>
    have e : r = false := by rw [← hr]; unfold atM; rw [h1]; rfl
    subst e
    have H1 := Lib.hid h1
    clear hr h1
    go_enter Tryz.func5, Tryz.ntmps5
    go_wp2_with (go_at_call 8; refine (HM.out a false _ HA.out H1.out).mono ?_; rintro e w1 ⟨rfl, rfl⟩)
    go_ret
    exact ⟨rfl, rfl⟩
  | true =>
    cases h2 : mayB b with
    | false =>
      have e : r = false := by rw [← hr]; unfold atM; rw [h1, h2]; rfl
      subst e
      have H1 := Lib.hid h1
      have H2 := Lib.hid h2
      clear hr h1 h2
      go_enter Tryz.func5, Tryz.ntmps5
      go_wp2_with fail
      refine (HM.out a true _ HA.out H1.out).mono ?_
      rintro e w1 ⟨rfl, rfl⟩
      go_wp2_with fail
      refine (HM.out b false _ HB.out H2.out).mono ?_
      rintro e w2 ⟨rfl, rfl⟩
      go_wp2
      go_ret
      exact ⟨rfl, rfl⟩
    | true =>
      cases h3 : mayB n with
      | false =>
        have e : r = false := by rw [← hr]; unfold atM; rw [h1, h2, h3]; rfl
        subst e
        have H1 := Lib.hid h1
        have H2 := Lib.hid h2
        have H3 := Lib.hid h3
        clear hr h1 h2 h3
        go_enter Tryz.func5, Tryz.ntmps5
        go_wp2_with fail
        refine (HM.out a true _ HA.out H1.out).mono ?_
        rintro e w1 ⟨rfl, rfl⟩
        go_wp2_with fail
        refine (HM.out b true _ HB.out H2.out).mono ?_
        rintro e w2 ⟨rfl, rfl⟩
        go_wp2_with fail
        refine (HM.out n false _ HN.out H3.out).mono ?_
        rintro e w3 ⟨rfl, rfl⟩
        go_wp2
        go_ret
        exact ⟨rfl, rfl⟩
      | true =>
        have e : r = decide (a - b ≤ n) := by rw [← hr]; unfold atM; rw [h1, h2, h3]; rfl
        have HR := Lib.hid e
        have H1 := Lib.hid h1
        have H2 := Lib.hid h2
        have H3 := Lib.hid h3
        obtain ⟨a1, a2⟩ := i64_m h1
        obtain ⟨b1, b2⟩ := i64_m h2
        obtain ⟨n1, n2⟩ := i64_m h3
        have ea := i64_and1 a
        have eb := i64_and1 b
        have en := i64_and1 n
        clear hr h1 h2 h3 e
        go_enter Tryz.func5, Tryz.ntmps5
        go_wp2_with fail
        refine (HM.out a true _ HA.out H1.out).mono ?_
        rintro e w1 ⟨rfl, rfl⟩
        go_wp2_with fail
        refine (HM.out b true _ HB.out H2.out).mono ?_
        rintro e w2 ⟨rfl, rfl⟩
        go_wp2_with fail
        refine (HM.out n true _ HN.out H3.out).mono ?_
        rintro e w3 ⟨rfl, rfl⟩
        go_wp2
        all_goals (go_ret; exact ⟨ret_le HR.out (by omega), rfl⟩)
theorem EvalAtMost_w (a b n : Int) (w : World) (hG : GA w) (ha : I64 a) (hb : I64 b) (hn : I64 n) :
    Calls Tryz.prog 3 #[.int .i64 a, .int .i64 b, .int .i64 n] w fun e w' => e = .returned (.bool true) ∧ Below w.heap.size w w' := by
  obtain ⟨r, hr⟩ : ∃ r, atM a b n = r := ⟨_, rfl⟩
  have HM : Hid (∀ V, Calls Tryz.prog 4 #[.int .i64 a, .int .i64 b, .int .i64 n] V fun e w' => e = .returned (.bool r) ∧ Below V.heap.size V w') := fun V => AtMost_any a b n r V ha hb hn hr
  have HR : Hid (∀ V, Calls Tryz.prog 5 #[.int .i64 a, .int .i64 b, .int .i64 n] V fun e w' => e = .returned (.bool r) ∧ V = w') := fun V => RAtMost_any a b n r V ha hb hn hr
  have HWk : Hid (∀ V, Below w.heap.size w V → Calls Tryz.prog 6 #[] V fun e w' => e = .returned (.bool true) ∧ Below V.heap.size V w') := fun V hV => wakes_any V (hG.below hV)
  clear hG ha hb hn hr
  go_enter Tryz.func3, Tryz.ntmps3
  go_wp2_with fail
  refine (HM.out _).mono ?_
  rintro e w1 ⟨rfl, hb1⟩
  have HB1 : Hid (Below w.heap.size w w1) := hb1
  clear hb1
  go_wp2_with fail
  refine (HR.out _).mono ?_
  rintro e w2 ⟨rfl, rfl⟩
  go_wp2_with fail
  refine (HWk.out _ HB1.out).mono ?_
  rintro e w3 ⟨rfl, hb3⟩
  go_wp2
  go_ret
  exact ⟨rfl, ball' HB1.out hb3⟩
theorem EvalAtMost_c (w : World) (a : Int) (ha : (Lit.int .i64 a).wf = true) (b : Int) (hb : (Lit.int .i64 b).wf = true) (n : Int) (hn : (Lit.int .i64 n).wf = true) (hG : GA w) :
    Calls Tryz.prog 3 #[.int .i64 a, .int .i64 b, .int .i64 n] w fun e w' => e = .returned (.bool true) ∧ Below w.heap.size w w' :=
  EvalAtMost_w a b n w hG (i64_of_wf ha) (i64_of_wf hb) (i64_of_wf hn)
end Go.Proofs.YtbddghcdibdloaaGreatDoor
