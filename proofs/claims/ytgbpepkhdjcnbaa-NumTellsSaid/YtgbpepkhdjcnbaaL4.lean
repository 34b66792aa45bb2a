/- Any sums, numerals and texts are what the document says: the walk of the law. -/
import Derived.Test.YtgbpepkhdjcnbaaNumLaws
namespace Go.Proofs.Ytgbpepkhdjcnbaa
open Go.RowKit
theorem RAdd_b (a b : Int) (w : World) : Calls Try.prog 10 #[.int .i64 a, .int .i64 b] w fun e w' => e = .returned (.tuple #[.int .i64 (addV a b), .int .i64 (addE a b)]) ∧ Below w.heap.size w w' :=
  (RAdd_any a b w).mono fun _ _ ⟨he, hw⟩ => ⟨he, by subst hw; exact Below.refl _ _⟩
theorem RSub_b (a b : Int) (w : World) : Calls Try.prog 12 #[.int .i64 a, .int .i64 b] w fun e w' => e = .returned (.tuple #[.int .i64 (subV a b), .int .i64 (subE a b)]) ∧ Below w.heap.size w w' :=
  (RSub_any a b w).mono fun _ _ ⟨he, hw⟩ => ⟨he, by subst hw; exact Below.refl _ _⟩
theorem RParse_b (s : ByteArray) (w : World) (hs : s.size ≤ 9223372036854775807) : Calls Try.prog 14 #[.string s] w fun e w' => e = .returned (.tuple #[.int .i64 (parseV s.data.toList), .int .i64 (parseE s.data.toList)]) ∧ Below w.heap.size w w' :=
  (RParse_any s w hs).mono fun _ _ ⟨he, hw⟩ => ⟨he, by subst hw; exact Below.refl _ _⟩
theorem RSum_b (A : Option Addr) (c : Nat) (xs : List Int) (most : Int) (w : World) (hn : xs.length ≤ 9223372036854775807) (hI : IntsAt w w.heap.size A xs) :
    Calls Try.prog 18 #[.slice A xs.length c, .int .i64 most] w fun e w' => e = .returned (.tuple #[.int .i64 (sumV most xs), .bool (sumOk most xs)]) ∧ Below w.heap.size w w' :=
  (RSum_any A c xs most w hn hI).mono fun _ _ ⟨he, hw⟩ => ⟨he, by subst hw; exact Below.refl _ _⟩
theorem RMay_b (n : Int) (w : World) : Calls Try.prog 20 #[.int .i64 n] w fun e w' => e = .returned (.bool (mayB n)) ∧ Below w.heap.size w w' :=
  (RMay_any n w).mono fun _ _ ⟨he, hw⟩ => ⟨he, by subst hw; exact Below.refl _ _⟩
set_option maxRecDepth 100000 in
set_option maxHeartbeats 1600000 in
theorem NumTells_walk (a b : Int) (s : ByteArray) (A : Option Addr) (c : Nat) (xs : List Int) (most : Int) (w : World) (ha : I64 a) (hb : I64 b) (hs : s.size ≤ 9223372036854775807)
    (hx : ∀ x ∈ xs, I64 x) (hn : xs.length ≤ 9223372036854775807) (hI : IntsAt w w.heap.size A xs) :
    Calls Try.prog 3 #[.int .i64 a, .int .i64 b, .string s, .slice A xs.length c, .int .i64 most] w fun e w' => e = .returned (.bool true) ∧ Below w.heap.size w w' := by
  by_cases h1 : 300 < s.size ∨ 200 < xs.length
  · have h2 : 300 < s.size ∨ s.size ≤ 300 ∧ 200 < xs.length := by omega
    rcases h2 with h2 | ⟨h2, h3⟩
    all_goals
      go_enter Try.func3, Try.ntmps3
      go_wp2_with (go_at_call 8; refine (wakes_any _).mono ?_; rintro e w1 ⟨rfl, hb1⟩)
      go_ret
      exact ⟨rfl, hb1⟩
  · have h2 : s.size ≤ 300 := by omega
    have h3 : xs.length ≤ 200 := by omega
    have HX := Lib.hid hx
    have HI := Lib.hid hI
    clear hx hI h1
    go_enter Try.func3, Try.ntmps3
    go_wp2_with fail
    refine (Add_any a b _ ha hb).mono ?_
    rintro e w1 ⟨rfl, hb1⟩
    go_wp2_with fail
    refine (RAdd_b a b _).mono ?_
    rintro e w2 ⟨rfl, hb2⟩
    go_wp2_with fail
    refine (Sub_any a b _ ha hb).mono ?_
    rintro e w3 ⟨rfl, hb3⟩
    go_wp2_with fail
    refine (RSub_b a b _).mono ?_
    rintro e w4 ⟨rfl, hb4⟩
    go_wp2_with fail
    refine (Parse_any s _ hs).mono ?_
    rintro e w5 ⟨rfl, hb5⟩
    go_wp2_with fail
    refine (RParse_b s _ hs).mono ?_
    rintro e w6 ⟨rfl, hb6⟩
    go_wp2_with fail
    refine (Text_any a _ ha).mono ?_
    rintro e w7 ⟨rfl, hb7⟩
    go_wp2_with fail
    refine (RText_any a _).mono ?_
    rintro e w8 ⟨rfl, hb8⟩
    have s1 := hb1.size; have s2 := hb2.size; have s3 := hb3.size; have s4 := hb4.size; have s5 := hb5.size; have s6 := hb6.size; have s7 := hb7.size; have s8 := hb8.size
    have B8 : Below w.heap.size w w8 := (((((((hb1.trans (hb2.mono (by omega))).trans (hb3.mono (by omega))).trans (hb4.mono (by omega))).trans (hb5.mono (by omega))).trans (hb6.mono (by omega))).trans (hb7.mono (by omega))).trans (hb8.mono (by omega)))
    have hI8 := (HI.out.below B8).more B8.size
    have HI8 := Lib.hid hI8
    clear hI8
    go_wp2_with fail
    refine (Sum_any A c xs most _ hn HX.out HI8.out).mono ?_
    rintro e w9 ⟨rfl, hb9⟩
    have hI9 := (HI8.out.below hb9).more hb9.size
    have HI9 := Lib.hid hI9
    clear hI9
    go_wp2_with fail
    refine (RSum_b A c xs most _ hn HI9.out).mono ?_
    rintro e w10 ⟨rfl, hb10⟩
    go_wp2_with fail
    refine (May_any a _ ha).mono ?_
    rintro e w11 ⟨rfl, hb11⟩
    go_wp2_with fail
    refine (RMay_b a _).mono ?_
    rintro e w12 ⟨rfl, hb12⟩
    go_wp2_with fail
    refine (wakes_any _).mono ?_
    rintro e w13 ⟨rfl, hb13⟩
    go_wp2
    go_ret
    have s9 := hb9.size; have s10 := hb10.size; have s11 := hb11.size; have s12 := hb12.size; have t8 := B8.size
    exact ⟨rfl, (((((B8.trans (hb9.mono (by omega))).trans (hb10.mono (by omega))).trans (hb11.mono (by omega))).trans (hb12.mono (by omega))).trans (hb13.mono (by omega)))⟩
theorem NumTells_w (w : World) (a : Int) (wa : (Lit.int .i64 a).wf = true) (b : Int) (wb : (Lit.int .i64 b).wf = true) (s : ByteArray) (ws : s.size ≤ maxLen)
    (A : Option Addr) (len cp : Nat) (zs : List Int) (hr : IsRow .i64 w A len cp zs) (most : Int) (_ : (Lit.int .i64 most).wf = true) :
    Calls Try.prog 3 #[.int .i64 a, .int .i64 b, .string s, .slice A len cp, .int .i64 most] w fun e w' => e = .returned (.bool true) ∧ Below w.heap.size w w' := by
  obtain ⟨xs, rfl, hn, _, hI, hx⟩ := hr.ints
  exact NumTells_walk a b s A cp xs most w (i64_of_wf wa) (i64_of_wf wb) (by unfold maxLen at ws; omega) hx hn hI
end Go.Proofs.Ytgbpepkhdjcnbaa
