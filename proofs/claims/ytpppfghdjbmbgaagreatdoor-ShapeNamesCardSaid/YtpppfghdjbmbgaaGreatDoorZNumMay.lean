/- The functions May, Add and Sub of package num and of the document give what the plain facts say. -/
import Derived.WalkKit
import Derived.Laws.Strings
import Derived.Test.YtpppfghdjbmbgaaGreatDoorProg
import Derived.Test.YtpppfghdjbmbgaaGreatDoorZTk
namespace Go.Proofs.YtpppfghdjbmbgaaGreatDoor
open Go.RowKit
/-- Whether a number lies from -2^62 to 2^62. -/
def mayB (n : Int) : Bool := decide (-4611686018427387904 ≤ n ∧ n ≤ 4611686018427387904)
theorem mayB_true {n : Int} : mayB n = true ↔ -4611686018427387904 ≤ n ∧ n ≤ 4611686018427387904 := by unfold mayB; simp
theorem mayB_false {n : Int} : mayB n = false ↔ n < -4611686018427387904 ∨ 4611686018427387904 < n := by unfold mayB; simp; omega
theorem may_ret {x : Int} (lo : -9223372036854775808 ≤ x) (hi : x ≤ 9223372036854775807)
    (h : (IntKind.u64.wrap (IntKind.u64.wrap x + 4611686018427387904) / 9223372036854775808 != 0) = true ∧
      (IntKind.u64.wrap (IntKind.u64.wrap (IntKind.u64.wrap x + 4611686018427387904) * 2) != 0) = true) : mayB x = false := by
  rw [mayB_false]
  obtain ⟨h1, h2⟩ := h
  simp only [bne_iff_ne, ne_eq, IntKind.wrap_u64] at h1 h2
  omega
theorem may_go0 {x : Int} (lo : -9223372036854775808 ≤ x) (hi : x ≤ 9223372036854775807)
    (h : IntKind.u64.wrap (IntKind.u64.wrap x + 4611686018427387904) / 9223372036854775808 = 0) : mayB x = true := by
  rw [mayB_true]
  simp only [IntKind.wrap_u64] at h
  omega
theorem may_go1 {x : Int} (lo : -9223372036854775808 ≤ x) (hi : x ≤ 9223372036854775807)
    (h : (IntKind.u64.wrap (IntKind.u64.wrap x + 4611686018427387904) / 9223372036854775808 != 0) = false ∨
      (IntKind.u64.wrap (IntKind.u64.wrap (IntKind.u64.wrap x + 4611686018427387904) * 2) != 0) = false) : mayB x = true := by
  rw [mayB_true]
  simp only [bne_eq_false_iff_eq, IntKind.wrap_u64] at h
  omega
def addOk (a b : Int) : Bool := mayB a && (mayB b && mayB (a + b))
def addV (a b : Int) : Int := if addOk a b = true then a + b else 0
def addE (a b : Int) : Int := if addOk a b = true then 0 else 10
def subV (a b : Int) : Int := if addOk a (-b) = true then a - b else 0
def subE (a b : Int) : Int := if addOk a (-b) = true then 0 else 10
theorem addOk_true {a b : Int} : addOk a b = true ↔ (-4611686018427387904 ≤ a ∧ a ≤ 4611686018427387904) ∧ (-4611686018427387904 ≤ b ∧ b ≤ 4611686018427387904) ∧ (-4611686018427387904 ≤ a + b ∧ a + b ≤ 4611686018427387904) := by
  unfold addOk; simp [mayB_true]
theorem addOk_false {a b : Int} (h : addOk a b = false) : ¬ ((-4611686018427387904 ≤ a ∧ a ≤ 4611686018427387904) ∧ (-4611686018427387904 ≤ b ∧ b ≤ 4611686018427387904) ∧ (-4611686018427387904 ≤ a + b ∧ a + b ≤ 4611686018427387904)) := by
  rw [← addOk_true, h]; simp
theorem addOk_no {a b : Int} (h : addOk a b = false) : (mayB a && (mayB b && mayB (wrap64 (a + b)))) = false := by
  have h' := addOk_false h
  cases e : (mayB a && (mayB b && mayB (wrap64 (a + b)))) with
  | false => rfl
  | true =>
    exfalso
    simp only [Bool.and_eq_true, mayB_true, wrap64] at e
    omega
theorem subOk_no {a b : Int} (h : addOk a (-b) = false) : (mayB a && (mayB b && mayB (wrap64 (a - b)))) = false := by
  have h' := addOk_false h
  cases e : (mayB a && (mayB b && mayB (wrap64 (a - b)))) with
  | false => rfl
  | true =>
    exfalso
    simp only [Bool.and_eq_true, mayB_true, wrap64] at e
    omega
/-! ## Numerals -/
def isD (c : UInt8) : Bool := decide (48 ≤ c.toNat ∧ c.toNat ≤ 57)
/-- Is it a numeral: 0, or digits whose first one is not 0? -/
def numB : List UInt8 → Bool
  | [] => false
  | c :: l => !(c == 48 && !l.isEmpty) && (c :: l).all isD
/-- What digits stand for. -/
def valN (l : List UInt8) : Nat := l.foldl (fun n c => n * 10 + (c.toNat - 48)) 0
def parseE (l : List UInt8) : Int := if numB l = true then (if valN l ≤ 4611686018427387904 then 0 else 10) else 20
/-- The limit, brought within 0 to 2^62. -/
def cap (most : Int) : Int := if most < 0 then 0 else if most ≤ 4611686018427387904 then most else 4611686018427387904
theorem all_take_succ (xs : List Int) (k : Nat) (h : k < xs.length) : (xs.take (k + 1)).all mayB = ((xs.take k).all mayB && mayB xs[k]) := by
  rw [List.take_succ_eq_append_getElem h, List.all_append]; simp
theorem all_false_of (xs : List Int) (k : Nat) (h : k < xs.length) (hm : mayB xs[k] = false) : xs.all mayB = false := by
  rw [List.all_eq_false]; exact ⟨xs[k], List.getElem_mem h, by simp [hm]⟩
end Go.Proofs.YtpppfghdjbmbgaaGreatDoor
namespace Go.Proofs.YtpppfghdjbmbgaaGreatDoor
open Go.RowKit
theorem allMay_any (b c : Nat) (xs : List Int) (w : World) (hn : xs.length ≤ 100) (hx : ∀ x ∈ xs, I64 x)
    (hc : ∀ j, j < xs.length → w.cell? ⟨b, j, none⟩ = some (.int .i64 (xs.getD j 0))) :
    Calls Tryz.prog 115 #[.slice (some ⟨b, 0, none⟩) xs.length c] w fun e w' => e = .returned (.bool (xs.all mayB)) ∧ w = w' := by
  have HC := Lib.hid hc; clear hc
  have HX := Lib.hid hx; clear hx
  go_enter Tryz.func115, Tryz.ntmps115
  go_wp2
  go_loop [8] (fun i => ∃ k : Nat, k ≤ xs.length ∧ (xs.take k).all mayB = true ∧ i = .int .i64 k) (fun i => xs.length - (intOf i).toNat)
  case atStart => exact ⟨0, Nat.zero_le _, rfl, rfl⟩
  case round =>
    obtain ⟨k, hk, hall, rfl⟩ := hrel
    have HA := Lib.hid hall; clear hall
    by_cases hlt : k < xs.length
    · have hcell := HC.out k hlt
      have hb : I64 xs[k] := HX.out _ (List.getElem_mem hlt)
      obtain ⟨lo, hi⟩ := hb
      go_wp2
      · go_round
        case rel => exact ⟨k + 1, by omega, by rw [all_take_succ xs k hlt, HA.out, may_go0 lo hi (by assumption)]; rfl, by go_num⟩
        case measure => simp [intOf]; omega
      · go_ret
        exact ⟨ret_bool (all_false_of xs k hlt (may_ret lo hi (by assumption))).symm, rfl⟩
      · go_round
        case rel => exact ⟨k + 1, by omega, by rw [all_take_succ xs k hlt, HA.out, may_go1 lo hi (by assumption)]; rfl, by go_num⟩
        case measure => simp [intOf]; omega
    · go_wp2
      go_ret
      exact ⟨ret_bool (by rw [← HA.out, List.take_of_length_le (by omega)]), rfl⟩
theorem allMay1 (b : Nat) (n : Int) (w : World) (hn : I64 n) (hc : w.cell? ⟨b, 0, none⟩ = some (.int .i64 n)) :
    Calls Tryz.prog 115 #[.slice (some ⟨b, 0, none⟩) 1 1] w fun e w' => e = .returned (.bool (mayB n)) ∧ w = w' := by
  have h := allMay_any b 1 [n] w (by simp) (by simpa using hn) (by
    intro j hj
    obtain rfl : j = 0 := by simpa using hj
    simpa using hc)
  exact h.mono fun _ _ ⟨he, hw⟩ => ⟨by rw [he]; simp, hw⟩
theorem allMay3 (b : Nat) (x y z : Int) (w : World) (hx : I64 x) (hy : I64 y) (hz : I64 z) (h0 : w.cell? ⟨b, 0, none⟩ = some (.int .i64 x))
    (h1 : w.cell? ⟨b, 1, none⟩ = some (.int .i64 y)) (h2 : w.cell? ⟨b, 2, none⟩ = some (.int .i64 z)) :
    Calls Tryz.prog 115 #[.slice (some ⟨b, 0, none⟩) 3 3] w fun e w' => e = .returned (.bool (mayB x && (mayB y && mayB z))) ∧ w = w' := by
  have h := allMay_any b 3 [x, y, z] w (by simp) (by simpa using ⟨hx, hy, hz⟩) (by
    intro j hj
    have : j = 0 ∨ j = 1 ∨ j = 2 := by simp at hj; omega
    rcases this with rfl | rfl | rfl
    · simpa using h0
    · simpa using h1
    · simpa using h2)
  exact h.mono fun _ _ ⟨he, hw⟩ => ⟨by rw [he]; simp, hw⟩
theorem May_any (n : Int) (w : World) (hn : I64 n) :
    Calls Tryz.prog 105 #[.int .i64 n] w fun e w' => e = .returned (.bool (mayB n)) ∧ Below w.heap.size w w' := by
  go_enter Tryz.func105, Tryz.ntmps105
  go_wp2_with (go_at_call 115; refine (allMay1 _ n _ hn (by simp)).mono ?_; rintro e w' ⟨rfl, rfl⟩)
  go_ret
  exact ⟨rfl, (Below.refl _ _).alloc (Nat.le_refl _) _⟩
theorem allMay3_no (b : Nat) (x y z : Int) (w : World) (hx : I64 x) (hy : I64 y) (hz : I64 z) (hno : (mayB x && (mayB y && mayB z)) = false) (h0 : w.cell? ⟨b, 0, none⟩ = some (.int .i64 x))
    (h1 : w.cell? ⟨b, 1, none⟩ = some (.int .i64 y)) (h2 : w.cell? ⟨b, 2, none⟩ = some (.int .i64 z)) :
    Calls Tryz.prog 115 #[.slice (some ⟨b, 0, none⟩) 3 3] w fun e w' => e = .returned (.bool false) ∧ w = w' :=
  (allMay3 b x y z w hx hy hz h0 h1 h2).mono fun _ _ ⟨he, hw⟩ => ⟨by rw [he, hno], hw⟩
theorem allMay3_yes (b : Nat) (x y z : Int) (w : World) (hx : mayB x = true) (hy : mayB y = true) (hz : mayB z = true) (h0 : w.cell? ⟨b, 0, none⟩ = some (.int .i64 x))
    (h1 : w.cell? ⟨b, 1, none⟩ = some (.int .i64 y)) (h2 : w.cell? ⟨b, 2, none⟩ = some (.int .i64 z)) :
    Calls Tryz.prog 115 #[.slice (some ⟨b, 0, none⟩) 3 3] w fun e w' => e = .returned (.bool true) ∧ w = w' := by
  have i : ∀ {n}, mayB n = true → I64 n := fun h => by rw [mayB_true] at h; exact ⟨by omega, by omega⟩
  exact (allMay3 b x y z w (i hx) (i hy) (i hz) h0 h1 h2).mono fun _ _ ⟨he, hw⟩ => ⟨by rw [he, hx, hy, hz]; rfl, hw⟩
theorem i64_wrap (x : Int) : I64 (wrap64 x) := by unfold I64 wrap64; omega
theorem Add_any (a b : Int) (w : World) (ha : I64 a) (hb : I64 b) :
    Calls Tryz.prog 122 #[.int .i64 a, .int .i64 b] w fun e w' => e = .returned (.tuple #[.int .i64 (addV a b), .int .i64 (addE a b)]) ∧ Below w.heap.size w w' := by
  cases hok : addOk a b with
  | true =>
    obtain ⟨⟨p1, p2⟩, ⟨p3, p4⟩, p5, p6⟩ := addOk_true.1 hok
    have m1 := Lib.hid (mayB_true.2 ⟨p1, p2⟩)
    have m2 := Lib.hid (mayB_true.2 ⟨p3, p4⟩)
    have m3 := Lib.hid (mayB_true.2 ⟨p5, p6⟩)
    have HK := Lib.hid hok; clear hok ha hb
    go_enter Tryz.func122, Tryz.ntmps122
    go_wp2_with (go_at_call 115; refine (allMay3_yes _ a b (a + b) _ m1.out m2.out m3.out (by simp) (by simp) (by simp)).mono ?_; rintro e w' ⟨rfl, rfl⟩)
    go_ret2
    exact ⟨ret_two (val_int (by simp [addV, HK.out])) (val_int (by simp [addE, HK.out])), (Below.refl _ _).alloc (Nat.le_refl _) _⟩
  | false =>
    have hno := Lib.hid (addOk_no hok)
    have HK := Lib.hid hok; clear hok
    go_enter Tryz.func122, Tryz.ntmps122
    go_wp2_with (go_at_call 115; refine (allMay3_no _ a b (wrap64 (a + b)) _ ha hb (i64_wrap _) hno.out (by simp) (by simp) (by simp)).mono ?_; rintro e w' ⟨rfl, rfl⟩)
    go_ret2
    exact ⟨ret_two (val_int (by simp [addV, HK.out])) (val_int (by simp [addE, HK.out])), (Below.refl _ _).alloc (Nat.le_refl _) _⟩
theorem Sub_any (a b : Int) (w : World) (ha : I64 a) (hb : I64 b) :
    Calls Tryz.prog 121 #[.int .i64 a, .int .i64 b] w fun e w' => e = .returned (.tuple #[.int .i64 (subV a b), .int .i64 (subE a b)]) ∧ Below w.heap.size w w' := by
  cases hok : addOk a (-b) with
  | true =>
    obtain ⟨⟨p1, p2⟩, ⟨p3, p4⟩, p5, p6⟩ := addOk_true.1 hok
    have m1 := Lib.hid (mayB_true.2 ⟨p1, p2⟩)
    have m2 := Lib.hid ((mayB_true (n := b)).2 ⟨by omega, by omega⟩)
    have m3 := Lib.hid ((mayB_true (n := a - b)).2 ⟨by omega, by omega⟩)
    have HK := Lib.hid hok; clear hok ha hb
    go_enter Tryz.func121, Tryz.ntmps121
    go_wp2_with (go_at_call 115; refine (allMay3_yes _ a b (a - b) _ m1.out m2.out m3.out (by simp) (by simp) (by simp)).mono ?_; rintro e w' ⟨rfl, rfl⟩)
    go_ret2
    exact ⟨ret_two (val_int (by simp [subV, HK.out])) (val_int (by simp [subE, HK.out])), (Below.refl _ _).alloc (Nat.le_refl _) _⟩
  | false =>
    have hno := Lib.hid (subOk_no hok)
    have HK := Lib.hid hok; clear hok
    go_enter Tryz.func121, Tryz.ntmps121
    go_wp2_with (go_at_call 115; refine (allMay3_no _ a b (wrap64 (a - b)) _ ha hb (i64_wrap _) hno.out (by simp) (by simp) (by simp)).mono ?_; rintro e w' ⟨rfl, rfl⟩)
    go_ret2
    exact ⟨ret_two (val_int (by simp [subV, HK.out])) (val_int (by simp [subE, HK.out])), (Below.refl _ _).alloc (Nat.le_refl _) _⟩
theorem RMay_any (n : Int) (w : World) :
    Calls Tryz.prog 48 #[.int .i64 n] w fun e w' => e = .returned (.bool (mayB n)) ∧ w = w' := by
  by_cases h1 : -4611686018427387904 ≤ n
  · by_cases h2 : n ≤ 4611686018427387904
    · have H := Lib.hid (mayB_true.2 ⟨h1, h2⟩)
      go_enter Tryz.func48, Tryz.ntmps48
      go_wp2
      go_ret
      exact ⟨ret_bool H.out.symm, rfl⟩
    · have H := Lib.hid ((mayB_false (n := n)).2 (by omega))
      go_enter Tryz.func48, Tryz.ntmps48
      go_wp2
      go_ret
      exact ⟨ret_bool H.out.symm, rfl⟩
  · have H := Lib.hid ((mayB_false (n := n)).2 (by omega))
    go_enter Tryz.func48, Tryz.ntmps48
    go_wp2
    go_ret
    exact ⟨ret_bool H.out.symm, rfl⟩
end Go.Proofs.YtpppfghdjbmbgaaGreatDoor
