/- The laws of package num answer true: the walks. -/
import Derived.Test.YtgbpepkhdjcnbaaNumWake
namespace Go.Proofs.Ytgbpepkhdjcnbaa
open Go.RowKit
theorem Add_yes (a b : Int) (w : World) (h : addOk a b = true) : Calls Try.prog 9 #[.int .i64 a, .int .i64 b] w fun e w' => e = .returned (.tuple #[.int .i64 (a + b), .int .i64 0]) ∧ Below w.heap.size w w' := by
  obtain ⟨p, q, _⟩ := addOk_true.1 h
  have := Add_any a b w ⟨by omega, by omega⟩ ⟨by omega, by omega⟩
  unfold addV addE at this
  rw [h] at this
  exact this
theorem Add_no (a b : Int) (w : World) (ha : I64 a) (hb : I64 b) (h : addOk a b = false) : Calls Try.prog 9 #[.int .i64 a, .int .i64 b] w fun e w' => e = .returned (.tuple #[.int .i64 0, .int .i64 10]) ∧ Below w.heap.size w w' := by
  have := Add_any a b w ha hb
  unfold addV addE at this
  rw [h] at this
  exact this
theorem Sub_yes (a b c : Int) (w : World) (h : addOk a (-b) = true) (hc : a - b = c) : Calls Try.prog 11 #[.int .i64 a, .int .i64 b] w fun e w' => e = .returned (.tuple #[.int .i64 c, .int .i64 0]) ∧ Below w.heap.size w w' := by
  obtain ⟨p, q, _⟩ := addOk_true.1 h
  have := Sub_any a b w ⟨by omega, by omega⟩ ⟨by omega, by omega⟩
  unfold subV subE at this
  rw [h] at this
  rw [← hc]
  exact this
theorem addOk_comm (a b : Int) : addOk b a = addOk a b := by
  rw [Bool.eq_iff_iff, addOk_true, addOk_true]; omega
theorem NumTurns_walk (a b : Int) (w : World) (ha : I64 a) (hb : I64 b) :
    Calls Try.prog 5 #[.int .i64 a, .int .i64 b] w fun e w' => e = .returned (.bool true) ∧ Below w.heap.size w w' := by
  cases hok : addOk a b with
  | true =>
    obtain ⟨⟨p1, p2⟩, ⟨p3, p4⟩, p5, p6⟩ := addOk_true.1 hok
    have H1 := Lib.hid hok
    have H2 := Lib.hid ((addOk_comm a b).trans hok)
    have H3 := Lib.hid ((addOk_true (a := a + b) (b := -b)).2 ⟨by omega, by omega, by omega⟩)
    have H4 := Lib.hid ((addOk_true (a := 0) (b := -a)).2 ⟨by omega, by omega, by omega⟩)
    clear hok ha hb
    go_enter Try.func5, Try.ntmps5
    go_wp2_with fail
    refine (Add_yes a b _ H1.out).mono ?_
    rintro e w1 ⟨rfl, hb1⟩
    go_wp2_with fail
    refine (Add_yes b a _ H2.out).mono ?_
    rintro e w2 ⟨rfl, hb2⟩
    rw [Int.add_comm b a]
    go_wp2_with fail
    refine (Sub_yes (a + b) b a _ H3.out (by omega)).mono ?_
    rintro e w3 ⟨rfl, hb3⟩
    go_wp2_with fail
    refine (Sub_yes 0 a (-a) _ H4.out (by omega)).mono ?_
    rintro e w4 ⟨rfl, hb4⟩
    go_wp2_with fail
    refine (wakes_any _).mono ?_
    rintro e w5 ⟨rfl, hb5⟩
    go_wp2
    go_ret
    have s1 := hb1.size; have s2 := hb2.size; have s3 := hb3.size; have s4 := hb4.size
    exact ⟨rfl, (((hb1.trans (hb2.mono (by omega))).trans (hb3.mono (by omega))).trans (hb4.mono (by omega))).trans (hb5.mono (by omega))⟩
  | false =>
    have H1 := Lib.hid hok
    have H2 := Lib.hid ((addOk_comm a b).trans hok)
    clear hok
    go_enter Try.func5, Try.ntmps5
    go_wp2_with fail
    refine (Add_no a b _ ha hb H1.out).mono ?_
    rintro e w1 ⟨rfl, hb1⟩
    go_wp2_with fail
    refine (Add_no b a _ hb ha H2.out).mono ?_
    rintro e w2 ⟨rfl, hb2⟩
    go_wp2_with fail
    refine (wakes_any _).mono ?_
    rintro e w5 ⟨rfl, hb5⟩
    go_wp2
    go_ret
    have s1 := hb1.size; have s2 := hb2.size
    exact ⟨rfl, (hb1.trans (hb2.mono (by omega))).trans (hb5.mono (by omega))⟩
theorem NumTurns_w (a : Int) (wa : (Lit.int .i64 a).wf = true) (b : Int) (wb : (Lit.int .i64 b).wf = true) (w : World) :
    Calls Try.prog 5 #[.int .i64 a, .int .i64 b] w fun e w' => e = .returned (.bool true) ∧ Below w.heap.size w w' := NumTurns_walk a b w (i64_of_wf wa) (i64_of_wf wb)
end Go.Proofs.Ytgbpepkhdjcnbaa
