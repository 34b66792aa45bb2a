/- The readers of package lex: paren, name, barred, numeral, keyword. -/
import Derived.Test.YthbgigjjmojgfaaDoorLexKind
import Derived.WalkSpells
import Derived.OwnWalk
namespace Go.Proofs.YthbgigjjmojgfaaDoor
open Go.RowKit
theorem ret_three {a b c d e f : Value} (h : a = d) (g : b = e) (i : c = f) : Ending.returned (.tuple #[a, b, c]) = .returned (.tuple #[d, e, f]) := by rw [h, g, i]
/-- span, at a number in the walk's own spelling, to a number with a name. -/
theorem span_to (a0 a1 a2 a3 : Int) (p : UInt8 → Bool) (hS : SetIs a0 a1 a2 a3 p) (s : ByteArray) (x : Int) (n j : Nat) (w : World) (hx : x = (n : Int)) (hn : n ≤ s.size) (hs : s.size ≤ 9223372036854775807) (hj : n + spanN p (s.data.toList.drop n) = j) :
    Calls Tryd.prog 83 #[.agg #[.int .u64 a0, .int .u64 a1, .int .u64 a2, .int .u64 a3], .string s, .int .i64 x] w fun e w' => e = .returned (.int .i64 (j : Int)) ∧ Below w.heap.size w w' := by
  subst hx; subst hj
  exact span_any a0 a1 a2 a3 p hS s n w hn hs
theorem span_end {p : UInt8 → Bool} {s : ByteArray} {n j : Nat} (hn : n ≤ s.size) (hj : n + spanN p (s.data.toList.drop n) = j) : n ≤ j ∧ j ≤ s.size := by
  have := spanN_le p (s.data.toList.drop n)
  simp at this
  omega
theorem paren_any (s : ByteArray) (n : Nat) (w : World) (hn : n < s.size) (hs : s.size ≤ 9223372036854775807) :
    Calls Tryd.prog 74 #[.agg #[.string s, .int .i64 n]] w fun e w' => e = .returned (.tuple #[.string ⟨#[]⟩, .int .i64 ((n : Int) + 1), .bool true]) ∧ Below w.heap.size w w' := by
  go_enter Tryd.func74, Tryd.ntmps74
  go_wp2
  go_quiet (fail)
  go_wp2
  go_ret3
  exact ⟨rfl, below_drewN ((Below.refl _ _).alloc (Nat.le_refl _) _) _⟩
theorem barred_yes (s : ByteArray) (n j : Nat) (w : World) (hG : Globs w) (hn : n < s.size) (hs : s.size ≤ 9223372036854775807) (hj : n + 1 + spanN inBar (s.data.toList.drop (n + 1)) = j) (hlt : j < s.size) (h : s[j].toNat = 124) :
    Calls Tryd.prog 86 #[.agg #[.string s, .int .i64 n]] w fun e w' => e = .returned (.tuple #[.string (s.extract (n + 1) j), .int .i64 ((j : Int) + 1), .bool true]) ∧ Below w.heap.size w w' := by
  obtain ⟨g0, c0, c1, c2, c3⟩ := hG.bars
  have hj1 := span_end (by omega) hj
  have e1 := ne_false (x := (s[j].toNat : Int)) (y := 124) (by omega)
  have e2 := eq_false (x := (j : Int)) (y := (s.size : Int)) (by omega)
  have HJ := Lib.hid hj
  clear hj h hG
  go_enter Tryd.func86, Tryd.ntmps86
  go_wp2_with fail
  refine (span_to _ _ _ _ inBar inBarsIs s _ (n + 1) j _ (by omega) (by omega) hs HJ.out).mono ?_
  rintro e w1 ⟨rfl, hb1⟩
  obtain ⟨hc1, hf1⟩ := bcell hb1
  go_wp2
  go_ret3
  exact ⟨rfl, ((Below.refl _ _).alloc (Nat.le_refl _) _).trans (hb1.mono (by simp))⟩
theorem barred_no (s : ByteArray) (n j : Nat) (w : World) (hG : Globs w) (hn : n < s.size) (hs : s.size ≤ 9223372036854775807) (hj : n + 1 + spanN inBar (s.data.toList.drop (n + 1)) = j) (h : ∀ h : j < s.size, ¬ s[j].toNat = 124) :
    Calls Tryd.prog 86 #[.agg #[.string s, .int .i64 n]] w fun e w' => e = .returned (.tuple #[.string ⟨#[]⟩, .int .i64 0, .bool false]) ∧ Below w.heap.size w w' := by
  obtain ⟨g0, c0, c1, c2, c3⟩ := hG.bars
  have hj1 := span_end (by omega) hj
  have HJ := Lib.hid hj
  have HH := Lib.hid h
  clear hj h hG
  by_cases hlt : j < s.size
  · have e1 := ne_true (x := (s[j].toNat : Int)) (y := 124) (by have := HH.out hlt; omega)
    have e2 := eq_false (x := (j : Int)) (y := (s.size : Int)) (by omega)
    go_enter Tryd.func86, Tryd.ntmps86
    go_wp2_with fail
    refine (span_to _ _ _ _ inBar inBarsIs s _ (n + 1) j _ (by omega) (by omega) hs HJ.out).mono ?_
    rintro e w1 ⟨rfl, hb1⟩
    obtain ⟨hc1, hf1⟩ := bcell hb1
    go_wp2
    go_ret3
    exact ⟨rfl, ((Below.refl _ _).alloc (Nat.le_refl _) _).trans (hb1.mono (by simp))⟩
  · have e2 := eq_true_ (x := (j : Int)) (y := (s.size : Int)) (by omega)
    go_enter Tryd.func86, Tryd.ntmps86
    go_wp2_with fail
    refine (span_to _ _ _ _ inBar inBarsIs s _ (n + 1) j _ (by omega) (by omega) hs HJ.out).mono ?_
    rintro e w1 ⟨rfl, hb1⟩
    obtain ⟨hc1, hf1⟩ := bcell hb1
    go_wp2
    go_ret3
    exact ⟨rfl, ((Below.refl _ _).alloc (Nat.le_refl _) _).trans (hb1.mono (by simp))⟩
theorem name_sign (s : ByteArray) (n j : Nat) (w : World) (hG : Globs w) (hn : n < s.size) (hs : s.size ≤ 9223372036854775807) (hj : n + spanN isSign (s.data.toList.drop n) = j) (h : ¬ s[n].toNat = 124) :
    Calls Tryd.prog 75 #[.agg #[.string s, .int .i64 n]] w fun e w' => e = .returned (.tuple #[.string (s.extract n j), .int .i64 j, .bool true]) ∧ Below w.heap.size w w' := by
  obtain ⟨g0, c0, c1, c2, c3⟩ := hG.signs
  have hj1 := span_end (by omega) hj
  have e1 := eq_false (x := (s[n].toNat : Int)) (y := 124) (by omega)
  have HJ := Lib.hid hj
  clear hj h hG
  go_enter Tryd.func75, Tryd.ntmps75
  go_wp2_with fail
  refine (span_to _ _ _ _ isSign signsIs s _ n j _ rfl (by omega) hs HJ.out).mono ?_
  rintro e w1 ⟨rfl, hb1⟩
  obtain ⟨hc1, hf1⟩ := bcell hb1
  go_wp2
  go_ret3
  exact ⟨rfl, ((Below.refl _ _).alloc (Nat.le_refl _) _).trans (hb1.mono (by simp))⟩
theorem name_bar_yes (s : ByteArray) (n j : Nat) (w : World) (hG : Globs w) (hn : n < s.size) (hs : s.size ≤ 9223372036854775807) (hj : n + 1 + spanN inBar (s.data.toList.drop (n + 1)) = j) (hlt : j < s.size) (h : s[j].toNat = 124) (h0 : s[n].toNat = 124) :
    Calls Tryd.prog 75 #[.agg #[.string s, .int .i64 n]] w fun e w' => e = .returned (.tuple #[.string (s.extract (n + 1) j), .int .i64 ((j : Int) + 1), .bool true]) ∧ Below w.heap.size w w' := by
  have e1 := eq_true_ (x := (s[n].toNat : Int)) (y := 124) (by omega)
  have HG := Lib.hid hG
  have HJ := Lib.hid hj
  have H := Lib.hid h
  clear hj h hG h0
  go_enter Tryd.func75, Tryd.ntmps75
  go_wp2_with fail
  refine (barred_yes s n j _ (HG.out.below ((Below.refl _ _).alloc (Nat.le_refl _) _)) hn hs HJ.out hlt H.out).mono ?_
  rintro e w1 ⟨rfl, hb1⟩
  go_wp2
  go_ret3
  exact ⟨rfl, ((Below.refl _ _).alloc (Nat.le_refl _) _).trans (hb1.mono (by simp))⟩
theorem name_bar_no (s : ByteArray) (n j : Nat) (w : World) (hG : Globs w) (hn : n < s.size) (hs : s.size ≤ 9223372036854775807) (hj : n + 1 + spanN inBar (s.data.toList.drop (n + 1)) = j) (h : ∀ h : j < s.size, ¬ s[j].toNat = 124) (h0 : s[n].toNat = 124) :
    Calls Tryd.prog 75 #[.agg #[.string s, .int .i64 n]] w fun e w' => e = .returned (.tuple #[.string ⟨#[]⟩, .int .i64 0, .bool false]) ∧ Below w.heap.size w w' := by
  have e1 := eq_true_ (x := (s[n].toNat : Int)) (y := 124) (by omega)
  have HG := Lib.hid hG
  have HJ := Lib.hid hj
  have H := Lib.hid h
  clear hj h hG h0
  go_enter Tryd.func75, Tryd.ntmps75
  go_wp2_with fail
  refine (barred_no s n j _ (HG.out.below ((Below.refl _ _).alloc (Nat.le_refl _) _)) hn hs HJ.out H.out).mono ?_
  rintro e w1 ⟨rfl, hb1⟩
  go_wp2
  go_ret3
  exact ⟨rfl, ((Below.refl _ _).alloc (Nat.le_refl _) _).trans (hb1.mono (by simp))⟩
theorem keyword_any (s : ByteArray) (n j : Nat) (w : World) (hG : Globs w) (hn : n < s.size) (hs : s.size ≤ 9223372036854775807) (hj : n + 1 + spanN isSign (s.data.toList.drop (n + 1)) = j) :
    Calls Tryd.prog 77 #[.agg #[.string s, .int .i64 n]] w fun e w' => e = .returned (.tuple #[.string (s.extract (n + 1) j), .int .i64 j, .bool (!(s.extract (n + 1) j).toList.isEmpty)]) ∧ Below w.heap.size w w' := by
  obtain ⟨g0, c0, c1, c2, c3⟩ := hG.signs
  have hj1 := span_end (by omega) hj
  have HJ := Lib.hid hj
  clear hj hG
  go_enter Tryd.func77, Tryd.ntmps77
  go_wp2_with fail
  refine (span_to _ _ _ _ isSign signsIs s _ (n + 1) j _ (by omega) (by omega) hs HJ.out).mono ?_
  rintro e w1 ⟨rfl, hb1⟩
  obtain ⟨hc1, hf1⟩ := bcell hb1
  go_wp2
  go_ret3
  exact ⟨rfl, ((Below.refl _ _).alloc (Nat.le_refl _) _).trans (hb1.mono (by simp))⟩
end Go.Proofs.YthbgigjjmojgfaaDoor
