/- The function Skip of package lex: where white space and comments end. -/
import Derived.Test.YthbgigjjmojgfaaDoorLexHas
namespace Go.Proofs.YthbgigjjmojgfaaDoor
open Go.RowKit
/-- The four words of a set, in block b. -/
def G4 (w : World) (b : Nat) (a0 a1 a2 a3 : Int) : Prop := b < w.heap.size ∧ w.cell? ⟨b, 0, none⟩ = some (.int .u64 a0) ∧ w.cell? ⟨b, 1, none⟩ = some (.int .u64 a1) ∧ w.cell? ⟨b, 2, none⟩ = some (.int .u64 a2) ∧ w.cell? ⟨b, 3, none⟩ = some (.int .u64 a3)
theorem G4.below {w w' : World} {b : Nat} {a0 a1 a2 a3 : Int} (h : G4 w b a0 a1 a2 a3) {B : Nat} (hB : b < B) (hb : Below B w w') : G4 w' b a0 a1 a2 a3 := by
  obtain ⟨h0, c0, c1, c2, c3⟩ := h
  exact ⟨Nat.lt_of_lt_of_le h0 hb.size, (hb.cell (p := ⟨b, 0, none⟩) hB).trans c0, (hb.cell (p := ⟨b, 1, none⟩) hB).trans c1, (hb.cell (p := ⟨b, 2, none⟩) hB).trans c2, (hb.cell (p := ⟨b, 3, none⟩) hB).trans c3⟩
/-- What package lex's variables hold. -/
structure Globs (w : World) : Prop where
  white : G4 w 1 4294977024 0 0 0
  signs : G4 w 4 17582031444648132608 5188146765496319999 0 0
  digits : G4 w 3 287948901175001088 0 0 0
  bars : G4 w 2 18446744069414594048 8070450531979493375 0 0
theorem Globs.below {w w' : World} (h : Globs w) (hb : Below w.heap.size w w') : Globs w' :=
  ⟨h.white.below h.white.1 hb, h.signs.below h.signs.1 hb, h.digits.below h.digits.1 hb, h.bars.below h.bars.1 hb⟩
theorem Globs.trans {w w1 w2 : World} (h : Globs w) (hb : Below w.heap.size w w1) (hb2 : Below w1.heap.size w1 w2) : Globs w2 := (h.below hb).below hb2
/-- at, brought within 0 and n. -/
def clampN (at_ : Int) (n : Nat) : Nat := if at_ ≤ 0 then 0 else if (n : Int) ≤ at_ then n else at_.toNat
theorem clampN_le (at_ : Int) (n : Nat) : clampN at_ n ≤ n := by unfold clampN; split; omega; split <;> omega
theorem clampN_nat {k n : Nat} (h : k ≤ n) : clampN (k : Int) n = k := by unfold clampN; split; omega; split <;> omega
theorem clampN_int (at_ : Int) (n : Nat) : max 0 (min at_ (n : Int)) = (clampN at_ n : Int) := by unfold clampN; split; omega; split <;> omega
theorem cmt_no {cm : Bool} {c : UInt8} (h : c.toNat = 10) : cmt cm c = false := by
  have : c = 10 := UInt8.toNat_inj.1 h
  simp [cmt, this]
theorem cmt_in {c : UInt8} (h : ¬ c.toNat = 10) : cmt true c = true := by
  have : ¬ c = 10 := fun e => h (by rw [e]; rfl)
  simp [cmt, this]
theorem cmt_semi {c : UInt8} (h : c.toNat = 59) : cmt false c = true := by
  have : c = 59 := UInt8.toNat_inj.1 h
  simp [cmt, this]
theorem cmt_out {c : UInt8} (h : ¬ c.toNat = 59) : cmt false c = false := by
  have : ¬ c = 59 := fun e => h (by rw [e]; rfl)
  simp [cmt, this]
theorem white_10 {c : UInt8} (h : c.toNat = 10) : isWhite c = true := by
  have : c = 10 := UInt8.toNat_inj.1 h
  simp [isWhite, this]
/-- The head of a round: what is skipped so far, and what is left. -/
def SkipAt (l : List UInt8) (m k : Nat) (cm : Bool) : Prop := skipA l m = k + skipN cm (l.drop k)
theorem clamp_cases (at_ : Int) (n : Nat) : ∃ m : Nat, m ≤ n ∧ Hid (clampN at_ n = m) ∧ ((m ≤ 0 ∧ at_ ≤ 0) ∨ (at_ = (m : Int) ∧ 0 < m) ∨ (n ≤ m ∧ (n : Int) < at_ ∧ 0 < n) ∨ (m ≤ 0 ∧ (n : Int) < at_ ∧ n ≤ 0)) := by
  refine ⟨clampN at_ n, clampN_le _ _, rfl, ?_⟩
  unfold clampN
  by_cases h0 : at_ ≤ 0
  · rw [if_pos h0]; exact .inl ⟨Nat.le_refl _, h0⟩
  · rw [if_neg h0]
    by_cases h1 : (n : Int) ≤ at_
    · rw [if_pos h1]
      by_cases h2 : at_ = (n : Int)
      · exact .inr (.inl ⟨h2, by omega⟩)
      · by_cases h3 : 0 < n
        · exact .inr (.inr (.inl ⟨Nat.le_refl _, by omega, h3⟩))
        · exact .inr (.inr (.inr ⟨by omega, by omega, by omega⟩))
    · rw [if_neg h1]; exact .inr (.inl ⟨by omega, by omega⟩)
theorem skipAt_start {l : List UInt8} {m : Nat} : SkipAt l m m false := rfl
theorem skipAt_step {s : ByteArray} {m k : Nat} {cm : Bool} (h : SkipAt s.data.toList m k cm) (hk : k < s.size) (hs : (cmt cm s[k] || isWhite s[k]) = true) : SkipAt s.data.toList m (k + 1) (cmt cm s[k]) := by
  unfold SkipAt at h ⊢
  rw [h, drop_cons s k hk, skipN_yes hs]; omega
theorem skipAt_stop {s : ByteArray} {m k : Nat} {cm : Bool} (h : SkipAt s.data.toList m k cm) (hk : k < s.size) (hs : (cmt cm s[k] || isWhite s[k]) = false) : k = skipA s.data.toList m := by
  unfold SkipAt at h
  rw [h, drop_cons s k hk, skipN_no hs]; rfl
theorem skipAt_end {s : ByteArray} {m k : Nat} {cm : Bool} (h : SkipAt s.data.toList m k cm) (hk : s.size ≤ k) : k = skipA s.data.toList m := by
  unfold SkipAt at h
  rw [h, drop_nil s k hk]; rfl
theorem ne_false {x y : Int} (h : x = y) : (x != y) = false := by simp [h]
theorem ne_true {x y : Int} (h : ¬ x = y) : (x != y) = true := by simp [h]
theorem eq_false {x y : Int} (h : ¬ x = y) : (x == y) = false := by simp [h]
theorem eq_true_ {x y : Int} (h : x = y) : (x == y) = true := by simp [h]
set_option maxHeartbeats 400000 in
theorem Skip_any (s : ByteArray) (at_ : Int) (w : World) (hG : Globs w) (hs : s.size ≤ 9223372036854775807) :
    Calls Tryd.prog 28 #[.string s, .int .i64 at_] w fun e w' => e = .returned (.int .i64 (skipA s.data.toList (clampN at_ s.size) : Int)) ∧ Below w.heap.size w w' := by
  have HG := Lib.hid hG
  clear hG
  obtain ⟨m, hm, HM, hcase⟩ := clamp_cases at_ s.size
  rcases hcase with ⟨h0, h1⟩ | ⟨rfl, h0⟩ | ⟨h0, h1, h2⟩ | ⟨h0, h1, h2⟩
  all_goals
    go_enter Tryd.func28, Tryd.ntmps28
    go_wp2
    go_loopw [1, 5] (fun i c wr => ∃ (k : Nat) (cm : Bool), k ≤ s.size ∧ i = .int .i64 k ∧ c = .bool cm ∧ Hid (SkipAt s.data.toList m k cm) ∧ Below w.heap.size w wr) (fun i _ _ => s.size - (intOf i).toNat)
    case atStart =>
      first
      | exact ⟨m, false, hm, rfl, rfl, skipAt_start, Below.refl _ _⟩
      | (obtain rfl : m = 0 := by omega
         exact ⟨0, false, hm, rfl, rfl, skipAt_start, Below.refl _ _⟩)
      | (obtain rfl : m = s.size := by omega
         exact ⟨s.size, false, hm, rfl, rfl, skipAt_start, Below.refl _ _⟩)
    case round =>
      obtain ⟨k, cm, hk, rfl, rfl, HP, hbel⟩ := hrel
      obtain ⟨g0, c0, c1, c2, c3⟩ := (HG.out.below hbel).white
      by_cases hlt : k < s.size
      · by_cases h10 : (s[k].toNat : Int) = 10
        · have hn := ne_false h10
          have HW := Lib.hid (white_10 (c := s[k]) (by omega))
          have HC := Lib.hid (cmt_no (cm := cm) (c := s[k]) (by omega))
          clear h10
          go_wp2_with fail
          refine (has_yes _ _ _ _ isWhite whiteIs s[k] _ HW.out).mono ?_
          rintro e w1 ⟨rfl, hb1⟩
          go_wp2
          go_roundw
          case rel => exact ⟨k + 1, false, by omega, by go_num, rfl, by have := skipAt_step HP.out hlt (by rw [HW.out]; simp); rw [HC.out] at this; exact this, hbel.trans (hb1.mono hbel.size)⟩
          case measure => simp [intOf]; omega
        · have hn := ne_true h10
          have H10 := Lib.hid h10
          cases cm with
          | true =>
            have HC := Lib.hid (cmt_in (c := s[k]) (by omega))
            clear h10
            go_wp2
            go_roundw
            case rel => exact ⟨k + 1, true, by omega, by go_num, rfl, by have := skipAt_step HP.out hlt (by rw [HC.out]; simp); rw [HC.out] at this; exact this, hbel⟩
            case measure => simp [intOf]; omega
          | false =>
            by_cases h59 : (s[k].toNat : Int) = 59
            · have hn2 := eq_true_ h59
              have HC := Lib.hid (cmt_semi (c := s[k]) (by omega))
              clear h10 h59
              go_wp2
              go_roundw
              case rel => exact ⟨k + 1, true, by omega, by go_num, rfl, by have := skipAt_step HP.out hlt (by rw [HC.out]; simp); rw [HC.out] at this; exact this, hbel⟩
              case measure => simp [intOf]; omega
            · have hn2 := eq_false h59
              have HC := Lib.hid (cmt_out (c := s[k]) (by omega))
              clear h10 h59
              cases hw : isWhite s[k] with
              | true =>
                have HW := Lib.hid hw
                clear hw
                go_wp2_with fail
                refine (has_yes _ _ _ _ isWhite whiteIs s[k] _ HW.out).mono ?_
                rintro e w1 ⟨rfl, hb1⟩
                go_wp2
                go_roundw
                case rel => exact ⟨k + 1, false, by omega, by go_num, rfl, by have := skipAt_step HP.out hlt (by rw [HW.out]; simp); rw [HC.out] at this; exact this, hbel.trans (hb1.mono hbel.size)⟩
                case measure => simp [intOf]; omega
              | false =>
                have HW := Lib.hid hw
                clear hw
                go_wp2_with fail
                refine (has_no _ _ _ _ isWhite whiteIs s[k] _ HW.out).mono ?_
                rintro e w1 ⟨rfl, hb1⟩
                go_wp2
                go_ret
                exact ⟨ret_int (by rw [HM.out, ← skipAt_stop HP.out hlt (by rw [HC.out, HW.out]; rfl)]), hbel.trans (hb1.mono hbel.size)⟩
      · go_wp2
        go_ret
        exact ⟨ret_int (by rw [HM.out, ← skipAt_end HP.out (by omega)]), hbel⟩
theorem Skip_nat (s : ByteArray) (k : Nat) (w : World) (hG : Globs w) (hs : s.size ≤ 9223372036854775807) (hk : k ≤ s.size) :
    Calls Tryd.prog 28 #[.string s, .int .i64 k] w fun e w' => e = .returned (.int .i64 (skipA s.data.toList k : Int)) ∧ Below w.heap.size w w' := by
  have := Skip_any s k w hG hs
  rw [clampN_nat hk] at this
  exact this
end Go.Proofs.YthbgigjjmojgfaaDoor
