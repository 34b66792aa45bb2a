/- The function Skip of package lex: where white space and comments end. -/
import Derived.Test.YtbddghcdibdloaaGreatDoorProg
import Derived.Test.YtbddghcdibdloaaGreatDoorAid
import Derived.Test.YtbddghcdibdloaaGreatDoorLexPlain
import Derived.Deep.RegionHeld3
import Derived.BigQuiet
namespace Go.Proofs.YtbddghcdibdloaaGreatDoor
open Go.RowKit
theorem below_drewN {B : Nat} {a w : World} (h : Below B a w) (n : Nat) : Below B a (w.drewN n) := ⟨h.os, h.tape, h.output, h.size, h.block⟩
/-- Bit c % 64 of a, as the walk spells it. -/
def bitZ (a c : Int) : Bool := bits BinOp.and IntKind.u64 (a / 2 ^ (c % 64).toNat) 1 != 0
def setB (a0 a1 a2 a3 : Int) (c : Int) : Bool := bitZ (if c / 64 = 0 then a0 else if c / 64 = 1 then a1 else if c / 64 = 2 then a2 else a3) c
/-- The four words are the set p. -/
def SetIs (a0 a1 a2 a3 : Int) (p : UInt8 → Bool) : Prop := ∀ c : UInt8, setB a0 a1 a2 a3 (c.toNat : Int) = p c
theorem setIs_of {a0 a1 a2 a3 : Int} {p : UInt8 → Bool} (h : ∀ n : Fin 256, setB a0 a1 a2 a3 (n.val : Int) = p (UInt8.ofNat n.val)) : SetIs a0 a1 a2 a3 p := fun c => by
  have := h ⟨c.toNat, c.toNat_lt⟩
  simpa using this
theorem whiteIs : SetIs 4294977024 0 0 0 isWhite := setIs_of (by decide +kernel)
theorem digitsIs : SetIs 287948901175001088 0 0 0 isDg := setIs_of (by decide +kernel)
theorem signsIs : SetIs 17582031444648132608 5188146765496319999 0 0 isSign := setIs_of (by decide +kernel)
theorem inBarsIs : SetIs 18446744069414594048 8070450531979493375 0 0 inBar := setIs_of (by decide +kernel)
theorem has_any (a0 a1 a2 a3 : Int) (p : UInt8 → Bool) (hS : SetIs a0 a1 a2 a3 p) (c : UInt8) (w : World) :
    Calls Tryz.prog 98 #[.agg #[.int .u64 a0, .int .u64 a1, .int .u64 a2, .int .u64 a3], .int .u8 c.toNat] w fun e w' => e = .returned (.bool (p c)) ∧ Below w.heap.size w w' := by
  have h0 := c.toNat_lt
  have HS := Lib.hid (hS c)
  clear hS
  have hq : (c.toNat : Int) / 64 = 0 ∨ (c.toNat : Int) / 64 = 1 ∨ (c.toNat : Int) / 64 = 2 ∨ (c.toNat : Int) / 64 = 3 := by omega
  rcases hq with hq | hq | hq | hq
  · have HR : Hid (bitZ a0 c.toNat = p c) := by show _ = _; rw [← HS.out]; simp [setB, hq]
    go_enter Tryz.func98, Tryz.ntmps98
    go_wp2
    go_ret
    exact ⟨ret_bool HR.out, (Below.refl _ _).alloc (Nat.le_refl _) _⟩
  · have HR : Hid (bitZ a1 c.toNat = p c) := by show _ = _; rw [← HS.out]; simp [setB, hq]
    go_enter Tryz.func98, Tryz.ntmps98
    go_wp2
    go_ret
    exact ⟨ret_bool HR.out, (Below.refl _ _).alloc (Nat.le_refl _) _⟩
  · have HR : Hid (bitZ a2 c.toNat = p c) := by show _ = _; rw [← HS.out]; simp [setB, hq]
    go_enter Tryz.func98, Tryz.ntmps98
    go_wp2
    go_ret
    exact ⟨ret_bool HR.out, (Below.refl _ _).alloc (Nat.le_refl _) _⟩
  · have HR : Hid (bitZ a3 c.toNat = p c) := by show _ = _; rw [← HS.out]; simp [setB, hq]
    go_enter Tryz.func98, Tryz.ntmps98
    go_wp2
    go_ret
    exact ⟨ret_bool HR.out, (Below.refl _ _).alloc (Nat.le_refl _) _⟩
theorem has_yes (a0 a1 a2 a3 : Int) (p : UInt8 → Bool) (hS : SetIs a0 a1 a2 a3 p) (c : UInt8) (w : World) (h : p c = true) :
    Calls Tryz.prog 98 #[.agg #[.int .u64 a0, .int .u64 a1, .int .u64 a2, .int .u64 a3], .int .u8 c.toNat] w fun e w' => e = .returned (.bool true) ∧ Below w.heap.size w w' := by
  have := has_any a0 a1 a2 a3 p hS c w; rw [h] at this; exact this
theorem has_no (a0 a1 a2 a3 : Int) (p : UInt8 → Bool) (hS : SetIs a0 a1 a2 a3 p) (c : UInt8) (w : World) (h : p c = false) :
    Calls Tryz.prog 98 #[.agg #[.int .u64 a0, .int .u64 a1, .int .u64 a2, .int .u64 a3], .int .u8 c.toNat] w fun e w' => e = .returned (.bool false) ∧ Below w.heap.size w w' := by
  have := has_any a0 a1 a2 a3 p hS c w; rw [h] at this; exact this
theorem drop_cons (s : ByteArray) (k : Nat) (h : k < s.size) : s.data.toList.drop k = s[k] :: s.data.toList.drop (k + 1) := by
  rw [List.drop_eq_getElem_cons (by simpa using h)]; rfl
theorem drop_nil (s : ByteArray) (k : Nat) (h : s.size ≤ k) : s.data.toList.drop k = [] := List.drop_eq_nil_of_le (by simpa using h)
theorem span_any (a0 a1 a2 a3 : Int) (p : UInt8 → Bool) (hS : SetIs a0 a1 a2 a3 p) (s : ByteArray) (n : Nat) (w : World) (hn : n ≤ s.size) (hs : s.size ≤ 9223372036854775807) :
    Calls Tryz.prog 94 #[.agg #[.int .u64 a0, .int .u64 a1, .int .u64 a2, .int .u64 a3], .string s, .int .i64 n] w fun e w' => e = .returned (.int .i64 ((n + spanN p (s.data.toList.drop n) : Nat) : Int)) ∧ Below w.heap.size w w' := by
  have HS := Lib.hid hS
  clear hS
  go_enter Tryz.func94, Tryz.ntmps94
  go_wp2
  go_loopw [2] (fun i wr => ∃ k : Nat, n ≤ k ∧ k ≤ s.size ∧ i = .int .i64 k ∧ Hid (n + spanN p (s.data.toList.drop n) = k + spanN p (s.data.toList.drop k)) ∧ Below w.heap.size w wr ∧ wr.heap[w.heap.size]? = some (.cells #[.int .u64 a0, .int .u64 a1, .int .u64 a2, .int .u64 a3] 153 (0, 0))) (fun i _ => s.size - (intOf i).toNat)
  case atStart => exact ⟨n, Nat.le_refl _, hn, rfl, rfl, (Below.refl _ _).alloc (Nat.le_refl _) _, heap_alloc_new w _⟩
  case round =>
    obtain ⟨k, hk1, hk2, rfl, HP, hbel, hbox⟩ := hrel
    have c0 : wr.cell? ⟨w.heap.size, 0, none⟩ = some (.int .u64 a0) := cell_of_row wr _ 0 _ _ _ hbox
    have c1 : wr.cell? ⟨w.heap.size, 1, none⟩ = some (.int .u64 a1) := cell_of_row wr _ 1 _ _ _ hbox
    have c2 : wr.cell? ⟨w.heap.size, 2, none⟩ = some (.int .u64 a2) := cell_of_row wr _ 2 _ _ _ hbox
    have c3 : wr.cell? ⟨w.heap.size, 3, none⟩ = some (.int .u64 a3) := cell_of_row wr _ 3 _ _ _ hbox
    have HB := Lib.hid hbox
    clear hbox
    have hz : w.heap.size < wr.heap.size := by have := hbel.size; have h2 := World.block_lt_of_cell? wr _ c0; simpa using h2
    by_cases hlt : k < s.size
    · cases hp : p s[k] with
      | true =>
        have HY := Lib.hid hp
        clear hp
        go_wp2
        go_region_held3 (fun w' => w'.cell? ⟨w.heap.size, 0, none⟩ = some (.int .u64 a0) ∧ w'.cell? ⟨w.heap.size, 1, none⟩ = some (.int .u64 a1) ∧ w'.cell? ⟨w.heap.size, 2, none⟩ = some (.int .u64 a2) ∧ w'.cell? ⟨w.heap.size, 3, none⟩ = some (.int .u64 a3))
          (first | exact ⟨(hc1 _ _ hz).trans c0, (hc1 _ _ hz).trans c1, (hc1 _ _ hz).trans c2, (hc1 _ _ hz).trans c3⟩ | go_keep) (first | (go_at_call 98; refine (has_yes _ _ _ _ p HS.out s[k] _ HY.out).mono ?_; rintro e w1 ⟨rfl, hb1⟩; obtain ⟨hc1, hf1⟩ := bcell hb1))
        go_wp2
        go_roundw
        case rel =>
          refine ⟨k + 1, by omega, by omega, by go_num, ?_, ?_, ?_⟩
          · show _ = _
            rw [HP.out, drop_cons s k hlt, spanN_yes HY.out]; omega
          · exact hbel.drew.trans (hb1.mono (by simpa using hbel.size))
          · exact (hb1.block _ hz).trans HB.out
        case measure => simp [intOf]; omega
      | false =>
        have HY := Lib.hid hp
        clear hp
        go_wp2
        go_region_held3 (fun w' => w'.cell? ⟨w.heap.size, 0, none⟩ = some (.int .u64 a0) ∧ w'.cell? ⟨w.heap.size, 1, none⟩ = some (.int .u64 a1) ∧ w'.cell? ⟨w.heap.size, 2, none⟩ = some (.int .u64 a2) ∧ w'.cell? ⟨w.heap.size, 3, none⟩ = some (.int .u64 a3))
          (first | exact ⟨(hc1 _ _ hz).trans c0, (hc1 _ _ hz).trans c1, (hc1 _ _ hz).trans c2, (hc1 _ _ hz).trans c3⟩ | go_keep) (first | (go_at_call 98; refine (has_no _ _ _ _ p HS.out s[k] _ HY.out).mono ?_; rintro e w1 ⟨rfl, hb1⟩; obtain ⟨hc1, hf1⟩ := bcell hb1))
        go_wp2
        go_ret
        exact ⟨ret_int (by rw [HP.out, drop_cons s k hlt, spanN_no HY.out]; rfl), hbel.drew.trans (hb1.mono (by simpa using hbel.size))⟩
    · have hd : decide ((k : Int) < (s.size : Int)) = false := by simp; omega
      go_wp2
      go_quiet (fail)
      go_wp2
      go_ret
      exact ⟨ret_int (by rw [HP.out, drop_nil s k (by omega)]; rfl), below_drewN hbel _⟩
theorem all_any (a0 a1 a2 a3 : Int) (p : UInt8 → Bool) (hS : SetIs a0 a1 a2 a3 p) (s : ByteArray) (w : World) (hs : s.size ≤ 9223372036854775807) :
    Calls Tryz.prog 87 #[.agg #[.int .u64 a0, .int .u64 a1, .int .u64 a2, .int .u64 a3], .string s] w fun e w' => e = .returned (.bool (s.data.toList.all p)) ∧ Below w.heap.size w w' := by
  have HS := Lib.hid hS
  clear hS
  have HE : Hid (s.data.toList.length = s.size) := by show _ = _; simp
  go_enter Tryz.func87, Tryz.ntmps87
  go_wp2_with fail
  refine (span_any _ _ _ _ p HS.out s 0 _ (by omega) hs).mono ?_
  rintro e w1 ⟨rfl, hb1⟩
  go_wp2
  go_ret
  refine ⟨ret_bool ?_, ((Below.refl _ _).alloc (Nat.le_refl _) _).trans (hb1.mono (by simp))⟩
  have := spanN_eq_length (p := p) (l := s.data.toList)
  rw [HE.out] at this
  rw [Bool.eq_iff_iff, ← this]
  simp
  omega
end Go.Proofs.YtbddghcdibdloaaGreatDoor
namespace Go.Proofs.YtbddghcdibdloaaGreatDoor
open Go.RowKit
/-- The four words of a set, in block b. -/
def G4 (w : World) (b : Nat) (a0 a1 a2 a3 : Int) : Prop := b < w.heap.size ∧ w.cell? ⟨b, 0, none⟩ = some (.int .u64 a0) ∧ w.cell? ⟨b, 1, none⟩ = some (.int .u64 a1) ∧ w.cell? ⟨b, 2, none⟩ = some (.int .u64 a2) ∧ w.cell? ⟨b, 3, none⟩ = some (.int .u64 a3)
theorem G4.below {w w' : World} {b : Nat} {a0 a1 a2 a3 : Int} (h : G4 w b a0 a1 a2 a3) {B : Nat} (hB : b < B) (hb : Below B w w') : G4 w' b a0 a1 a2 a3 := by
  obtain ⟨h0, c0, c1, c2, c3⟩ := h
  exact ⟨Nat.lt_of_lt_of_le h0 hb.size, (hb.cell (p := ⟨b, 0, none⟩) hB).trans c0, (hb.cell (p := ⟨b, 1, none⟩) hB).trans c1, (hb.cell (p := ⟨b, 2, none⟩) hB).trans c2, (hb.cell (p := ⟨b, 3, none⟩) hB).trans c3⟩
/-- What package lex's variables hold. -/
structure Globs (w : World) : Prop where
  signs : G4 w 4 17582031444648132608 5188146765496319999 0 0
  bars : G4 w 2 18446744069414594048 8070450531979493375 0 0
theorem Globs.below {w w' : World} (h : Globs w) (hb : Below w.heap.size w w') : Globs w' :=
  ⟨h.signs.below h.signs.1 hb, h.bars.below h.bars.1 hb⟩
theorem Globs.trans {w w1 w2 : World} (h : Globs w) (hb : Below w.heap.size w w1) (hb2 : Below w1.heap.size w1 w2) : Globs w2 := (h.below hb).below hb2
/-- at, brought within 0 and n. -/
def clampN (at_ : Int) (n : Nat) : Nat := if at_ ≤ 0 then 0 else if (n : Int) ≤ at_ then n else at_.toNat
theorem clampN_le (at_ : Int) (n : Nat) : clampN at_ n ≤ n := by unfold clampN; split; omega; split <;> omega
theorem clampN_nat {k n : Nat} (h : k ≤ n) : clampN (k : Int) n = k := by unfold clampN; split; omega; split <;> omega
theorem clampN_int (at_ : Int) (n : Nat) : max 0 (min at_ (n : Int)) = (clampN at_ n : Int) := by unfold clampN; split; omega; split <;> omega
theorem cmt_no {cm : Bool} {c : UInt8} (h : c.toNat = 10) : cmt cm c = false := by
  have : c = 10 := UInt8.toNat_inj.1 h
  simp [cmt, this]
theorem cmt_in {c : UInt8} (h : ¬ c.toNat = 10) : cmt true c = true := by
  have : ¬ c = 10 := fun e => h (by rw [e]; rfl)
  simp [cmt, this]
theorem cmt_semi {c : UInt8} (h : c.toNat = 59) : cmt false c = true := by
  have : c = 59 := UInt8.toNat_inj.1 h
  simp [cmt, this]
theorem cmt_out {c : UInt8} (h : ¬ c.toNat = 59) : cmt false c = false := by
  have : ¬ c = 59 := fun e => h (by rw [e]; rfl)
  simp [cmt, this]
theorem white_10 {c : UInt8} (h : c.toNat = 10) : isWhite c = true := by
  have : c = 10 := UInt8.toNat_inj.1 h
  simp [isWhite, this]
/-- The head of a round: what is skipped so far, and what is left. -/
def SkipAt (l : List UInt8) (m k : Nat) (cm : Bool) : Prop := skipA l m = k + skipN cm (l.drop k)
theorem clamp_cases (at_ : Int) (n : Nat) : ∃ m : Nat, m ≤ n ∧ Hid (clampN at_ n = m) ∧ ((m ≤ 0 ∧ at_ ≤ 0) ∨ (at_ = (m : Int) ∧ 0 < m) ∨ (n ≤ m ∧ (n : Int) < at_ ∧ 0 < n) ∨ (m ≤ 0 ∧ (n : Int) < at_ ∧ n ≤ 0)) := by
  refine ⟨clampN at_ n, clampN_le _ _, rfl, ?_⟩
  unfold clampN
  by_cases h0 : at_ ≤ 0
  · rw [if_pos h0]; exact .inl ⟨Nat.le_refl _, h0⟩
  · rw [if_neg h0]
    by_cases h1 : (n : Int) ≤ at_
    · rw [if_pos h1]
      by_cases h2 : at_ = (n : Int)
      · exact .inr (.inl ⟨h2, by omega⟩)
      · by_cases h3 : 0 < n
        · exact .inr (.inr (.inl ⟨Nat.le_refl _, by omega, h3⟩))
        · exact .inr (.inr (.inr ⟨by omega, by omega, by omega⟩))
    · rw [if_neg h1]; exact .inr (.inl ⟨by omega, by omega⟩)
theorem skipAt_start {l : List UInt8} {m : Nat} : SkipAt l m m false := rfl
theorem skipAt_step {s : ByteArray} {m k : Nat} {cm : Bool} (h : SkipAt s.data.toList m k cm) (hk : k < s.size) (hs : (cmt cm s[k] || isWhite s[k]) = true) : SkipAt s.data.toList m (k + 1) (cmt cm s[k]) := by
  unfold SkipAt at h ⊢
  rw [h, drop_cons s k hk, skipN_yes hs]; omega
theorem skipAt_stop {s : ByteArray} {m k : Nat} {cm : Bool} (h : SkipAt s.data.toList m k cm) (hk : k < s.size) (hs : (cmt cm s[k] || isWhite s[k]) = false) : k = skipA s.data.toList m := by
  unfold SkipAt at h
  rw [h, drop_cons s k hk, skipN_no hs]; rfl
theorem skipAt_end {s : ByteArray} {m k : Nat} {cm : Bool} (h : SkipAt s.data.toList m k cm) (hk : s.size ≤ k) : k = skipA s.data.toList m := by
  unfold SkipAt at h
  rw [h, drop_nil s k hk]; rfl
theorem ne_false {x y : Int} (h : x = y) : (x != y) = false := by simp [h]
theorem ne_true {x y : Int} (h : ¬ x = y) : (x != y) = true := by simp [h]
theorem eq_false {x y : Int} (h : ¬ x = y) : (x == y) = false := by simp [h]
theorem eq_true_ {x y : Int} (h : x = y) : (x == y) = true := by simp [h]
end Go.Proofs.YtbddghcdibdloaaGreatDoor
