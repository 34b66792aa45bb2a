/- The methods of package lex's sets: has, span, all. -/
import Derived.Test.YthbgigjjmojgfaaDoorProg
import Derived.Test.YthbgigjjmojgfaaDoorAid
import Derived.Test.YthbgigjjmojgfaaDoorLexPlain
import Derived.Deep.RegionHeld3
import Derived.BigQuiet
namespace Go.Proofs.YthbgigjjmojgfaaDoor
open Go.RowKit
theorem below_drewN {B : Nat} {a w : World} (h : Below B a w) (n : Nat) : Below B a (w.drewN n) := ⟨h.os, h.tape, h.output, h.size, h.block⟩
/-- Bit c % 64 of a, as the walk spells it. -/
def bitZ (a c : Int) : Bool := bits BinOp.and IntKind.u64 (a / 2 ^ (c % 64).toNat) 1 != 0
def setB (a0 a1 a2 a3 : Int) (c : Int) : Bool := bitZ (if c / 64 = 0 then a0 else if c / 64 = 1 then a1 else if c / 64 = 2 then a2 else a3) c
/-- The four words are the set p. -/
def SetIs (a0 a1 a2 a3 : Int) (p : UInt8 → Bool) : Prop := ∀ c : UInt8, setB a0 a1 a2 a3 (c.toNat : Int) = p c
theorem setIs_of {a0 a1 a2 a3 : Int} {p : UInt8 → Bool} (h : ∀ n : Fin 256, setB a0 a1 a2 a3 (n.val : Int) = p (UInt8.ofNat n.val)) : SetIs a0 a1 a2 a3 p := fun c => by
  have := h ⟨c.toNat, c.toNat_lt⟩
  simpa using this
theorem whiteIs : SetIs 4294977024 0 0 0 isWhite := setIs_of (by decide +kernel)
theorem digitsIs : SetIs 287948901175001088 0 0 0 isDg := setIs_of (by decide +kernel)
theorem signsIs : SetIs 17582031444648132608 5188146765496319999 0 0 isSign := setIs_of (by decide +kernel)
theorem inBarsIs : SetIs 18446744069414594048 8070450531979493375 0 0 inBar := setIs_of (by decide +kernel)
theorem has_any (a0 a1 a2 a3 : Int) (p : UInt8 → Bool) (hS : SetIs a0 a1 a2 a3 p) (c : UInt8) (w : World) :
    Calls Tryd.prog 45 #[.agg #[.int .u64 a0, .int .u64 a1, .int .u64 a2, .int .u64 a3], .int .u8 c.toNat] w fun e w' => e = .returned (.bool (p c)) ∧ Below w.heap.size w w' := by
  have h0 := c.toNat_lt
  have HS := Lib.hid (hS c)
  clear hS
  have hq : (c.toNat : Int) / 64 = 0 ∨ (c.toNat : Int) / 64 = 1 ∨ (c.toNat : Int) / 64 = 2 ∨ (c.toNat : Int) / 64 = 3 := by omega
  rcases hq with hq | hq | hq | hq
  · have HR : Hid (bitZ a0 c.toNat = p c) := by show _ = _; rw [← HS.out]; simp [setB, hq]
    go_enter Tryd.func45, Tryd.ntmps45
    go_wp2
    go_ret
    exact ⟨ret_bool HR.out, (Below.refl _ _).alloc (Nat.le_refl _) _⟩
  · have HR : Hid (bitZ a1 c.toNat = p c) := by show _ = _; rw [← HS.out]; simp [setB, hq]
    go_enter Tryd.func45, Tryd.ntmps45
    go_wp2
    go_ret
    exact ⟨ret_bool HR.out, (Below.refl _ _).alloc (Nat.le_refl _) _⟩
  · have HR : Hid (bitZ a2 c.toNat = p c) := by show _ = _; rw [← HS.out]; simp [setB, hq]
    go_enter Tryd.func45, Tryd.ntmps45
    go_wp2
    go_ret
    exact ⟨ret_bool HR.out, (Below.refl _ _).alloc (Nat.le_refl _) _⟩
  · have HR : Hid (bitZ a3 c.toNat = p c) := by show _ = _; rw [← HS.out]; simp [setB, hq]
    go_enter Tryd.func45, Tryd.ntmps45
    go_wp2
    go_ret
    exact ⟨ret_bool HR.out, (Below.refl _ _).alloc (Nat.le_refl _) _⟩
theorem has_yes (a0 a1 a2 a3 : Int) (p : UInt8 → Bool) (hS : SetIs a0 a1 a2 a3 p) (c : UInt8) (w : World) (h : p c = true) :
    Calls Tryd.prog 45 #[.agg #[.int .u64 a0, .int .u64 a1, .int .u64 a2, .int .u64 a3], .int .u8 c.toNat] w fun e w' => e = .returned (.bool true) ∧ Below w.heap.size w w' := by
  have := has_any a0 a1 a2 a3 p hS c w; rw [h] at this; exact this
theorem has_no (a0 a1 a2 a3 : Int) (p : UInt8 → Bool) (hS : SetIs a0 a1 a2 a3 p) (c : UInt8) (w : World) (h : p c = false) :
    Calls Tryd.prog 45 #[.agg #[.int .u64 a0, .int .u64 a1, .int .u64 a2, .int .u64 a3], .int .u8 c.toNat] w fun e w' => e = .returned (.bool false) ∧ Below w.heap.size w w' := by
  have := has_any a0 a1 a2 a3 p hS c w; rw [h] at this; exact this
theorem drop_cons (s : ByteArray) (k : Nat) (h : k < s.size) : s.data.toList.drop k = s[k] :: s.data.toList.drop (k + 1) := by
  rw [List.drop_eq_getElem_cons (by simpa using h)]; rfl
theorem drop_nil (s : ByteArray) (k : Nat) (h : s.size ≤ k) : s.data.toList.drop k = [] := List.drop_eq_nil_of_le (by simpa using h)
theorem span_any (a0 a1 a2 a3 : Int) (p : UInt8 → Bool) (hS : SetIs a0 a1 a2 a3 p) (s : ByteArray) (n : Nat) (w : World) (hn : n ≤ s.size) (hs : s.size ≤ 9223372036854775807) :
    Calls Tryd.prog 83 #[.agg #[.int .u64 a0, .int .u64 a1, .int .u64 a2, .int .u64 a3], .string s, .int .i64 n] w fun e w' => e = .returned (.int .i64 ((n + spanN p (s.data.toList.drop n) : Nat) : Int)) ∧ Below w.heap.size w w' := by
  have HS := Lib.hid hS
  clear hS
  go_enter Tryd.func83, Tryd.ntmps83
  go_wp2
  go_loopw [2] (fun i wr => ∃ k : Nat, n ≤ k ∧ k ≤ s.size ∧ i = .int .i64 k ∧ Hid (n + spanN p (s.data.toList.drop n) = k + spanN p (s.data.toList.drop k)) ∧ Below w.heap.size w wr ∧ wr.heap[w.heap.size]? = some (.cells #[.int .u64 a0, .int .u64 a1, .int .u64 a2, .int .u64 a3] 71 (0, 0))) (fun i _ => s.size - (intOf i).toNat)
  case atStart => exact ⟨n, Nat.le_refl _, hn, rfl, rfl, (Below.refl _ _).alloc (Nat.le_refl _) _, heap_alloc_new w _⟩
  case round =>
    obtain ⟨k, hk1, hk2, rfl, HP, hbel, hbox⟩ := hrel
    have c0 : wr.cell? ⟨w.heap.size, 0, none⟩ = some (.int .u64 a0) := cell_of_row wr _ 0 _ _ _ hbox
    have c1 : wr.cell? ⟨w.heap.size, 1, none⟩ = some (.int .u64 a1) := cell_of_row wr _ 1 _ _ _ hbox
    have c2 : wr.cell? ⟨w.heap.size, 2, none⟩ = some (.int .u64 a2) := cell_of_row wr _ 2 _ _ _ hbox
    have c3 : wr.cell? ⟨w.heap.size, 3, none⟩ = some (.int .u64 a3) := cell_of_row wr _ 3 _ _ _ hbox
    have HB := Lib.hid hbox
    clear hbox
    have hz : w.heap.size < wr.heap.size := by have := hbel.size; have h2 := World.block_lt_of_cell? wr _ c0; simpa using h2
    by_cases hlt : k < s.size
    · cases hp : p s[k] with
      | true =>
        have HY := Lib.hid hp
        clear hp
        go_wp2
        go_region_held3 (fun w' => w'.cell? ⟨w.heap.size, 0, none⟩ = some (.int .u64 a0) ∧ w'.cell? ⟨w.heap.size, 1, none⟩ = some (.int .u64 a1) ∧ w'.cell? ⟨w.heap.size, 2, none⟩ = some (.int .u64 a2) ∧ w'.cell? ⟨w.heap.size, 3, none⟩ = some (.int .u64 a3))
          (first | exact ⟨(hc1 _ _ hz).trans c0, (hc1 _ _ hz).trans c1, (hc1 _ _ hz).trans c2, (hc1 _ _ hz).trans c3⟩ | go_keep) (first | (go_at_call 45; refine (has_yes _ _ _ _ p HS.out s[k] _ HY.out).mono ?_; rintro e w1 ⟨rfl, hb1⟩; obtain ⟨hc1, hf1⟩ := bcell hb1))
        go_wp2
        go_roundw
        case rel =>
          refine ⟨k + 1, by omega, by omega, by go_num, ?_, ?_, ?_⟩
          · show _ = _
            rw [HP.out, drop_cons s k hlt, spanN_yes HY.out]; omega
          · exact hbel.drew.trans (hb1.mono (by simpa using hbel.size))
          · exact (hb1.block _ hz).trans HB.out
        case measure => simp [intOf]; omega
      | false =>
        have HY := Lib.hid hp
        clear hp
        go_wp2
        go_region_held3 (fun w' => w'.cell? ⟨w.heap.size, 0, none⟩ = some (.int .u64 a0) ∧ w'.cell? ⟨w.heap.size, 1, none⟩ = some (.int .u64 a1) ∧ w'.cell? ⟨w.heap.size, 2, none⟩ = some (.int .u64 a2) ∧ w'.cell? ⟨w.heap.size, 3, none⟩ = some (.int .u64 a3))
          (first | exact ⟨(hc1 _ _ hz).trans c0, (hc1 _ _ hz).trans c1, (hc1 _ _ hz).trans c2, (hc1 _ _ hz).trans c3⟩ | go_keep) (first | (go_at_call 45; refine (has_no _ _ _ _ p HS.out s[k] _ HY.out).mono ?_; rintro e w1 ⟨rfl, hb1⟩; obtain ⟨hc1, hf1⟩ := bcell hb1))
        go_wp2
        go_ret
        exact ⟨ret_int (by rw [HP.out, drop_cons s k hlt, spanN_no HY.out]; rfl), hbel.drew.trans (hb1.mono (by simpa using hbel.size))⟩
    · have hd : decide ((k : Int) < (s.size : Int)) = false := by simp; omega
      go_wp2
      go_quiet (fail)
      go_wp2
      go_ret
      exact ⟨ret_int (by rw [HP.out, drop_nil s k (by omega)]; rfl), below_drewN hbel _⟩
theorem all_any (a0 a1 a2 a3 : Int) (p : UInt8 → Bool) (hS : SetIs a0 a1 a2 a3 p) (s : ByteArray) (w : World) (hs : s.size ≤ 9223372036854775807) :
    Calls Tryd.prog 69 #[.agg #[.int .u64 a0, .int .u64 a1, .int .u64 a2, .int .u64 a3], .string s] w fun e w' => e = .returned (.bool (s.data.toList.all p)) ∧ Below w.heap.size w w' := by
  have HS := Lib.hid hS
  clear hS
  have HE : Hid (s.data.toList.length = s.size) := by show _ = _; simp
  go_enter Tryd.func69, Tryd.ntmps69
  go_wp2_with fail
  refine (span_any _ _ _ _ p HS.out s 0 _ (by omega) hs).mono ?_
  rintro e w1 ⟨rfl, hb1⟩
  go_wp2
  go_ret
  refine ⟨ret_bool ?_, ((Below.refl _ _).alloc (Nat.le_refl _) _).trans (hb1.mono (by simp))⟩
  have := spanN_eq_length (p := p) (l := s.data.toList)
  rw [HE.out] at this
  rw [Bool.eq_iff_iff, ← this]
  simp
  omega
end Go.Proofs.YthbgigjjmojgfaaDoor
