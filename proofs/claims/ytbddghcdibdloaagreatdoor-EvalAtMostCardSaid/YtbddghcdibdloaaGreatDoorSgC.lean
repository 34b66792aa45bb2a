/- Package sig's small functions: names, sorts, functions. -/
import Derived.Test.YtbddghcdibdloaaGreatDoorSgB
import Derived.Test.YtbddghcdibdloaaGreatDoorLexName
import Derived.Test.YtbddghcdibdloaaGreatDoorSexMay
namespace Go.Proofs.YtbddghcdibdloaaGreatDoor
open Go.RowKit
set_option linter.unusedVariables false
/-- The names of the core. -/
def coreB (l : List UInt8) : Bool := l == [116, 114, 117, 101] || l == [102, 97, 108, 115, 101] || l == [110, 111, 116] || l == [97, 110, 100] || l == [111, 114] || l == [120, 111, 114] || l == [61, 62] || l == [61] || l == [100, 105, 115, 116, 105, 110, 99, 116] || l == [105, 116, 101] || l == [43] || l == [45] || l == [60, 61] || l == [60] || l == [62, 61] || l == [62]
theorem Core_is (s : ByteArray) (r : Bool) (w : World) (h : coreB s.data.toList = r) : Calls Tryz.prog 82 #[.string s] w fun e w' => e = .returned (.bool r) ∧ w = w' := by
  subst h
  unfold coreB
  rw [← ByteArray.toList_eq]
  by_cases h0 : (s.toList == [116, 114, 117, 101]) = true
  · go_enter Tryz.func82, Tryz.ntmps82
    go_wp2
    go_ret
    exact ⟨by simp only [h0]; rfl, rfl⟩
  rw [Bool.not_eq_true] at h0
  by_cases h1 : (s.toList == [102, 97, 108, 115, 101]) = true
  · go_enter Tryz.func82, Tryz.ntmps82
    go_wp2
    go_ret
    exact ⟨by simp only [h0, h1]; rfl, rfl⟩
  rw [Bool.not_eq_true] at h1
  by_cases h2 : (s.toList == [110, 111, 116]) = true
  · go_enter Tryz.func82, Tryz.ntmps82
    go_wp2
    go_ret
    exact ⟨by simp only [h0, h1, h2]; rfl, rfl⟩
  rw [Bool.not_eq_true] at h2
  by_cases h3 : (s.toList == [97, 110, 100]) = true
  · go_enter Tryz.func82, Tryz.ntmps82
    go_wp2
    go_ret
    exact ⟨by simp only [h0, h1, h2, h3]; rfl, rfl⟩
  rw [Bool.not_eq_true] at h3
  by_cases h4 : (s.toList == [111, 114]) = true
  · go_enter Tryz.func82, Tryz.ntmps82
    go_wp2
    go_ret
    exact ⟨by simp only [h0, h1, h2, h3, h4]; rfl, rfl⟩
  rw [Bool.not_eq_true] at h4
  by_cases h5 : (s.toList == [120, 111, 114]) = true
  · go_enter Tryz.func82, Tryz.ntmps82
    go_wp2
    go_ret
    exact ⟨by simp only [h0, h1, h2, h3, h4, h5]; rfl, rfl⟩
  rw [Bool.not_eq_true] at h5
  by_cases h6 : (s.toList == [61, 62]) = true
  · go_enter Tryz.func82, Tryz.ntmps82
    go_wp2
    go_ret
    exact ⟨by simp only [h0, h1, h2, h3, h4, h5, h6]; rfl, rfl⟩
  rw [Bool.not_eq_true] at h6
  by_cases h7 : (s.toList == [61]) = true
  · go_enter Tryz.func82, Tryz.ntmps82
    go_wp2
    go_ret
    exact ⟨by simp only [h0, h1, h2, h3, h4, h5, h6, h7]; rfl, rfl⟩
  rw [Bool.not_eq_true] at h7
  by_cases h8 : (s.toList == [100, 105, 115, 116, 105, 110, 99, 116]) = true
  · go_enter Tryz.func82, Tryz.ntmps82
    go_wp2
    go_ret
    exact ⟨by simp only [h0, h1, h2, h3, h4, h5, h6, h7, h8]; rfl, rfl⟩
  rw [Bool.not_eq_true] at h8
  by_cases h9 : (s.toList == [105, 116, 101]) = true
  · go_enter Tryz.func82, Tryz.ntmps82
    go_wp2
    go_ret
    exact ⟨by simp only [h0, h1, h2, h3, h4, h5, h6, h7, h8, h9]; rfl, rfl⟩
  rw [Bool.not_eq_true] at h9
  by_cases h10 : (s.toList == [43]) = true
  · go_enter Tryz.func82, Tryz.ntmps82
    go_wp2
    go_ret
    exact ⟨by simp only [h0, h1, h2, h3, h4, h5, h6, h7, h8, h9, h10]; rfl, rfl⟩
  rw [Bool.not_eq_true] at h10
  by_cases h11 : (s.toList == [45]) = true
  · go_enter Tryz.func82, Tryz.ntmps82
    go_wp2
    go_ret
    exact ⟨by simp only [h0, h1, h2, h3, h4, h5, h6, h7, h8, h9, h10, h11]; rfl, rfl⟩
  rw [Bool.not_eq_true] at h11
  by_cases h12 : (s.toList == [60, 61]) = true
  · go_enter Tryz.func82, Tryz.ntmps82
    go_wp2
    go_ret
    exact ⟨by simp only [h0, h1, h2, h3, h4, h5, h6, h7, h8, h9, h10, h11, h12]; rfl, rfl⟩
  rw [Bool.not_eq_true] at h12
  by_cases h13 : (s.toList == [60]) = true
  · go_enter Tryz.func82, Tryz.ntmps82
    go_wp2
    go_ret
    exact ⟨by simp only [h0, h1, h2, h3, h4, h5, h6, h7, h8, h9, h10, h11, h12, h13]; rfl, rfl⟩
  rw [Bool.not_eq_true] at h13
  by_cases h14 : (s.toList == [62, 61]) = true
  · go_enter Tryz.func82, Tryz.ntmps82
    go_wp2
    go_ret
    exact ⟨by simp only [h0, h1, h2, h3, h4, h5, h6, h7, h8, h9, h10, h11, h12, h13, h14]; rfl, rfl⟩
  rw [Bool.not_eq_true] at h14
  by_cases h15 : (s.toList == [62]) = true
  · go_enter Tryz.func82, Tryz.ntmps82
    go_wp2
    go_ret
    exact ⟨by simp only [h0, h1, h2, h3, h4, h5, h6, h7, h8, h9, h10, h11, h12, h13, h14, h15]; rfl, rfl⟩
  rw [Bool.not_eq_true] at h15
  go_enter Tryz.func82, Tryz.ntmps82
  go_wp2
  go_ret
  exact ⟨by simp only [h0, h1, h2, h3, h4, h5, h6, h7, h8, h9, h10, h11, h12, h13, h14, h15]; rfl, rfl⟩
theorem Res_is (s : ByteArray) (r : Bool) (w : World) (h : resB s.data.toList = r) : Calls Tryz.prog 80 #[.string s] w fun e w' => e = .returned (.bool r) ∧ w = w' := by
  subst h
  unfold resB
  rw [← ByteArray.toList_eq]
  by_cases h0 : (s.toList == [95]) = true
  · go_enter Tryz.func80, Tryz.ntmps80
    go_wp2
    go_ret
    exact ⟨by simp only [h0]; rfl, rfl⟩
  rw [Bool.not_eq_true] at h0
  by_cases h1 : (s.toList == [33]) = true
  · go_enter Tryz.func80, Tryz.ntmps80
    go_wp2
    go_ret
    exact ⟨by simp only [h0, h1]; rfl, rfl⟩
  rw [Bool.not_eq_true] at h1
  by_cases h2 : (s.toList == [97, 115]) = true
  · go_enter Tryz.func80, Tryz.ntmps80
    go_wp2
    go_ret
    exact ⟨by simp only [h0, h1, h2]; rfl, rfl⟩
  rw [Bool.not_eq_true] at h2
  by_cases h3 : (s.toList == [108, 101, 116]) = true
  · go_enter Tryz.func80, Tryz.ntmps80
    go_wp2
    go_ret
    exact ⟨by simp only [h0, h1, h2, h3]; rfl, rfl⟩
  rw [Bool.not_eq_true] at h3
  by_cases h4 : (s.toList == [101, 120, 105, 115, 116, 115]) = true
  · go_enter Tryz.func80, Tryz.ntmps80
    go_wp2
    go_ret
    exact ⟨by simp only [h0, h1, h2, h3, h4]; rfl, rfl⟩
  rw [Bool.not_eq_true] at h4
  by_cases h5 : (s.toList == [102, 111, 114, 97, 108, 108]) = true
  · go_enter Tryz.func80, Tryz.ntmps80
    go_wp2
    go_ret
    exact ⟨by simp only [h0, h1, h2, h3, h4, h5]; rfl, rfl⟩
  rw [Bool.not_eq_true] at h5
  by_cases h6 : (s.toList == [109, 97, 116, 99, 104]) = true
  · go_enter Tryz.func80, Tryz.ntmps80
    go_wp2
    go_ret
    exact ⟨by simp only [h0, h1, h2, h3, h4, h5, h6]; rfl, rfl⟩
  rw [Bool.not_eq_true] at h6
  by_cases h7 : (s.toList == [112, 97, 114]) = true
  · go_enter Tryz.func80, Tryz.ntmps80
    go_wp2
    go_ret
    exact ⟨by simp only [h0, h1, h2, h3, h4, h5, h6, h7]; rfl, rfl⟩
  rw [Bool.not_eq_true] at h7
  go_enter Tryz.func80, Tryz.ntmps80
  go_wp2
  go_ret
  exact ⟨by simp only [h0, h1, h2, h3, h4, h5, h6, h7]; rfl, rfl⟩
/-- Whether what is declared may have that name. -/
def mayNm (s : ByteArray) : Bool := mayN s.data.toList && !resB s.data.toList
theorem mayName_is (s : ByteArray) (r : Bool) (w : World) (hG : Globs w) (hs : s.size ≤ maxLen) (h : mayNm s = r) : Calls Tryz.prog 73 #[.string s] w fun e w' => e = .returned (.bool r) ∧ Below w.heap.size w w' := by
  have hs' : s.size ≤ 9223372036854775807 := by unfold maxLen at hs; omega
  unfold mayNm at h
  cases h1 : mayN s.data.toList with
  | false =>
    rw [h1] at h
    subst h
    have HC : Hid (∀ W, Globs W → Calls Tryz.prog 79 #[.string s] W fun e w' => e = .returned (.bool false) ∧ Below W.heap.size W w') := fun W hW => lexMay_is s false W hW hs' h1
    have HG := Lib.hid hG
    clear h1 hG
    go_enter Tryz.func73, Tryz.ntmps73
    go_wp2_with (go_at_call 79; refine (HC.out _ HG.out).mono ?_; rintro e w1 ⟨rfl, hb1⟩)
    go_ret
    exact ⟨rfl, hb1⟩
  | true =>
    have HC : Hid (∀ W, Globs W → Calls Tryz.prog 79 #[.string s] W fun e w' => e = .returned (.bool true) ∧ Below W.heap.size W w') := fun W hW => lexMay_is s true W hW hs' h1
    rw [h1] at h
    cases h2 : resB s.data.toList with
    | false =>
      rw [h2] at h
      subst h
      have HD : Hid (∀ W, Calls Tryz.prog 80 #[.string s] W fun e w' => e = .returned (.bool false) ∧ W = w') := fun W => Res_is s false W h2
      have HG := Lib.hid hG
      clear h1 hG h2
      go_enter Tryz.func73, Tryz.ntmps73
      go_wp2_with (first | (go_at_call 79; refine (HC.out _ HG.out).mono ?_; rintro e w1 ⟨rfl, hb1⟩) | (go_at_call 80; refine (HD.out _).mono ?_; rintro e w2 ⟨rfl, rfl⟩))
      go_ret
      exact ⟨rfl, hb1⟩
    | true =>
      rw [h2] at h
      subst h
      have HD : Hid (∀ W, Calls Tryz.prog 80 #[.string s] W fun e w' => e = .returned (.bool true) ∧ W = w') := fun W => Res_is s true W h2
      have HG := Lib.hid hG
      clear h1 hG h2
      go_enter Tryz.func73, Tryz.ntmps73
      go_wp2_with (first | (go_at_call 79; refine (HC.out _ HG.out).mono ?_; rintro e w1 ⟨rfl, hb1⟩) | (go_at_call 80; refine (HD.out _).mono ?_; rintro e w2 ⟨rfl, rfl⟩))
      go_ret
      exact ⟨rfl, hb1⟩
def boolS : ByteArray := ⟨#[66, 111, 111, 108]⟩
def intS : ByteArray := ⟨#[73, 110, 116]⟩
/-- What package sig's variable holds, beside package lex's. -/
structure GS (w : World) : Prop where
  g : Globs w
  lt : 3 < w.heap.size
  c0 : w.cell? ⟨3, 0, none⟩ = some (.string boolS)
  c1 : w.cell? ⟨3, 1, none⟩ = some (.string intS)
theorem GS.below {w w' : World} (h : GS w) (hb : Below w.heap.size w w') : GS w' :=
  ⟨h.g.below hb, Nat.lt_of_lt_of_le h.lt hb.size, (hb.cell (p := ⟨3, 0, none⟩) h.lt).trans h.c0, (hb.cell (p := ⟨3, 1, none⟩) h.lt).trans h.c1⟩
/-- Whether there is a sort of that number. -/
def thereA (n : Nat) (i : Int) : Bool := decide (0 ≤ i) && decide (i < 2 + (n : Int))
set_option maxRecDepth 100000 in
theorem SortName_any (x : SigV) (i : Int) (r : Bool) (w : World) (hG : GS w) (hR : SigR w x) (hr : thereA x.sorts.length i = r) (hi : I64 i) (hl : x.sorts.length ≤ 100) :
    Calls Tryz.prog 83 #[.agg #[.slice x.sa x.sorts.length x.sc, .slice x.fa x.funs.length x.fc, .slice x.ma x.macs.length x.mc], .int .i64 i] w fun e w' => (∃ s, e = .returned (.tuple #[.string s, .bool r])) ∧ Below w.heap.size w w' := by
  have hR1 := hR.sl
  have hR2 := hR.sm
  have HR := Lib.hid hR
  have hi1 := hi.1
  have hi2 := hi.2
  unfold thereA at hr
  by_cases h0 : i < 0
  · have e0 : decide (0 ≤ i) = false := decide_eq_false (by omega)
    rw [e0] at hr
    subst hr
    clear hR hG e0
    go_enter Tryz.func83, Tryz.ntmps83
    go_wp2
    go_ret2
    exact ⟨⟨_, rfl⟩, (Below.refl _ _).alloc (Nat.le_refl _) _⟩
  · have e0 : decide (0 ≤ i) = true := decide_eq_true (by omega)
    by_cases h1 : i < 2 + (x.sorts.length : Int)
    · have e1 : decide (i < 2 + (x.sorts.length : Int)) = true := decide_eq_true h1
      rw [e0, e1] at hr
      subst hr
      clear e0 e1
      by_cases h2 : i < 2
      · have c0 := hG.c0
        have c1 := hG.c1
        have hlt := hG.lt
        clear hR hG
        obtain rfl | rfl : i = 0 ∨ i = 1 := by omega
        · go_enter Tryz.func83, Tryz.ntmps83
          go_wp2
          go_ret2
          exact ⟨⟨_, rfl⟩, (Below.refl _ _).alloc (Nat.le_refl _) _⟩
        · go_enter Tryz.func83, Tryz.ntmps83
          go_wp2
          go_ret2
          exact ⟨⟨_, rfl⟩, (Below.refl _ _).alloc (Nat.le_refl _) _⟩
      · have hk : (i - 2).toNat < x.sorts.length := by omega
        obtain ⟨y, hy⟩ : ∃ y, x.sorts[(i - 2).toNat]? = some y := ⟨_, List.getElem?_eq_getElem hk⟩
        obtain ⟨g, o, ha, hg, hcell⟩ := hR.sat (by rw [len_flat strC_len]; omega)
        have q0 := hcell _ _ ((get_flat strC_len x.sorts (i - 2).toNat 0 y hy (by omega)).trans rfl)
        simp only [Nat.mul_one, Nat.add_zero] at q0
        obtain ⟨sorts, sa, sc, funs, fa, fc, macs, ma, mc⟩ := x
        simp only at ha hk hl hR1 hR2 h1
        subst ha
        clear hR hG hy hcell
        go_enter Tryz.func83, Tryz.ntmps83
        go_wp2
        go_ret2
        exact ⟨⟨_, rfl⟩, (Below.refl _ _).alloc (Nat.le_refl _) _⟩
    · have e1 : decide (i < 2 + (x.sorts.length : Int)) = false := decide_eq_false h1
      rw [e0, e1] at hr
      subst hr
      clear hR hG e0 e1
      go_enter Tryz.func83, Tryz.ntmps83
      go_wp2
      go_ret2
      exact ⟨⟨_, rfl⟩, (Below.refl _ _).alloc (Nat.le_refl _) _⟩
theorem maySort_any (x : SigV) (i : Int) (r : Bool) (w : World) (hG : GS w) (hR : SigR w x) (hr : thereA x.sorts.length i = r) (hi : I64 i) (hl : x.sorts.length ≤ 100) :
    Calls Tryz.prog 75 #[.agg #[.slice x.sa x.sorts.length x.sc, .slice x.fa x.funs.length x.fc, .slice x.ma x.macs.length x.mc], .int .i64 i] w fun e w' => e = .returned (.bool r) ∧ Below w.heap.size w w' := by
  have HC : Hid (∀ W, GS W → SigR W x → Calls Tryz.prog 83 #[.agg #[.slice x.sa x.sorts.length x.sc, .slice x.fa x.funs.length x.fc, .slice x.ma x.macs.length x.mc], .int .i64 i] W fun e w' => (∃ s, e = .returned (.tuple #[.string s, .bool r])) ∧ Below W.heap.size W w') := fun W h1 h2 => SortName_any x i r W h1 h2 hr hi hl
  have hb0 : Below w.heap.size w (w.alloc (.cells #[.slice x.sa x.sorts.length x.sc, .slice x.fa x.funs.length x.fc, .slice x.ma x.macs.length x.mc] 34)) := (Below.refl _ _).alloc (Nat.le_refl _) _
  have HG := Lib.hid (hG.below hb0)
  have HR := Lib.hid (hR.below hb0)
  have HB0 := Lib.hid hb0
  clear hG hR hr hi hl hb0
  go_enter Tryz.func75, Tryz.ntmps75
  go_wp2_with (go_at_call 83; refine (HC.out _ HG.out HR.out).mono ?_; rintro e w1 ⟨⟨s, rfl⟩, hb1⟩)
  go_ret
  exact ⟨rfl, HB0.out.trans (hb1.mono (by simp))⟩
/-- Whether there are no more than may be. -/
def fitsA (a b c : Nat) : Bool := decide (a ≤ 4) && decide (b ≤ 12) && decide (c ≤ 12)
theorem sigfits_any (x : SigV) (r : Bool) (w : World) (h : fitsA x.sorts.length x.funs.length x.macs.length = r) : Calls Tryz.prog 54 #[.agg #[.slice x.sa x.sorts.length x.sc, .slice x.fa x.funs.length x.fc, .slice x.ma x.macs.length x.mc]] w fun e w' => e = .returned (.bool r) ∧ Below w.heap.size w w' := by
  unfold fitsA at h
  by_cases h0 : x.sorts.length ≤ 4
  · rw [decide_eq_true h0, Bool.true_and] at h
    by_cases h1 : x.funs.length ≤ 12
    · rw [decide_eq_true h1, Bool.true_and] at h
      by_cases h2 : x.macs.length ≤ 12
      · rw [decide_eq_true h2] at h
        subst h
        go_enter Tryz.func54, Tryz.ntmps54
        go_wp2
        go_ret
        exact ⟨ret_bool (by simp; omega), (Below.refl _ _).alloc (Nat.le_refl _) _⟩
      · rw [decide_eq_false h2] at h
        subst h
        go_enter Tryz.func54, Tryz.ntmps54
        go_wp2
        go_ret
        exact ⟨ret_bool (by simp; omega), (Below.refl _ _).alloc (Nat.le_refl _) _⟩
    · rw [decide_eq_false h1, Bool.false_and] at h
      subst h
      go_enter Tryz.func54, Tryz.ntmps54
      go_wp2
      go_ret
      exact ⟨rfl, (Below.refl _ _).alloc (Nat.le_refl _) _⟩
  · rw [decide_eq_false h0, Bool.false_and, Bool.false_and] at h
    subst h
    go_enter Tryz.func54, Tryz.ntmps54
    go_wp2
    go_ret
    exact ⟨rfl, (Below.refl _ _).alloc (Nat.le_refl _) _⟩
end Go.Proofs.YtbddghcdibdloaaGreatDoor
