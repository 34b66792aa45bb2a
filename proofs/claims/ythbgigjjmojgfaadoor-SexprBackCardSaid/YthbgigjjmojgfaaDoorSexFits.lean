/- Whether an expression's own fields may be. -/
import Derived.Test.YthbgigjjmojgfaaDoorSexRd
import Derived.Test.YthbgigjjmojgfaaDoorLexName
import Derived.Test.YthbgigjjmojgfaaDoorNumParseB
import Derived.BigQuiet
namespace Go.Proofs.YthbgigjjmojgfaaDoor
open Go.RowKit
def mayN (l : List UInt8) : Bool := decide (l.length ≤ 100) && l.all inBar
def keyB (l : List UInt8) : Bool := l.all isSign && (!l.isEmpty && decide (l.length ≤ 100))
def nmlB (l : List UInt8) : Bool := numB l && decide (l.length ≤ 100)
theorem all_is (a0 a1 a2 a3 : Int) (p : UInt8 → Bool) (hS : SetIs a0 a1 a2 a3 p) (s : ByteArray) (b : Bool) (w : World) (hs : s.size ≤ 9223372036854775807) (h : s.data.toList.all p = b) :
    Calls Tryd.prog 69 #[.agg #[.int .u64 a0, .int .u64 a1, .int .u64 a2, .int .u64 a3], .string s] w fun e w' => e = .returned (.bool b) ∧ Below w.heap.size w w' := by subst h; exact all_any a0 a1 a2 a3 p hS s w hs
theorem lexMay_any (s : ByteArray) (w : World) (hG : Globs w) (hs : s.size ≤ 9223372036854775807) :
    Calls Tryd.prog 50 #[.string s] w fun e w' => e = .returned (.bool (mayN s.data.toList)) ∧ Below w.heap.size w w' := by
  have HL : Hid (s.data.toList.length = s.size) := by show _ = _; simp
  obtain ⟨g0, c0, c1, c2, c3⟩ := hG.bars
  by_cases hb : s.size ≤ 100
  · obtain ⟨b, hall⟩ : ∃ b, s.data.toList.all inBar = b := ⟨_, rfl⟩
    have HR : Hid (b = mayN s.data.toList) := by show _ = _; unfold mayN; rw [HL.out, decide_eq_true hb, hall]; rfl
    have HA := Lib.hid hall
    have hd : decide ((s.size : Int) ≤ 100) = true := by simp; omega
    clear hall
    go_enter Tryd.func50, Tryd.ntmps50
    go_wp2_with fail
    refine (all_is _ _ _ _ inBar inBarsIs s b _ hs HA.out).mono ?_
    rintro e w1 ⟨rfl, hb1⟩
    go_wp2
    go_ret
    exact ⟨ret_bool HR.out, hb1⟩
  · have HR : Hid (mayN s.data.toList = false) := by show _ = _; unfold mayN; rw [HL.out, decide_eq_false hb]; rfl
    have hd : decide ((s.size : Int) ≤ 100) = false := by simp; omega
    go_enter Tryd.func50, Tryd.ntmps50
    go_wp2
    go_ret
    exact ⟨ret_bool HR.out.symm, Below.refl _ _⟩
theorem Sign_any (c : UInt8) (w : World) (hG : Globs w) :
    Calls Tryd.prog 71 #[.int .u8 c.toNat] w fun e w' => e = .returned (.bool (isSign c)) ∧ Below w.heap.size w w' := by
  obtain ⟨g0, c0, c1, c2, c3⟩ := hG.signs
  go_enter Tryd.func71, Tryd.ntmps71
  go_wp2_with fail
  refine (has_any _ _ _ _ isSign signsIs c _).mono ?_
  rintro e w1 ⟨rfl, hb1⟩
  go_wp2
  go_ret
  exact ⟨rfl, hb1⟩
theorem Sign_is (c : UInt8) (b : Bool) (w : World) (hG : Globs w) (h : isSign c = b) :
    Calls Tryd.prog 71 #[.int .u8 c.toNat] w fun e w' => e = .returned (.bool b) ∧ Below w.heap.size w w' := by subst h; exact Sign_any c w hG
theorem isKeyword_any (s : ByteArray) (w : World) (hG : Globs w) (hs : s.size ≤ 9223372036854775807) :
    Calls Tryd.prog 52 #[.string s] w fun e w' => e = .returned (.bool (keyB s.data.toList)) ∧ Below w.heap.size w w' := by
  have HL : Hid (s.data.toList.length = s.size) := by show _ = _; simp
  have HG := Lib.hid hG
  clear hG
  go_enter Tryd.func52, Tryd.ntmps52
  go_wp2
  go_loopw [6] (fun i wr => ∃ k : Nat, k ≤ s.size ∧ i = .int .i64 k ∧ Hid (s.data.toList.all isSign = (s.data.toList.drop k).all isSign) ∧ Below w.heap.size w wr) (fun i _ => s.size - (intOf i).toNat)
  case atStart => exact ⟨0, Nat.zero_le _, rfl, rfl, Below.refl _ _⟩
  case round =>
    obtain ⟨k, hk, rfl, HA, hbel⟩ := hrel
    have HG1 := Lib.hid (HG.out.below hbel)
    by_cases hlt : k < s.size
    · cases hc : isSign s[k] with
      | true =>
        have HC := Lib.hid hc
        clear hc
        go_wp2_with fail
        refine (Sign_is s[k] true _ HG1.out HC.out).mono ?_
        rintro e w' ⟨rfl, hb1⟩
        go_wp2
        go_roundw
        case rel => exact ⟨k + 1, by omega, by go_num, by show _ = _; rw [HA.out, drop_cons s k hlt, List.all_cons, HC.out]; rfl, hbel.trans (hb1.mono hbel.size)⟩
        case measure => simp [intOf]; omega
      | false =>
        have HC := Lib.hid hc
        clear hc
        go_wp2_with fail
        refine (Sign_is s[k] false _ HG1.out HC.out).mono ?_
        rintro e w' ⟨rfl, hb1⟩
        go_wp2
        go_ret
        exact ⟨ret_bool (by unfold keyB; rw [HA.out, drop_cons s k hlt, List.all_cons, HC.out]; rfl), hbel.trans (hb1.mono hbel.size)⟩
    · have HT : Hid (s.data.toList.all isSign = true) := by show _ = _; rw [HA.out, drop_nil s k (by omega)]; rfl
      by_cases h0 : s.size = 0
      · have hn : s.toList = [] := bytes_nil.2 h0
        have hem : s.toList.isEmpty = true := by rw [hn]; rfl
        have HR : Hid (keyB s.data.toList = false) := by show _ = _; unfold keyB; rw [← ByteArray.toList_eq, hn]; rfl
        clear h0
        go_wp2
        go_ret
        exact ⟨ret_bool HR.out.symm, hbel⟩
      · have hne : ¬ s.toList = [] := fun h => h0 (bytes_nil.1 h)
        have hem : s.toList.isEmpty = false := by simpa using hne
        have hem3 : (s.toList != []) = true := by simpa using hne
        have HR : Hid (keyB s.data.toList = decide (s.size ≤ 100)) := by show _ = _; unfold keyB; rw [HT.out, HL.out, ← ByteArray.toList_eq, hem]; rfl
        go_wp2
        go_ret
        exact ⟨ret_bool (by rw [HR.out]; simp; omega), hbel⟩
theorem Parse_is (s : ByteArray) (v e0 : Int) (w : World) (hs : s.size ≤ 9223372036854775807) (hv : parseV s.data.toList = v) (he : parseE s.data.toList = e0) :
    Calls Tryd.prog 70 #[.string s] w fun e w' => e = .returned (.tuple #[.int .i64 v, .int .i64 e0]) ∧ Below w.heap.size w w' := by subst hv; subst he; exact Parse_any s w hs
theorem sxNumeral_any (s : ByteArray) (w : World) (hs : s.size ≤ 9223372036854775807) :
    Calls Tryd.prog 51 #[.string s] w fun e w' => e = .returned (.bool (nmlB s.data.toList)) ∧ Below w.heap.size w w' := by
  have HL : Hid (s.data.toList.length = s.size) := by show _ = _; simp
  obtain ⟨v, hv⟩ : ∃ v, parseV s.data.toList = v := ⟨_, rfl⟩
  obtain ⟨e0, he⟩ : ∃ e0, parseE s.data.toList = e0 := ⟨_, rfl⟩
  have HV := Lib.hid hv
  have HE := Lib.hid he
  clear hv he
  by_cases h20 : e0 = 20
  · have e1 := ne_false (x := e0) (y := 20) h20
    have HR : Hid (nmlB s.data.toList = false) := by
      show _ = _
      have := HE.out
      rw [h20] at this
      unfold nmlB
      cases hn : numB s.data.toList with
      | false => rfl
      | true => unfold parseE at this; rw [if_pos hn] at this; split at this <;> omega
    clear h20
    go_enter Tryd.func51, Tryd.ntmps51
    go_wp2_with fail
    refine (Parse_is s v e0 _ hs HV.out HE.out).mono ?_
    rintro e w1 ⟨rfl, hb1⟩
    go_wp2
    go_ret
    exact ⟨ret_bool HR.out.symm, hb1⟩
  · have e1 := ne_true (x := e0) (y := 20) h20
    have HR : Hid (nmlB s.data.toList = decide (s.size ≤ 100)) := by
      show _ = _
      have := HE.out
      unfold nmlB
      rw [HL.out]
      cases hn : numB s.data.toList with
      | false => unfold parseE at this; rw [if_neg (by rw [hn]; exact Bool.false_ne_true)] at this; omega
      | true => rfl
    clear h20
    go_enter Tryd.func51, Tryd.ntmps51
    go_wp2_with fail
    refine (Parse_is s v e0 _ hs HV.out HE.out).mono ?_
    rintro e w1 ⟨rfl, hb1⟩
    go_wp2
    go_ret
    exact ⟨ret_bool (by rw [HR.out]; simp; omega), hb1⟩
theorem sxNumeral_is (s : ByteArray) (b : Bool) (w : World) (hs : s.size ≤ 9223372036854775807) (h : nmlB s.data.toList = b) :
    Calls Tryd.prog 51 #[.string s] w fun e w' => e = .returned (.bool b) ∧ Below w.heap.size w w' := by subst h; exact sxNumeral_any s w hs
theorem isKeyword_is (s : ByteArray) (b : Bool) (w : World) (hG : Globs w) (hs : s.size ≤ 9223372036854775807) (h : keyB s.data.toList = b) :
    Calls Tryd.prog 52 #[.string s] w fun e w' => e = .returned (.bool b) ∧ Below w.heap.size w w' := by subst h; exact isKeyword_any s w hG hs
theorem lexMay_is (s : ByteArray) (b : Bool) (w : World) (hG : Globs w) (hs : s.size ≤ 9223372036854775807) (h : mayN s.data.toList = b) :
    Calls Tryd.prog 50 #[.string s] w fun e w' => e = .returned (.bool b) ∧ Below w.heap.size w w' := by subst h; exact lexMay_any s w hG hs
/-- Whether the fields may be, by the fields themselves. -/
def fitsF (k : Int) (l : List UInt8) (n : Nat) : Bool :=
  if k = 0 then decide (n = 0) && mayN l else if k = 1 then decide (n = 0) && nmlB l else if k = 2 then decide (n = 0) && keyB l else if k = 3 then l.isEmpty else false
theorem fits_any (k : Int) (s : ByteArray) (a : Option Addr) (n c : Nat) (w : World) (hG : Globs w) (hs : s.size ≤ 9223372036854775807) :
    Calls Tryd.prog 35 #[.agg #[.int .i8 k, .string s, .slice a n c]] w fun e w' => e = .returned (.bool (fitsF k s.data.toList n)) ∧ Below w.heap.size w w' := by
  have hb0 : Below w.heap.size w (w.alloc (.cells #[.int .i8 k, .string s, .slice a n c] 26)) := (Below.refl _ _).alloc (Nat.le_refl _) _
  have HB := Lib.hid hb0
  have HG := Lib.hid hG
  clear hb0 hG
  by_cases h0 : k = 0
  · subst h0
    by_cases hn : n = 0
    · subst hn
      obtain ⟨b, hb⟩ : ∃ b, mayN s.data.toList = b := ⟨_, rfl⟩
      have HM := Lib.hid hb
      clear hb
      go_enter Tryd.func35, Tryd.ntmps35
      go_wp2_with fail
      refine (lexMay_is s b _ (HG.out.below HB.out) hs HM.out).mono ?_
      rintro e w1 ⟨rfl, hb1⟩
      go_wp2
      go_ret
      exact ⟨ret_bool (by simp [fitsF, HM.out]), HB.out.trans (hb1.mono HB.out.size)⟩
    · have e1 := eq_false (x := (n : Int)) (y := 0) (by omega)
      have HR : Hid (fitsF 0 s.data.toList n = false) := by show _ = _; simp [fitsF, hn]
      clear hn
      go_enter Tryd.func35, Tryd.ntmps35
      go_wp2
      go_ret
      exact ⟨ret_bool HR.out.symm, HB.out⟩
  · by_cases h1 : k = 1
    · subst h1
      by_cases hn : n = 0
      · subst hn
        obtain ⟨b, hb⟩ : ∃ b, nmlB s.data.toList = b := ⟨_, rfl⟩
        have HM := Lib.hid hb
        clear hb
        go_enter Tryd.func35, Tryd.ntmps35
        go_wp2_with fail
        refine (sxNumeral_is s b _ hs HM.out).mono ?_
        rintro e w1 ⟨rfl, hb1⟩
        go_wp2
        go_ret
        exact ⟨ret_bool (by simp [fitsF, HM.out]), HB.out.trans (hb1.mono HB.out.size)⟩
      · have e1 := eq_false (x := (n : Int)) (y := 0) (by omega)
        have HR : Hid (fitsF 1 s.data.toList n = false) := by show _ = _; simp [fitsF, hn]
        clear hn
        go_enter Tryd.func35, Tryd.ntmps35
        go_wp2
        go_ret
        exact ⟨ret_bool HR.out.symm, HB.out⟩
    · by_cases h2 : k = 2
      · subst h2
        by_cases hn : n = 0
        · subst hn
          obtain ⟨b, hb⟩ : ∃ b, keyB s.data.toList = b := ⟨_, rfl⟩
          have HM := Lib.hid hb
          clear hb
          go_enter Tryd.func35, Tryd.ntmps35
          go_wp2_with fail
          refine (isKeyword_is s b _ (HG.out.below HB.out) hs HM.out).mono ?_
          rintro e w1 ⟨rfl, hb1⟩
          go_wp2
          go_ret
          exact ⟨ret_bool (by simp [fitsF, HM.out]), HB.out.trans (hb1.mono HB.out.size)⟩
        · have e1 := eq_false (x := (n : Int)) (y := 0) (by omega)
          have HR : Hid (fitsF 2 s.data.toList n = false) := by show _ = _; simp [fitsF, hn]
          clear hn
          go_enter Tryd.func35, Tryd.ntmps35
          go_wp2
          go_ret
          exact ⟨ret_bool HR.out.symm, HB.out⟩
      · by_cases h3 : k = 3
        · subst h3
          by_cases hz : s.size = 0
          · have hn : s.toList = [] := bytes_nil.2 hz
            have hem : s.toList.isEmpty = true := by rw [hn]; rfl
            have HR : Hid (fitsF 3 s.data.toList n = true) := by show _ = _; rw [← ByteArray.toList_eq, hn]; simp [fitsF]
            clear hz
            go_enter Tryd.func35, Tryd.ntmps35
            go_wp2
            go_ret
            exact ⟨ret_bool HR.out.symm, HB.out⟩
          · have hne : ¬ s.toList = [] := fun h => hz (bytes_nil.1 h)
            have hem : s.toList.isEmpty = false := by simpa using hne
            have hem3 : (s.toList == []) = false := by simpa using hne
            have HR : Hid (fitsF 3 s.data.toList n = false) := by show _ = _; rw [← ByteArray.toList_eq]; simp [fitsF, hem]
            clear hz
            go_enter Tryd.func35, Tryd.ntmps35
            go_wp2
            go_ret
            exact ⟨ret_bool HR.out.symm, HB.out⟩
        · have e0 := eq_false (x := k) (y := 0) h0
          have e1 := eq_false (x := k) (y := 1) h1
          have e2 := eq_false (x := k) (y := 2) h2
          have e3 := eq_false (x := k) (y := 3) h3
          have HR : Hid (fitsF k s.data.toList n = false) := by show _ = _; simp [fitsF, h0, h1, h2, h3]
          clear h0 h1 h2 h3
          go_enter Tryd.func35, Tryd.ntmps35
          go_wp2
          go_ret
          exact ⟨ret_bool HR.out.symm, HB.out⟩
theorem fits_is (k : Int) (s : ByteArray) (a : Option Addr) (n c : Nat) (b : Bool) (w : World) (hG : Globs w) (hs : s.size ≤ 9223372036854775807) (h : fitsF k s.data.toList n = b) :
    Calls Tryd.prog 35 #[.agg #[.int .i8 k, .string s, .slice a n c]] w fun e w' => e = .returned (.bool b) ∧ Below w.heap.size w w' := by subst h; exact fits_any k s a n c w hG hs
end Go.Proofs.YthbgigjjmojgfaaDoor
