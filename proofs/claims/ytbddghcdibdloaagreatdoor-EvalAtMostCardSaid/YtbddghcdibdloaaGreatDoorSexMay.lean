/- Which expressions may be: the function May of package sexpr. -/
import Derived.Test.YtbddghcdibdloaaGreatDoorSexRd
import Derived.Test.YtbddghcdibdloaaGreatDoorLexName
import Derived.Test.YtbddghcdibdloaaGreatDoorNumParseB
import Derived.BigQuiet
import Derived.Test.YtbddghcdibdloaaGreatDoorSexWith
namespace Go.Proofs.YtbddghcdibdloaaGreatDoor
open Go.RowKit
def mayN (l : List UInt8) : Bool := decide (l.length ≤ 100) && l.all inBar
def keyB (l : List UInt8) : Bool := l.all isSign && (!l.isEmpty && decide (l.length ≤ 100))
def nmlB (l : List UInt8) : Bool := numB l && decide (l.length ≤ 100)
theorem all_is (a0 a1 a2 a3 : Int) (p : UInt8 → Bool) (hS : SetIs a0 a1 a2 a3 p) (s : ByteArray) (b : Bool) (w : World) (hs : s.size ≤ 9223372036854775807) (h : s.data.toList.all p = b) :
    Calls Tryz.prog 87 #[.agg #[.int .u64 a0, .int .u64 a1, .int .u64 a2, .int .u64 a3], .string s] w fun e w' => e = .returned (.bool b) ∧ Below w.heap.size w w' := by subst h; exact all_any a0 a1 a2 a3 p hS s w hs
theorem lexMay_any (s : ByteArray) (w : World) (hG : Globs w) (hs : s.size ≤ 9223372036854775807) :
    Calls Tryz.prog 79 #[.string s] w fun e w' => e = .returned (.bool (mayN s.data.toList)) ∧ Below w.heap.size w w' := by
  have HL : Hid (s.data.toList.length = s.size) := by show _ = _; simp
  obtain ⟨g0, c0, c1, c2, c3⟩ := hG.bars
  by_cases hb : s.size ≤ 100
  · obtain ⟨b, hall⟩ : ∃ b, s.data.toList.all inBar = b := ⟨_, rfl⟩
    have HR : Hid (b = mayN s.data.toList) := by show _ = _; unfold mayN; rw [HL.out, decide_eq_true hb, hall]; rfl
    have HA := Lib.hid hall
    have hd : decide ((s.size : Int) ≤ 100) = true := by simp; omega
    clear hall
    go_enter Tryz.func79, Tryz.ntmps79
    go_wp2_with fail
    refine (all_is _ _ _ _ inBar inBarsIs s b _ hs HA.out).mono ?_
    rintro e w1 ⟨rfl, hb1⟩
    go_wp2
    go_ret
    exact ⟨ret_bool HR.out, hb1⟩
  · have HR : Hid (mayN s.data.toList = false) := by show _ = _; unfold mayN; rw [HL.out, decide_eq_false hb]; rfl
    have hd : decide ((s.size : Int) ≤ 100) = false := by simp; omega
    go_enter Tryz.func79, Tryz.ntmps79
    go_wp2
    go_ret
    exact ⟨ret_bool HR.out.symm, Below.refl _ _⟩
theorem Sign_any (c : UInt8) (w : World) (hG : Globs w) :
    Calls Tryz.prog 97 #[.int .u8 c.toNat] w fun e w' => e = .returned (.bool (isSign c)) ∧ Below w.heap.size w w' := by
  obtain ⟨g0, c0, c1, c2, c3⟩ := hG.signs
  go_enter Tryz.func97, Tryz.ntmps97
  go_wp2_with fail
  refine (has_any _ _ _ _ isSign signsIs c _).mono ?_
  rintro e w1 ⟨rfl, hb1⟩
  go_wp2
  go_ret
  exact ⟨rfl, hb1⟩
theorem Sign_is (c : UInt8) (b : Bool) (w : World) (hG : Globs w) (h : isSign c = b) :
    Calls Tryz.prog 97 #[.int .u8 c.toNat] w fun e w' => e = .returned (.bool b) ∧ Below w.heap.size w w' := by subst h; exact Sign_any c w hG
theorem isKeyword_any (s : ByteArray) (w : World) (hG : Globs w) (hs : s.size ≤ 9223372036854775807) :
    Calls Tryz.prog 93 #[.string s] w fun e w' => e = .returned (.bool (keyB s.data.toList)) ∧ Below w.heap.size w w' := by
  have HL : Hid (s.data.toList.length = s.size) := by show _ = _; simp
  have HG := Lib.hid hG
  clear hG
  go_enter Tryz.func93, Tryz.ntmps93
  go_wp2
  go_loopw [6] (fun i wr => ∃ k : Nat, k ≤ s.size ∧ i = .int .i64 k ∧ Hid (s.data.toList.all isSign = (s.data.toList.drop k).all isSign) ∧ Below w.heap.size w wr) (fun i _ => s.size - (intOf i).toNat)
  case atStart => exact ⟨0, Nat.zero_le _, rfl, rfl, Below.refl _ _⟩
  case round =>
    obtain ⟨k, hk, rfl, HA, hbel⟩ := hrel
    have HG1 := Lib.hid (HG.out.below hbel)
    by_cases hlt : k < s.size
    · cases hc : isSign s[k] with
      | true =>
        have HC := Lib.hid hc
        clear hc
        go_wp2_with fail
        refine (Sign_is s[k] true _ HG1.out HC.out).mono ?_
        rintro e w' ⟨rfl, hb1⟩
        go_wp2
        go_roundw
        case rel => exact ⟨k + 1, by omega, by go_num, by show _ = _; rw [HA.out, drop_cons s k hlt, List.all_cons, HC.out]; rfl, hbel.trans (hb1.mono hbel.size)⟩
        case measure => simp [intOf]; omega
      | false =>
        have HC := Lib.hid hc
        clear hc
        go_wp2_with fail
        refine (Sign_is s[k] false _ HG1.out HC.out).mono ?_
        rintro e w' ⟨rfl, hb1⟩
        go_wp2
        go_ret
        exact ⟨ret_bool (by unfold keyB; rw [HA.out, drop_cons s k hlt, List.all_cons, HC.out]; rfl), hbel.trans (hb1.mono hbel.size)⟩
    · have HT : Hid (s.data.toList.all isSign = true) := by show _ = _; rw [HA.out, drop_nil s k (by omega)]; rfl
      by_cases h0 : s.size = 0
      · have hn : s.toList = [] := bytes_nil.2 h0
        have hem : s.toList.isEmpty = true := by rw [hn]; rfl
        have HR : Hid (keyB s.data.toList = false) := by show _ = _; unfold keyB; rw [← ByteArray.toList_eq, hn]; rfl
        clear h0
        go_wp2
        go_ret
        exact ⟨ret_bool HR.out.symm, hbel⟩
      · have hne : ¬ s.toList = [] := fun h => h0 (bytes_nil.1 h)
        have hem : s.toList.isEmpty = false := by simpa using hne
        have hem3 : (s.toList != []) = true := by simpa using hne
        have HR : Hid (keyB s.data.toList = decide (s.size ≤ 100)) := by show _ = _; unfold keyB; rw [HT.out, HL.out, ← ByteArray.toList_eq, hem]; rfl
        go_wp2
        go_ret
        exact ⟨ret_bool (by rw [HR.out]; simp; omega), hbel⟩
theorem Parse_is (s : ByteArray) (v e0 : Int) (w : World) (hs : s.size ≤ 9223372036854775807) (hv : parseV s.data.toList = v) (he : parseE s.data.toList = e0) :
    Calls Tryz.prog 96 #[.string s] w fun e w' => e = .returned (.tuple #[.int .i64 v, .int .i64 e0]) ∧ Below w.heap.size w w' := by subst hv; subst he; exact Parse_any s w hs
theorem sxNumeral_any (s : ByteArray) (w : World) (hs : s.size ≤ 9223372036854775807) :
    Calls Tryz.prog 92 #[.string s] w fun e w' => e = .returned (.bool (nmlB s.data.toList)) ∧ Below w.heap.size w w' := by
  have HL : Hid (s.data.toList.length = s.size) := by show _ = _; simp
  obtain ⟨v, hv⟩ : ∃ v, parseV s.data.toList = v := ⟨_, rfl⟩
  obtain ⟨e0, he⟩ : ∃ e0, parseE s.data.toList = e0 := ⟨_, rfl⟩
  have HV := Lib.hid hv
  have HE := Lib.hid he
  clear hv he
  by_cases h20 : e0 = 20
  · have e1 := ne_false (x := e0) (y := 20) h20
    have HR : Hid (nmlB s.data.toList = false) := by
      show _ = _
      have := HE.out
      rw [h20] at this
      unfold nmlB
      cases hn : numB s.data.toList with
      | false => rfl
      | true => unfold parseE at this; rw [if_pos hn] at this; split at this <;> omega
    clear h20
    go_enter Tryz.func92, Tryz.ntmps92
    go_wp2_with fail
    refine (Parse_is s v e0 _ hs HV.out HE.out).mono ?_
    rintro e w1 ⟨rfl, hb1⟩
    go_wp2
    go_ret
    exact ⟨ret_bool HR.out.symm, hb1⟩
  · have e1 := ne_true (x := e0) (y := 20) h20
    have HR : Hid (nmlB s.data.toList = decide (s.size ≤ 100)) := by
      show _ = _
      have := HE.out
      unfold nmlB
      rw [HL.out]
      cases hn : numB s.data.toList with
      | false => unfold parseE at this; rw [if_neg (by rw [hn]; exact Bool.false_ne_true)] at this; omega
      | true => rfl
    clear h20
    go_enter Tryz.func92, Tryz.ntmps92
    go_wp2_with fail
    refine (Parse_is s v e0 _ hs HV.out HE.out).mono ?_
    rintro e w1 ⟨rfl, hb1⟩
    go_wp2
    go_ret
    exact ⟨ret_bool (by rw [HR.out]; simp; omega), hb1⟩
theorem sxNumeral_is (s : ByteArray) (b : Bool) (w : World) (hs : s.size ≤ 9223372036854775807) (h : nmlB s.data.toList = b) :
    Calls Tryz.prog 92 #[.string s] w fun e w' => e = .returned (.bool b) ∧ Below w.heap.size w w' := by subst h; exact sxNumeral_any s w hs
theorem isKeyword_is (s : ByteArray) (b : Bool) (w : World) (hG : Globs w) (hs : s.size ≤ 9223372036854775807) (h : keyB s.data.toList = b) :
    Calls Tryz.prog 93 #[.string s] w fun e w' => e = .returned (.bool b) ∧ Below w.heap.size w w' := by subst h; exact isKeyword_any s w hG hs
theorem lexMay_is (s : ByteArray) (b : Bool) (w : World) (hG : Globs w) (hs : s.size ≤ 9223372036854775807) (h : mayN s.data.toList = b) :
    Calls Tryz.prog 79 #[.string s] w fun e w' => e = .returned (.bool b) ∧ Below w.heap.size w w' := by subst h; exact lexMay_any s w hG hs
/-- Whether the fields may be, by the fields themselves. -/
def fitsF (k : Int) (l : List UInt8) (n : Nat) : Bool :=
  if k = 0 then decide (n = 0) && mayN l else if k = 1 then decide (n = 0) && nmlB l else if k = 2 then decide (n = 0) && keyB l else if k = 3 then l.isEmpty else false
theorem fits_any (k : Int) (s : ByteArray) (a : Option Addr) (n c : Nat) (w : World) (hG : Globs w) (hs : s.size ≤ 9223372036854775807) :
    Calls Tryz.prog 86 #[.agg #[.int .i8 k, .string s, .slice a n c]] w fun e w' => e = .returned (.bool (fitsF k s.data.toList n)) ∧ Below w.heap.size w w' := by
  have hb0 : Below w.heap.size w (w.alloc (.cells #[.int .i8 k, .string s, .slice a n c] 125)) := (Below.refl _ _).alloc (Nat.le_refl _) _
  have HB := Lib.hid hb0
  have HG := Lib.hid hG
  clear hb0 hG
  by_cases h0 : k = 0
  · subst h0
    by_cases hn : n = 0
    · subst hn
      obtain ⟨b, hb⟩ : ∃ b, mayN s.data.toList = b := ⟨_, rfl⟩
      have HM := Lib.hid hb
      clear hb
      go_enter Tryz.func86, Tryz.ntmps86
      go_wp2_with fail
      refine (lexMay_is s b _ (HG.out.below HB.out) hs HM.out).mono ?_
      rintro e w1 ⟨rfl, hb1⟩
      go_wp2
      go_ret
      exact ⟨ret_bool (by simp [fitsF, HM.out]), HB.out.trans (hb1.mono HB.out.size)⟩
    · have e1 := eq_false (x := (n : Int)) (y := 0) (by omega)
      have HR : Hid (fitsF 0 s.data.toList n = false) := by show _ = _; simp [fitsF, hn]
      clear hn
      go_enter Tryz.func86, Tryz.ntmps86
      go_wp2
      go_ret
      exact ⟨ret_bool HR.out.symm, HB.out⟩
  · by_cases h1 : k = 1
    · subst h1
      by_cases hn : n = 0
      · subst hn
        obtain ⟨b, hb⟩ : ∃ b, nmlB s.data.toList = b := ⟨_, rfl⟩
        have HM := Lib.hid hb
        clear hb
        go_enter Tryz.func86, Tryz.ntmps86
        go_wp2_with fail
        refine (sxNumeral_is s b _ hs HM.out).mono ?_
        rintro e w1 ⟨rfl, hb1⟩
        go_wp2
        go_ret
        exact ⟨ret_bool (by simp [fitsF, HM.out]), HB.out.trans (hb1.mono HB.out.size)⟩
      · have e1 := eq_false (x := (n : Int)) (y := 0) (by omega)
        have HR : Hid (fitsF 1 s.data.toList n = false) := by show _ = _; simp [fitsF, hn]
        clear hn
        go_enter Tryz.func86, Tryz.ntmps86
        go_wp2
        go_ret
        exact ⟨ret_bool HR.out.symm, HB.out⟩
    · by_cases h2 : k = 2
      · subst h2
        by_cases hn : n = 0
        · subst hn
          obtain ⟨b, hb⟩ : ∃ b, keyB s.data.toList = b := ⟨_, rfl⟩
          have HM := Lib.hid hb
          clear hb
          go_enter Tryz.func86, Tryz.ntmps86
          go_wp2_with fail
          refine (isKeyword_is s b _ (HG.out.below HB.out) hs HM.out).mono ?_
          rintro e w1 ⟨rfl, hb1⟩
          go_wp2
          go_ret
          exact ⟨ret_bool (by simp [fitsF, HM.out]), HB.out.trans (hb1.mono HB.out.size)⟩
        · have e1 := eq_false (x := (n : Int)) (y := 0) (by omega)
          have HR : Hid (fitsF 2 s.data.toList n = false) := by show _ = _; simp [fitsF, hn]
          clear hn
          go_enter Tryz.func86, Tryz.ntmps86
          go_wp2
          go_ret
          exact ⟨ret_bool HR.out.symm, HB.out⟩
      · by_cases h3 : k = 3
        · subst h3
          by_cases hz : s.size = 0
          · have hn : s.toList = [] := bytes_nil.2 hz
            have hem : s.toList.isEmpty = true := by rw [hn]; rfl
            have HR : Hid (fitsF 3 s.data.toList n = true) := by show _ = _; rw [← ByteArray.toList_eq, hn]; simp [fitsF]
            clear hz
            go_enter Tryz.func86, Tryz.ntmps86
            go_wp2
            go_ret
            exact ⟨ret_bool HR.out.symm, HB.out⟩
          · have hne : ¬ s.toList = [] := fun h => hz (bytes_nil.1 h)
            have hem : s.toList.isEmpty = false := by simpa using hne
            have hem3 : (s.toList == []) = false := by simpa using hne
            have HR : Hid (fitsF 3 s.data.toList n = false) := by show _ = _; rw [← ByteArray.toList_eq]; simp [fitsF, hem]
            clear hz
            go_enter Tryz.func86, Tryz.ntmps86
            go_wp2
            go_ret
            exact ⟨ret_bool HR.out.symm, HB.out⟩
        · have e0 := eq_false (x := k) (y := 0) h0
          have e1 := eq_false (x := k) (y := 1) h1
          have e2 := eq_false (x := k) (y := 2) h2
          have e3 := eq_false (x := k) (y := 3) h3
          have HR : Hid (fitsF k s.data.toList n = false) := by show _ = _; simp [fitsF, h0, h1, h2, h3]
          clear h0 h1 h2 h3
          go_enter Tryz.func86, Tryz.ntmps86
          go_wp2
          go_ret
          exact ⟨ret_bool HR.out.symm, HB.out⟩
theorem fits_is (k : Int) (s : ByteArray) (a : Option Addr) (n c : Nat) (b : Bool) (w : World) (hG : Globs w) (hs : s.size ≤ 9223372036854775807) (h : fitsF k s.data.toList n = b) :
    Calls Tryz.prog 86 #[.agg #[.int .i8 k, .string s, .slice a n c]] w fun e w' => e = .returned (.bool b) ∧ Below w.heap.size w w' := by subst h; exact fits_any k s a n c w hG hs
end Go.Proofs.YtbddghcdibdloaaGreatDoor
namespace Go.Proofs.YtbddghcdibdloaaGreatDoor
open Go.RowKit Go.Shelf
attribute [local go_sem] Oper.semAt_some
def lis (k : Int) : Bool := decide (k = 3)
/-- Whether an expression may be where d rows are around it, but for what is within it. -/
def okP (x : Nat × Tree) : Bool := fitsF x.2.kind x.2.text x.2.kids.length && !(decide (x.2.kind = 3) && decide (60 ≤ x.1))
def mayT (t : Tree) : Bool := (preT lis 0 t).all okP
theorem listed_any (k : Int) (s : ByteArray) (a : Option Addr) (n c : Nat) (W : World) :
    Calls Tryz.prog 85 #[.agg #[.int .i8 k, .string s, .slice a n c]] W fun e w' => e = .returned (if lis k = true then .slice a n c else .slice none 0 0) ∧ Below W.heap.size W w' := by
  by_cases h : k = 3
  · subst h; exact listed_yes s a n c W
  · have : lis k = false := by simp [lis, h]
    rw [this]
    exact listed_no k s a n c W h
theorem within_any (v : Value) (fo : FuncId) (k : Int) (s : ByteArray) (a : Option Addr) (n c : Nat) (w : World) (hv : v = .agg #[.int .i8 k, .string s, .slice a n c]) :
    Calls Tryz.prog 84 #[v, .func (.func fo) #[] #[]] w fun e w' => e = .returned (.func (.func 90) #[] #[.pointer (some ⟨w.heap.size, 0, none⟩), .pointer (some ⟨w.heap.size + 1, 0, none⟩)]) ∧
      (w.alloc (.cells #[.int .i8 k, .string s, .slice a n c] 125)).alloc (.cells #[.func (.func fo) #[] #[]] 151) = w' := by
  subst hv
  go_enter Tryz.func84, Tryz.ntmps84
  go_wp2
  go_ret
  exact ⟨rfl, rfl⟩
theorem ownL_lis {t : Tree} (h : ownL lis t ≠ []) : t.kind = 3 := by
  cases t with
  | node k s l =>
    show k = 3
    refine Classical.byContradiction fun hn => h ?_
    have : lis k = false := by simp [lis, hn]
    simp only [ownL]
    rw [if_neg (by rw [this]; exact Bool.false_ne_true)]
theorem grown_of_below {A B : World} (h : Below A.heap.size A B) (row : Option Nat) : A.grownBy B row := ⟨h.os, h.tape, h.output, h.size, fun i hi _ => h.block i hi⟩
theorem may_step {W W1 : World} {b : Nat} {t : TypeId} {u : Value} {w : World} {n : Nat} (h1 : Boxed W b t u) (h2 : Below n w W) (hb : Below W.heap.size W W1) (hn : n ≤ W.heap.size) : Boxed W1 b t u ∧ KeepsOthers W W1 ∧ Below n w W1 :=
  ⟨h1.kept (grown_of_below hb none) (by simp), KeepsOthers.of_grownBy (grown_of_below hb none) (fun j o e => by cases e), h2.trans (hb.mono hn)⟩
/-- Between two rounds. -/
def MayI (w : World) (_ : Nat → Prop) (ys : List Itm) (A : World) : Prop :=
  (∀ x ∈ ys, okP (dt x) = true) ∧ Boxed A (w.heap.size + 1) 4 (.bool false) ∧ Below w.heap.size w A
/-- Where a round has left by a return. -/
def MayX (w : World) (_ : Nat → Prop) (c : Code) (ys : List Itm) (A : World) : Prop :=
  c = .ret ∧ (∃ x ∈ ys, okP (dt x) = false) ∧ Boxed A (w.heap.size + 1) 4 (.bool false) ∧ Below w.heap.size w A
theorem boxed_turn {A B : World} {R R' : Nat → Prop} {b D : Nat} {t : TypeId} {v : Value} (h : Boxed A b t v) (hR : ∀ b, R b → D ≤ b) (hb : b < D) (hT : Turn R R' A B) : Boxed B b t v :=
  (hT.block b h.lt (fun hr => by have := hR b hr; omega)).trans h
theorem below_turn {w A B : World} {R R' : Nat → Prop} {n D : Nat} (h : Below n w A) (hR : ∀ b, R b → D ≤ b) (hn : n ≤ D) (hA : n ≤ A.heap.size) (hT : Turn R R' A B) : Below n w B :=
  h.trans ⟨hT.os, hT.tape, hT.output, hT.size, fun k hk => hT.block k (by omega) (fun hr => by have := hR k hr; omega)⟩
theorem boxed_put {A : World} {b D l : Nat} {t : TypeId} {v : Value} {o o' : Obj} (h : Boxed A b t v) (_ : D ≤ l) (hl : A.heap[l]? = some o) (ho : o.isCells = false) : Boxed (A.putObj l o') b t v :=
  (World.putObj_heap_other (fun e => by subst e; rw [show A.heap[b]? = _ from h] at hl; cases hl; cases ho)).trans h
theorem below_put {w A : World} {n D l : Nat} {o o' : Obj} (h : Below n w A) (hD : D ≤ l) (hn : n ≤ D) (_ : A.heap[l]? = some o) : Below n w (A.putObj l o') :=
  h.trans ⟨rfl, rfl, rfl, by simp, fun k hk => World.putObj_heap_other (by omega)⟩
/-- Behind the assignment to the loop's variables. -/
def MayA (w : World) (fv : Value) (xv : Value) (x : Itm) (a : Act) (W : World) : Prop :=
  ∃ Bx ya yc, W.heap[Bx]? = some (.cells #[.int .i8 x.2.1.kind, .string (bytesL x.2.1.text), .slice ya x.2.1.kids.length yc] 125 (0, 0)) ∧ x.2.2 = .agg #[.int .i8 x.2.1.kind, .string (bytesL x.2.1.text), .slice ya x.2.1.kids.length yc] ∧
    a = { tmps := #[xv, .pointer (some ⟨w.heap.size, 0, none⟩), .pointer (some ⟨w.heap.size + 1, 0, none⟩), .int .i64 x.1, .pointer (some ⟨Bx, 0, none⟩), xv, fv, .int .i64 x.1, x.2.2,
    undef, undef, undef, undef, undef, undef, undef, undef, undef, undef, undef, undef], defers := [] }
set_option maxRecDepth 100000 in
set_option maxHeartbeats 4000000 in
theorem May_in (t : Tree) (v : Value) (w : World) (hG : Globs w) (bad : Nat → Prop) (hbd : ∀ b, ¬ bad b → b < w.heap.size) (hr : Rd w bad t v) (hcl : Clean w bad) :
    CallsIn Fence.wide 8 Tryz.prog 78 #[v] w fun e w' => e = .returned (.bool (mayT t)) ∧ Below w.heap.size w w' := by
  have HG := Lib.hid hG
  obtain ⟨a, cap, rfl, hl, hc, hs, hk⟩ := hr.parts
  have HK := Lib.hid hk
  have HC := Lib.hid hcl
  have HBD := Lib.hid hbd
  clear hG hr hk hcl hbd
  refine callsIn_of_wp_marks Tryz.func78 rfl trivial ?_ rfl
  simp only [Tryz.ntmps78, List.size_toArray, List.length_cons, List.length_nil, Nat.reduceAdd, Nat.reduceSub, Array.replicate_succ, Array.replicate_zero, List.push_toArray, List.append_toArray, List.nil_append, List.cons_append]
  have hd : 1 ≤ 8 := by omega
  gi_wp2_with (refine ⟨trivial, ?_⟩; gi_at_call 84; refine (callsIn_wide.2 (within_any _ 85 _ _ _ _ _ _ rfl)).mono ?_; rintro e w' ⟨rfl, rfl⟩)
  obtain ⟨w4, hw4⟩ : ∃ w4, ((((w.alloc (.cells #[.int .i8 t.kind, .string (bytesL t.text), .slice a t.kids.length cap] 125)).alloc (.cells #[.bool false] 4)).alloc (.cells #[.int .i8 t.kind, .string (bytesL t.text), .slice a t.kids.length cap] 125)).alloc (.cells #[.func (.func 85) #[] #[]] 151)) = w4 := ⟨_, rfl⟩
  have hb4 : Below w.heap.size w w4 := by
    rw [← hw4]; exact ((((Below.refl _ w).alloc (Nat.le_refl _) _).alloc (by simp) _).alloc (by simp; omega) _).alloc (by simp; omega) _
  have b1 : Boxed w4 (w.heap.size + 1) 4 (.bool false) := by
    have := (((Boxed.new (w.alloc (.cells #[.int .i8 t.kind, .string (bytesL t.text), .slice a t.kids.length cap] 125)) 4 (.bool false)).alloc (.cells #[.int .i8 t.kind, .string (bytesL t.text), .slice a t.kids.length cap] 125)).alloc (.cells #[.func (.func 85) #[] #[]] 151))
    simp only [World.size_alloc] at this
    rw [← hw4]; exact this
  have b2 : w4.heap[w.heap.size + 1 + 1]? = some (.cells #[.int .i8 t.kind, .string (bytesL t.text), .slice a t.kids.length cap] 125 (0, 0)) := by
    rw [← hw4]
    refine (Below.heap_alloc _ _ _ (by simp)).trans ?_
    have := World.alloc_heap_new ((w.alloc (.cells #[.int .i8 t.kind, .string (bytesL t.text), .slice a t.kids.length cap] 125)).alloc (.cells #[.bool false] 4)) (.cells #[.int .i8 t.kind, .string (bytesL t.text), .slice a t.kids.length cap] 125)
    simp only [World.size_alloc] at this
    exact this
  have b3 : w4.heap[w.heap.size + 1 + 1 + 1]? = some (.cells #[.func (.func 85) #[] #[]] 151 (0, 0)) := by
    rw [← hw4]
    have := World.alloc_heap_new (((w.alloc (.cells #[.int .i8 t.kind, .string (bytesL t.text), .slice a t.kids.length cap] 125)).alloc (.cells #[.bool false] 4)).alloc (.cells #[.int .i8 t.kind, .string (bytesL t.text), .slice a t.kids.length cap] 125)) (.cells #[.func (.func 85) #[] #[]] 151)
    simp only [World.size_alloc] at this
    exact this
  have hsz : w4.heap.size = w.heap.size + 1 + 1 + 1 + 1 := by rw [← hw4]; simp
  rw [hw4]
  clear hw4
  have HG4 := Lib.hid (HG.out.below hb4)
  have hnode : Tree.node t.kind t.text t.kids = t := by cases t; rfl
  refine wpIn_rangeFunc_R rfl hd (gf := 90) (lb := #[.pointer (some ⟨w.heap.size + 1 + 1, 0, none⟩), .pointer (some ⟨w.heap.size + 1 + 1 + 1, 0, none⟩)]) rfl trivial (enters_of Tryz.func90 (by kernel_rfl) rfl)
    (encs := encY) (S := SY lis t) (Sp := SpY lis t) (keep := fun b => ¬ bad b ∨ b = w.heap.size + 1 + 1 ∨ b = w.heap.size + 1 + 1 + 1) (go := fun x => okP (dt x) = true)
    (fun W hW => by
      have h1 := within1_in lis 85 (enters_of Tryz.func85 (by kernel_rfl) rfl) listed_any (8 - 1) (by omega) (w.heap.size + 1 + 1) (w.heap.size + 1 + 1 + 1) t.kind t.text t.kids a cap bad (fun x => okP (dt x) = true) W
        ⟨hl, hc, hs⟩ ((hW.block _ (by omega)).trans b2) ((hW.block _ (by omega)).trans b3)
        (RdL.keep (fun b hn hlt => (hW.block b (by have := HBD.out b hn; omega)).trans (hb4.block b (by have := HBD.out b hn; omega))) _ _ HK.out)
        (fun b hb => by have := hW.size; have := HBD.out b hb; omega)
        (fun b hb _ => by
          obtain ⟨cs, ty, h⟩ := HC.out b hb (HBD.out b hb)
          exact ⟨cs, ty, ((hW.block b (by have := HBD.out b hb; omega)).trans (hb4.block b (by have := HBD.out b hb; omega))).trans h⟩)
        (fun x hx hgo hne => by
          have h3 : (dt x).2.kind = 3 := ownL_lis hne
          have h5 : okP (dt x) = true := hgo
          unfold okP at h5
          rw [h3] at h5
          simp at h5
          have := h5.2
          show (dt x).1 < 239
          omega)
      rw [hnode] at h1
      exact h1)
    (fun b hb => by
      rcases hb with hb | hb
      · have := HBD.out b hb; omega
      · omega) (fun _ => rfl)
    (MayI w) (MayX w)
    (fun R R' pre A B hR hI hT => ⟨hI.1, boxed_turn hI.2.1 (fun b hb => (hR b hb).1) (by omega) hT, below_turn hI.2.2 (fun b hb => (hR b hb).1) (by omega) hI.2.2.size hT⟩)
    (fun R pre A l o o' hI hD hl' ho => ⟨hI.1, boxed_put hI.2.1 hD hl' ho, below_put hI.2.2 hD (by omega) hl'⟩)
    (fun R R' c pre A B hR hI hT => ⟨hI.1, hI.2.1, boxed_turn hI.2.2.1 hR (by omega) hT, below_turn hI.2.2.2 hR (by omega) hI.2.2.2.size hT⟩)
    (fun R c pre A l o o' hI hD hl' ho => ⟨hI.1, hI.2.1, boxed_put hI.2.2.1 hD hl' ho, below_put hI.2.2.2 hD (by omega) hl'⟩)
    ?_ (fun _ x q W => MayA w (.func (.func 90) #[] #[.pointer (some ⟨w.heap.size + 1 + 1, 0, none⟩), .pointer (some ⟨w.heap.size + 1 + 1 + 1, 0, none⟩)]) (.agg #[.int .i8 t.kind, .string (bytesL t.text), .slice a t.kids.length cap]) x q W) ?_ ?assign ?body ?done ?stop
  · intro B hB
    exact ⟨by simp, (hB.block _ b1.lt).trans b1, hb4.trans (hB.mono hb4.size)⟩
  · rintro R x a' A l o o' ⟨Bx, ya, yc, hBx, hv, ha⟩ hD hl' ho
    exact ⟨Bx, ya, yc, (World.putObj_heap_other (fun e => by subst e; rw [hBx] at hl'; cases hl'; cases ho)).trans hBx, hv, ha⟩
  case assign =>
    rintro l R pre ⟨d, y, vy⟩ W K hR hWs hSp hI hK
    obtain ⟨ya, yc, hv, _⟩ := hSp.2 _ (List.mem_append_right _ (List.mem_singleton.2 rfl))
    simp only at hv
    subst hv
    simp only [encY]
    have HI := Lib.hid hI
    have HSp := Lib.hid hSp
    clear hI hSp
    gi_wp2
    have hgr : W.grownBy (W.alloc (.cells #[.int .i8 y.kind, .string (bytesL y.text), .slice ya y.kids.length yc] 125)) (some W.heap.size) := World.grownBy_alloc W _ _
    refine hK _ _ ((KeepsOthers.alloc _ _).from _) ⟨by simp, fun b hb => Below.heap_alloc _ _ _ ?_⟩ ?_ ⟨W.heap.size, ya, yc, heap_alloc_new W _, rfl, rfl⟩
    · rcases hb with hb | hb
      · exact (hR b hb).2
      · rcases hb with hb | hb <;> first | omega | (have := HBD.out b hb; omega)
    · obtain ⟨hz, h1, h2⟩ := HI.out
      exact ⟨hz, h1.alloc _, h2.alloc h2.size _⟩
  case body =>
    rintro l R pre ⟨d, y, vy⟩ a' W hR hWs hSp ⟨hz, h1, h2⟩ ⟨Bx, ya, yc, hBx, hv, rfl⟩
    simp only at hv hBx
    subst hv
    have c0 := cell_of_row _ _ 0 _ _ _ hBx
    have c1 := cell_of_row _ _ 1 _ _ _ hBx
    have c2 := cell_of_row _ _ 2 _ _ _ hBx
    simp only [List.getElem?_toArray, List.getElem?_cons_zero, List.getElem?_cons_succ] at c0 c1 c2
    have hyt : y.text.length ≤ maxLen := by
      obtain ⟨_, _, _, _, _, h⟩ := hSp.2 _ (List.mem_append_right _ (List.mem_singleton.2 rfl))
      exact h
    have hBl := (Array.getElem?_eq_some_iff.1 hBx).1
    have HSp := Lib.hid hSp
    have HZ := Lib.hid hz
    have H1 := Lib.hid h1
    have H2 := Lib.hid h2
    have HBx := Lib.hid hBx
    have HGW := Lib.hid (HG.out.below h2)
    have hsT : (bytesL y.text).size ≤ 9223372036854775807 := by rw [bytesL_size]; simp only [maxLen] at hyt; omega
    clear hSp hz h1 h2 hBx
    obtain ⟨b, hb⟩ : ∃ b, fitsF y.kind (bytesL y.text).data.toList y.kids.length = b := ⟨_, rfl⟩
    have HF := Lib.hid hb
    have HFt : Hid (fitsF y.kind y.text y.kids.length = b) := by show _ = _; have := HF.out; rwa [bytesL_list] at this
    clear hb
    cases b with
    | false =>
      gi_wp2_with fail
      refine ⟨trivial, (callsIn_wide.2 (fits_is y.kind (bytesL y.text) ya y.kids.length yc false _ HGW.out hsT HF.out)).mono ?_⟩
      rintro e W1 ⟨rfl, hb1⟩
      obtain ⟨hr0, hkp, hbw⟩ := may_step H1.out H2.out hb1 (by omega)
      have hr1 := hr0.cell
      have hr2 := hr0.frozen
      gi_wp2
      exact ⟨(hkp.trans (KeepsOthers.setCell _ _ _)).from _, rfl, ⟨_, List.mem_append_right _ (List.mem_singleton.2 rfl), by show okP (d, y) = false; unfold okP; rw [HFt.out]; rfl⟩, hr0.set _, hbw.setCell (p := ⟨w.heap.size + 1, 0, none⟩) (by simp) _⟩
    | true =>
      by_cases h3 : y.kind = 3
      · have e3 := eq_true_ (x := y.kind) (y := 3) h3
        by_cases h60 : 60 ≤ d
        · have HO : Hid (okP (d, y) = false) := by show _ = _; unfold okP; rw [HFt.out]; simp [h3, h60]
          have hd60 : decide ((d : Int) ≥ 60) = true := by simp; omega
          clear h3
          gi_wp2_with fail
          refine ⟨trivial, (callsIn_wide.2 (fits_is y.kind (bytesL y.text) ya y.kids.length yc true _ HGW.out hsT HF.out)).mono ?_⟩
          rintro e W1 ⟨rfl, hb1⟩
          obtain ⟨hr0, hkp, hbw⟩ := may_step H1.out H2.out hb1 (by omega)
          have hr1 := hr0.cell
          have hr2 := hr0.frozen
          have k0 := (hb1.cell (p := ⟨Bx, 0, none⟩) hBl).trans c0
          gi_wp2
          exact ⟨(hkp.trans (KeepsOthers.setCell _ _ _)).from _, rfl, ⟨_, List.mem_append_right _ (List.mem_singleton.2 rfl), HO.out⟩, hr0.set _, hbw.setCell (p := ⟨w.heap.size + 1, 0, none⟩) (by simp) _⟩
        · have HO : Hid (okP (d, y) = true) := by show _ = _; unfold okP; rw [HFt.out]; simp [h3]; omega
          have hd60 : decide ((d : Int) ≥ 60) = false := by simp; omega
          clear h3
          gi_wp2_with fail
          refine ⟨trivial, (callsIn_wide.2 (fits_is y.kind (bytesL y.text) ya y.kids.length yc true _ HGW.out hsT HF.out)).mono ?_⟩
          rintro e W1 ⟨rfl, hb1⟩
          obtain ⟨hr0, hkp, hbw⟩ := may_step H1.out H2.out hb1 (by omega)
          have k0 := (hb1.cell (p := ⟨Bx, 0, none⟩) hBl).trans c0
          gi_wp2
          refine ⟨hkp.from _, KeepsR.below hb1 (fun b hb => ?_), HO.out, fun x hx => ?_, hr0, hbw⟩
          · rcases hb with hb | hb
            · exact (hR b hb).2
            · rcases hb with hb | hb <;> first | omega | (have := HBD.out b hb; omega)
          · rcases List.mem_append.1 hx with hx | hx
            · exact HZ.out x hx
            · simp at hx; subst hx; exact HO.out
      · have e3 := eq_false (x := y.kind) (y := 3) h3
        have HO : Hid (okP (d, y) = true) := by show _ = _; unfold okP; rw [HFt.out]; simp [h3]
        clear h3
        gi_wp2_with fail
        refine ⟨trivial, (callsIn_wide.2 (fits_is y.kind (bytesL y.text) ya y.kids.length yc true _ HGW.out hsT HF.out)).mono ?_⟩
        rintro e W1 ⟨rfl, hb1⟩
        obtain ⟨hr0, hkp, hbw⟩ := may_step H1.out H2.out hb1 (by omega)
        have k0 := (hb1.cell (p := ⟨Bx, 0, none⟩) hBl).trans c0
        gi_wp2
        refine ⟨hkp.from _, KeepsR.below hb1 (fun b hb => ?_), HO.out, fun x hx => ?_, hr0, hbw⟩
        · rcases hb with hb | hb
          · exact (hR b hb).2
          · rcases hb with hb | hb <;> first | omega | (have := HBD.out b hb; omega)
        · rcases List.mem_append.1 hx with hx | hx
          · exact HZ.out x hx
          · simp at hx; subst hx; exact HO.out
  case done =>
    rintro D R ys W hD hR hS ⟨hz, h1, h2⟩ hKD
    have hall : mayT t = true := by
      unfold mayT
      rw [← hS.1, List.all_eq_true]
      intro x hx
      obtain ⟨x', hx', rfl⟩ := List.mem_map.1 hx
      exact hz x' hx'
    have HA := Lib.hid hall
    have k0 := h1.cell
    have f0 := h1.frozen
    have HKD := Lib.hid hKD
    have H1 := Lib.hid h1
    have H2 := Lib.hid h2
    clear hS hz hall h1 h2 hKD
    gi_wp2
    have hK2 : (W.setCell ⟨w.heap.size + 1, 0, none⟩ (.bool true)).heap[D]? = some (.deferred (some [])) := (Below.heap_setCell _ _ _ _ (by show D ≠ w.heap.size + 1; omega)).trans HKD.out
    have hcell : ((W.setCell ⟨w.heap.size + 1, 0, none⟩ (.bool true)).putObj D (.deferred none)).cell? ⟨w.heap.size + 1, 0, none⟩ = some (.bool true) := (boxed_put (H1.out.set _) (Nat.le_refl D) hK2 rfl).cell
    refine ⟨by simp, .inl ⟨_, _, rfl, run_takeDeferred hK2, ?_⟩⟩
    refine ⟨.bool true, ?_, ret_bool HA.out.symm, below_put (H2.out.setCell (p := ⟨w.heap.size + 1, 0, none⟩) (by simp) _) hD (by omega) hK2⟩
    simp [results, Tryz.results78, go_sem, hcell]
  case stop =>
    rintro D R c pre x W hD hR hSp ⟨rfl, hz, h1, h2⟩ hKD
    have hall : mayT t = false := by
      unfold mayT
      rw [List.all_eq_false]
      obtain ⟨x', hx', hf⟩ := hz
      exact ⟨dt x', hSp.1.subset (List.mem_map.2 ⟨x', hx', rfl⟩), by rw [hf]; exact Bool.false_ne_true⟩
    have HA := Lib.hid hall
    have HKD := Lib.hid hKD
    have H1 := Lib.hid h1
    have H2 := Lib.hid h2
    clear hSp hz hall h1 h2 hKD
    gi_wp2
    have hcell : (W.putObj D (.deferred none)).cell? ⟨w.heap.size + 1, 0, none⟩ = some (.bool false) := (boxed_put H1.out (Nat.le_refl D) HKD.out rfl).cell
    refine ⟨by simp, .inl ⟨_, _, rfl, run_takeDeferred HKD.out, ?_⟩⟩
    refine ⟨.bool false, ?_, ret_bool HA.out.symm, below_put H2.out hD (by omega) HKD.out⟩
    simp [results, Tryz.results78, go_sem, hcell]
theorem May_any (t : Tree) (v : Value) (w : World) (hG : Globs w) (bad : Nat → Prop) (hbd : ∀ b, ¬ bad b → b < w.heap.size) (hr : Rd w bad t v) (hcl : Clean w bad) :
    Calls Tryz.prog 78 #[v] w fun e w' => e = .returned (.bool (mayT t)) ∧ Below w.heap.size w w' := callsIn_wide.1 (May_in t v w hG bad hbd hr hcl)
end Go.Proofs.YtbddghcdibdloaaGreatDoor
