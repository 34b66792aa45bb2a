/- The names that are there, as a set; the iterator over them. -/
import Derived.Test.YtbddghcdibdloaaGreatDoorSgC
import Derived.Maps.OwnSet
import Derived.Maps.OwnIn
import Derived.DeepKeys4
import Derived.RangeFuncNested
import Derived.RangeFuncLeaves
import Derived.Shelf.Abstract
import Derived.OwnWalkIn
import Derived.TacticsInMore
import Derived.LoopNIn
import Derived.LoopIn
import Derived.WalkKit
namespace Go.Proofs.YtbddghcdibdloaaGreatDoor
open Go.RowKit
set_option linter.unusedVariables false
def sortI (ss : List ByteArray) (s : ByteArray) : Int := if s = boolS then 0 else if s = intS then 1 else if fndB ss s = true then 2 + fndI ss s else 0
def sortB (ss : List ByteArray) (s : ByteArray) : Bool := decide (s = boolS) || (decide (s = intS) || fndB ss s)
theorem fndI_bd (ss : List ByteArray) (s : ByteArray) : 0 ≤ fndI ss s ∧ fndI ss s ≤ ss.length := by
  unfold fndI
  split
  · exact ⟨by omega, by omega⟩
  · exact ⟨by omega, by omega⟩
theorem bi_ne : ¬ boolS = intS := by
  intro h
  have := congrArg (fun x => x.size) h
  exact absurd this (by decide)
theorem always_at_0 (w : World) : (Instr.index 154 (.agg #[.string boolS, .string intS]) (.int .i64 0)).run Tryz.prog w = .ok (.string boolS) w := by kernel_rfl
theorem always_at_1 (w : World) : (Instr.index 154 (.agg #[.string boolS, .string intS]) (.int .i64 1)).run Tryz.prog w = .ok (.string intS) w := by kernel_rfl
set_option maxRecDepth 100000 in
theorem Sort_any (x : SigV) (s : ByteArray) (w : World) (hG : GS w) (hR : SigR w x) (hl : x.sorts.length ≤ 100) :
    Calls Tryz.prog 81 #[.agg #[.slice x.sa x.sorts.length x.sc, .slice x.fa x.funs.length x.fc, .slice x.ma x.macs.length x.mc], .string s] w fun e w' => e = .returned (.tuple #[.int .i64 (sortI x.sorts s), .bool (sortB x.sorts s)]) ∧ Below w.heap.size w w' := by
  have hidx := always_at_0
  have hidy := always_at_1
  have c0 := hG.c0
  have c1 := hG.c1
  have hlt := hG.lt
  have hb0 : Below w.heap.size w (w.alloc (.cells #[.slice x.sa x.sorts.length x.sc, .slice x.fa x.funs.length x.fc, .slice x.ma x.macs.length x.mc] 34)) := (Below.refl _ _).alloc (Nat.le_refl _) _
  have HB0 := Lib.hid hb0
  have HC : Hid (∀ W, Below w.heap.size w W → Calls Tryz.prog 88 #[.slice x.sa x.sorts.length x.sc, .string s, .func (.func 89) #[] #[]] W fun e w' => e = .returned (.tuple #[.int .i64 (fndI x.sorts s), .bool (fndB x.sorts s)]) ∧ W = w') := fun W h => find_str x.sorts s x.sa x.sc W ((hR.below h).sat) hR.sl hR.sm
  clear hG hR hb0
  by_cases h0 : s = boolS
  · have e0 : sortI x.sorts s = 0 := by simp only [sortI, if_pos h0]
    have e1 : sortB x.sorts s = true := by simp only [sortB, decide_eq_true h0, Bool.true_or]
    rw [e0, e1]
    have ht : (boolS.toList == s.toList) = true := by rw [h0]; exact tl_yes _
    have H0 := Lib.hid h0
    clear e0 e1 h0
    go_enter Tryz.func81, Tryz.ntmps81
    go_wp2
    go_loopw [11] (fun i wr => i = .int .i64 0 ∧ wr = w.alloc (.cells #[.slice x.sa x.sorts.length x.sc, .slice x.fa x.funs.length x.fc, .slice x.ma x.macs.length x.mc] 34)) (fun i _ => 0)
    case atStart => exact ⟨rfl, rfl⟩
    case round =>
      obtain ⟨rfl, rfl⟩ := hrel
      go_wp2
      go_ret2
      exact ⟨rfl, HB0.out⟩
  · have hn : (boolS.toList == s.toList) = false := tl_no (fun e => h0 e.symm)
    by_cases h1 : s = intS
    · have e0 : sortI x.sorts s = 1 := by simp only [sortI, if_neg h0, if_pos h1]
      have e1 : sortB x.sorts s = true := by simp only [sortB, decide_eq_true h1, Bool.true_or, Bool.or_true]
      rw [e0, e1]
      have ht : (intS.toList == s.toList) = true := by rw [h1]; exact tl_yes _
      have H1 := Lib.hid h1
      clear e0 e1 h0 h1
      go_enter Tryz.func81, Tryz.ntmps81
      go_wp2
      go_loopw [11] (fun i wr => (i = .int .i64 0 ∨ i = .int .i64 1) ∧ wr = w.alloc (.cells #[.slice x.sa x.sorts.length x.sc, .slice x.fa x.funs.length x.fc, .slice x.ma x.macs.length x.mc] 34)) (fun i _ => 1 - (intOf i).toNat)
      case atStart => exact ⟨.inl rfl, rfl⟩
      case round =>
        obtain ⟨rfl | rfl, rfl⟩ := hrel
        · go_wp2
          exact ⟨⟨.inr rfl, trivial⟩, by decide⟩
        · go_wp2
          go_ret2
          exact ⟨rfl, HB0.out⟩
    · have hn1 : (intS.toList == s.toList) = false := tl_no (fun e => h1 e.symm)
      have hbd := fndI_bd x.sorts s
      have hw : wrap64 (2 + fndI x.sorts s) = 2 + fndI x.sorts s := by unfold wrap64; omega
      cases hf : fndB x.sorts s with
      | true =>
        have e0 : sortI x.sorts s = 2 + fndI x.sorts s := by simp only [sortI, if_neg h0, if_neg h1, hf, if_true]
        have e1 : sortB x.sorts s = true := by simp only [sortB, hf, Bool.or_true]
        rw [e0, e1]
        rw [hf] at HC
        clear e0 e1 h0 h1 hf
        go_enter Tryz.func81, Tryz.ntmps81
        go_wp2
        go_loopw [11] (fun i wr => (i = .int .i64 0 ∨ i = .int .i64 1 ∨ i = .int .i64 2) ∧ wr = w.alloc (.cells #[.slice x.sa x.sorts.length x.sc, .slice x.fa x.funs.length x.fc, .slice x.ma x.macs.length x.mc] 34)) (fun i _ => 2 - (intOf i).toNat)
        case atStart => exact ⟨.inl rfl, rfl⟩
        case round =>
          obtain ⟨rfl | rfl | rfl, rfl⟩ := hrel
          · go_wp2
            exact ⟨⟨.inr (.inl rfl), trivial⟩, by decide⟩
          · go_wp2
            exact ⟨⟨.inr (.inr rfl), trivial⟩, by decide⟩
          · go_wp2_with (go_at_call 88; refine (HC.out _ HB0.out).mono ?_; rintro e w1 ⟨rfl, rfl⟩)
            go_ret2
            exact ⟨rfl, HB0.out⟩
      | false =>
        have e0 : sortI x.sorts s = 0 := by simp only [sortI, if_neg h0, if_neg h1, hf]; rfl
        have e1 : sortB x.sorts s = false := by simp only [sortB, hf, decide_eq_false h0, decide_eq_false h1]; rfl
        rw [e0, e1]
        rw [hf] at HC
        clear e0 e1 h0 h1 hf
        go_enter Tryz.func81, Tryz.ntmps81
        go_wp2
        go_loopw [11] (fun i wr => (i = .int .i64 0 ∨ i = .int .i64 1 ∨ i = .int .i64 2) ∧ wr = w.alloc (.cells #[.slice x.sa x.sorts.length x.sc, .slice x.fa x.funs.length x.fc, .slice x.ma x.macs.length x.mc] 34)) (fun i _ => 2 - (intOf i).toNat)
        case atStart => exact ⟨.inl rfl, rfl⟩
        case round =>
          obtain ⟨rfl | rfl | rfl, rfl⟩ := hrel
          · go_wp2
            exact ⟨⟨.inr (.inl rfl), trivial⟩, by decide⟩
          · go_wp2
            exact ⟨⟨.inr (.inr rfl), trivial⟩, by decide⟩
          · go_wp2_with (go_at_call 88; refine (HC.out _ HB0.out).mono ?_; rintro e w1 ⟨rfl, rfl⟩)
            go_ret2
            exact ⟨rfl, HB0.out⟩
def emptyV : SigV := ⟨[], none, 0, [], none, 0, [], none, 0⟩
theorem empty_R (w : World) : SigR w emptyV :=
  ⟨Nat.le_refl _, Nat.zero_le _, fun h => absurd h (by simp [emptyV]), fun _ h => by simp [emptyV] at h, Nat.le_refl _, Nat.zero_le _, fun h => absurd h (by simp [emptyV]), fun _ h => by simp [emptyV] at h, Nat.le_refl _, Nat.zero_le _, fun h => absurd h (by simp [emptyV]), fun _ h => by simp [emptyV] at h⟩
theorem empty_K (w : World) : SigK w emptyV := fun _ h => by simp [emptyV] at h
/-- Whether a name with its kind is there always. -/
def coreK (s : ByteArray) (b : Bool) : Bool := if b = true then sortB [] s else coreB s.data.toList
theorem core_any (s : ByteArray) (b r : Bool) (w : World) (hG : GS w) (h : coreK s b = r) :
    Calls Tryz.prog 74 #[.agg #[.string s, .bool b]] w fun e w' => e = .returned (.bool r) ∧ Below w.heap.size w w' := by
  have hb0 : Below w.heap.size w (w.alloc (.cells #[.string s, .bool b] 118)) := (Below.refl _ _).alloc (Nat.le_refl _) _
  have HB0 := Lib.hid hb0
  have HG := Lib.hid (hG.below hb0)
  clear hG hb0
  cases b with
  | true =>
    have h : sortB [] s = r := h
    have HC : Hid (∀ W, GS W → Calls Tryz.prog 81 #[.agg #[.slice none 0 0, .slice none 0 0, .slice none 0 0], .string s] W fun e w' => e = .returned (.tuple #[.int .i64 (sortI [] s), .bool r]) ∧ Below W.heap.size W w') := fun W h1 => by rw [← h]; exact Sort_any emptyV s W h1 (empty_R W) (by simp [emptyV])
    clear h
    go_enter Tryz.func74, Tryz.ntmps74
    go_wp2_with (go_at_call 81; refine (HC.out _ HG.out).mono ?_; rintro e w1 ⟨rfl, hb1⟩)
    go_ret
    exact ⟨rfl, HB0.out.trans (hb1.mono (by simp))⟩
  | false =>
    have h : coreB s.data.toList = r := h
    have HC : Hid (∀ W, Calls Tryz.prog 82 #[.string s] W fun e w' => e = .returned (.bool r) ∧ W = w') := fun W => Core_is s r W h
    clear h
    go_enter Tryz.func74, Tryz.ntmps74
    go_wp2_with (go_at_call 82; refine (HC.out _).mono ?_; rintro e w1 ⟨rfl, rfl⟩)
    go_ret
    exact ⟨rfl, HB0.out⟩
end Go.Proofs.YtbddghcdibdloaaGreatDoor
namespace Go.Proofs.YtbddghcdibdloaaGreatDoor
open Go.RowKit Go.Shelf
open Go.Maps (Keyed)
set_option linter.unusedVariables false
attribute [local go_sem] Oper.semAt_some
abbrev Nm := ByteArray × Bool
abbrev NmS := { y : Nm // y.1.size ≤ maxLen }
theorem laidOut : laidOutB Tryz.prog = true := by kernel_rfl
theorem rowKn : (118 : TypeId) < Tryz.prog.types.size := of_decide_eq_true (by kernel_rfl)
theorem lawKn0 : WideMaps.KeyLaw Tryz.prog 118 := deep_law_laid laidOut (m := 3) (by omega) rowKn (by kernel_rfl) (by rw [Tryz.underlying118])
theorem lawKn : Keyed Tryz.prog 118 := .of_law lawKn0
theorem keyKn : Tryz.prog.keyType 118 = true := by kernel_rfl
theorem cellsKn : Tryz.prog.cellsOf 118 = 2 := by kernel_rfl
theorem cellsSt : Tryz.prog.cellsOf 9 = 1 := by kernel_rfl
theorem cellsBo : Tryz.prog.cellsOf 4 = 1 := by kernel_rfl
theorem two_le : (1 : Nat) < Tryz.prog.types.size := of_decide_eq_true (by kernel_rfl)
theorem sizeTy : ∃ m, Tryz.prog.types.size = m + 2 := ⟨_, (Nat.sub_add_cancel two_le).symm⟩
def kl (y : Nm) : Lit := .string (keyBytes [.string y.1.data.toList, .bool y.2])
theorem litS (m : Nat) (s : ByteArray) (hs : s.size ≤ maxLen) : Tryz.prog.keyLits (m + 1) 9 [.string s] = some [.string s.data.toList] := by
  unfold Program.keyLits
  rw [Tryz.underlying9]
  simp [hs]
theorem litB (m : Nat) (b : Bool) : Tryz.prog.keyLits (m + 1) 4 [.bool b] = some [.bool b] := by
  unfold Program.keyLits
  rw [Tryz.underlying4]
theorem litK (m : Nat) (s : ByteArray) (b : Bool) (hs : s.size ≤ maxLen) : Tryz.prog.keyLits (m + 2) 118 [.string s, .bool b] = some [.string s.data.toList, .bool b] := by
  unfold Program.keyLits
  rw [Tryz.underlying118, cellsKn]
  simp only [List.length_cons, List.length_nil, List.mapM_cons, List.mapM_nil, cellsSt, cellsBo, List.drop_zero, List.take_succ_cons, List.take_zero, List.drop_succ_cons, litS m s hs, litB m b]
  simp
theorem key_is (s : ByteArray) (b : Bool) (hs : s.size ≤ maxLen) : keyOf Tryz.prog 118 (.agg #[.string s, .bool b]) = some (kl (s, b)) := by
  obtain ⟨m, hm⟩ := sizeTy
  unfold keyOf
  rw [Tryz.underlying118]
  have hf : (Value.agg #[.string s, .bool b]).formed Tryz.prog 118 = true := by
    unfold Value.formed
    rw [Tryz.underlying118, cellsKn]
    rfl
  have hc : (Value.agg #[.string s, .bool b]).cells.toList = [.string s, .bool b] := rfl
  simp only [keyKn, hf, Bool.true_and, if_true, hc]
  rw [hm, litK (m + 1) s b hs]
  rfl
end Go.Proofs.YtbddghcdibdloaaGreatDoor
