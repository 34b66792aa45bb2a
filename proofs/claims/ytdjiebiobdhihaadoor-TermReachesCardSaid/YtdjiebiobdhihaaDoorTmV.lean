/- Put in its cases; what the laws ask ahead of all else; the document's Ints. -/
import Derived.Test.YtdjiebiobdhihaaDoorTmN
import Derived.Test.YtdjiebiobdhihaaDoorTmM
import Derived.Test.YtdjiebiobdhihaaDoorTmT
namespace Go.Proofs.YtdjiebiobdhihaaDoor
open Go.RowKit
set_option linter.unusedVariables false
theorem put_new (l : List NodeA) (a : Option Addr) (c : Nat) (n : NodeA) (most : Int) (w : World) (hG : GT w) (hA : TabR w l a c) (hn : NodeOk n) (hmo : I64 most) (hl : l.length ≤ 900) (hm : mayT l = true) (hs : standsB n l.length = true) (hi : n ∉ l) (hlt : (l.length : Int) < most) :
    Calls Tryd.prog 10 #[.agg #[.slice a l.length c], .agg #[.int .i8 n.op, .int .i8 n.len, .int .i64 n.a0, .int .i64 n.a1, .int .i64 n.a2, .int .i64 n.sort, .int .i64 n.fn, .int .i64 n.num], .int .i64 most] w fun e w' => ∃ L a' c', L = l ++ [n] ∧ e = .returned (.tuple #[.agg #[.slice a' L.length c'], .int .i64 l.length, .int .i64 0]) ∧ TabR w' L a' c' ∧ Below w.heap.size w w' := by
  refine (Put_any l a c n most w hG hA hn hmo hl).mono ?_
  rintro e w' ⟨hb, ⟨h, _⟩ | ⟨_, _, h, _⟩ | ⟨_, _, _, h, _⟩ | ⟨_, _, _, _, L, a', c', hL, he, hT⟩⟩
  · exact absurd ⟨hm, hs⟩ h
  · exact absurd h hi
  · omega
  · exact ⟨L, a', c', hL, he, hT, hb⟩
theorem put_there (l : List NodeA) (a : Option Addr) (c : Nat) (n : NodeA) (most : Int) (w : World) (hG : GT w) (hA : TabR w l a c) (hn : NodeOk n) (hmo : I64 most) (hl : l.length ≤ 900) (hm : mayT l = true) (hs : standsB n l.length = true) (hi : n ∈ l) :
    Calls Tryd.prog 10 #[.agg #[.slice a l.length c], .agg #[.int .i8 n.op, .int .i8 n.len, .int .i64 n.a0, .int .i64 n.a1, .int .i64 n.a2, .int .i64 n.sort, .int .i64 n.fn, .int .i64 n.num], .int .i64 most] w fun e w' => ∃ a' c', e = .returned (.tuple #[.agg #[.slice a' l.length c'], .int .i64 (fndN l n), .int .i64 0]) ∧ TabR w' l a' c' ∧ Below w.heap.size w w' := by
  refine (Put_any l a c n most w hG hA hn hmo hl).mono ?_
  rintro e w' ⟨hb, ⟨h, _⟩ | ⟨_, _, _, a', c', he, hT⟩ | ⟨_, _, h, _⟩ | ⟨_, _, h, _⟩⟩
  · exact absurd ⟨hm, hs⟩ h
  · exact ⟨a', c', he, hT, hb⟩
  · exact absurd hi h
  · exact absurd hi h
theorem put_many (l : List NodeA) (a : Option Addr) (c : Nat) (n : NodeA) (most : Int) (w : World) (hG : GT w) (hA : TabR w l a c) (hn : NodeOk n) (hmo : I64 most) (hl : l.length ≤ 900) (hm : mayT l = true) (hs : standsB n l.length = true) (hi : n ∉ l) (hlt : most ≤ (l.length : Int)) :
    Calls Tryd.prog 10 #[.agg #[.slice a l.length c], .agg #[.int .i8 n.op, .int .i8 n.len, .int .i64 n.a0, .int .i64 n.a1, .int .i64 n.a2, .int .i64 n.sort, .int .i64 n.fn, .int .i64 n.num], .int .i64 most] w fun e w' => e = .returned (.tuple #[.agg #[.slice none 0 0], .int .i64 0, .int .i64 40]) ∧ Below w.heap.size w w' := by
  refine (Put_any l a c n most w hG hA hn hmo hl).mono ?_
  rintro e w' ⟨hb, ⟨h, _⟩ | ⟨_, _, h, _⟩ | ⟨_, _, _, _, he⟩ | ⟨_, _, _, h, _⟩⟩
  · exact absurd ⟨hm, hs⟩ h
  · exact absurd h hi
  · exact ⟨he, hb⟩
  · omega
def fiveN : NodeA := ⟨10, 0, 0, 0, 0, 1, 0, 5⟩
def sixN : NodeA := ⟨10, 0, 0, 0, 0, 1, 0, 6⟩
theorem five_ok : NodeOk fiveN := ⟨⟨by decide, by decide⟩, ⟨by decide, by decide⟩, ⟨by decide, by decide⟩, ⟨by decide, by decide⟩, ⟨by decide, by decide⟩, ⟨by decide, by decide⟩, ⟨by decide, by decide⟩, ⟨by decide, by decide⟩⟩
theorem six_ok : NodeOk sixN := ⟨⟨by decide, by decide⟩, ⟨by decide, by decide⟩, ⟨by decide, by decide⟩, ⟨by decide, by decide⟩, ⟨by decide, by decide⟩, ⟨by decide, by decide⟩, ⟨by decide, by decide⟩, ⟨by decide, by decide⟩⟩
theorem may_new : mayT newL = true := by decide
theorem stands_five : standsB fiveN newL.length = true := by decide
theorem five_no : fiveN ∉ newL := by decide
def threeL : List NodeA := newL ++ [fiveN]
theorem may_three : mayT threeL = true := by decide
theorem stands_five3 : standsB fiveN threeL.length = true := by decide
theorem stands_six3 : standsB sixN threeL.length = true := by decide
theorem six_no : sixN ∉ threeL := by decide
theorem fnd_five : fndN threeL fiveN = 2 := by decide
theorem five_in : fiveN ∈ threeL := by decide
set_option maxRecDepth 100000 in
set_option maxHeartbeats 4000000 in
theorem wakes_any (w : World) (hG : GT w) : Calls Tryd.prog 9 #[] w fun e w' => e = .returned (.bool true) ∧ Below w.heap.size w w' := by
  have HN : Hid (Calls Tryd.prog 20 #[] w fun e w' => ∃ a, e = .returned (.agg #[.slice a 2 2]) ∧ TabR w' newL a 2 ∧ Below w.heap.size w w') := by
    refine (New_any w).mono ?_
    rintro e w' ⟨h1, h2, h3⟩
    exact ⟨_, h1, h2, h3⟩
  have H1 : Hid (∀ V a, Below w.heap.size w V → TabR V newL a 2 → Calls Tryd.prog 10 #[.agg #[.slice a 2 2], .agg #[.int .i8 10, .int .i8 0, .int .i64 0, .int .i64 0, .int .i64 0, .int .i64 1, .int .i64 0, .int .i64 5], .int .i64 9] V fun e w' => ∃ a' c', e = .returned (.tuple #[.agg #[.slice a' 3 c'], .int .i64 2, .int .i64 0]) ∧ TabR w' threeL a' c' ∧ Below V.heap.size V w') := fun V a hV hT => by
    refine (put_new newL a 2 fiveN 9 V (hG.below hV) hT five_ok ⟨by decide, by decide⟩ (by decide) may_new stands_five five_no (by decide)).mono ?_
    rintro e w' ⟨L, a', c', rfl, h2, h3, h4⟩
    exact ⟨a', c', h2, h3, h4⟩
  have H2 : Hid (∀ V a c, Below w.heap.size w V → TabR V threeL a c → Calls Tryd.prog 10 #[.agg #[.slice a 3 c], .agg #[.int .i8 10, .int .i8 0, .int .i64 0, .int .i64 0, .int .i64 0, .int .i64 1, .int .i64 0, .int .i64 5], .int .i64 3] V fun e w' => ∃ a' c', e = .returned (.tuple #[.agg #[.slice a' 3 c'], .int .i64 2, .int .i64 0]) ∧ TabR w' threeL a' c' ∧ Below V.heap.size V w') := fun V a c hV hT => by
    have := put_there threeL a c fiveN 3 V (hG.below hV) hT five_ok ⟨by decide, by decide⟩ (by decide) may_three stands_five3 five_in
    rw [fnd_five] at this
    exact this
  have H3 : Hid (∀ V a c, Below w.heap.size w V → TabR V threeL a c → Calls Tryd.prog 10 #[.agg #[.slice a 3 c], .agg #[.int .i8 10, .int .i8 0, .int .i64 0, .int .i64 0, .int .i64 0, .int .i64 1, .int .i64 0, .int .i64 6], .int .i64 3] V fun e w' => e = .returned (.tuple #[.agg #[.slice none 0 0], .int .i64 0, .int .i64 40]) ∧ Below V.heap.size V w') := fun V a c hV hT =>
    put_many threeL a c sixN 3 V (hG.below hV) hT six_ok ⟨by decide, by decide⟩ (by decide) may_three stands_six3 six_no (by decide)
  have HCk : Hid (∀ V a c, Below w.heap.size w V → TabR V threeL a c → Calls Tryd.prog 11 #[.agg #[.slice a 3 c]] V fun e w' => e = .returned (.int .i64 0) ∧ Below V.heap.size V w') := fun V a c hV hT =>
    Check_any threeL a c 0 V (hG.below hV) hT (by decide) (by rw [may_three]; rfl)
  clear hG
  go_enter Tryd.func9, Tryd.ntmps9
  go_wp2_with (first | (go_at_call 20; refine HN.out.mono ?_; rintro e w1 ⟨a1, rfl, ht1, hb1⟩; have HT1 := Lib.hid ht1; have HB1 := Lib.hid hb1; clear ht1 hb1) | (go_at_call 10; have HBx := HB5.out; refine (H3.out _ _ _ (HB5.out.alloc HB5.out.size _) (HT5.out.below ((Below.refl _ _).alloc (Nat.le_refl _) _))).mono ?_; rintro e w6 ⟨rfl, hb6⟩; have HB6 : Hid (Below w.heap.size w w6) := (HB5.out.alloc HB5.out.size _).trans (hb6.mono (by have := HB5.out.size; simp; omega)); have HT6 : Hid (TabR w6 threeL a5 c5) := (HT5.out.below ((Below.refl _ _).alloc (Nat.le_refl _) _)).below hb6; have hx6 := (hb6.block _ (by simp)).trans (heap_alloc_new w5 (.cells #[.slice a5 3 c5] 24)); have b6 : w6.cell? ⟨w5.heap.size, 0, none⟩ = some (.slice a5 3 c5) := (cell_of_row _ _ 0 _ _ _ hx6).trans rfl; have bz6 : w5.heap.size < w6.heap.size := (Array.getElem?_eq_some_iff.1 hx6).1; have HX6 := Lib.hid hx6; clear hb6 hx6) | (go_at_call 10; have HBx := HB3.out; refine (H2.out _ _ _ (HB3.out.alloc HB3.out.size _) (HT3.out.below ((Below.refl _ _).alloc (Nat.le_refl _) _))).mono ?_; rintro e w5 ⟨a5, c5, rfl, ht5, hb5⟩; have HB5 : Hid (Below w.heap.size w w5) := (HB3.out.alloc HB3.out.size _).trans (hb5.mono (by have := HB3.out.size; simp; omega)); have HT5 := Lib.hid ht5; clear ht5 hb5) | (go_at_call 10; refine (H1.out _ _ HB1.out HT1.out).mono ?_; rintro e w3 ⟨a3, c3, rfl, ht3, hb3⟩; have HB3 : Hid (Below w.heap.size w w3) := HB1.out.trans (hb3.mono HB1.out.size); have HT3 := Lib.hid ht3; clear ht3 hb3) | (go_at_call 11; refine (HCk.out _ _ _ (HB6.out.alloc HB6.out.size _) (HT6.out.below ((Below.refl _ _).alloc (Nat.le_refl _) _))).mono ?_; rintro e w7 ⟨rfl, hb7⟩))
  go_ret
  exact ⟨rfl, (HB6.out.alloc HB6.out.size _).trans (hb7.mono (by have := HB6.out.size; simp; omega))⟩
theorem Ints_same (xs : List Int) (a b : Option Addr) (c d : Nat) (w : World) (hA : IntsR w xs a c) (hB : IntsR w xs b d) :
    Calls Tryd.prog 15 #[.slice a xs.length c, .slice b xs.length d] w fun e w' => e = .returned (.bool true) ∧ Below w.heap.size w w' := by
  have HA := Lib.hid hA
  have HB := Lib.hid hB
  have l1 : xs.length ≤ c := hA.le
  have l2 : xs.length ≤ d := hB.le
  have c1 : xs.length ≤ 9223372036854775807 := by have := hA.cap; simp only [maxLen] at this; omega
  have hne : ((xs.length : Int) != (xs.length : Int)) = false := ne_f rfl
  clear hA hB
  go_enter Tryd.func15, Tryd.ntmps15
  go_wp2
  go_loopw [5] (fun i wr => ∃ k : Nat, k ≤ xs.length ∧ i = .int .i64 k ∧ Hid (Below w.heap.size w wr)) (fun i _ => xs.length - (intOf i).toNat)
  case atStart => exact ⟨0, Nat.zero_le _, rfl, Below.refl _ _⟩
  case round =>
    obtain ⟨k, hkl, rfl, HW⟩ := hrel
    by_cases hlt : k < xs.length
    · obtain ⟨x, hx⟩ : ∃ x, xs[k]? = some x := ⟨_, List.getElem?_eq_getElem hlt⟩
      obtain ⟨g, o, rfl, hg, q0⟩ := (HA.out.below HW.out).cell hx
      obtain ⟨g', o', rfl, hg', r0⟩ := (HB.out.below HW.out).cell hx
      have hxx : (x != x) = false := ne_f rfl
      clear hx
      go_wp2
      go_quiet (fail)
      go_wp2
      go_roundw
      case rel => exact ⟨k + 1, by omega, by go_num, below_drewN HW.out⟩
      case measure => simp [intOf]; omega
    · obtain rfl : k = xs.length := by omega
      go_wp2
      go_ret
      exact ⟨rfl, HW.out⟩
end Go.Proofs.YtdjiebiobdhihaaDoor
