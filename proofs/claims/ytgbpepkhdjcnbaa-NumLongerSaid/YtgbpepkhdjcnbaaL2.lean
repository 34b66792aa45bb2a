/- Of two numerals that are parsed, the longer or later one is the greater number: the walk of the law. -/
import Derived.Test.YtgbpepkhdjcnbaaNumLaws
import Derived.Test.YtgbpepkhdjcnbaaNumLex
namespace Go.Proofs.Ytgbpepkhdjcnbaa
open Go.RowKit
theorem longer_cases {s t : ByteArray} (hp : parsed s = true) (hq : parsed t = true) :
    (s.size < t.size ∧ valN s.data.toList < valN t.data.toList ∧ ((valN s.data.toList : Int) == (valN t.data.toList : Int)) = false ∧ (s.toList == t.toList) = false) ∨
    (t.size < s.size ∧ ¬ valN s.data.toList < valN t.data.toList ∧ ((valN s.data.toList : Int) == (valN t.data.toList : Int)) = false ∧ (s.toList == t.toList) = false) ∨
    (s.size ≤ t.size ∧ t.size ≤ s.size ∧ Op.bytesLess s.toList t.toList = true ∧ valN s.data.toList < valN t.data.toList ∧ ((valN s.data.toList : Int) == (valN t.data.toList : Int)) = false ∧ (s.toList == t.toList) = false) ∨
    (s.size ≤ t.size ∧ t.size ≤ s.size ∧ Op.bytesLess s.toList t.toList = false ∧ ¬ valN s.data.toList < valN t.data.toList ∧ ((valN s.data.toList : Int) == (valN t.data.toList : Int)) = false ∧ (s.toList == t.toList) = false) ∨
    (s.size ≤ t.size ∧ t.size ≤ s.size ∧ Op.bytesLess s.toList t.toList = false ∧ ¬ valN s.data.toList < valN t.data.toList ∧ ((valN s.data.toList : Int) == (valN t.data.toList : Int)) = true ∧ (s.toList == t.toList) = true) := by
  obtain ⟨p1, _⟩ := parsed_true hp
  obtain ⟨q1, _⟩ := parsed_true hq
  have ls : s.data.toList.length = s.size := by simp
  have lt : t.data.toList.length = t.size := by simp
  have ne : ∀ {x y : Nat}, x ≠ y → ((x : Int) == (y : Int)) = false := fun h => by rw [beq_eq_false_iff_ne]; omega
  have neq : valN s.data.toList ≠ valN t.data.toList → (s.toList == t.toList) = false := fun h => by
    rw [ByteArray.toList_eq, ByteArray.toList_eq]
    simp only [beq_eq_false_iff_ne, ne_eq]
    exact fun e => h (by rw [e])
  rcases Nat.lt_trichotomy s.size t.size with h | h | h
  · have := valN_longer p1 q1 (by omega)
    exact .inl ⟨h, this, ne (by omega), neq (by omega)⟩
  · obtain ⟨i1, i2, i3⟩ := valN_cmp s.data.toList t.data.toList (by omega) (numB_allD p1) (numB_allD q1)
    rw [← ByteArray.toList_eq, ← ByteArray.toList_eq] at i1 i2
    cases hb : Op.bytesLess s.toList t.toList with
    | true =>
      have := i1 hb
      rw [ByteArray.toList_eq, ByteArray.toList_eq] at this
      exact .inr (.inr (.inl ⟨by omega, by omega, rfl, this, ne (by omega), neq (by omega)⟩))
    | false =>
      have hle := i2 hb
      rw [ByteArray.toList_eq, ByteArray.toList_eq] at hle
      by_cases he : valN s.data.toList = valN t.data.toList
      · refine .inr (.inr (.inr (.inr ⟨by omega, by omega, rfl, by omega, by rw [beq_iff_eq]; omega, ?_⟩)))
        rw [ByteArray.toList_eq, ByteArray.toList_eq, i3 he]
        simp
      · exact .inr (.inr (.inr (.inl ⟨by omega, by omega, rfl, by omega, ne he, neq he⟩)))
  · have := valN_longer q1 p1 (by omega)
    exact .inr (.inl ⟨h, by omega, ne (by omega), neq (by omega)⟩)
set_option maxHeartbeats 800000 in
theorem NumLonger_walk (s t : ByteArray) (w : World) (hs : s.size ≤ 9223372036854775807) (ht : t.size ≤ 9223372036854775807) :
    Calls Try.prog 7 #[.string s, .string t] w fun e w' => e = .returned (.bool true) ∧ Below w.heap.size w w' := by
  by_cases h1 : 300 < s.size
  · go_enter Try.func7, Try.ntmps7
    go_wp2_with (go_at_call 8; refine (wakes_any _).mono ?_; rintro e w1 ⟨rfl, hb1⟩)
    go_ret
    exact ⟨rfl, hb1⟩
  · by_cases h2 : 300 < t.size
    · go_enter Try.func7, Try.ntmps7
      go_wp2_with (go_at_call 8; refine (wakes_any _).mono ?_; rintro e w1 ⟨rfl, hb1⟩)
      go_ret
      exact ⟨rfl, hb1⟩
    · cases hp : parsed s with
      | false =>
        have hf : (parseE s.data.toList != 0) = true := by
          rcases (parsed_false hp).2 with h | h <;> rw [h] <;> decide
        have HP := Lib.hid hp
        clear hp
        cases hq : parsed t with
        | false =>
          have HQ := Lib.hid hq
          clear hq
          go_enter Try.func7, Try.ntmps7
          go_wp2_with fail
          refine (Parse_no s _ hs HP.out).mono ?_
          rintro e w1 ⟨rfl, hb1⟩
          go_wp2_with fail
          refine (Parse_no t _ ht HQ.out).mono ?_
          rintro e w2 ⟨rfl, hb2⟩
          go_wp2_with fail
          refine (wakes_any _).mono ?_
          rintro e w3 ⟨rfl, hb3⟩
          go_wp2
          go_ret
          have s1 := hb1.size; have s2 := hb2.size
          exact ⟨rfl, (hb1.trans (hb2.mono (by omega))).trans (hb3.mono (by omega))⟩
        | true =>
          have HQ := Lib.hid hq
          clear hq
          go_enter Try.func7, Try.ntmps7
          go_wp2_with fail
          refine (Parse_no s _ hs HP.out).mono ?_
          rintro e w1 ⟨rfl, hb1⟩
          go_wp2_with fail
          refine (Parse_yes t _ ht HQ.out).mono ?_
          rintro e w2 ⟨rfl, hb2⟩
          go_wp2_with fail
          refine (wakes_any _).mono ?_
          rintro e w3 ⟨rfl, hb3⟩
          go_wp2
          go_ret
          have s1 := hb1.size; have s2 := hb2.size
          exact ⟨rfl, (hb1.trans (hb2.mono (by omega))).trans (hb3.mono (by omega))⟩
      | true =>
        cases hq : parsed t with
        | false =>
          have hf : (parseE t.data.toList != 0) = true := by
            rcases (parsed_false hq).2 with h | h <;> rw [h] <;> decide
          have HP := Lib.hid hp
          have HQ := Lib.hid hq
          clear hp hq
          go_enter Try.func7, Try.ntmps7
          go_wp2_with fail
          refine (Parse_yes s _ hs HP.out).mono ?_
          rintro e w1 ⟨rfl, hb1⟩
          go_wp2_with fail
          refine (Parse_no t _ ht HQ.out).mono ?_
          rintro e w2 ⟨rfl, hb2⟩
          go_wp2_with fail
          refine (wakes_any _).mono ?_
          rintro e w3 ⟨rfl, hb3⟩
          go_wp2
          go_ret
          have s1 := hb1.size; have s2 := hb2.size
          exact ⟨rfl, (hb1.trans (hb2.mono (by omega))).trans (hb3.mono (by omega))⟩
        | true =>
          have hcase := longer_cases hp hq
          have HP := Lib.hid hp
          have HQ := Lib.hid hq
          clear hp hq
          rcases hcase with ⟨c1, c2, c3, c4⟩ | ⟨c1, c2, c3, c4⟩ | ⟨c1, c1', c2, c3, c4, c5⟩ | ⟨c1, c1', c2, c3, c4, c5⟩ | ⟨c1, c1', c2, c3, c4, c5⟩
          all_goals
            go_enter Try.func7, Try.ntmps7
            go_wp2_with fail
            refine (Parse_yes s _ hs HP.out).mono ?_
            rintro e w1 ⟨rfl, hb1⟩
            go_wp2_with fail
            refine (Parse_yes t _ ht HQ.out).mono ?_
            rintro e w2 ⟨rfl, hb2⟩
            go_wp2_with fail
            refine (wakes_any _).mono ?_
            rintro e w3 ⟨rfl, hb3⟩
            go_wp2
            go_ret
            have s1 := hb1.size; have s2 := hb2.size
            exact ⟨ret_bool (by first | rfl | (simp; done) | (simp; omega)), (hb1.trans (hb2.mono (by omega))).trans (hb3.mono (by omega))⟩
theorem NumLonger_w (w : World) (s : ByteArray) (ws : s.size ≤ maxLen) (t : ByteArray) (wt : t.size ≤ maxLen) :
    Calls Try.prog 7 #[.string s, .string t] w fun e w' => e = .returned (.bool true) ∧ Below w.heap.size w w' := NumLonger_walk s t w (by unfold maxLen at ws; omega) (by unfold maxLen at wt; omega)
end Go.Proofs.Ytgbpepkhdjcnbaa
