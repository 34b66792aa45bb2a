/- The laws of package num answer true: the walks. -/
import Derived.Test.YtgbpepkhdjcnbaaNumWake
namespace Go.Proofs.Ytgbpepkhdjcnbaa
open Go.RowKit
theorem Add_yes (a b : Int) (w : World) (h : addOk a b = true) : Calls Try.prog 9 #[.int .i64 a, .int .i64 b] w fun e w' => e = .returned (.tuple #[.int .i64 (a + b), .int .i64 0]) ∧ Below w.heap.size w w' := by
  obtain ⟨p, q, _⟩ := addOk_true.1 h
  have := Add_any a b w ⟨by omega, by omega⟩ ⟨by omega, by omega⟩
  unfold addV addE at this
  rw [h] at this
  exact this
theorem Add_no (a b : Int) (w : World) (ha : I64 a) (hb : I64 b) (h : addOk a b = false) : Calls Try.prog 9 #[.int .i64 a, .int .i64 b] w fun e w' => e = .returned (.tuple #[.int .i64 0, .int .i64 10]) ∧ Below w.heap.size w w' := by
  have := Add_any a b w ha hb
  unfold addV addE at this
  rw [h] at this
  exact this
theorem Sub_yes (a b c : Int) (w : World) (h : addOk a (-b) = true) (hc : a - b = c) : Calls Try.prog 11 #[.int .i64 a, .int .i64 b] w fun e w' => e = .returned (.tuple #[.int .i64 c, .int .i64 0]) ∧ Below w.heap.size w w' := by
  obtain ⟨p, q, _⟩ := addOk_true.1 h
  have := Sub_any a b w ⟨by omega, by omega⟩ ⟨by omega, by omega⟩
  unfold subV subE at this
  rw [h] at this
  rw [← hc]
  exact this
theorem addOk_comm (a b : Int) : addOk b a = addOk a b := by
  rw [Bool.eq_iff_iff, addOk_true, addOk_true]; omega
theorem NumTurns_walk (a b : Int) (w : World) (ha : I64 a) (hb : I64 b) :
    Calls Try.prog 5 #[.int .i64 a, .int .i64 b] w fun e w' => e = .returned (.bool true) ∧ Below w.heap.size w w' := by
  cases hok : addOk a b with
  | true =>
    obtain ⟨⟨p1, p2⟩, ⟨p3, p4⟩, p5, p6⟩ := addOk_true.1 hok
    have H1 := Lib.hid hok
    have H2 := Lib.hid ((addOk_comm a b).trans hok)
    have H3 := Lib.hid ((addOk_true (a := a + b) (b := -b)).2 ⟨by omega, by omega, by omega⟩)
    have H4 := Lib.hid ((addOk_true (a := 0) (b := -a)).2 ⟨by omega, by omega, by omega⟩)
    clear hok ha hb
    go_enter Try.func5, Try.ntmps5
    go_wp2_with fail
    refine (Add_yes a b _ H1.out).mono ?_
    rintro e w1 ⟨rfl, hb1⟩
    go_wp2_with fail
    refine (Add_yes b a _ H2.out).mono ?_
    rintro e w2 ⟨rfl, hb2⟩
    rw [Int.add_comm b a]
    go_wp2_with fail
    refine (Sub_yes (a + b) b a _ H3.out (by omega)).mono ?_
    rintro e w3 ⟨rfl, hb3⟩
    go_wp2_with fail
    refine (Sub_yes 0 a (-a) _ H4.out (by omega)).mono ?_
    rintro e w4 ⟨rfl, hb4⟩
    go_wp2_with fail
    refine (wakes_any _).mono ?_
    rintro e w5 ⟨rfl, hb5⟩
    go_wp2
    go_ret
    have s1 := hb1.size; have s2 := hb2.size; have s3 := hb3.size; have s4 := hb4.size
    exact ⟨rfl, (((hb1.trans (hb2.mono (by omega))).trans (hb3.mono (by omega))).trans (hb4.mono (by omega))).trans (hb5.mono (by omega))⟩
  | false =>
    have H1 := Lib.hid hok
    have H2 := Lib.hid ((addOk_comm a b).trans hok)
    clear hok
    go_enter Try.func5, Try.ntmps5
    go_wp2_with fail
    refine (Add_no a b _ ha hb H1.out).mono ?_
    rintro e w1 ⟨rfl, hb1⟩
    go_wp2_with fail
    refine (Add_no b a _ hb ha H2.out).mono ?_
    rintro e w2 ⟨rfl, hb2⟩
    go_wp2_with fail
    refine (wakes_any _).mono ?_
    rintro e w5 ⟨rfl, hb5⟩
    go_wp2
    go_ret
    have s1 := hb1.size; have s2 := hb2.size
    exact ⟨rfl, (hb1.trans (hb2.mono (by omega))).trans (hb5.mono (by omega))⟩
theorem NumTurns_w (w : World) (a : Int) (wa : (Lit.int .i64 a).wf = true) (b : Int) (wb : (Lit.int .i64 b).wf = true) :
    Calls Try.prog 5 #[.int .i64 a, .int .i64 b] w fun e w' => e = .returned (.bool true) ∧ Below w.heap.size w w' := NumTurns_walk a b w (i64_of_wf wa) (i64_of_wf wb)
theorem may_i64 {n : Int} (h : mayB n = true) : I64 n := by rw [mayB_true] at h; exact ⟨by omega, by omega⟩
theorem May_yes (n : Int) (w : World) (h : mayB n = true) : Calls Try.prog 19 #[.int .i64 n] w fun e w' => e = .returned (.bool true) ∧ Below w.heap.size w w' := by
  have := May_any n w (may_i64 h); rw [h] at this; exact this
theorem May_no (n : Int) (w : World) (hn : I64 n) (h : mayB n = false) : Calls Try.prog 19 #[.int .i64 n] w fun e w' => e = .returned (.bool false) ∧ Below w.heap.size w w' := by
  have := May_any n w hn; rw [h] at this; exact this
theorem Text_yes (a : Int) (w : World) (h : mayB a = true) : Calls Try.prog 15 #[.int .i64 a] w fun e w' => e = .returned (.tuple #[.string ⟨(textV a).toArray⟩, .int .i64 0]) ∧ Below w.heap.size w w' := by
  have := Text_any a w (may_i64 h)
  unfold textE at this
  rw [h] at this
  exact this
theorem Text_no (a : Int) (w : World) (hn : I64 a) (h : mayB a = false) : Calls Try.prog 15 #[.int .i64 a] w fun e w' => e = .returned (.tuple #[.string ⟨#[]⟩, .int .i64 10]) ∧ Below w.heap.size w w' := by
  have := Text_any a w hn
  unfold textE textV at this
  rw [h] at this
  exact this
/-- A text that is parsed, and its number. -/
def parsed (s : ByteArray) : Bool := numB s.data.toList && decide (valN s.data.toList ≤ 4611686018427387904)
theorem parsed_true {s : ByteArray} (h : parsed s = true) : numB s.data.toList = true ∧ valN s.data.toList ≤ 4611686018427387904 := by
  unfold parsed at h; simpa using h
theorem parsed_false {s : ByteArray} (h : parsed s = false) : parseV s.data.toList = 0 ∧ (parseE s.data.toList = 10 ∨ parseE s.data.toList = 20) := by
  unfold parseV parseE
  cases hn : numB s.data.toList with
  | false => simp
  | true =>
    have hv : ¬ valN s.data.toList ≤ 4611686018427387904 := fun hv => by
      unfold parsed at h; rw [hn] at h; simp at h; omega
    simp [hv]
theorem Parse_yes (s : ByteArray) (w : World) (hs : s.size ≤ 9223372036854775807) (h : parsed s = true) :
    Calls Try.prog 13 #[.string s] w fun e w' => e = .returned (.tuple #[.int .i64 (valN s.data.toList), .int .i64 0]) ∧ Below w.heap.size w w' := by
  obtain ⟨h1, h2⟩ := parsed_true h
  have := Parse_any s w hs
  unfold parseV parseE at this
  rw [if_pos h1, if_pos h1, if_pos h2, if_pos h2] at this
  exact this
theorem Parse_no (s : ByteArray) (w : World) (hs : s.size ≤ 9223372036854775807) (h : parsed s = false) :
    Calls Try.prog 13 #[.string s] w fun e w' => e = .returned (.tuple #[.int .i64 0, .int .i64 (parseE s.data.toList)]) ∧ Below w.heap.size w w' := by
  have := Parse_any s w hs
  rw [(parsed_false h).1] at this
  exact this
theorem Parse_back (a : Int) (w : World) (h0 : 0 ≤ a) (h1 : a ≤ 4611686018427387904) :
    Calls Try.prog 13 #[.string ⟨(textV a).toArray⟩] w fun e w' => e = .returned (.tuple #[.int .i64 a, .int .i64 0]) ∧ Below w.heap.size w w' := by
  have hm : mayB a = true := mayB_true.2 ⟨by omega, by omega⟩
  rw [← textV_pos hm (by omega)]
  have hl : (dec a.toNat).length ≤ 19 := dec_length 18 _ (by omega)
  have hv : valN (dec a.toNat) = a.toNat := valN_dec _
  have := Parse_yes ⟨(dec a.toNat).toArray⟩ w (by simp [ByteArray.size]; omega) (by unfold parsed; simp only; rw [dec_numB, hv]; simp; omega)
  simp only at this
  rw [hv, Int.toNat_of_nonneg h0] at this
  exact this
theorem Text_back (s : ByteArray) (w : World) (h : parsed s = true) :
    Calls Try.prog 15 #[.int .i64 (valN s.data.toList)] w fun e w' => e = .returned (.tuple #[.string s, .int .i64 0]) ∧ Below w.heap.size w w' := by
  obtain ⟨h1, h2⟩ := parsed_true h
  have hm : mayB (valN s.data.toList : Int) = true := mayB_true.2 ⟨by omega, by omega⟩
  have := Text_yes (valN s.data.toList) w hm
  rw [← textV_pos hm (by omega), Int.toNat_natCast, dec_valN _ h1] at this
  exact this
set_option maxHeartbeats 800000 in
theorem NumBack_walk (a : Int) (s : ByteArray) (w : World) (ha : I64 a) (hs : s.size ≤ 9223372036854775807) :
    Calls Try.prog 4 #[.int .i64 a, .string s] w fun e w' => e = .returned (.bool true) ∧ Below w.heap.size w w' := by
  by_cases hlen : 300 < s.size
  · go_enter Try.func4, Try.ntmps4
    go_wp2_with (go_at_call 8; refine (wakes_any _).mono ?_; rintro e w1 ⟨rfl, hb1⟩)
    go_ret
    exact ⟨rfl, hb1⟩
  · have hcase : (mayB a = false) ∨ (mayB a = true ∧ a < 0) ∨ (mayB a = true ∧ 0 ≤ a) := by
      cases mayB a with
      | false => exact .inl rfl
      | true => by_cases h : a < 0; exact .inr (.inl ⟨rfl, h⟩); exact .inr (.inr ⟨rfl, by omega⟩)
    cases hp : parsed s with
    | true =>
      have HP := Lib.hid hp
      clear hp
      rcases hcase with hm | ⟨hm, h0⟩ | ⟨hm, h0⟩
      · have HM := Lib.hid hm
        clear hm
        go_enter Try.func4, Try.ntmps4
        go_wp2_with fail
        refine (Text_no a _ ha HM.out).mono ?_
        rintro e w1 ⟨rfl, hb1⟩
        go_wp2_with fail
        refine (May_no a _ ha HM.out).mono ?_
        rintro e w2 ⟨rfl, hb2⟩
        go_wp2_with fail
        refine (Parse_yes s _ hs HP.out).mono ?_
        rintro e w3 ⟨rfl, hb3⟩
        go_wp2_with fail
        refine (Text_back s _ HP.out).mono ?_
        rintro e w4 ⟨rfl, hb4⟩
        go_wp2_with fail
        refine (wakes_any _).mono ?_
        rintro e w5 ⟨rfl, hb5⟩
        go_wp2
        go_ret
        have s1 := hb1.size; have s2 := hb2.size; have s3 := hb3.size; have s4 := hb4.size
        exact ⟨rfl, (((hb1.trans (hb2.mono (by omega))).trans (hb3.mono (by omega))).trans (hb4.mono (by omega))).trans (hb5.mono (by omega))⟩
      · have HM := Lib.hid hm
        clear hm
        go_enter Try.func4, Try.ntmps4
        go_wp2_with fail
        refine (Text_yes a _ HM.out).mono ?_
        rintro e w1 ⟨rfl, hb1⟩
        go_wp2_with fail
        refine (May_yes a _ HM.out).mono ?_
        rintro e w2 ⟨rfl, hb2⟩
        go_wp2_with fail
        refine (Parse_yes s _ hs HP.out).mono ?_
        rintro e w3 ⟨rfl, hb3⟩
        go_wp2_with fail
        refine (Text_back s _ HP.out).mono ?_
        rintro e w4 ⟨rfl, hb4⟩
        go_wp2_with fail
        refine (wakes_any _).mono ?_
        rintro e w5 ⟨rfl, hb5⟩
        go_wp2
        go_ret
        have s1 := hb1.size; have s2 := hb2.size; have s3 := hb3.size; have s4 := hb4.size
        exact ⟨rfl, (((hb1.trans (hb2.mono (by omega))).trans (hb3.mono (by omega))).trans (hb4.mono (by omega))).trans (hb5.mono (by omega))⟩
      · have HM := Lib.hid hm
        have h1 : a ≤ 4611686018427387904 := (mayB_true.1 hm).2
        clear hm
        go_enter Try.func4, Try.ntmps4
        go_wp2_with fail
        refine (Text_yes a _ HM.out).mono ?_
        rintro e w1 ⟨rfl, hb1⟩
        go_wp2_with fail
        refine (May_yes a _ HM.out).mono ?_
        rintro e w2 ⟨rfl, hb2⟩
        go_wp2_with fail
        refine (Parse_back a _ h0 h1).mono ?_
        rintro e w3 ⟨rfl, hb3⟩
        go_wp2_with fail
        refine (Parse_yes s _ hs HP.out).mono ?_
        rintro e w4 ⟨rfl, hb4⟩
        go_wp2_with fail
        refine (Text_back s _ HP.out).mono ?_
        rintro e w5 ⟨rfl, hb5⟩
        go_wp2_with fail
        refine (wakes_any _).mono ?_
        rintro e w6 ⟨rfl, hb6⟩
        go_wp2
        go_ret
        have s1 := hb1.size; have s2 := hb2.size; have s3 := hb3.size; have s4 := hb4.size; have s5 := hb5.size
        exact ⟨rfl, ((((hb1.trans (hb2.mono (by omega))).trans (hb3.mono (by omega))).trans (hb4.mono (by omega))).trans (hb5.mono (by omega))).trans (hb6.mono (by omega))⟩
    | false =>
      have HP := Lib.hid hp
      have H0 : Hid (mayB 0 = true) := by show _ = _; decide
      have hf : (parseE s.data.toList != 0) = true := by
        rcases (parsed_false hp).2 with h | h <;> rw [h] <;> decide
      clear hp
      rcases hcase with hm | ⟨hm, h0⟩ | ⟨hm, h0⟩
      · have HM := Lib.hid hm
        clear hm
        go_enter Try.func4, Try.ntmps4
        go_wp2_with fail
        refine (Text_no a _ ha HM.out).mono ?_
        rintro e w1 ⟨rfl, hb1⟩
        go_wp2_with fail
        refine (May_no a _ ha HM.out).mono ?_
        rintro e w2 ⟨rfl, hb2⟩
        go_wp2_with fail
        refine (Parse_no s _ hs HP.out).mono ?_
        rintro e w3 ⟨rfl, hb3⟩
        go_wp2_with fail
        refine (Text_yes 0 _ H0.out).mono ?_
        rintro e w4 ⟨rfl, hb4⟩
        go_wp2_with fail
        refine (wakes_any _).mono ?_
        rintro e w5 ⟨rfl, hb5⟩
        go_wp2
        go_ret
        have s1 := hb1.size; have s2 := hb2.size; have s3 := hb3.size; have s4 := hb4.size
        exact ⟨rfl, (((hb1.trans (hb2.mono (by omega))).trans (hb3.mono (by omega))).trans (hb4.mono (by omega))).trans (hb5.mono (by omega))⟩
      · have HM := Lib.hid hm
        clear hm
        go_enter Try.func4, Try.ntmps4
        go_wp2_with fail
        refine (Text_yes a _ HM.out).mono ?_
        rintro e w1 ⟨rfl, hb1⟩
        go_wp2_with fail
        refine (May_yes a _ HM.out).mono ?_
        rintro e w2 ⟨rfl, hb2⟩
        go_wp2_with fail
        refine (Parse_no s _ hs HP.out).mono ?_
        rintro e w3 ⟨rfl, hb3⟩
        go_wp2_with fail
        refine (Text_yes 0 _ H0.out).mono ?_
        rintro e w4 ⟨rfl, hb4⟩
        go_wp2_with fail
        refine (wakes_any _).mono ?_
        rintro e w5 ⟨rfl, hb5⟩
        go_wp2
        go_ret
        have s1 := hb1.size; have s2 := hb2.size; have s3 := hb3.size; have s4 := hb4.size
        exact ⟨rfl, (((hb1.trans (hb2.mono (by omega))).trans (hb3.mono (by omega))).trans (hb4.mono (by omega))).trans (hb5.mono (by omega))⟩
      · have HM := Lib.hid hm
        have h1 : a ≤ 4611686018427387904 := (mayB_true.1 hm).2
        clear hm
        go_enter Try.func4, Try.ntmps4
        go_wp2_with fail
        refine (Text_yes a _ HM.out).mono ?_
        rintro e w1 ⟨rfl, hb1⟩
        go_wp2_with fail
        refine (May_yes a _ HM.out).mono ?_
        rintro e w2 ⟨rfl, hb2⟩
        go_wp2_with fail
        refine (Parse_back a _ h0 h1).mono ?_
        rintro e w3 ⟨rfl, hb3⟩
        go_wp2_with fail
        refine (Parse_no s _ hs HP.out).mono ?_
        rintro e w4 ⟨rfl, hb4⟩
        go_wp2_with fail
        refine (Text_yes 0 _ H0.out).mono ?_
        rintro e w5 ⟨rfl, hb5⟩
        go_wp2_with fail
        refine (wakes_any _).mono ?_
        rintro e w6 ⟨rfl, hb6⟩
        go_wp2
        go_ret
        have s1 := hb1.size; have s2 := hb2.size; have s3 := hb3.size; have s4 := hb4.size; have s5 := hb5.size
        exact ⟨rfl, ((((hb1.trans (hb2.mono (by omega))).trans (hb3.mono (by omega))).trans (hb4.mono (by omega))).trans (hb5.mono (by omega))).trans (hb6.mono (by omega))⟩
theorem NumBack_w (w : World) (a : Int) (wa : (Lit.int .i64 a).wf = true) (s : ByteArray) (ws : s.size ≤ maxLen) :
    Calls Try.prog 4 #[.int .i64 a, .string s] w fun e w' => e = .returned (.bool true) ∧ Below w.heap.size w w' := NumBack_walk a s w (i64_of_wf wa) (by unfold maxLen at ws; omega)
end Go.Proofs.Ytgbpepkhdjcnbaa
