/- Tokens stand one behind the other, and each is read alone as it is: the walk of the law LexStands. -/
import Derived.Test.YtdpogjkfmncnlaaDoorLexWake
import Derived.Test.YtdpogjkfmncnlaaDoorLexFacts2
namespace Go.Proofs.YtdpogjkfmncnlaaDoor
open Go.RowKit
set_option linter.unusedVariables false
theorem Skip_to (s : ByteArray) (k m : Nat) (w : World) (hG : Globs w) (hs : s.size ≤ 9223372036854775807) (hk : k ≤ s.size) (hm : skipA s.data.toList k = m) :
    Calls Tryd.prog 9 #[.string s, .int .i64 k] w fun e w' => e = .returned (.int .i64 (m : Int)) ∧ Below w.heap.size w w' := by
  subst hm; exact Skip_nat s k w hG hs hk
theorem Next_alone (s : ByteArray) (a b kd : Nat) (tx : List UInt8) (d : Int) (w : World) (hG : Globs w) (hs : s.size ≤ 9223372036854775807) (hab : a < b) (hb : b ≤ s.size) (hd : d = (b : Int) - a)
    (hx : nextL ((s.data.toList.drop a).take (b - a)) 0 = ⟨⟨kd, tx, 0, b - a⟩, true, 0⟩) :
    Calls Tryd.prog 10 #[.string (s.extract a b), .int .i64 0] w fun e w' => e = .returned (.tuple #[.agg #[.int .i8 kd, .string (bytesL tx), .int .i64 0, .int .i64 d], .bool true, .int .i64 0]) ∧ Below w.heap.size w w' := by
  have h := Next_ex (s.extract a b) 0 ⟨⟨kd, tx, 0, b - a⟩, true, 0⟩ w hG (by simp; omega) (Nat.zero_le _) (by rw [Lib.extract_data]; exact hx)
  refine h.mono fun e w' ⟨he, hb'⟩ => ⟨?_, hb'⟩
  rw [he]
  have : ((b - a : Nat) : Int) = d := by omega
  show Ending.returned (.tuple #[.agg #[.int .i8 kd, .string (bytesL tx), .int .i64 ((0 : Nat) : Int), .int .i64 ((b - a : Nat) : Int)], .bool true, .int .i64 ((0 : Nat) : Int)]) = _
  rw [this]
  rfl
/-- What is known at the head of a round. -/
def StandAt (l : List UInt8) (ts : List Tok) (p e k n : Nat) : Prop := allL l n = (ts.drop k, p, e)
set_option maxRecDepth 100000 in
set_option maxHeartbeats 4000000 in
theorem LexStands_walk (s : ByteArray) (w : World) (hG : Globs w) :
    Calls Tryd.prog 3 #[.string s] w fun e w' => e = .returned (.bool true) ∧ Below w.heap.size w w' := by
  have HG := Lib.hid hG
  clear hG
  by_cases hbig : 2000 < s.size
  · go_enter Tryd.func3, Tryd.ntmps3
    go_wp2_with fail
    refine (wakes_any _ HG.out).mono ?_
    rintro e w1 ⟨rfl, hb1⟩
    go_wp2
    go_ret
    exact ⟨rfl, hb1⟩
  · have HL : Hid (s.data.toList.length = s.size) := by show _ = _; simp
    obtain ⟨ts, p, ec, ha⟩ : ∃ ts p ec, allL s.data.toList 0 = (ts, p, ec) := ⟨_, _, _, rfl⟩
    have hts : ts.length ≤ s.size := by
      have := (allL_len (l := s.data.toList) _ 0 (Nat.le_refl _) (Nat.zero_le _)).2
      rw [ha, HL.out] at this
      simpa using this
    have HA := Lib.hid ha
    clear ha
    go_enter Tryd.func3, Tryd.ntmps3
    go_wp2_with fail
    refine (All_to s ts p ec p ec _ HG.out (by omega) HA.out rfl rfl).mono ?_
    rintro en w1 ⟨A, cap, rfl, hcap, hT1, hb1⟩
    have HT1 := Lib.hid hT1
    clear hT1
    go_wp2_with fail
    go_loopw [6, 7] (fun n i wr => ∃ k m : Nat, k ≤ ts.length ∧ m ≤ s.size ∧ n = .int .i64 m ∧ i = .int .i64 k ∧ Hid (StandAt s.data.toList ts p ec k m) ∧ Below w.heap.size w wr ∧ Hid (TokAt wr A ts)) (fun _ i _ => ts.length - (intOf i).toNat)
    case atStart => exact ⟨0, 0, Nat.zero_le _, Nat.zero_le _, rfl, rfl, HA.out, hb1, HT1.out⟩
    case round =>
      obtain ⟨k, m, hk, hm, rfl, rfl, HS, hbel, HT⟩ := hrel
      have HGr := Lib.hid (HG.out.below hbel)
      by_cases hlt : k < ts.length
      · obtain ⟨g, rfl, hg, hc⟩ := HT.out (by omega)
        obtain ⟨c0, c1, c2, c3⟩ := hc k hlt
        have hst : allL s.data.toList m = (ts[k] :: ts.drop (k + 1), p, ec) := by rw [HS.out, List.drop_eq_getElem_cons hlt]
        obtain ⟨t, ht⟩ : ∃ t, ts[k] = t := ⟨_, rfl⟩
        rw [ht] at hst c0 c1 c2 c3
        obtain ⟨q1, q2, q3, q4, q5⟩ := allL_cons (by rw [HL.out]; exact hm) hst
        rw [HL.out] at q3
        have q0 := (skipA_le (l := s.data.toList) (k := m) (by rw [HL.out]; exact hm)).1
        rw [← q1] at q0
        have HQ1 := Lib.hid q1.symm
        have HQ4 := Lib.hid q4
        have HQ5 := Lib.hid q5
        clear hc hst ht q1 q4 q5
        obtain ⟨kd, tx, pos, stop⟩ := t
        simp only at q0 q2 q3 c0 c1 c2 c3
        have g1 : decide ((pos : Int) < (m : Int)) = false := by simp; omega
        have g2 : decide ((stop : Int) ≤ (pos : Int)) = false := by simp; omega
        have g3 : decide ((s.size : Int) < (stop : Int)) = false := by simp; omega
        have hbx : Below w.heap.size w (wr.alloc (.cells #[.int .i8 kd, .string (bytesL tx), .int .i64 pos, .int .i64 stop] 29)) := hbel.alloc hbel.size _
        have HBX := Lib.hid hbx
        have HGx := Lib.hid ((HG.out.below hbx).drew)
        have hx0 := heap_alloc_new wr (.cells #[.int .i8 kd, .string (bytesL tx), .int .i64 pos, .int .i64 stop] 29)
        have x2 : (wr.alloc (.cells #[.int .i8 kd, .string (bytesL tx), .int .i64 pos, .int .i64 stop] 29)).cell? ⟨wr.heap.size, 2, none⟩ = some (.int .i64 pos) := cell_of_row _ _ 2 _ _ _ hx0
        have x3 : (wr.alloc (.cells #[.int .i8 kd, .string (bytesL tx), .int .i64 pos, .int .i64 stop] 29)).cell? ⟨wr.heap.size, 3, none⟩ = some (.int .i64 stop) := cell_of_row _ _ 3 _ _ _ hx0
        have HX0 := Lib.hid hx0
        have HX2 := Lib.hid x2
        have HX3 := Lib.hid x3
        clear hbx hx0 x2 x3
        have n1 : decide (pos < m) = false := by simp; omega
        have n2 : decide (stop ≤ pos) = false := by simp; omega
        have n3 : decide (s.size < stop) = false := by simp; omega
        go_wp2
        go_region_held3 (fun w' => w'.cell? ⟨wr.heap.size, 2, none⟩ = some (.int .i64 pos) ∧ w'.cell? ⟨wr.heap.size, 3, none⟩ = some (.int .i64 stop))
          (first | exact ⟨(hc1 _ _ (by simp)).trans HX2.out, (hc1 _ _ (by simp)).trans HX3.out⟩ | go_keep)
          (first | (go_at_call 9; refine (Skip_to s m pos _ HGx.out (by omega) hm HQ1.out).mono ?_; rintro e w2 ⟨rfl, hb2⟩; obtain ⟨hc1, hf1⟩ := bcell hb2))
        have hb2' := HBX.out.drew.trans (hb2.mono HBX.out.size)
        have HG2 := Lib.hid (HG.out.below hb2')
        have HB2' := Lib.hid hb2'
        have HX4 := Lib.hid ((hb2.block wr.heap.size (by simp)).trans HX0.out)
        have hw2 : Below wr.heap.size wr w2 := (((Below.refl _ wr).alloc (Nat.le_refl _) _).drew).trans (hb2.mono (by simp))
        have HT2 := Lib.hid (HT.out.below hw2)
        have d0 : w2.cell? ⟨wr.heap.size, 0, none⟩ = some (.int .i8 kd) := cell_of_row _ _ 0 _ _ _ HX4.out
        have d1 : w2.cell? ⟨wr.heap.size, 1, none⟩ = some (.string (bytesL tx)) := cell_of_row _ _ 1 _ _ _ HX4.out
        have d2 : w2.cell? ⟨wr.heap.size, 2, none⟩ = some (.int .i64 pos) := cell_of_row _ _ 2 _ _ _ HX4.out
        have d3 : w2.cell? ⟨wr.heap.size, 3, none⟩ = some (.int .i64 stop) := cell_of_row _ _ 3 _ _ _ HX4.out
        clear hc1 hf1 hw2 hb2' c0 c1 c2 c3
        go_wp2_with fail
        refine (Next_alone s pos stop kd tx ((stop : Int) - pos) _ HG2.out (by omega) q2 q3 rfl HQ5.out).mono ?_
        rintro e w3 ⟨rfl, hb3⟩
        have hx5 : w3.heap[wr.heap.size]? = some (.cells #[.int .i8 kd, .string (bytesL tx), .int .i64 pos, .int .i64 stop] 29 (0, 0)) := (hb3.block _ (Array.getElem?_eq_some_iff.1 HX4.out).1).trans HX4.out
        have hlt5 : wr.heap.size < w3.heap.size := (Array.getElem?_eq_some_iff.1 hx5).1
        have k0 : w3.cell? ⟨wr.heap.size, 0, none⟩ = some (.int .i8 kd) := cell_of_row _ _ 0 _ _ _ hx5
        have k1 : w3.cell? ⟨wr.heap.size, 1, none⟩ = some (.string (bytesL tx)) := cell_of_row _ _ 1 _ _ _ hx5
        have k2 : w3.cell? ⟨wr.heap.size, 2, none⟩ = some (.int .i64 pos) := cell_of_row _ _ 2 _ _ _ hx5
        have k3 : w3.cell? ⟨wr.heap.size, 3, none⟩ = some (.int .i64 stop) := cell_of_row _ _ 3 _ _ _ hx5
        have HX5 := Lib.hid hx5
        have HB3 := Lib.hid hb3
        clear hx5 hb3 d0 d1 d2 d3
        go_wp2
        go_roundw
        case rel =>
          have hb23 := HB2'.out.trans (HB3.out.mono HB2'.out.size)
          refine ⟨k + 1, stop, by omega, by omega, rfl, by go_num, HQ4.out, hb23.alloc hb23.size _, (HT2.out.below HB3.out).below ((Below.refl _ _).alloc (Nat.le_refl _) _)⟩
        case measure => simp [intOf]; omega
      · obtain rfl : k = ts.length := by omega
        have hst : allL s.data.toList m = ([], p, ec) := by rw [HS.out, List.drop_length]
        obtain ⟨q1, q2⟩ := allL_nil (by rw [HL.out]; exact hm) hst
        rw [HL.out] at q2
        have HQ1 := Lib.hid q1.symm
        clear hst q1
        rcases q2 with ⟨rfl, rfl⟩ | ⟨rfl, hp⟩
        · go_wp2_with fail
          refine (Skip_to s m s.size _ HGr.out (by omega) hm HQ1.out).mono ?_
          rintro e w2 ⟨rfl, hb2⟩
          have HG2 := Lib.hid (HGr.out.below hb2)
          go_wp2_with fail
          refine (wakes_any _ HG2.out).mono ?_
          rintro e w3 ⟨rfl, hb3⟩
          go_wp2
          go_ret
          exact ⟨rfl, (hbel.trans (hb2.mono hbel.size)).trans (hb3.mono (Nat.le_trans hbel.size hb2.size))⟩
        · go_wp2_with fail
          refine (Skip_to s m p _ HGr.out (by omega) hm HQ1.out).mono ?_
          rintro e w2 ⟨rfl, hb2⟩
          have HG2 := Lib.hid (HGr.out.below hb2)
          go_wp2_with fail
          refine (wakes_any _ HG2.out).mono ?_
          rintro e w3 ⟨rfl, hb3⟩
          go_wp2
          go_ret
          exact ⟨rfl, (hbel.trans (hb2.mono hbel.size)).trans (hb3.mono (Nat.le_trans hbel.size hb2.size))⟩
theorem LexStands_w (w : World) (s : ByteArray) (_ : s.size ≤ maxLen) (hG : Globs w) :
    Calls Tryd.prog 3 #[.string s] w fun e w' => e = .returned (.bool true) ∧ Below w.heap.size w w' := LexStands_walk s w hG
end Go.Proofs.YtdpogjkfmncnlaaDoor
