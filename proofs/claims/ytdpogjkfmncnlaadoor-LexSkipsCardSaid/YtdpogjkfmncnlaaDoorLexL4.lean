/- What is skipped is skipped once, and has no token: the walk of the law LexSkips. -/
import Derived.Test.YtdpogjkfmncnlaaDoorLexWake
namespace Go.Proofs.YtdpogjkfmncnlaaDoor
open Go.RowKit
set_option maxHeartbeats 1000000 in
theorem LexSkips_walk (s : ByteArray) (at_ : Int) (w : World) (hG : Globs w) :
    Calls Tryd.prog 6 #[.string s, .int .i64 at_] w fun e w' => e = .returned (.bool true) ∧ Below w.heap.size w w' := by
  have HG := Lib.hid hG
  clear hG
  by_cases hbig : 2000 < s.size
  · go_enter Tryd.func6, Tryd.ntmps6
    go_wp2_with fail
    refine (wakes_any _ HG.out).mono ?_
    rintro e w1 ⟨rfl, hb1⟩
    go_wp2
    go_ret
    exact ⟨rfl, hb1⟩
  · have HL : Hid (s.data.toList.length = s.size) := by show _ = _; simp
    obtain ⟨m, hm, HM, hcase⟩ := clamp_cases at_ s.size
    obtain ⟨n, hn⟩ : ∃ n, skipA s.data.toList m = n := ⟨_, rfl⟩
    have hmn := skipA_le (l := s.data.toList) (k := m) (by rw [HL.out]; exact hm)
    rw [hn, HL.out] at hmn
    obtain ⟨hmn1, hmn2⟩ := hmn
    have HS1 : Hid (∀ W : World, Globs W → Calls Tryd.prog 9 #[.string s, .int .i64 at_] W fun e w' => e = .returned (.int .i64 (n : Int)) ∧ Below W.heap.size W w') := fun W hW => by
      have := Skip_any s at_ W hW (by omega)
      rw [HM.out, hn] at this
      exact this
    have HS2 : Hid (∀ W : World, Globs W → Calls Tryd.prog 9 #[.string s, .int .i64 n] W fun e w' => e = .returned (.int .i64 (n : Int)) ∧ Below W.heap.size W w') := fun W hW => by
      have := Skip_nat s n W hW (by omega) hmn2
      rw [← hn, skipA_idem, hn] at this
      exact this
    have HA : Hid (∀ (W : World) (q : Nat) (d : Int), q = m → d = (n : Int) - m → Globs W → Calls Tryd.prog 8 #[.string (s.extract q n)] W (AllRd [] d 0 W)) := fun W q d hq hd hW => by
      subst hq
      have := skips_all (l := s.data.toList) (m := q) (by rw [HL.out]; exact hm)
      rw [hn] at this
      exact All_to _ [] (n - q) 0 d 0 W hW (by simp; omega) (by rw [Lib.extract_data]; exact this) (by omega) rfl
    clear hn
    rcases hcase with ⟨h0, h1⟩ | ⟨rfl, h0⟩ | ⟨h0, h1, h2⟩ | ⟨h0, h1, h2⟩
    all_goals
      go_enter Tryd.func6, Tryd.ntmps6
      go_wp2_with fail
      refine (HS1.out _ HG.out).mono ?_
      rintro e w1 ⟨rfl, hb1⟩
      have HG1 := Lib.hid (HG.out.below hb1)
      go_wp2_with fail
      refine (HS2.out _ HG1.out).mono ?_
      rintro e w2 ⟨rfl, hb2⟩
      have HG2 := Lib.hid (HG1.out.below hb2)
      go_wp2_with fail
      first
      | with_reducible refine (HA.out _ 0 (n : Int) (by omega) (by omega) HG2.out).mono ?_
      | with_reducible refine (HA.out _ m ((n : Int) - m) (by omega) (by omega) HG2.out).mono ?_
      | with_reducible refine (HA.out _ s.size ((n : Int) - s.size) (by omega) (by omega) HG2.out).mono ?_
      rintro e w3 ⟨A, cap, rfl, _, _, hb3⟩
      have HG3 := Lib.hid (HG2.out.below hb3)
      go_wp2_with fail
      refine (wakes_any _ HG3.out).mono ?_
      rintro e w4 ⟨rfl, hb4⟩
      go_wp2
      go_ret
      exact ⟨rfl, ((hb1.trans (hb2.mono hb1.size)).trans (hb3.mono (Nat.le_trans hb1.size hb2.size))).trans (hb4.mono (Nat.le_trans (Nat.le_trans hb1.size hb2.size) hb3.size))⟩
theorem LexSkips_w (w : World) (s : ByteArray) (_ : s.size ≤ maxLen) (at_ : Int) (_ : (Lit.int .i64 at_).wf = true) (hG : Globs w) :
    Calls Tryd.prog 6 #[.string s, .int .i64 at_] w fun e w' => e = .returned (.bool true) ∧ Below w.heap.size w w' := LexSkips_walk s at_ w hG
end Go.Proofs.YtdpogjkfmncnlaaDoor
