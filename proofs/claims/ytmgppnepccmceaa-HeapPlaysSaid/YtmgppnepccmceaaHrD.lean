/- The document's heap: popped. -/
import Derived.Test.YtmgppnepccmceaaHrC
namespace Go.Proofs.Ytmgppnepccmceaa
open Go.RowKit
set_option linter.unusedVariables false
/-- The first among the first i. -/
def BestTo (A : List Int) (I : List Bool) (i : Nat) (v : Int) : Prop := (v = -1 ∧ ∀ y, y < i → I.getD y false = false) ∨ ∃ x : Nat, v = x ∧ x < i ∧ I.getD x false = true ∧ ∀ y, y < i → I.getD y false = true → keyA A x ≤ keyA A y
theorem best_zero (A : List Int) (I : List Bool) : BestTo A I 0 (-1) := .inl ⟨rfl, fun y hy => absurd hy (Nat.not_lt_zero y)⟩
theorem best_skip {A : List Int} {I : List Bool} {i : Nat} {v : Int} (h : BestTo A I i v) (hi : I.getD i false = false) : BestTo A I (i + 1) v := by
  rcases h with ⟨h1, h2⟩ | ⟨x, h1, h2, h3, h4⟩
  · refine .inl ⟨h1, fun y hy => ?_⟩
    rcases Nat.lt_succ_iff_lt_or_eq.1 hy with h | rfl
    · exact h2 y h
    · exact hi
  · refine .inr ⟨x, h1, by omega, h3, fun y hy hyt => ?_⟩
    rcases Nat.lt_succ_iff_lt_or_eq.1 hy with h | rfl
    · exact h4 y h hyt
    · rw [hi] at hyt; cases hyt
theorem best_first {A : List Int} {I : List Bool} {i : Nat} (h : ∀ y, y < i → I.getD y false = false) (hi : I.getD i false = true) : BestTo A I (i + 1) i := by
  refine .inr ⟨i, rfl, by omega, hi, fun y hy hyt => ?_⟩
  rcases Nat.lt_succ_iff_lt_or_eq.1 hy with h' | rfl
  · rw [h y h'] at hyt; cases hyt
  · exact Int.le_refl _
theorem best_better {A : List Int} {I : List Bool} {i x : Nat} (h : ∀ y, y < i → I.getD y false = true → keyA A x ≤ keyA A y) (hi : I.getD i false = true) (hk : keyA A i < keyA A x) : BestTo A I (i + 1) i := by
  refine .inr ⟨i, rfl, by omega, hi, fun y hy hyt => ?_⟩
  rcases Nat.lt_succ_iff_lt_or_eq.1 hy with h' | rfl
  · have := h y h' hyt; omega
  · exact Int.le_refl _
theorem best_worse {A : List Int} {I : List Bool} {i x : Nat} (hx : x < i) (hxI : I.getD x false = true) (h : ∀ y, y < i → I.getD y false = true → keyA A x ≤ keyA A y) (hk : keyA A x ≤ keyA A i) : BestTo A I (i + 1) x := by
  refine .inr ⟨x, rfl, by omega, hxI, fun y hy hyt => ?_⟩
  rcases Nat.lt_succ_iff_lt_or_eq.1 hy with h' | rfl
  · exact h y h' hyt
  · exact hk
section
variable {w : World} {g ab bb : Nat} {s : St}
set_option maxHeartbeats 1000000 in
theorem RPop_q (H : RQ w g ab bb s) : Calls Try.prog 14 #[.pointer (some ⟨g, 0, none⟩)] w fun e w' => e = .returned (.tuple #[.int .i64 (popV s), .bool (popB s)]) ∧ Hid (RQ w' g ab bb (popS s) ∧ Gr (fun k => k ≠ bb) w w') := by
  have hmem : ∀ z, z ∈ s.S → z < s.A.length := fun z hz => rq_mem H hz
  obtain ⟨I, H, hnd, hI⟩ := H
  have HS := Lib.hid (show s.S.Nodup ∧ (∀ x, I.getD x false = true ↔ x ∈ s.S) ∧ ∀ z, z ∈ s.S → z < s.A.length from ⟨hnd, hI, hmem⟩)
  have HX1 := Lib.hid H
  have hle := H.le
  obtain ⟨cb, c0, c1⟩ := H.head
  obtain ⟨n, hnA⟩ : ∃ n, s.A.length = n := ⟨_, rfl⟩
  have HNA := Lib.hid hnA
  rw [hnA] at hle c0 c1
  have HB0 : Hid (BestTo s.A I 0 (-1)) := best_zero _ _
  have HG0 : Hid (Gr (fun _ => True) w w) := Gr.refl _ _
  clear H hnA hI hnd hmem
  go_enter Try.func14, Try.ntmps14
  go_wp2
  go_loopw [4, 5] (fun bv iv wr => ∃ (i : Nat) (v : Int), i ≤ n ∧ iv = .int .i64 i ∧ bv = .int .i64 v ∧ Hid (BestTo s.A I i v) ∧ Hid (Gr (fun _ => True) w wr)) (fun _ iv _ => n - (intOf iv).toNat)
  case atStart => exact ⟨0, -1, by omega, rfl, rfl, HB0, HG0⟩
  case round =>
    clear HB0 HG0 c0 c1
    obtain ⟨i, v, hi, rfl, rfl, HB, HG⟩ := hrel
    have HR := Lib.hid (HX1.out.gr HG.out trivial trivial trivial)
    obtain ⟨cb, c0, c1⟩ := HR.out.head
    rw [HNA.out] at c0 c1
    by_cases hin : i < n
    · have hiA : i < s.A.length := by rw [HNA.out]; exact hin
      obtain ⟨e1, f1⟩ := HR.out.bcell hiA
      obtain ⟨e2, f2⟩ := HR.out.acell hiA
      have hini : (i : Int) < (n : Int) := by omega
      cases hv : I.getD i false with
      | false =>
        rw [hv] at e1
        have HN : Hid (BestTo s.A I (i + 1) v) := best_skip HB.out hv
        clear HB HR hv e2 hiA
        go_wp2_with fail
        go_quiet (fail)
        go_wp2
        go_roundw
        case rel => exact ⟨i + 1, v, by omega, by go_num, rfl, HN, HG.out.drewN _⟩
        case measure => simp [intOf]; omega
      | true =>
        rw [hv] at e1
        rcases HB.out with ⟨rfl, h0⟩ | ⟨x, rfl, hx, h1, h2⟩
        · have HN : Hid (BestTo s.A I (i + 1) i) := best_first h0 hv
          have hd : decide ((-1 : Int) < 0) = true := by decide
          clear HB HR hv e2 hiA h0
          go_wp2_with fail
          go_quiet (fail)
          go_wp2
          go_roundw
          case rel => exact ⟨i + 1, i, by omega, by go_num, rfl, HN, HG.out.drewN _⟩
          case measure => simp [intOf]; omega
        · have hxA : x < s.A.length := by omega
          obtain ⟨e3, f3⟩ := HR.out.acell hxA
          have hd : decide ((x : Int) < 0) = false := decide_eq_false (by omega)
          have hd0 : ¬ (x : Int) < 0 := by omega
          have hxn : (x : Int) < (n : Int) := by omega
          have hk := key_lt (A := s.A) (x := i) (y := x) (by omega) (by omega)
          obtain ⟨a, ha⟩ : ∃ a, s.A.getD i 0 = a := ⟨_, rfl⟩
          obtain ⟨b, hb⟩ : ∃ b, s.A.getD x 0 = b := ⟨_, rfl⟩
          rw [ha, hb] at hk
          rw [ha] at e2
          rw [hb] at e3
          by_cases hab : b < a
          · have HN : Hid (BestTo s.A I (i + 1) i) := best_better h2 hv (hk.2 (.inl hab))
            have hdab : decide (b < a) = true := decide_eq_true hab
            clear HB HR hv hiA h1 h2 hk ha hb hxA
            go_wp2_with fail
            go_quiet (fail)
            go_wp2
            go_roundw
            case rel => exact ⟨i + 1, i, by omega, by go_num, rfl, HN, HG.out.drewN _⟩
            case measure => simp [intOf]; omega
          · have HN : Hid (BestTo s.A I (i + 1) x) := best_worse hx h1 h2 (Int.not_lt.1 (fun e => by rcases hk.1 e with h | ⟨_, h⟩ <;> omega))
            have hdab : decide (b < a) = false := decide_eq_false hab
            clear HB HR hv hiA h1 h2 hk ha hb hxA
            go_wp2_with fail
            go_quiet (fail)
            go_wp2
            go_roundw
            case rel => exact ⟨i + 1, x, by omega, by go_num, rfl, HN, HG.out.drewN _⟩
            case measure => simp [intOf]; omega
    · have hni : ¬ (i : Int) < (n : Int) := by omega
      have hie : i = s.A.length := by rw [HNA.out]; omega
      rcases HB.out with ⟨rfl, h0⟩ | ⟨x, rfl, hx, h1, h2⟩
      · have hS : s.S = [] := List.eq_nil_iff_forall_not_mem.2 (fun z hz => by
          have := (HS.out.2.1 z).2 hz
          rw [h0 z (by rw [hie]; exact HS.out.2.2 z hz)] at this
          cases this)
        have hb : bestN s.A s.S = none := by rw [hS]; rfl
        have HE : Hid ((0 : Int) = popV s ∧ false = popB s ∧ RQ wr g ab bb (popS s) ∧ Gr (fun k => k ≠ bb) w wr) := by
          unfold popV popB popS
          rw [hb]
          exact ⟨rfl, rfl, ⟨I, HR.out, HS.out.1, HS.out.2.1⟩, HG.out.mono (fun _ _ _ => trivial)⟩
        clear HB HR HG h0 hS hb HX1
        go_wp2
        go_ret2
        exact ⟨by rw [← HE.out.1, ← HE.out.2.1]; rfl, HE.out.2.2⟩
      · have hxS := (HS.out.2.1 x).1 h1
        have hb : bestN s.A s.S = some x := best_is (fun z hz => by have := HS.out.2.2 z hz; rw [HNA.out] at this; omega) hxS (fun z hz => h2 z (by rw [hie]; exact HS.out.2.2 z hz) ((HS.out.2.1 z).2 hz))
        have hxA : x < s.A.length := HS.out.2.2 x hxS
        obtain ⟨e1, f1⟩ := HR.out.bcell hxA
        obtain ⟨_, _, b3⟩ := HR.out.blk
        have HE : Hid ((x : Int) = popV s ∧ true = popB s ∧ RQ (wr.setCell ⟨bb, x, none⟩ (.bool false)) g ab bb (popS s) ∧ Gr (fun k => k ≠ bb) w (wr.setCell ⟨bb, x, none⟩ (.bool false))) := by
          unfold popV popB popS
          rw [hb]
          refine ⟨rfl, rfl, ⟨I.set x false, HR.out.setB x false hxA, HS.out.1.erase x, fun z => ?_⟩, (HG.out.mono (fun _ _ _ => trivial)).set (fun _ e => e rfl) _⟩
          show _ ↔ z ∈ s.S.erase x
          rw [HS.out.1.mem_erase_iff, getD_setB (by rw [HR.out.len]; exact hxA)]
          by_cases e : z = x
          · rw [if_pos e]
            exact ⟨fun h => (by cases h), fun h => absurd e h.1⟩
          · rw [if_neg e, HS.out.2.1 z]
            exact ⟨fun h => ⟨e, h⟩, fun h => h.2⟩
        have hd0 : ¬ (x : Int) < 0 := by omega
        have hxn : (x : Int) < (n : Int) := by rw [HNA.out] at hxA; omega
        clear HB HR HG h1 h2 hxS hb hxA HX1 HS
        go_wp2
        go_ret2
        exact ⟨by rw [← HE.out.1, ← HE.out.2.1]; rfl, HE.out.2.2⟩
end
end Go.Proofs.Ytmgppnepccmceaa
