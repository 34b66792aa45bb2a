/- What the document's heap does and is asked. -/
import Derived.Test.YtmgppnepccmceaaHrA
namespace Go.Proofs.Ytmgppnepccmceaa
open Go.RowKit
set_option linter.unusedVariables false
theorem ris_nil (x : Int) (w : World) : Calls Try.prog 31 #[.pointer none, .int .i64 x] w fun e w' => e = .returned (.bool false) ∧ w = w' := by
  go_enter Try.func31, Try.ntmps31
  go_wp2
  go_ret
  exact ⟨rfl, rfl⟩
theorem RPut_nil (x : Int) (w : World) : Calls Try.prog 12 #[.pointer none, .int .i64 x] w fun e w' => e = .returned (.int .i64 3) ∧ w = w' := by
  go_enter Try.func12, Try.ntmps12
  go_wp2
  go_ret
  exact ⟨rfl, rfl⟩
theorem RBump_nil (x b : Int) (w : World) : Calls Try.prog 16 #[.pointer none, .int .i64 x, .int .i64 b] w fun e w' => e = .returned (.int .i64 3) ∧ w = w' := by
  go_enter Try.func16, Try.ntmps16
  go_wp2
  go_ret
  exact ⟨rfl, rfl⟩
theorem RHalve_nil (w : World) : Calls Try.prog 18 #[.pointer none] w fun e w' => e = .returned (.tuple #[]) ∧ w = w' := by
  go_enter Try.func18, Try.ntmps18
  go_wp2
  refine bodyPost_ret (results_none rfl _ _ _) rfl ?_
  exact ⟨rfl, rfl⟩
theorem RPop_nil (w : World) : Calls Try.prog 14 #[.pointer none] w fun e w' => e = .returned (.tuple #[.int .i64 0, .bool false]) ∧ w = w' := by
  go_enter Try.func14, Try.ntmps14
  go_wp2
  go_ret2
  exact ⟨rfl, rfl⟩
theorem RHas_nil (x : Int) (w : World) : Calls Try.prog 24 #[.pointer none, .int .i64 x] w fun e w' => e = .returned (.bool false) ∧ w = w' := by
  have HM := Lib.hid (ris_nil x w)
  go_enter Try.func24, Try.ntmps24
  go_wp2_with (first | (go_at_call 31; with_reducible refine HM.out.mono ?_; rintro e w1 ⟨rfl, rfl⟩))
  go_ret
  exact ⟨rfl, rfl⟩
theorem RAct_nil (x : Int) (w : World) : Calls Try.prog 22 #[.pointer none, .int .i64 x] w fun e w' => e = .returned (.int .i64 0) ∧ w = w' := by
  have HM := Lib.hid (ris_nil x w)
  go_enter Try.func22, Try.ntmps22
  go_wp2_with (first | (go_at_call 31; with_reducible refine HM.out.mono ?_; rintro e w1 ⟨rfl, rfl⟩))
  go_ret
  exact ⟨rfl, rfl⟩
theorem RLen_nil (w : World) : Calls Try.prog 20 #[.pointer none] w fun e w' => e = .returned (.int .i64 0) ∧ w = w' := by
  go_enter Try.func20, Try.ntmps20
  go_wp2
  go_ret
  exact ⟨rfl, rfl⟩
theorem RSorted_nil (w : World) : Calls Try.prog 27 #[.pointer none] w fun e w' => e = .returned (.slice none 0 0) ∧ w = w' := by
  go_enter Try.func27, Try.ntmps27
  go_wp2
  go_ret
  exact ⟨rfl, rfl⟩
section
variable {w : World} {g ab bb : Nat} {A : List Int} {I : List Bool}
theorem ris_any (H : RX w g ab bb A I) (x : Int) {r : Bool} (hr : decide (0 ≤ x ∧ x < A.length) = r) : Calls Try.prog 31 #[.pointer (some ⟨g, 0, none⟩), .int .i64 x] w fun e w' => e = .returned (.bool r) ∧ w = w' := by
  obtain ⟨cb, c0, c1⟩ := H.head
  obtain ⟨n, hn⟩ : ∃ n, A.length = n := ⟨_, rfl⟩
  rw [hn] at hr c0
  have HR := Lib.hid hr
  clear H hr hn
  by_cases h0 : 0 ≤ x
  · by_cases h1 : x < (n : Int)
    · have HE : Hid (true = r) := by show _ = _; rw [← HR.out, decide_eq_true (⟨h0, h1⟩ : 0 ≤ x ∧ x < (n : Int))]
      go_enter Try.func31, Try.ntmps31
      go_wp2
      go_ret
      exact ⟨ret_bool HE.out, rfl⟩
    · have HE : Hid (false = r) := by show _ = _; rw [← HR.out, decide_eq_false (fun e => h1 e.2)]
      go_enter Try.func31, Try.ntmps31
      go_wp2
      go_ret
      exact ⟨ret_bool HE.out, rfl⟩
  · have HE : Hid (false = r) := by show _ = _; rw [← HR.out, decide_eq_false (fun e => h0 e.1)]
    go_enter Try.func31, Try.ntmps31
    go_wp2
    go_ret
    exact ⟨ret_bool HE.out, rfl⟩
end
theorem getD_setB {I : List Bool} {x y : Nat} {v : Bool} (hx : x < I.length) : (I.set x v).getD y false = if y = x then v else I.getD y false := by
  rw [List.getD_eq_getElem?_getD, List.getElem?_set]
  by_cases e : x = y
  · subst e; rw [if_pos rfl, if_pos rfl, if_pos hx]; rfl
  · rw [if_neg e, if_neg (fun h => e h.symm), List.getD_eq_getElem?_getD]
section
variable {w : World} {g ab bb : Nat} {s : St}
theorem RPut_q (H : RQ w g ab bb s) (x : Int) : Calls Try.prog 12 #[.pointer (some ⟨g, 0, none⟩), .int .i64 x] w fun e w' => e = .returned (.int .i64 (faultV s.A.length x)) ∧ Hid (RQ w' g ab bb (putS s x) ∧ Gr (Ot2 ab bb) w w') := by
  obtain ⟨I, H, hnd, hI⟩ := H
  obtain ⟨cb, c0, c1⟩ := H.head
  by_cases hx : 0 ≤ x ∧ x < s.A.length
  · obtain ⟨k, rfl⟩ : ∃ k : Nat, x = (k : Int) := ⟨x.toNat, by omega⟩
    have hk : k < s.A.length := by omega
    have hf : faultV s.A.length (k : Int) = 0 := by unfold faultV; rw [if_pos hx]
    rw [hf]
    have HM := Lib.hid (ris_any H (k : Int) (r := true) (decide_eq_true hx))
    obtain ⟨e1, f1⟩ := H.bcell hk
    obtain ⟨_, _, b3⟩ := H.blk
    have HN : Hid (RQ (w.setCell ⟨bb, k, none⟩ (.bool true)) g ab bb (putS s k) ∧ Gr (Ot2 ab bb) w (w.setCell ⟨bb, k, none⟩ (.bool true))) := by
      refine ⟨⟨I.set k true, by rw [putS_A]; exact H.setB k true hk, ?_, fun z => ?_⟩, (Gr.refl _ w).set (fun _ e => e.2 rfl) _⟩
      · unfold putS
        split
        · rename_i h
          show (s.S ++ [(k : Int).toNat]).Nodup
          rw [List.nodup_append]
          exact ⟨hnd, by simp, fun a ha b hb e => by simp at hb; subst hb; subst e; exact h.2.2 ha⟩
        · exact hnd
      · rw [putS_mem, getD_setB (by rw [H.len]; exact hk)]
        by_cases e : z = k
        · rw [if_pos e]
          exact ⟨fun _ => .inr ⟨hx.1, hx.2, e⟩, fun _ => rfl⟩
        · rw [if_neg e, hI z]
          exact ⟨fun h => .inl h, fun h => h.elim id (fun h => absurd h.2.2 e)⟩
    obtain ⟨v, hv⟩ : ∃ v, I.getD k false = v := ⟨_, rfl⟩
    rw [hv] at e1
    have hki : (k : Int) < (s.A.length : Int) := by omega
    clear H hI hv hf hx
    go_enter Try.func12, Try.ntmps12
    go_wp2_with (first | (go_at_call 31; with_reducible refine HM.out.mono ?_; rintro e w1 ⟨rfl, rfl⟩))
    go_ret
    exact ⟨rfl, HN.out⟩
  · have hf : faultV s.A.length x = 2 := by unfold faultV; rw [if_neg hx]
    rw [hf]
    have hp : putS s x = s := by unfold putS; rw [if_neg (fun e => hx ⟨e.1, e.2.1⟩)]
    rw [hp]
    have HM := Lib.hid (ris_any H x (r := false) (decide_eq_false hx))
    have HN : Hid (RQ w g ab bb s) := ⟨I, H, hnd, hI⟩
    clear H hI hf hx hp
    go_enter Try.func12, Try.ntmps12
    go_wp2_with (first | (go_at_call 31; with_reducible refine HM.out.mono ?_; rintro e w1 ⟨rfl, rfl⟩))
    go_ret
    exact ⟨rfl, HN.out, Gr.refl _ _⟩
theorem RBump_q (H : RQ w g ab bb s) (x b : Int) : Calls Try.prog 16 #[.pointer (some ⟨g, 0, none⟩), .int .i64 x, .int .i64 b] w fun e w' => e = .returned (.int .i64 (bumpE s.A.length x b)) ∧ Hid (RQ w' g ab bb (bumpS s x b) ∧ Gr (Ot2 ab bb) w w') := by
  obtain ⟨I, H, hnd, hI⟩ := H
  obtain ⟨cb, c0, c1⟩ := H.head
  by_cases hx : 0 ≤ x ∧ x < s.A.length
  · by_cases hb : 0 ≤ b ∧ b ≤ 1099511627776
    · have hbe : bumpE s.A.length x b = 0 := by unfold bumpE; rw [if_pos ⟨hx.1, hx.2, hb.1, hb.2⟩]
      have hbs : bumpS s x b = ⟨s.A.set x.toNat (min (s.A.getD x.toNat 0 + b) 1099511627776), s.S⟩ := by unfold bumpS; rw [if_pos ⟨hx.1, hx.2, hb.1, hb.2⟩]
      rw [hbe, hbs]
      obtain ⟨k, rfl⟩ : ∃ k : Nat, x = (k : Int) := ⟨x.toNat, by omega⟩
      have hk : k < s.A.length := by omega
      rw [show (k : Int).toNat = k from rfl]
      have HM := Lib.hid (ris_any H (k : Int) (r := true) (decide_eq_true hx))
      obtain ⟨e1, f1⟩ := H.acell hk
      obtain ⟨_, b2, _⟩ := H.blk
      obtain ⟨a0, a1⟩ := getD_act H.act k
      have HN : Hid (∀ v : Int, 0 ≤ v → v ≤ 1099511627776 → RQ (w.setCell ⟨ab, k, none⟩ (.int .i64 v)).drew g ab bb ⟨s.A.set k v, s.S⟩ ∧ Gr (Ot2 ab bb) w (w.setCell ⟨ab, k, none⟩ (.int .i64 v)).drew) := fun v h0 h1 =>
        ⟨⟨I, (H.setA k h0 h1).gr (P := fun _ => True) (Gr.refl _ _).drew trivial trivial trivial, hnd, hI⟩, ((Gr.refl _ w).set (fun _ e => e.1 rfl) _).drew⟩
      obtain ⟨a, ha⟩ : ∃ a, s.A.getD k 0 = a := ⟨_, rfl⟩
      rw [ha] at e1 a0 a1
      rw [ha]
      have hki : (k : Int) < (s.A.length : Int) := by omega
      have hb2 : ¬ b < 0 := by omega
      have hb3 : ¬ (1099511627776 : Int) < b := by omega
      clear H hI hbe hbs hx ha
      have HN1 := Lib.hid (HN.out (min (a + b) 1099511627776) (by omega) (by omega))
      clear HN
      go_enter Try.func16, Try.ntmps16
      go_wp2_with (first | (go_at_call 31; with_reducible refine HM.out.mono ?_; rintro e w1 ⟨rfl, rfl⟩))
      go_region
      all_goals go_wp2
      all_goals go_ret
      all_goals exact ⟨rfl, HN1.out⟩
    · have hbe : bumpE s.A.length x b = 2 := by unfold bumpE; rw [if_neg (fun e => hb ⟨e.2.2.1, e.2.2.2⟩)]
      have hbs : bumpS s x b = s := by unfold bumpS; rw [if_neg (fun e => hb ⟨e.2.2.1, e.2.2.2⟩)]
      rw [hbe, hbs]
      have HM := Lib.hid (ris_any H x (r := true) (decide_eq_true hx))
      have HN : Hid (RQ w g ab bb s) := ⟨I, H, hnd, hI⟩
      clear H hI hbe hbs hx
      by_cases h0 : b < 0
      · go_enter Try.func16, Try.ntmps16
        go_wp2_with (first | (go_at_call 31; with_reducible refine HM.out.mono ?_; rintro e w1 ⟨rfl, rfl⟩))
        go_ret
        exact ⟨rfl, HN.out, Gr.refl _ _⟩
      · have h1 : (1099511627776 : Int) < b := by omega
        go_enter Try.func16, Try.ntmps16
        go_wp2_with (first | (go_at_call 31; with_reducible refine HM.out.mono ?_; rintro e w1 ⟨rfl, rfl⟩))
        go_ret
        exact ⟨rfl, HN.out, Gr.refl _ _⟩
  · have hbe : bumpE s.A.length x b = 2 := by unfold bumpE; rw [if_neg (fun e => hx ⟨e.1, e.2.1⟩)]
    have hbs : bumpS s x b = s := by unfold bumpS; rw [if_neg (fun e => hx ⟨e.1, e.2.1⟩)]
    rw [hbe, hbs]
    have HM := Lib.hid (ris_any H x (r := false) (decide_eq_false hx))
    have HN : Hid (RQ w g ab bb s) := ⟨I, H, hnd, hI⟩
    clear H hI hbe hbs hx
    go_enter Try.func16, Try.ntmps16
    go_wp2_with (first | (go_at_call 31; with_reducible refine HM.out.mono ?_; rintro e w1 ⟨rfl, rfl⟩))
    go_ret
    exact ⟨rfl, HN.out, Gr.refl _ _⟩
theorem RAct_q (H : RQ w g ab bb s) (x : Int) {r : Int} (hr : actV s.A x = r) : Calls Try.prog 22 #[.pointer (some ⟨g, 0, none⟩), .int .i64 x] w fun e w' => e = .returned (.int .i64 r) ∧ w = w' := by
  obtain ⟨I, H, hnd, hI⟩ := H
  obtain ⟨cb, c0, c1⟩ := H.head
  by_cases hx : 0 ≤ x ∧ x < s.A.length
  · obtain ⟨k, rfl⟩ : ∃ k : Nat, x = (k : Int) := ⟨x.toNat, by omega⟩
    have hk : k < s.A.length := by omega
    have HM := Lib.hid (ris_any H (k : Int) (r := true) (decide_eq_true hx))
    obtain ⟨e1, f1⟩ := H.acell hk
    have e : s.A.getD k 0 = r := by rw [← hr]; unfold actV; rw [if_pos (by omega)]; rfl
    rw [e] at e1
    have hki : (k : Int) < (s.A.length : Int) := by omega
    clear H hI e hr hx
    go_enter Try.func22, Try.ntmps22
    go_wp2_with (first | (go_at_call 31; with_reducible refine HM.out.mono ?_; rintro e w1 ⟨rfl, rfl⟩))
    go_ret
    exact ⟨rfl, rfl⟩
  · have HM := Lib.hid (ris_any H x (r := false) (decide_eq_false hx))
    have HE : Hid ((0 : Int) = r) := by
      show _ = _
      rw [← hr]; unfold actV
      split
      · rw [List.getD_eq_getElem?_getD, List.getElem?_eq_none (by omega)]; rfl
      · rfl
    clear H hI hr hx
    go_enter Try.func22, Try.ntmps22
    go_wp2_with (first | (go_at_call 31; with_reducible refine HM.out.mono ?_; rintro e w1 ⟨rfl, rfl⟩))
    go_ret
    exact ⟨ret_int HE.out, rfl⟩
theorem rq_mem (H : RQ w g ab bb s) {x : Nat} (hx : x ∈ s.S) : x < s.A.length := by
  obtain ⟨I, H, _, hI⟩ := H
  have h1 := (hI x).2 hx
  rw [List.getD_eq_getElem?_getD] at h1
  cases e : I[x]? with
  | none => rw [e] at h1; cases h1
  | some v => rw [← H.len]; exact (List.getElem?_eq_some_iff.1 e).1
theorem RHas_q (H : RQ w g ab bb s) (x : Int) {r : Bool} (hr : hasV s x = r) : Calls Try.prog 24 #[.pointer (some ⟨g, 0, none⟩), .int .i64 x] w fun e w' => e = .returned (.bool r) ∧ w = w' := by
  have hmem : ∀ z, z ∈ s.S → z < s.A.length := fun z hz => rq_mem H hz
  obtain ⟨I, H, hnd, hI⟩ := H
  obtain ⟨cb, c0, c1⟩ := H.head
  by_cases hx : 0 ≤ x ∧ x < s.A.length
  · obtain ⟨k, rfl⟩ : ∃ k : Nat, x = (k : Int) := ⟨x.toNat, by omega⟩
    have hk : k < s.A.length := by omega
    have HM := Lib.hid (ris_any H (k : Int) (r := true) (decide_eq_true hx))
    obtain ⟨e1, f1⟩ := H.bcell hk
    have e : I.getD k false = r := by
      rw [← hr]
      unfold hasV
      have h2 := hI k
      by_cases hm : k ∈ s.S
      · rw [h2.2 hm, decide_eq_true (⟨by omega, hm⟩ : 0 ≤ (k : Int) ∧ (k : Int).toNat ∈ s.S)]
      · rw [decide_eq_false (fun e => hm e.2)]
        cases e : I.getD k false with
        | false => rfl
        | true => exact absurd (h2.1 e) hm
    rw [e] at e1
    have hki : (k : Int) < (s.A.length : Int) := by omega
    clear H hI e hr hx
    go_enter Try.func24, Try.ntmps24
    go_wp2_with (first | (go_at_call 31; with_reducible refine HM.out.mono ?_; rintro e w1 ⟨rfl, rfl⟩))
    go_ret
    exact ⟨rfl, rfl⟩
  · have HM := Lib.hid (ris_any H x (r := false) (decide_eq_false hx))
    have HE : Hid (false = r) := by
      show _ = _
      rw [← hr]
      unfold hasV
      exact (decide_eq_false (fun e => hx ⟨e.1, by have := hmem _ e.2; omega⟩)).symm
    clear H hI hr hx
    go_enter Try.func24, Try.ntmps24
    go_wp2_with (first | (go_at_call 31; with_reducible refine HM.out.mono ?_; rintro e w1 ⟨rfl, rfl⟩))
    go_ret
    exact ⟨ret_bool HE.out, rfl⟩
end
end Go.Proofs.Ytmgppnepccmceaa
