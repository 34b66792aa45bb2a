/- One that is out stays out; the child that is ahead. -/
import Derived.Test.YtmgppnepccmceaaHpF
namespace Go.Proofs.Ytmgppnepccmceaa
open Go.RowKit
set_option linter.unusedVariables false
section
variable {w : World} {h t nb ib : Nat} {A : List Int} {pl : Nat → Int} {L : List Nat}
set_option maxRecDepth 100000 in
theorem up_out (H : HX w h t nb ib A (plc L) L) {x : Nat} (hx : x < A.length) (hxL : x ∉ L) :
    Calls Try.prog 30 #[.pointer (some ⟨t, 0, none⟩), .pointer (some ⟨nb, x * 3, none⟩)] w fun e w' => e = .returned (.tuple #[]) ∧ HX w' h t nb ib A (plc L) L ∧ Gr (Oth t nb ib) w w' := by
  have mixed : Try.prog.follows .mixedOrders = true := by kernel_rfl
  have H0 : Hid (∀ n os, HX (Sort.grow (w.drewN n) os) h t nb ib A (plc L) L ∧ Gr (Oth t nb ib) w (Sort.grow (w.drewN n) os)) := fun n os => ⟨H.grown n os, ((Gr.refl _ w).drewN n).grow os⟩
  have z0 : ∀ n os, (Sort.grow (w.drewN n) os).cell? ⟨nb, x * 3 + 2, none⟩ = some (.int .i32 (-1)) := fun n os => by rw [← plc_out hxL]; exact (H.grown n os).pc hx
  clear H hxL
  go_enter Try.func30, Try.ntmps30
  go_wp2
  go_loopw [] (fun wr => wr = w) (fun wr => 0)
  case atStart => rfl
  case round =>
    obtain rfl := hrel
    go_wp2_with fail
    refine wp_region_quiet_grown (by assumption) (by kernel_rfl) ?_
    repeat (go_big_quiet_step (fail))
    refine wpQuiet_nil ?_
    intro _ hw'
    obtain ⟨⟨nq, osq⟩, hw''⟩ := hw'
    subst hw''
    dsimp only
    go_wp2
    go_end0
    exact ⟨rfl, H0.out _ _⟩
set_option maxRecDepth 100000 in
theorem next_none (H : HX w h t nb ib A (plc L) L) (hn : L.Nodup) {x k : Nat} (hk : k < L.length) (hx : nodeAt L k = x) (h2 : L.length ≤ 2 * k + 1) :
    Calls Try.prog 39 #[.pointer (some ⟨t, 0, none⟩), .pointer (some ⟨nb, x * 3, none⟩)] w fun e w' => e = .returned (.pointer none) ∧ ∃ q os, w' = Sort.grow (w.drewN q) os := by
  have mixed : Try.prog.follows .mixedOrders = true := by kernel_rfl
  have hxA : x < A.length := by rw [← hx]; exact H.lt _ (nodeAt_mem hk)
  have hle := H.le
  have hll := H.lens
  have z0 : ∀ n os, (Sort.grow (w.drewN n) os).cell? ⟨nb, x * 3 + 2, none⟩ = some (.int .i32 k) := fun n os => by rw [← plc_at hn hk, hx]; exact (H.grown n os).pc hxA
  have t1 : ∀ n os, (Sort.grow (w.drewN n) os).cell? ⟨t, 1, none⟩ = some (.slice (some ⟨ib, 0, none⟩) L.length A.length) := fun n os => (H.grown n os).tree.2.1
  have HCh : Hid (∀ W, Calls Try.prog 45 #[.int .i32 k] W fun e w' => e = .returned (.int .i32 ((k : Int) * 2 + 1)) ∧ W = w') := fun W => child_any k W (by omega)
  obtain ⟨c, hc⟩ : ∃ c, L.length = c := ⟨_, rfl⟩
  obtain ⟨a, ha⟩ : ∃ a, A.length = a := ⟨_, rfl⟩
  rw [hc, ha] at t1
  have hca : c ≤ a := by omega
  have ha3 : a ≤ 300 := by omega
  have hkc : k < c := by omega
  have hci : (c : Int) ≤ (a : Int) := by omega
  have m1 : (if (c : Int) < (k : Int) * 2 + 1 then (c : Int) else (k : Int) * 2 + 1) = (c : Int) := by split <;> omega
  clear H hn hx hk h2 hxA hle hll hc ha
  by_cases hac : a = c
  · subst hac
    go_enter Try.func39, Try.ntmps39
    go_wp2_with fail
    refine wp_region_quiet_grown (by assumption) (by kernel_rfl) ?_
    repeat (go_big_quiet_step ((first | (go_at_call 45; exact Calls.grown_same (HCh.out _)))))
    refine wpQuiet_nil ?_
    intro _ hw'
    obtain ⟨⟨nq, osq⟩, hw''⟩ := hw'
    subst hw''
    dsimp only
    go_wp2
    go_ret
    exact ⟨rfl, _, _, rfl⟩
  · go_enter Try.func39, Try.ntmps39
    go_wp2_with fail
    refine wp_region_quiet_grown (by assumption) (by kernel_rfl) ?_
    repeat (go_big_quiet_step ((first | (go_at_call 45; exact Calls.grown_same (HCh.out _)))))
    refine wpQuiet_nil ?_
    intro _ hw'
    obtain ⟨⟨nq, osq⟩, hw''⟩ := hw'
    subst hw''
    dsimp only
    go_wp2
    go_ret
    exact ⟨rfl, _, _, rfl⟩
theorem grow_two (w : World) (n m : Nat) (o p : Array Obj) : Sort.grow ((Sort.grow (w.drewN n) o).drewN m) p = Sort.grow (w.drewN (n + m)) (o ++ p) := by
  rw [← World.drewN_drewN, ← Sort.grow_grow]; rfl
set_option maxRecDepth 100000 in
theorem next_one (H : HX w h t nb ib A (plc L) L) (hn : L.Nodup) {x k y : Nat} (hk : k < L.length) (hx : nodeAt L k = x) (h2 : L.length = 2 * k + 2) (hy : nodeAt L (2 * k + 1) = y) :
    Calls Try.prog 39 #[.pointer (some ⟨t, 0, none⟩), .pointer (some ⟨nb, x * 3, none⟩)] w fun e w' => e = .returned (.pointer (some ⟨nb, y * 3, none⟩)) ∧ ∃ q os, w' = Sort.grow (w.drewN q) os := by
  have mixed : Try.prog.follows .mixedOrders = true := by kernel_rfl
  have hxA : x < A.length := by rw [← hx]; exact H.lt _ (nodeAt_mem hk)
  have hle := H.le
  have hll := H.lens
  have z0 : ∀ n os, (Sort.grow (w.drewN n) os).cell? ⟨nb, x * 3 + 2, none⟩ = some (.int .i32 k) := fun n os => by rw [← plc_at hn hk, hx]; exact (H.grown n os).pc hxA
  have t1 : ∀ n os, (Sort.grow (w.drewN n) os).cell? ⟨t, 1, none⟩ = some (.slice (some ⟨ib, 0, none⟩) L.length A.length) := fun n os => (H.grown n os).tree.2.1
  have HCh : Hid (∀ W, Calls Try.prog 45 #[.int .i32 k] W fun e w' => e = .returned (.int .i32 ((k : Int) * 2 + 1)) ∧ W = w') := fun W => child_any k W (by omega)
  have HI : Hid (∀ W, HX W h t nb ib A (plc L) L → W.cell? ⟨ib, k * 2 + 1, none⟩ = some (.pointer (some ⟨nb, y * 3, none⟩))) := fun W HW => by
    rw [← hy, Nat.mul_comm k 2]; exact (HW.inc (by omega)).1
  have HH := Lib.hid H
  obtain ⟨c, hc⟩ : ∃ c, L.length = c := ⟨_, rfl⟩
  obtain ⟨a, ha⟩ : ∃ a, A.length = a := ⟨_, rfl⟩
  rw [hc, ha] at t1
  have hca : c ≤ a := by omega
  have ha3 : a ≤ 300 := by omega
  have hkc : k < c := by omega
  have hci : (c : Int) ≤ (a : Int) := by omega
  have m1 : ¬ (c : Int) < (k : Int) * 2 + 1 := by omega
  have hac : ¬ a = k * 2 + 1 := by omega
  have hjc : (k : Int) * 2 + 1 ≤ (c : Int) := by omega
  have hjn : k * 2 + 1 ≤ c := by omega
  have hcj : c - (k * 2 + 1) = 1 := by omega
  clear H hn hx hk h2 hxA hle hll hc ha hy
  go_enter Try.func39, Try.ntmps39
  go_wp2_with fail
  refine wp_region_quiet_grown (by assumption) (by kernel_rfl) ?_
  repeat (go_big_quiet_step ((first | (go_at_call 45; exact Calls.grown_same (HCh.out _)))))
  refine wpQuiet_nil ?_
  intro _ hw'
  obtain ⟨⟨n1, o1⟩, hw''⟩ := hw'
  subst hw''
  dsimp only
  go_wp2_with fail
  refine wp_region_quiet_grown (by assumption) (by kernel_rfl) ?_
  repeat (go_big_quiet_step (fail))
  refine wpQuiet_nil ?_
  intro _ hw'
  obtain ⟨⟨nq, osq⟩, hw''⟩ := hw'
  subst hw''
  dsimp only
  have i2 := HI.out _ ((HH.out.grown n1 o1).grown nq osq)
  go_wp2
  go_ret
  exact ⟨rfl, _, _, grow_two _ _ _ _ _⟩
def kidN (A : List Int) (L : List Nat) (k : Nat) : Nat := if keyA A (nodeAt L (2 * k + 2)) < keyA A (nodeAt L (2 * k + 1)) then 2 * k + 2 else 2 * k + 1
set_option maxRecDepth 100000 in
theorem next_two (H : HX w h t nb ib A (plc L) L) (hn : L.Nodup) {x k y : Nat} (hk : k < L.length) (hx : nodeAt L k = x) (h2 : 2 * k + 2 < L.length) (hy : nodeAt L (kidN A L k) = y) :
    Calls Try.prog 39 #[.pointer (some ⟨t, 0, none⟩), .pointer (some ⟨nb, x * 3, none⟩)] w fun e w' => e = .returned (.pointer (some ⟨nb, y * 3, none⟩)) ∧ ∃ q os, w' = Sort.grow (w.drewN q) os := by
  have mixed : Try.prog.follows .mixedOrders = true := by kernel_rfl
  have hxA : x < A.length := by rw [← hx]; exact H.lt _ (nodeAt_mem hk)
  have hle := H.le
  have hll := H.lens
  have z0 : ∀ n os, (Sort.grow (w.drewN n) os).cell? ⟨nb, x * 3 + 2, none⟩ = some (.int .i32 k) := fun n os => by rw [← plc_at hn hk, hx]; exact (H.grown n os).pc hxA
  have t1 : ∀ n os, (Sort.grow (w.drewN n) os).cell? ⟨t, 1, none⟩ = some (.slice (some ⟨ib, 0, none⟩) L.length A.length) := fun n os => (H.grown n os).tree.2.1
  have HCh : Hid (∀ W, Calls Try.prog 45 #[.int .i32 k] W fun e w' => e = .returned (.int .i32 ((k : Int) * 2 + 1)) ∧ W = w') := fun W => child_any k W (by omega)
  obtain ⟨u, hu⟩ : ∃ u, nodeAt L (2 * k + 1) = u := ⟨_, rfl⟩
  obtain ⟨v, hv⟩ : ∃ v, nodeAt L (2 * k + 2) = v := ⟨_, rfl⟩
  have huA : u < A.length := by rw [← hu]; exact H.lt _ (nodeAt_mem (by omega))
  have hvA : v < A.length := by rw [← hv]; exact H.lt _ (nodeAt_mem h2)
  have HI : Hid (∀ W, HX W h t nb ib A (plc L) L → W.cell? ⟨ib, k * 2 + 1, none⟩ = some (.pointer (some ⟨nb, u * 3, none⟩)) ∧ W.cell? ⟨ib, k * 2 + 1 + 1, none⟩ = some (.pointer (some ⟨nb, v * 3, none⟩))) := fun W HW => by
    rw [← hu, ← hv, Nat.mul_comm k 2]; exact ⟨(HW.inc (by omega)).1, (HW.inc (by omega)).1⟩
  obtain ⟨r, hr⟩ : ∃ r, decide (keyA A v < keyA A u) = r := ⟨_, rfl⟩
  have HAh : Hid (∀ W, HX W h t nb ib A (plc L) L → ∀ n os, Calls Try.prog 37 #[.pointer (some ⟨nb, v * 3, none⟩), .pointer (some ⟨nb, u * 3, none⟩)] (Sort.grow (W.drewN n) os) fun e w'' => e = .returned (.bool r) ∧ ∃ p : GrownBy, w'' = Sort.grow (W.drewN p.n) p.os) := fun W HW n os => Calls.grown_of (ahead_any (HW.grown n os) hvA huA hr)
  have HY : Hid ((if r = true then v else u) = y) := by
    show _ = _
    rw [← hy, ← hr]
    unfold kidN
    rw [hu, hv]
    by_cases e : keyA A v < keyA A u
    · rw [if_pos e, if_pos (decide_eq_true e), hv]
    · rw [if_neg e, if_neg (by rw [decide_eq_false e]; exact Bool.false_ne_true), hu]
  have HH := Lib.hid H
  obtain ⟨c, hc⟩ : ∃ c, L.length = c := ⟨_, rfl⟩
  obtain ⟨a, ha⟩ : ∃ a, A.length = a := ⟨_, rfl⟩
  rw [hc, ha] at t1
  have hca : c ≤ a := by omega
  have ha3 : a ≤ 300 := by omega
  have hkc : k < c := by omega
  have hci : (c : Int) ≤ (a : Int) := by omega
  have m1 : ¬ (c : Int) < (k : Int) * 2 + 1 := by omega
  have hac : ¬ a = k * 2 + 1 := by omega
  have hjc : (k : Int) * 2 + 1 ≤ (c : Int) := by omega
  have hjn : k * 2 + 1 ≤ c := by omega
  obtain ⟨j, hcj⟩ : ∃ j, c - (k * 2 + 1) = j := ⟨_, rfl⟩
  have hj2 : 2 ≤ j := by omega
  have hj3 : ((j : Int) == 0) = false := by simp; omega
  have hj4 : decide (1 < (j : Int)) = true := decide_eq_true (by omega)
  have hj5 : (1 : Int) < (j : Int) := by omega
  have hj6 : (0 : Int) < (j : Int) := by omega
  clear H hn hx hk h2 hxA hle hll hc ha hy hr hu hv huA hvA
  cases r
  · go_enter Try.func39, Try.ntmps39
    go_wp2_with fail
    refine wp_region_quiet_grown (by assumption) (by kernel_rfl) ?_
    repeat (go_big_quiet_step ((first | (go_at_call 45; exact Calls.grown_same (HCh.out _)))))
    refine wpQuiet_nil ?_
    intro _ hw'
    obtain ⟨⟨n1, o1⟩, hw''⟩ := hw'
    subst hw''
    dsimp only
    obtain ⟨W, hW⟩ : ∃ W, Sort.grow (w.drewN n1) o1 = W := ⟨_, rfl⟩
    have HW : Hid (HX W h t nb ib A (plc L) L) := by rw [← hW]; exact HH.out.grown _ _
    have q1 : ∀ n os, (Sort.grow (W.drewN n) os).cell? ⟨ib, k * 2 + 1, none⟩ = some (.pointer (some ⟨nb, u * 3, none⟩)) := fun n os => (HI.out _ (HW.out.grown n os)).1
    have q2 : ∀ n os, (Sort.grow (W.drewN n) os).cell? ⟨ib, k * 2 + 1 + 1, none⟩ = some (.pointer (some ⟨nb, v * 3, none⟩)) := fun n os => (HI.out _ (HW.out.grown n os)).2
    have HA2 := Lib.hid (HAh.out W HW.out)
    rw [hW]
    have HW2 := Lib.hid hW
    clear hW HAh
    go_wp2_with fail
    refine wp_region_quiet_grown (by assumption) (by kernel_rfl) ?_
    repeat (go_big_quiet_step ((first | (go_at_call 37; exact HA2.out _ _))))
    refine wpQuiet_nil ?_
    intro _ hw'
    obtain ⟨⟨nq, osq⟩, hw''⟩ := hw'
    subst hw''
    dsimp only
    have i2 := q1 nq osq
    go_wp2
    go_ret
    rw [show u = y from HY.out]
    exact ⟨rfl, _, _, by rw [← HW2.out, grow_two]⟩
  · go_enter Try.func39, Try.ntmps39
    go_wp2_with fail
    refine wp_region_quiet_grown (by assumption) (by kernel_rfl) ?_
    repeat (go_big_quiet_step ((first | (go_at_call 45; exact Calls.grown_same (HCh.out _)))))
    refine wpQuiet_nil ?_
    intro _ hw'
    obtain ⟨⟨n1, o1⟩, hw''⟩ := hw'
    subst hw''
    dsimp only
    obtain ⟨W, hW⟩ : ∃ W, Sort.grow (w.drewN n1) o1 = W := ⟨_, rfl⟩
    have HW : Hid (HX W h t nb ib A (plc L) L) := by rw [← hW]; exact HH.out.grown _ _
    have q1 : ∀ n os, (Sort.grow (W.drewN n) os).cell? ⟨ib, k * 2 + 1, none⟩ = some (.pointer (some ⟨nb, u * 3, none⟩)) := fun n os => (HI.out _ (HW.out.grown n os)).1
    have q2 : ∀ n os, (Sort.grow (W.drewN n) os).cell? ⟨ib, k * 2 + 1 + 1, none⟩ = some (.pointer (some ⟨nb, v * 3, none⟩)) := fun n os => (HI.out _ (HW.out.grown n os)).2
    have HA2 := Lib.hid (HAh.out W HW.out)
    rw [hW]
    have HW2 := Lib.hid hW
    clear hW HAh
    go_wp2_with fail
    refine wp_region_quiet_grown (by assumption) (by kernel_rfl) ?_
    repeat (go_big_quiet_step ((first | (go_at_call 37; exact HA2.out _ _))))
    refine wpQuiet_nil ?_
    intro _ hw'
    obtain ⟨⟨nq, osq⟩, hw''⟩ := hw'
    subst hw''
    dsimp only
    have i2 := q2 nq osq
    go_wp2
    go_ret
    rw [show v = y from HY.out]
    exact ⟨rfl, _, _, by rw [← HW2.out, grow_two]⟩
end
end Go.Proofs.Ytmgppnepccmceaa
