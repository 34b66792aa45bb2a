/- Bump. -/
import Derived.Test.YtmgppnepccmceaaHpJ
namespace Go.Proofs.Ytmgppnepccmceaa
open Go.RowKit
set_option linter.unusedVariables false
theorem key_set {A : List Int} {x : Nat} {v : Int} (hx : x < A.length) (y : Nat) : keyA (A.set x v) y = if y = x then (1099511627776 - v) * 1048576 + x else keyA A y := by
  unfold keyA
  rw [getD_set hx]
  split
  · rename_i e; rw [e]
  · rfl
theorem bump_up {A : List Int} {L : List Nat} (hn : L.Nodup) (hH : HeapN (L.map (keyA A)) L.length) {j : Nat} (hj : j < L.length) {v : Int} (hxA : nodeAt L j < A.length) (hv : A.getD (nodeAt L j) 0 ≤ v) : UpI (L.map (keyA (A.set (nodeAt L j) v))) L.length j := by
  have hne : ∀ i, i < L.length → i ≠ j → nodeAt L i ≠ nodeAt L j := fun i hi he e => he (nodup_at hn hi hj e)
  have hle : keyA (A.set (nodeAt L j) v) (nodeAt L j) ≤ keyA A (nodeAt L j) := by
    rw [key_set hxA, if_pos rfl]
    unfold keyA
    omega
  have hK : ∀ i, 0 < i → i < L.length → keyA A (nodeAt L ((i - 1) / 2)) ≤ keyA A (nodeAt L i) := fun i h0 hi => by
    have := hH i h0 hi
    rw [atI_map _ (by omega), atI_map _ hi] at this
    exact this
  refine ⟨fun i h0 hi hij => ?_, fun hj0 i h0 hi hp => ?_⟩
  · rw [atI_map _ (by omega), atI_map _ hi, key_set hxA (nodeAt L i), if_neg (hne i hi hij)]
    by_cases e : (i - 1) / 2 = j
    · rw [e]
      have := hK i h0 hi
      rw [e] at this
      omega
    · rw [key_set hxA, if_neg (hne _ (by omega) e)]
      exact hK i h0 hi
  · rw [atI_map _ (by omega), atI_map _ hi, key_set hxA (nodeAt L i), if_neg (hne i hi (by omega)), key_set hxA, if_neg (hne _ (by omega) (by omega))]
    have h1 := hK i h0 hi
    have h2 := hK j hj0 hj
    rw [hp] at h1
    omega
section
variable {w : World} {h t nb ib : Nat} {A : List Int} {pl : Nat → Int} {L : List Nat}
/-- Whatever up does to one whose activity rose. -/
theorem up_all (H : HX w h t nb ib A (plc L) L) (hn : L.Nodup) {x : Nat} (hx : x < A.length) (hU : ∀ j, j < L.length → nodeAt L j = x → UpI (L.map (keyA A)) L.length j) (hO : x ∉ L → HeapN (L.map (keyA A)) L.length) :
    Calls Try.prog 30 #[.pointer (some ⟨t, 0, none⟩), .pointer (some ⟨nb, x * 3, none⟩)] w fun e w' => e = .returned (.tuple #[]) ∧ HpP w h t nb ib A L w' := by
  by_cases hxL : x ∈ L
  · obtain ⟨j, hj, hjx, _⟩ := plc_mem hn hxL
    exact up_any H hn hj hjx (hU j hj hjx)
  · exact (up_out H hx hxL).mono fun e w' ⟨e1, e2, e3⟩ => ⟨e1, L, List.Perm.refl _, hO hxL, e2, e3⟩
theorem Bump_bad (H : HX w h t nb ib A pl L) {x b : Int} (hx : ¬ (0 ≤ x ∧ x < A.length)) :
    Calls Try.prog 15 #[.pointer (some ⟨h, 0, none⟩), .int .i64 x, .int .i64 b] w fun e w' => e = .returned (.int .i64 2) ∧ w = w' := by
  have hf := Lib.hid (fault_any H x (r := 2) (by unfold faultV; rw [if_neg hx]))
  clear H hx
  go_enter Try.func15, Try.ntmps15
  go_wp2_with (first | (go_at_call 29; with_reducible refine hf.out.mono ?_; rintro e w1 ⟨rfl, rfl⟩))
  go_ret
  exact ⟨rfl, rfl⟩
theorem Bump_by (H : HX w h t nb ib A pl L) {x b : Int} (hx : 0 ≤ x ∧ x < A.length) (hb : ¬ (0 ≤ b ∧ b ≤ 1099511627776)) :
    Calls Try.prog 15 #[.pointer (some ⟨h, 0, none⟩), .int .i64 x, .int .i64 b] w fun e w' => e = .returned (.int .i64 2) ∧ w = w' := by
  have hf := Lib.hid (fault_any H x (r := 0) (by unfold faultV; rw [if_pos hx]))
  clear H hx
  by_cases h0 : b < 0
  · go_enter Try.func15, Try.ntmps15
    go_wp2_with (first | (go_at_call 29; with_reducible refine hf.out.mono ?_; rintro e w1 ⟨rfl, rfl⟩))
    go_ret
    exact ⟨rfl, rfl⟩
  · have h1 : (1099511627776 : Int) < b := by omega
    go_enter Try.func15, Try.ntmps15
    go_wp2_with (first | (go_at_call 29; with_reducible refine hf.out.mono ?_; rintro e w1 ⟨rfl, rfl⟩))
    go_ret
    exact ⟨rfl, rfl⟩
set_option maxRecDepth 100000 in
theorem Bump_any (H : HX w h t nb ib A (plc L) L) (hn : L.Nodup) (hH : HeapN (L.map (keyA A)) L.length) {x : Nat} {b : Int} (hx : x < A.length) (hb0 : 0 ≤ b) (hb1 : b ≤ 1099511627776) :
    Calls Try.prog 15 #[.pointer (some ⟨h, 0, none⟩), .int .i64 x, .int .i64 b] w fun e w' => e = .returned (.int .i64 0) ∧ HpP w h t nb ib (A.set x (min (A.getD x 0 + b) 1099511627776)) L w' := by
  have hle := H.le
  have hf := Lib.hid (fault_any H (x : Int) (r := 0) (by unfold faultV; rw [if_pos (by omega)]))
  have c := H.head
  obtain ⟨c0, c1, _⟩ := H.tree
  obtain ⟨n1, n2, n3, n4, n5, n6⟩ := H.ne
  have e1 := H.ac hx
  have f1 := (H.cell (j := 1) hx (by omega) rfl).2
  obtain ⟨a0, a1⟩ := getD_act H.act x
  have hxi : (x : Int) < (A.length : Int) := by omega
  have HS : Hid (∀ v : Int, A.getD x 0 ≤ v → v ≤ 1099511627776 → HX (w.setCell ⟨nb, x * 3 + 1, none⟩ (.int .i64 v)) h t nb ib (A.set x v) (plc L) L ∧ Gr (Oth t nb ib) w (w.setCell ⟨nb, x * 3 + 1, none⟩ (.int .i64 v)) ∧ Calls Try.prog 30 #[.pointer (some ⟨t, 0, none⟩), .pointer (some ⟨nb, x * 3, none⟩)] (w.setCell ⟨nb, x * 3 + 1, none⟩ (.int .i64 v)) fun e w' => e = .returned (.tuple #[]) ∧ HpP (w.setCell ⟨nb, x * 3 + 1, none⟩ (.int .i64 v)) h t nb ib (A.set x v) L w') := fun v hv0 hv1 => by
    have h1 := H.setA hx (v := v) (by omega) hv1
    refine ⟨h1, (Gr.refl _ w).set (fun _ e => e.2.1 rfl) _, up_all h1 hn (by rw [List.length_set]; exact hx) (fun j hj hjx => ?_) (fun hxL => ?_)⟩
    · have := bump_up hn hH hj (v := v) (by rw [hjx]; exact hx) (by rw [hjx]; exact hv0)
      rw [hjx] at this
      exact this
    · have e : L.map (keyA (A.set x v)) = L.map (keyA A) := List.map_congr_left fun y hy => by
        rw [key_set hx, if_neg (fun e => hxL (by rw [← e]; exact hy))]
      rw [e]
      exact hH
  obtain ⟨a, ha⟩ : ∃ a, A.getD x 0 = a := ⟨_, rfl⟩
  rw [ha] at e1 a0 a1 HS
  rw [ha]
  have hb2 : ¬ b < 0 := by omega
  have hb3 : ¬ (1099511627776 : Int) < b := by omega
  by_cases hm : 1099511627776 < a + b
  · have hmin : min (a + b) 1099511627776 = 1099511627776 := by omega
    rw [hmin]
    have HS1 := Lib.hid (HS.out 1099511627776 a1 (Int.le_refl _))
    have HU := Lib.hid HS1.out.2.2
    have cW := HS1.out.1.head
    clear H HS hmin hH
    go_enter Try.func15, Try.ntmps15
    go_wp2_with (first | (go_at_call 29; with_reducible refine hf.out.mono ?_; rintro e w1 ⟨rfl, rfl⟩) | (go_at_call 30; with_reducible refine HU.out.mono ?_; rintro e w3 ⟨rfl, HP⟩; have HP2 := Lib.hid HP; clear HP))
    go_ret
    obtain ⟨L', b1, b2, b3, b4⟩ := HP2.out
    exact ⟨rfl, L', b1, b2, b3, HS1.out.2.1.trans b4⟩
  · have hmin : min (a + b) 1099511627776 = a + b := by omega
    rw [hmin]
    have HS1 := Lib.hid (HS.out (a + b) (by omega) (by omega))
    have HU := Lib.hid HS1.out.2.2
    have cW := HS1.out.1.head
    clear H HS hmin hH
    go_enter Try.func15, Try.ntmps15
    go_wp2_with (first | (go_at_call 29; with_reducible refine hf.out.mono ?_; rintro e w1 ⟨rfl, rfl⟩) | (go_at_call 30; with_reducible refine HU.out.mono ?_; rintro e w3 ⟨rfl, HP⟩; have HP2 := Lib.hid HP; clear HP))
    go_ret
    obtain ⟨L', b1, b2, b3, b4⟩ := HP2.out
    exact ⟨rfl, L', b1, b2, b3, HS1.out.2.1.trans b4⟩
end
theorem Bump_nil (x b : Int) (w : World) : Calls Try.prog 15 #[.pointer none, .int .i64 x, .int .i64 b] w fun e w' => e = .returned (.int .i64 3) ∧ w = w' := by
  have hf := Lib.hid (fault_nil x w)
  go_enter Try.func15, Try.ntmps15
  go_wp2_with (first | (go_at_call 29; with_reducible refine hf.out.mono ?_; rintro e w1 ⟨rfl, rfl⟩))
  go_ret
  exact ⟨rfl, rfl⟩
end Go.Proofs.Ytmgppnepccmceaa
