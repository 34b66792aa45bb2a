/- A node brought down. -/
import Derived.Test.YtmgppnepccmceaaHpG
import Derived.StillTailTactics
namespace Go.Proofs.Ytmgppnepccmceaa
open Go.RowKit
set_option linter.unusedVariables false
/-- What next answers. -/
def nextV (A : List Int) (nb : Nat) (L : List Nat) (k : Nat) : Value := if 2 * k + 1 < L.length then ptrE nb (nodeAt L (kidI (L.map (keyA A)) L.length k)) else .pointer none
section
variable {w : World} {h t nb ib : Nat} {A : List Int} {pl : Nat → Int} {L : List Nat}
theorem next_any (H : HX w h t nb ib A (plc L) L) (hn : L.Nodup) {x k : Nat} (hk : k < L.length) (hx : nodeAt L k = x) :
    Calls Try.prog 39 #[.pointer (some ⟨t, 0, none⟩), .pointer (some ⟨nb, x * 3, none⟩)] w fun e w' => e = .returned (nextV A nb L k) ∧ ∃ q os, w' = Sort.grow (w.drewN q) os := by
  unfold nextV
  by_cases h1 : 2 * k + 1 < L.length
  · rw [if_pos h1]
    by_cases h2 : 2 * k + 2 < L.length
    · refine next_two H hn hk hx h2 ?_
      unfold kidN kidI
      rw [atI_map _ h1, atI_map _ h2]
      by_cases e : keyA A (nodeAt L (2 * k + 2)) < keyA A (nodeAt L (2 * k + 1))
      · rw [if_pos e, if_pos ⟨h2, e⟩]
      · rw [if_neg e, if_neg (fun e' => e e'.2)]
    · refine next_one H hn hk hx (by omega) ?_
      unfold kidI
      rw [if_neg (fun e => h2 e.1)]
  · rw [if_neg h1]
    exact next_none H hn hk hx (by omega)
set_option maxRecDepth 100000 in
set_option maxHeartbeats 1000000 in
theorem down_any (H : HX w h t nb ib A (plc L) L) (hn : L.Nodup) {x j : Nat} (hj : j < L.length) (hx : nodeAt L j = x) (hD : DownI (L.map (keyA A)) L.length j) :
    Calls Try.prog 33 #[.pointer (some ⟨t, 0, none⟩), .pointer (some ⟨nb, x * 3, none⟩)] w fun e w' => e = .returned (.tuple #[]) ∧ HpP w h t nb ib A L w' := by
  have hle := H.le
  have hll := H.lens
  have mixed : Try.prog.follows .mixedOrders = true := by kernel_rfl
  have HN0 := Lib.hid (next_any H hn hj hx)
  have H0 : Hid (∀ q os, ∃ k : Nat, k < L.length ∧ ∃ L', L'.Perm L ∧ nodeAt L' k = x ∧ DownI (L'.map (keyA A)) L.length k ∧ HX (Sort.grow (w.drewN q) os) h t nb ib A (plc L') L' ∧ Gr (Oth t nb ib) w (Sort.grow (w.drewN q) os) ∧ nextV A nb L j = nextV A nb L' k) := fun q os => ⟨j, hj, L, List.Perm.refl _, hx, hD, H.grown q os, ((Gr.refl _ w).drewN q).grow os, rfl⟩
  clear hD hx H
  go_enter Try.func33, Try.ntmps33
  go_wp2_with (first | (go_at_call 39; with_reducible refine HN0.out.mono ?_; rintro e w1 ⟨rfl, q, os, rfl⟩))
  go_loopw [4] (fun fv wr => Hid (∃ k : Nat, k < L.length ∧ ∃ L', L'.Perm L ∧ nodeAt L' k = x ∧ DownI (L'.map (keyA A)) L.length k ∧ HX wr h t nb ib A (plc L') L' ∧ Gr (Oth t nb ib) w wr ∧ fv = nextV A nb L' k)) (fun fv wr => 1000 - plcW nb x wr)
  case atStart => exact H0.out q os
  case round =>
    clear H0 HN0
    obtain ⟨k, hk, L', l1, l2, l3, l4, l5, rfl⟩ := hrel.out
    have hll := l1.length_eq
    have hn' : L'.Nodup := l1.nodup_iff.2 hn
    have hkL : k < L'.length := by omega
    have hxA : x < A.length := by rw [← l2]; exact l4.lt _ (nodeAt_mem hkL)
    have hpx : plc L' x = k := by rw [← l2]; exact plc_at hn' hkL
    by_cases h1 : 2 * k + 1 < L'.length
    · have hv : nextV A nb L' k = .pointer (some ⟨nb, nodeAt L' (kidI (L'.map (keyA A)) L'.length k) * 3, none⟩) := by unfold nextV; rw [if_pos h1]; rfl
      obtain ⟨k1, k2, k3⟩ := kid_range (L'.map (keyA A)) h1
      obtain ⟨p, hp⟩ : ∃ p, kidI (L'.map (keyA A)) L'.length k = p := ⟨_, rfl⟩
      rw [hp] at hv k1 k2 k3
      obtain ⟨y, hy⟩ : ∃ y, nodeAt L' p = y := ⟨_, rfl⟩
      rw [hy] at hv
      have hyA : y < A.length := by rw [← hy]; exact l4.lt _ (nodeAt_mem k1)
      obtain ⟨r, hr⟩ : ∃ r, decide (keyA A y < keyA A x) = r := ⟨_, rfl⟩
      have HAh := Lib.hid (ahead_any l4 hyA hxA hr)
      rw [hv]
      cases r
      · have HE : Hid (∀ n os, HpP w h t nb ib A L (Sort.grow (wr.drewN n) os)) := fun n os =>
          ⟨L', l1, by
            have hle2 := of_decide_eq_false hr
            rw [hll]
            refine l3.stop (.inr ?_)
            rw [← hll, hp, atI_map _ k1, atI_map _ hkL, l2, hy]
            omega, l4.grown n os, (l5.drewN n).grow os⟩
        clear hrel l1 l3 l4 l5 hv hr
        go_wp2_with (first | (go_at_call 37; with_reducible refine HAh.out.mono ?_; rintro e w1 ⟨rfl, q, os, rfl⟩))
        go_end0
        exact ⟨rfl, HE.out _ _⟩
      · have HZ : Hid (∀ n os, (Sort.grow (wr.drewN n) os).cell? ⟨nb, x * 3 + 2, none⟩ = some (.int .i32 k) ∧ (Sort.grow (wr.drewN n) os).cell? ⟨nb, y * 3 + 2, none⟩ = some (.int .i32 p)) := fun n os => by
          have g1 := (l4.grown n os).pc hxA
          have g2 := (l4.grown n os).pc hyA
          rw [hpx] at g1
          rw [← hy, plc_at hn' k1] at g2
          rw [← hy]
          exact ⟨g1, g2⟩
        have HSw : Hid (∀ W, HX W h t nb ib A (plc L') L' → Calls Try.prog 32 #[.pointer (some ⟨t, 0, none⟩), .int .i32 k, .int .i32 p] W fun e w' => e = .returned (.tuple #[]) ∧ Hid (HX w' h t nb ib A (plc (swapN L' k p)) (swapN L' k p) ∧ Gr (Oth t nb ib) W w')) := fun W HW => swap_any HW hn' hkL k1
        have hpe := plc_swap hn' hkL k1
        have hlt := of_decide_eq_true hr
        have HN : Hid (∀ n os, ∀ w2, HX w2 h t nb ib A (plc (swapN L' k p)) (swapN L' k p) ∧ Gr (Oth t nb ib) (Sort.grow (wr.drewN n) os).drew w2 → Calls Try.prog 39 #[.pointer (some ⟨t, 0, none⟩), .pointer (some ⟨nb, x * 3, none⟩)] w2 fun e w' => e = .returned (nextV A nb (swapN L' k p) p) ∧ Hid ((∃ k2 : Nat, k2 < L.length ∧ ∃ L2, L2.Perm L ∧ nodeAt L2 k2 = x ∧ DownI (L2.map (keyA A)) L.length k2 ∧ HX w' h t nb ib A (plc L2) L2 ∧ Gr (Oth t nb ib) w w' ∧ nextV A nb (swapN L' k p) p = nextV A nb L2 k2) ∧ 1000 - plcW nb x w' < 1000 - plcW nb x wr)) := fun n os w2 ⟨a1, a2⟩ => by
          have hn2 : (swapN L' k p).Nodup := (swapN_perm hkL k1).nodup_iff.2 hn'
          have hnx : nodeAt (swapN L' k p) p = x := by rw [nodeAt_swap hkL k1, if_pos rfl, l2]
          refine (next_any a1 hn2 (by rw [swapN_len]; exact k1) hnx).mono fun e w' ⟨e1, q, os2, e2⟩ => ⟨e1, ⟨p, by omega, _, (swapN_perm hkL k1).trans l1, hnx, ?_, by rw [e2]; exact a1.grown _ _, ?_, rfl⟩, ?_⟩
          · have hst := l3.step (by omega) (by rw [List.length_map]; omega) (by rw [← hll, hp, atI_map _ k1, atI_map _ hkL, l2, hy]; exact hlt)
            rw [← hll, hp, ← swapN_map _ hkL k1] at hst
            rw [← hll]
            exact hst
          · rw [e2]
            exact ((((l5.drewN n).grow os).drew.trans a2).drewN q).grow os2
          · rw [e2, (a1.grown q os2).plcW hxA, l4.plcW hxA, hpx, hpe, ← l2, if_pos rfl]
            omega
        have HH := Lib.hid l4
        clear hrel l1 l3 l4 l5 hv hr hpe hlt hpx
        go_wp2_with (first | (go_at_call 37; with_reducible refine HAh.out.mono ?_; rintro e w1 ⟨rfl, q, os, rfl⟩))
        obtain ⟨z1, z2⟩ := HZ.out q os
        have HS2 := Lib.hid (HSw.out _ (HH.out.grown q os).drew)
        have HN2 := Lib.hid (HN.out q os)
        obtain ⟨W, hW⟩ : ∃ W, Sort.grow (wr.drewN q) os = W := ⟨_, rfl⟩
        rw [hW] at z1 z2 HS2 HN2 ⊢
        clear hW HN HSw HZ HAh
        go_still_tail 9, (by kernel_rfl)
        change wpList _ _ _ _ _ W.drew
        go_wp2_with (first | (go_at_call 32; with_reducible refine HS2.out.mono ?_; rintro e w2 ⟨rfl, HW⟩; have HN3 := Lib.hid (HN2.out w2 HW.out)) | (go_at_call 39; with_reducible refine HN3.out.mono ?_; rintro e w3 ⟨rfl, HW3⟩))
        exact ⟨HW3.out.1, HW3.out.2⟩
    · have hv : nextV A nb L' k = .pointer none := by unfold nextV; rw [if_neg h1]
      have HE : Hid (HpP w h t nb ib A L wr) := ⟨L', l1, by rw [hll]; exact l3.stop (.inl (by omega)), l4, l5⟩
      rw [hv]
      clear hrel l1 l3 l4 l5 hv
      go_wp2
      go_end0
      exact ⟨rfl, HE.out⟩
end
end Go.Proofs.Ytmgppnepccmceaa
