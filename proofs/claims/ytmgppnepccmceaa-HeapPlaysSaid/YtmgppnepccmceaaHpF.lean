/- A node brought up. -/
import Derived.Test.YtmgppnepccmceaaHpE
import Derived.Deep.RegionHeld3
namespace Go.Proofs.Ytmgppnepccmceaa
open Go.RowKit
set_option linter.unusedVariables false
theorem Calls.grown_same {P : Program} {f : FuncId} {args : Array Value} {w : World} {n : Nat} {os : Array Obj} {v : Value} (h : Calls P f args (Sort.grow (w.drewN n) os) fun e w' => e = .returned v ∧ Sort.grow (w.drewN n) os = w') : Calls P f args (Sort.grow (w.drewN n) os) fun e w'' => e = .returned v ∧ ∃ p : GrownBy, w'' = Sort.grow (w.drewN p.n) p.os :=
  h.mono fun _ _ ⟨he, hq⟩ => ⟨he, ⟨n, os⟩, hq.symm⟩
/-- Where a node is, as memory has it. -/
def plcW (nb x : Nat) (w : World) : Nat := match w.cell? ⟨nb, x * 3 + 2, none⟩ with
  | some (.int _ v) => v.toNat
  | _ => 0
/-- A heap whose nodes are some of those in L. -/
def HpP (w : World) (h t nb ib : Nat) (A : List Int) (L : List Nat) (w' : World) : Prop :=
  ∃ L', L'.Perm L ∧ HeapN (L'.map (keyA A)) L'.length ∧ HX w' h t nb ib A (plc L') L' ∧ Gr (Oth t nb ib) w w'
theorem swapN_comm {L : List Nat} {i j : Nat} (hi : i < L.length) (hj : j < L.length) (hij : i ≠ j) : swapN L i j = swapN L j i := by
  unfold swapN
  exact List.set_comm _ _ hij
/-- The same of the first n alone. -/
def HpN (n : Nat) (w : World) (h t nb ib : Nat) (A : List Int) (L : List Nat) (w' : World) : Prop :=
  ∃ L', L'.Perm L ∧ HeapN (L'.map (keyA A)) n ∧ HX w' h t nb ib A (plc L') L' ∧ Gr (Oth t nb ib) w w'
section
variable {w : World} {h t nb ib : Nat} {A : List Int} {pl : Nat → Int} {L : List Nat}
theorem HX.plcW (H : HX w h t nb ib A pl L) {x : Nat} (hx : x < A.length) : plcW nb x w = (pl x).toNat := by
  unfold Go.Proofs.Ytmgppnepccmceaa.plcW
  rw [H.pc hx]
set_option maxRecDepth 100000 in
set_option maxHeartbeats 1000000 in
theorem up_n (H : HX w h t nb ib A (plc L) L) (hn : L.Nodup) {x j n : Nat} (hnL : n ≤ L.length) (hj : j < n) (hx : nodeAt L j = x) (hU : UpI (L.map (keyA A)) n j) :
    Calls Try.prog 30 #[.pointer (some ⟨t, 0, none⟩), .pointer (some ⟨nb, x * 3, none⟩)] w fun e w' => e = .returned (.tuple #[]) ∧ HpN n w h t nb ib A L w' := by
  have hle := H.le
  have hll := H.lens
  have mixed : Try.prog.follows .mixedOrders = true := by kernel_rfl
  have H0 : Hid (∃ L', L'.Perm L ∧ nodeAt L' j = x ∧ UpI (L'.map (keyA A)) n j ∧ HX w h t nb ib A (plc L') L' ∧ Gr (Oth t nb ib) w w) := ⟨L, List.Perm.refl _, hx, hU, H, Gr.refl _ _⟩
  clear hU hx
  have hb := H.blk
  clear H
  go_enter Try.func30, Try.ntmps30
  go_wp2
  go_loopw [] (fun wr => Hid (∃ k : Nat, k < n ∧ ∃ L', L'.Perm L ∧ nodeAt L' k = x ∧ UpI (L'.map (keyA A)) n k ∧ HX wr h t nb ib A (plc L') L' ∧ Gr (Oth t nb ib) w wr)) (fun wr => plcW nb x wr)
  case atStart => exact ⟨j, hj, H0.out⟩
  case round =>
    clear H0
    obtain ⟨k, hk, L', l1, l2, l3, l4, l5⟩ := hrel.out
    have hll := l1.length_eq
    have hn' : L'.Nodup := l1.nodup_iff.2 hn
    have hkL : k < L'.length := by omega
    have hxA : x < A.length := by rw [← l2]; exact l4.lt _ (nodeAt_mem hkL)
    have hpx : plc L' x = k := by rw [← l2]; exact plc_at hn' hkL
    have e0 : ∀ m0 os, (Sort.grow (wr.drewN m0) os).cell? ⟨nb, x * 3 + 2, none⟩ = some (.int .i32 k) := fun m0 os => by rw [← hpx]; exact (l4.grown m0 os).pc hxA
    cases k with
    | zero =>
      have HE : Hid (∀ m0 os, HpN n w h t nb ib A L (Sort.grow (wr.drewN m0) os)) := fun m0 os =>
        ⟨L', l1, l3.stop (.inl rfl), l4.grown m0 os, (l5.drewN m0).grow os⟩
      have z0 : ∀ m0 os, (Sort.grow (wr.drewN m0) os).cell? ⟨nb, x * 3 + 2, none⟩ = some (.int .i32 0) := e0
      clear hrel l1 l2 l3 l4 l5 hll hpx e0
      go_wp2_with fail
      refine wp_region_quiet_grown (by assumption) (by kernel_rfl) ?_
      repeat (go_big_quiet_step (fail))
      refine wpQuiet_nil ?_
      intro _ hw'
      obtain ⟨⟨nq, osq⟩, hw''⟩ := hw'
      subst hw''
      dsimp only
      go_wp2
      go_end0
      exact ⟨rfl, HE.out _ _⟩
    | succ m =>
      obtain ⟨p, hpm⟩ : ∃ p, m / 2 = p := ⟨_, rfl⟩
      have z0 : ∀ m0 os, (Sort.grow (wr.drewN m0) os).cell? ⟨nb, x * 3 + 2, none⟩ = some (.int .i32 ((m : Int) + 1)) := e0
      have d1 : decide (0 < (m : Int) + 1) = true := decide_eq_true (by omega)
      clear e0
      have hpL : p < L'.length := by omega
      have hyA := l4.lt _ (nodeAt_mem hpL)
      have t1 : ∀ m0 os, (Sort.grow (wr.drewN m0) os).cell? ⟨t, 1, none⟩ = some (.slice (some ⟨ib, 0, none⟩) L'.length A.length) := fun m0 os => (l4.grown m0 os).tree.2.1
      have i1 : ∀ m0 os, (Sort.grow (wr.drewN m0) os).cell? ⟨ib, p, none⟩ = some (.pointer (some ⟨nb, nodeAt L' p * 3, none⟩)) := fun m0 os => ((l4.grown m0 os).inc hpL).1
      have hpi : (p : Int) < (L'.length : Int) := by omega
      have HPar : Hid (∀ W, Calls Try.prog 38 #[.int .i32 ((m : Int) + 1)] W fun e w' => e = .returned (.int .i32 p) ∧ W = w') := fun W => by
        have := parent_any (m + 1) W (by omega) (by omega)
        rw [show (m + 1 - 1) / 2 = p by omega] at this
        exact this
      obtain ⟨r, hr⟩ : ∃ r, decide (keyA A x < keyA A (nodeAt L' p)) = r := ⟨_, rfl⟩
      have HAh : Hid (∀ m0 os, Calls Try.prog 37 #[.pointer (some ⟨nb, x * 3, none⟩), .pointer (some ⟨nb, nodeAt L' p * 3, none⟩)] (Sort.grow (wr.drewN m0) os) fun e w'' => e = .returned (.bool r) ∧ ∃ p : GrownBy, w'' = Sort.grow (wr.drewN p.n) p.os) := fun m0 os => Calls.grown_of (ahead_any (l4.grown m0 os) hxA hyA hr)
      have HSw : Hid (∀ m0 os, Calls Try.prog 32 #[.pointer (some ⟨t, 0, none⟩), .int .i32 ((m : Int) + 1), .int .i32 p] (Sort.grow (wr.drewN m0) os) fun e w' => e = .returned (.tuple #[]) ∧ Hid (HX w' h t nb ib A (plc (swapN L' (m + 1) p)) (swapN L' (m + 1) p) ∧ Gr (Oth t nb ib) (Sort.grow (wr.drewN m0) os) w')) := fun m0 os => swap_any (l4.grown m0 os) hn' hkL hpL
      have HH := Lib.hid (show HX wr h t nb ib A (plc L') L' ∧ Gr (Oth t nb ib) w wr ∧ L'.Perm L ∧ UpI (L'.map (keyA A)) n (m + 1) from ⟨l4, l5, l1, l3⟩)
      have HR := Lib.hid hr
      obtain ⟨y, hy⟩ : ∃ y, nodeAt L' p = y := ⟨_, rfl⟩
      have HY := Lib.hid hy
      rw [hy] at i1 HAh
      obtain ⟨c, hc⟩ : ∃ c, L'.length = c := ⟨_, rfl⟩
      have HC := Lib.hid hc
      rw [hc] at t1 hpi
      have hpp : p < c := by omega
      have hcb : c ≤ 300 := by omega
      clear hrel l1 l3 l4 l5 hll hpx hr hy hc
      cases r
      · go_wp2_with fail
        refine wp_region_quiet_grown (by assumption) (by kernel_rfl) ?_
        repeat (go_big_quiet_step ((first | (go_at_call 38; exact Calls.grown_same (HPar.out _)) | (go_at_call 37; exact HAh.out _ _))))
        refine wpQuiet_nil ?_
        intro _ hw'
        obtain ⟨⟨nq, osq⟩, hw''⟩ := hw'
        subst hw''
        dsimp only
        go_wp2
        go_end0
        refine ⟨rfl, L', HH.out.2.2.1, ?_, HH.out.1.grown _ _, (HH.out.2.1.drewN _).grow _⟩
        have hle2 := of_decide_eq_false HR.out
        refine HH.out.2.2.2.stop (.inr ?_)
        rw [show (m + 1 - 1) / 2 = p by omega, atI_map _ hpL, atI_map _ hkL, l2]
        omega
      · go_wp2_with fail
        refine wp_region_quiet_grown (by assumption) (by kernel_rfl) ?_
        repeat (go_big_quiet_step ((first | (go_at_call 38; exact Calls.grown_same (HPar.out _)) | (go_at_call 37; exact HAh.out _ _))))
        refine wpQuiet_nil ?_
        intro _ hw'
        obtain ⟨⟨nq, osq⟩, hw''⟩ := hw'
        subst hw''
        dsimp only
        have z1 := z0 nq osq
        go_wp2_with fail
        obtain ⟨W, hW⟩ : ∃ W, Sort.grow (wr.drewN nq) osq = W := ⟨_, rfl⟩
        have HS1 := Lib.hid (HSw.out nq osq)
        have HV : Hid (HX W h t nb ib A (plc L') L' ∧ Gr (Oth t nb ib) w W) := by rw [← hW]; exact ⟨HH.out.1.grown _ _, (HH.out.2.1.drewN _).grow _⟩
        rw [hW] at z1 ⊢
        have HS2 : Hid (Calls Try.prog 32 #[.pointer (some ⟨t, 0, none⟩), .int .i32 ((m : Int) + 1), .int .i32 p] W.drew fun e w' => e = .returned (.tuple #[]) ∧ Hid (HX w' h t nb ib A (plc (swapN L' (m + 1) p)) (swapN L' (m + 1) p) ∧ Gr (Oth t nb ib) W.drew w')) := swap_any HV.out.1.drew hn' hkL hpL
        have HN : Hid (∀ w2, HX w2 h t nb ib A (plc (swapN L' (m + 1) p)) (swapN L' (m + 1) p) ∧ Gr (Oth t nb ib) W.drew w2 → (∃ k : Nat, k < n ∧ ∃ L', L'.Perm L ∧ nodeAt L' k = x ∧ UpI (L'.map (keyA A)) n k ∧ HX w2 h t nb ib A (plc L') L' ∧ Gr (Oth t nb ib) w w2) ∧ plcW nb x w2 < plcW nb x wr) := fun w2 hw2 => by
          obtain ⟨a1, a2, a3, a4⟩ := HH.out
          have hpe := plc_swap hn' hkL hpL
          have hlt := of_decide_eq_true HR.out
          refine ⟨⟨p, by omega, _, (swapN_perm hkL hpL).trans a3, ?_, ?_, hw2.1, ?_⟩, ?_⟩
          · rw [nodeAt_swap hkL hpL, if_pos rfl, l2]
          · have hst := a4.step (by omega) (by omega) (by rw [List.length_map, a3.length_eq]; exact hnL) (by rw [show (m + 1 - 1) / 2 = p by omega, atI_map _ hpL, atI_map _ hkL, l2]; exact hlt)
            rw [show (m + 1 - 1) / 2 = p by omega, ← swapN_map _ hpL hkL] at hst
            rw [swapN_comm hkL hpL (by omega)]
            exact hst
          · exact HV.out.2.drew.trans hw2.2
          · rw [hw2.1.plcW hxA, a1.plcW hxA, hpe, l2, if_pos rfl]
            rw [← l2, plc_at hn' hkL]
            omega
        clear hW z0 i1 t1 HSw HS1 HAh
        go_region_with (first | (go_at_call 38; with_reducible refine (HPar.out _).mono ?_; rintro e w1 ⟨rfl, rfl⟩) | (go_at_call 32; with_reducible refine HS2.out.mono ?_; rintro e w2 ⟨rfl, HW⟩))
        all_goals have HN2 := Lib.hid (HN.out _ HW.out)
        all_goals (refine ⟨?_, HN2.out.2⟩; (repeat apply Exists.intro); exact ⟨Lib.hid HN2.out.1, rfl⟩)
theorem up_any (H : HX w h t nb ib A (plc L) L) (hn : L.Nodup) {x j : Nat} (hj : j < L.length) (hx : nodeAt L j = x) (hU : UpI (L.map (keyA A)) L.length j) :
    Calls Try.prog 30 #[.pointer (some ⟨t, 0, none⟩), .pointer (some ⟨nb, x * 3, none⟩)] w fun e w' => e = .returned (.tuple #[]) ∧ HpP w h t nb ib A L w' :=
  (up_n H hn (Nat.le_refl _) hj hx hU).mono fun _ _ ⟨e1, L', a1, a2, a3, a4⟩ => ⟨e1, L', a1, by rw [a1.length_eq]; exact a2, a3, a4⟩
end
end Go.Proofs.Ytmgppnepccmceaa
