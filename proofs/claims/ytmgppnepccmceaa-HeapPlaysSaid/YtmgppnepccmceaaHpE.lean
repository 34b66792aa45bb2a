/- Two that are swapped. -/
import Derived.Test.YtmgppnepccmceaaHpD
namespace Go.Proofs.Ytmgppnepccmceaa
open Go.RowKit
set_option linter.unusedVariables false
section
variable {w : World} {h t nb ib : Nat} {A : List Int} {pl : Nat → Int} {L : List Nat}
theorem swap_any (H : HX w h t nb ib A (plc L) L) (hn : L.Nodup) {p q : Nat} (hp : p < L.length) (hq : q < L.length) :
    Calls Try.prog 32 #[.pointer (some ⟨t, 0, none⟩), .int .i32 p, .int .i32 q] w fun e w' => e = .returned (.tuple #[]) ∧ Hid (HX w' h t nb ib A (plc (swapN L p q)) (swapN L p q) ∧ Gr (Oth t nb ib) w w') := by
  obtain ⟨n1, n2, n3, n4, n5, n6⟩ := H.ne
  obtain ⟨b1, b2, b3, b4⟩ := H.blk
  obtain ⟨c0, c1, _⟩ := H.tree
  obtain ⟨e1, f1⟩ := H.inc hp
  obtain ⟨e2, f2⟩ := H.inc hq
  have hxA := H.lt _ (nodeAt_mem hp)
  have hyA := H.lt _ (nodeAt_mem hq)
  have hle := H.le
  have hll := H.lens
  have HF : Hid (HX ((w.setCell ⟨ib, p, none⟩ (.pointer (some ⟨nb, nodeAt L q * 3, none⟩))).setCell ⟨ib, q, none⟩ (.pointer (some ⟨nb, nodeAt L p * 3, none⟩))).drew h t nb ib A (plc L) (swapN L p q) ∧ Gr (Oth t nb ib) w ((w.setCell ⟨ib, p, none⟩ (.pointer (some ⟨nb, nodeAt L q * 3, none⟩))).setCell ⟨ib, q, none⟩ (.pointer (some ⟨nb, nodeAt L p * 3, none⟩))).drew) := by
    have h1 := H.setI hp hyA
    have h2 := h1.setI (p := q) (by rw [List.length_set]; exact hq) hxA
    exact ⟨h2.drew, (((Gr.refl _ w).set (fun _ e => e.2.2 rfl) _).set (fun _ e => e.2.2 rfl) _).drew⟩
  have HG : Hid (∀ W, HX W h t nb ib A (plc L) (swapN L p q) ∧ Gr (Oth t nb ib) w W → HX (((W.setCell ⟨nb, nodeAt L q * 3 + 2, none⟩ (.int .i32 p)).setCell ⟨nb, nodeAt L p * 3 + 2, none⟩ (.int .i32 q)).drew) h t nb ib A (plc (swapN L p q)) (swapN L p q) ∧ Gr (Oth t nb ib) w (((W.setCell ⟨nb, nodeAt L q * 3 + 2, none⟩ (.int .i32 p)).setCell ⟨nb, nodeAt L p * 3 + 2, none⟩ (.int .i32 q)).drew)) := fun W HW => by
    have h3 := (HW.1.setP hyA (p : Int)).setP hxA (q : Int)
    refine ⟨(h3.drew.congr (fun x hx => ?_)), (((HW.2.set (fun _ e => e.2.1 rfl) _).set (fun _ e => e.2.1 rfl) _).drew)⟩
    rw [plc_swap hn hp hq]
  have HD : Hid (∀ W, HX W h t nb ib A (plc L) (swapN L p q) → W.cell? ⟨t, 1, none⟩ = some (.slice (some ⟨ib, 0, none⟩) L.length A.length) ∧ W.cell? ⟨ib, p, none⟩ = some (.pointer (some ⟨nb, nodeAt L q * 3, none⟩)) ∧ W.cell? ⟨ib, q, none⟩ = some (.pointer (some ⟨nb, nodeAt L p * 3, none⟩)) ∧ W.cell? ⟨nb, nodeAt L p * 3 + 2, none⟩ = some (.int .i32 (plc L (nodeAt L p))) ∧ W.frozen? ⟨nb, nodeAt L p * 3 + 2, none⟩ = false ∧ W.cell? ⟨nb, nodeAt L q * 3 + 2, none⟩ = some (.int .i32 (plc L (nodeAt L q))) ∧ W.frozen? ⟨nb, nodeAt L q * 3 + 2, none⟩ = false ∧ nb < W.heap.size) := fun W HW => by
    have hp2 : p < (swapN L p q).length := by rw [swapN_len]; exact hp
    have hq2 : q < (swapN L p q).length := by rw [swapN_len]; exact hq
    have g1 := (HW.inc hp2).1
    have g2 := (HW.inc hq2).1
    have g3 := HW.tree.2.1
    rw [swapN_len] at g3
    rw [nodeAt_swap hp hq] at g1 g2
    rw [if_pos rfl] at g2
    have g4 := HW.cell (j := 2) hxA (by omega) rfl
    have g5 := HW.cell (j := 2) hyA (by omega) rfl
    refine ⟨g3, ?_, g2, g4.1, g4.2, g5.1, g5.2, HW.blk.2.2.1⟩
    by_cases e : p = q
    · rw [if_pos e] at g1; rw [g1, e]
    · rw [if_neg e, if_pos rfl] at g1; exact g1
  obtain ⟨x, hx⟩ : ∃ x, nodeAt L p = x := ⟨_, rfl⟩
  obtain ⟨y, hy⟩ : ∃ y, nodeAt L q = y := ⟨_, rfl⟩
  rw [hx] at e1 HF HG HD
  rw [hy] at e2 HF HG HD
  obtain ⟨u, hu⟩ : ∃ u, plc L x = u := ⟨_, rfl⟩
  obtain ⟨v, hv⟩ : ∃ v, plc L y = v := ⟨_, rfl⟩
  rw [hu, hv] at HD
  obtain ⟨z, hz⟩ : ∃ z, (w.setCell ⟨ib, p, none⟩ (.pointer (some ⟨nb, y * 3, none⟩))).cell? ⟨ib, q, none⟩ = some z := ⟨_, ((H.setI hp (x := y) (by rw [← hy]; exact hyA)).inc (p := q) (by rw [List.length_set]; exact hq)).1⟩
  have HZ : Hid (∀ W, HX W h t nb ib A (plc L) (swapN L p q) → ∃ z, (W.setCell ⟨nb, y * 3 + 2, none⟩ (.int .i32 p)).cell? ⟨nb, x * 3 + 2, none⟩ = some z) := fun W HW => ⟨_, (HW.setP (x := y) (by rw [← hy]; exact hyA) (p : Int)).pc (by rw [← hx]; exact hxA)⟩
  have i1 : (p : Int) < (L.length : Int) := by omega
  have j1 : (q : Int) < (L.length : Int) := by omega
  obtain ⟨k, hk⟩ : ∃ k, L.length = k := ⟨_, rfl⟩
  obtain ⟨n, hnn⟩ : ∃ n, A.length = n := ⟨_, rfl⟩
  have hkb : k ≤ 300 := by omega
  rw [hk] at i1 j1 c1 HD
  rw [hnn] at c0 c1 HD
  have hp' : p < k := by omega
  have hq' : q < k := by omega
  clear H hn hx hy hxA hyA hp hq hle hll hu hv hk hnn
  go_enter Try.func32, Try.ntmps32
  go_wp2
  go_region
  obtain ⟨W, hW⟩ : ∃ W, ((w.setCell ⟨ib, p, none⟩ (.pointer (some ⟨nb, y * 3, none⟩))).setCell ⟨ib, q, none⟩ (.pointer (some ⟨nb, x * 3, none⟩))).drew = W := ⟨_, rfl⟩
  rw [hW] at HF ⊢
  have HW := Lib.hid (HG.out W HF.out)
  obtain ⟨g3, g1, g2, x2, fx, y2, fy, hlt⟩ := HD.out W HF.out.1
  obtain ⟨z2, hz2⟩ := HZ.out W HF.out.1
  clear HZ hz HF HG HD hW e1 e2 c0 c1 b1 b2 b3 b4 f1 f2
  go_wp2
  go_region
  all_goals go_wp2
  all_goals go_end0
  all_goals exact ⟨rfl, HW⟩
end
end Go.Proofs.Ytmgppnepccmceaa
