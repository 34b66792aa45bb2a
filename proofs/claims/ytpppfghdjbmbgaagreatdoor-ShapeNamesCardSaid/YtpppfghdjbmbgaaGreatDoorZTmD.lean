/- Package term's fitsKind. -/
import Derived.Test.YtpppfghdjbmbgaaGreatDoorZTmC
import Derived.Deep.RegionHeld3
import Derived.BigQuiet
namespace Go.Proofs.YtpppfghdjbmbgaaGreatDoor.Tm
open Go.RowKit
set_option linter.unusedVariables false
/-- What package term finds in its variable. -/
structure GT (w : World) : Prop where
  lt : 0 < w.heap.size
  at_ : ∀ k v, lensL[k]? = some v → w.cell? ⟨0, k, none⟩ = some (.int .i8 v)
theorem GT.below {w w' : World} (h : GT w) (hb : Below w.heap.size w w') : GT w' :=
  ⟨Nat.lt_of_lt_of_le h.lt hb.size, fun k v hk => (hb.cell (p := ⟨_, k, none⟩) h.lt).trans (h.at_ k v hk)⟩
def fitsB (n : NodeA) : Bool := decide (FitsP n)
theorem fit_no {n : NodeA} {r : Bool} (hr : fitsB n = r) (h : ¬ FitsP n) : r = false := by rw [← hr]; unfold fitsB; rw [decide_eq_false_iff_not]; exact h
theorem fit_yes {n : NodeA} {r : Bool} (hr : fitsB n = r) (h : FitsP n) : r = true := by rw [← hr]; unfold fitsB; rw [decide_eq_true_eq]; exact h
theorem fits_iff_app (n : NodeA) (h : n.op = 13) : FitsP n ↔ (0 ≤ n.len ∧ n.len ≤ 3 ∧ 0 ≤ n.fn ∧ n.fn < 12 ∧ n.num = 0) := by
  unfold FitsP
  rw [if_pos h]
  exact ⟨fun g => g.2.2, fun g => ⟨by omega, by omega, g⟩⟩
theorem fits_iff_plain (n : NodeA) (L : Int) (h : 0 ≤ n.op ∧ n.op < 10) (hL : arityA n.op = L) : FitsP n ↔ (n.len = L ∧ n.fn = 0 ∧ n.num = 0) := by
  unfold FitsP
  rw [if_neg (by omega), if_neg (by omega), hL]
  exact ⟨fun g => g.2.2, fun g => ⟨by omega, by omega, g⟩⟩
theorem fits_iff_num (n : NodeA) (L : Int) (h : n.op = 10 ∨ n.op = 11 ∨ n.op = 12) (hL : arityA n.op = L) : FitsP n ↔ (n.len = L ∧ n.fn = 0 ∧ mayB n.num = true) := by
  unfold FitsP
  rw [if_neg (by omega), if_pos h, hL]
  exact ⟨fun g => g.2.2, fun g => ⟨by omega, by omega, g⟩⟩
theorem below_drewN {B : Nat} {w w' : World} (h : Below B w w') {k : Nat} : Below B w (w'.drewN k) := ⟨h.os, h.tape, h.output, h.size, h.block⟩
set_option maxRecDepth 100000 in
set_option maxHeartbeats 4000000 in
theorem fits_13 (n : NodeA) (w : World) (hG : GT w) (ho : NodeOk n) (hop : n.op = 13) :
    Calls Tryz.prog 91 #[.agg #[.int .i8 n.op, .int .i8 n.len, .int .i64 n.a0, .int .i64 n.a1, .int .i64 n.a2, .int .i64 n.sort, .int .i64 n.fn, .int .i64 n.num]] w fun e w' => e = .returned (.bool (fitsB n)) ∧ Below w.heap.size w w' := by
  obtain ⟨r, hr⟩ : ∃ r, fitsB n = r := ⟨_, rfl⟩
  rw [hr]
  have HNo := Lib.hid (fit_no hr)
  have HYes := Lib.hid (fit_yes hr)
  have HF := fits_iff_app n hop
  obtain ⟨op, len, a0, a1, a2, sort, fn, num⟩ := n
  simp only at hop
  subst hop
  obtain ⟨⟨p1, p2⟩, ⟨p3, p4⟩, ⟨p5, p6⟩, ⟨p7, p8⟩, ⟨p9, p10⟩, ⟨p11, p12⟩, ⟨p13, p14⟩, ⟨p15, p16⟩⟩ := ho
  have HF := Lib.hid HF
  clear hr
  simp only at *
  have HB0 : Hid (Below w.heap.size w (w.alloc (.cells #[.int .i8 13, .int .i8 len, .int .i64 a0, .int .i64 a1, .int .i64 a2, .int .i64 sort, .int .i64 fn, .int .i64 num] 54))) := (Below.refl _ w).alloc (Nat.le_refl _) _
  have hcell := hG.at_ 13 3 rfl
  have hglt := hG.lt
  clear hG
  by_cases c0 : len < 0
  · have hf : r = false := HNo.out (fun h => by have := HF.out.1 h; omega)
    subst hf
    have d0 : decide (0 ≤ len) = false := decide_eq_false (by omega)
    clear c0
    clear HNo HYes HF
    go_enter Tryz.func91, Tryz.ntmps91
    go_wp2
    go_quiet (fail)
    go_wp2
    go_ret
    exact ⟨rfl, below_drewN HB0.out⟩
  have d0 : decide (0 ≤ len) = true := decide_eq_true (by omega)
  by_cases c1 : 3 < len
  · have hf : r = false := HNo.out (fun h => by have := HF.out.1 h; omega)
    subst hf
    have d1 : decide (len ≤ 3) = false := decide_eq_false (by omega)
    clear c1
    clear HNo HYes HF
    go_enter Tryz.func91, Tryz.ntmps91
    go_wp2
    go_quiet (fail)
    go_wp2
    go_ret
    exact ⟨rfl, below_drewN HB0.out⟩
  have d1 : decide (len ≤ 3) = true := decide_eq_true (by omega)
  by_cases c2 : fn < 0
  · have hf : r = false := HNo.out (fun h => by have := HF.out.1 h; omega)
    subst hf
    have d2 : decide (0 ≤ fn) = false := decide_eq_false (by omega)
    clear c2
    clear HNo HYes HF
    go_enter Tryz.func91, Tryz.ntmps91
    go_wp2
    go_quiet (fail)
    go_wp2
    go_ret
    exact ⟨rfl, below_drewN HB0.out⟩
  have d2 : decide (0 ≤ fn) = true := decide_eq_true (by omega)
  by_cases c3 : 12 ≤ fn
  · have hf : r = false := HNo.out (fun h => by have := HF.out.1 h; omega)
    subst hf
    have d3 : decide (fn < 12) = false := decide_eq_false (by omega)
    clear c3
    clear HNo HYes HF
    go_enter Tryz.func91, Tryz.ntmps91
    go_wp2
    go_quiet (fail)
    go_wp2
    go_ret
    exact ⟨rfl, below_drewN HB0.out⟩
  have d3 : decide (fn < 12) = true := decide_eq_true (by omega)
  by_cases c4 : num = 0
  · have hf : r = true := HYes.out (HF.out.2 ⟨by omega, by omega, by omega, by omega, c4⟩)
    subst hf
    have d4 := eq_t c4
    clear c0 c1 c2 c3 c4
    clear HNo HYes HF
    go_enter Tryz.func91, Tryz.ntmps91
    go_wp2
    go_quiet (fail)
    go_wp2
    go_ret
    exact ⟨rfl, below_drewN HB0.out⟩
  · have hf : r = false := HNo.out (fun h => by have := HF.out.1 h; omega)
    subst hf
    have d4 := eq_f c4
    clear c0 c1 c2 c3 c4
    clear HNo HYes HF
    go_enter Tryz.func91, Tryz.ntmps91
    go_wp2
    go_quiet (fail)
    go_wp2
    go_ret
    exact ⟨rfl, below_drewN HB0.out⟩
set_option maxRecDepth 100000 in
set_option maxHeartbeats 4000000 in
theorem fits_10 (n : NodeA) (w : World) (hG : GT w) (ho : NodeOk n) (hop : n.op = 10) :
    Calls Tryz.prog 91 #[.agg #[.int .i8 n.op, .int .i8 n.len, .int .i64 n.a0, .int .i64 n.a1, .int .i64 n.a2, .int .i64 n.sort, .int .i64 n.fn, .int .i64 n.num]] w fun e w' => e = .returned (.bool (fitsB n)) ∧ Below w.heap.size w w' := by
  obtain ⟨r, hr⟩ : ∃ r, fitsB n = r := ⟨_, rfl⟩
  rw [hr]
  have HNo := Lib.hid (fit_no hr)
  have HYes := Lib.hid (fit_yes hr)
  have HF := fits_iff_num n 0 (by omega) (by rw [hop]; rfl)
  obtain ⟨op, len, a0, a1, a2, sort, fn, num⟩ := n
  simp only at hop
  subst hop
  obtain ⟨⟨p1, p2⟩, ⟨p3, p4⟩, ⟨p5, p6⟩, ⟨p7, p8⟩, ⟨p9, p10⟩, ⟨p11, p12⟩, ⟨p13, p14⟩, ⟨p15, p16⟩⟩ := ho
  have HF := Lib.hid HF
  clear hr
  simp only at *
  have HB0 : Hid (Below w.heap.size w (w.alloc (.cells #[.int .i8 10, .int .i8 len, .int .i64 a0, .int .i64 a1, .int .i64 a2, .int .i64 sort, .int .i64 fn, .int .i64 num] 54))) := (Below.refl _ w).alloc (Nat.le_refl _) _
  have hcell := hG.at_ 10 0 rfl
  have hglt := hG.lt
  clear hG
  by_cases c0 : len = 0
  rotate_left
  · have hf : r = false := HNo.out (fun h => by have := HF.out.1 h; omega)
    subst hf
    have d0 := eq_f c0
    clear c0
    clear HNo HYes HF
    go_enter Tryz.func91, Tryz.ntmps91
    go_wp2
    go_quiet (fail)
    go_wp2
    go_ret
    exact ⟨rfl, below_drewN HB0.out⟩
  have d0 := eq_t c0
  by_cases c1 : fn = 0
  rotate_left
  · have hf : r = false := HNo.out (fun h => by have := HF.out.1 h; omega)
    subst hf
    have d1 := eq_f c1
    clear c0 c1
    clear HNo HYes HF
    go_enter Tryz.func91, Tryz.ntmps91
    go_wp2
    go_quiet (fail)
    go_wp2
    go_ret
    exact ⟨rfl, below_drewN HB0.out⟩
  have d1 := eq_t c1
  have hf : r = mayB num := by
    cases z : mayB num with
    | true => exact HYes.out (HF.out.2 ⟨c0, c1, z⟩)
    | false => exact HNo.out (fun h => by have := (HF.out.1 h).2.2; rw [z] at this; cases this)
  subst hf
  have HM : Hid (∀ W, Calls Tryz.prog 105 #[.int .i64 num] W fun e w' => e = .returned (.bool (mayB num)) ∧ Below W.heap.size W w') := fun W => May_any num W ⟨p15, p16⟩
  subst c0 c1
  obtain ⟨W0, hW0⟩ : ∃ W0, W0 = w.alloc (.cells #[.int .i8 10, .int .i8 0, .int .i64 a0, .int .i64 a1, .int .i64 a2, .int .i64 sort, .int .i64 0, .int .i64 num] 54) := ⟨_, rfl⟩
  have hz : w.heap.size < W0.heap.size := by rw [hW0]; simp
  have hgz : 0 < W0.heap.size := by omega
  have H0 : Hid (W0.cell? ⟨w.heap.size, 0, none⟩ = some (.int .i8 10) ∧ W0.cell? ⟨w.heap.size, 1, none⟩ = some (.int .i8 0) ∧ W0.cell? ⟨w.heap.size, 6, none⟩ = some (.int .i64 0) ∧ W0.cell? ⟨w.heap.size, 7, none⟩ = some (.int .i64 num) ∧ W0.cell? ⟨0, 10, none⟩ = some (.int .i8 0)) := by
    have hb := heap_alloc_new w (.cells #[.int .i8 10, .int .i8 0, .int .i64 a0, .int .i64 a1, .int .i64 a2, .int .i64 sort, .int .i64 0, .int .i64 num] 54)
    rw [← hW0] at hb
    refine ⟨(cell_of_row _ _ 0 _ _ _ hb).trans rfl, (cell_of_row _ _ 1 _ _ _ hb).trans rfl, (cell_of_row _ _ 6 _ _ _ hb).trans rfl, (cell_of_row _ _ 7 _ _ _ hb).trans rfl, ?_⟩
    rw [hW0]
    exact (((Below.refl w.heap.size w).alloc (Nat.le_refl _) _).cell (p := ⟨0, 10, none⟩) hglt).trans hcell
  rw [← hW0] at HB0
  clear HNo HYes HF hcell
  go_enter Tryz.func91, Tryz.ntmps91
  go_wp2
  rw [← hW0]
  obtain ⟨a0, a1, a2, a3, a4⟩ := H0.out
  clear hW0
  go_region_held3 (fun W => W.cell? ⟨w.heap.size, 0, none⟩ = some (.int .i8 10) ∧ W.cell? ⟨w.heap.size, 1, none⟩ = some (.int .i8 0) ∧ W.cell? ⟨w.heap.size, 6, none⟩ = some (.int .i64 0) ∧ W.cell? ⟨w.heap.size, 7, none⟩ = some (.int .i64 num) ∧ W.cell? ⟨0, 10, none⟩ = some (.int .i8 0))
    (first | exact H0.out | exact ⟨(hc1 _ _ hz).trans H0.out.1, (hc1 _ _ hz).trans H0.out.2.1, (hc1 _ _ hz).trans H0.out.2.2.1, (hc1 _ _ hz).trans H0.out.2.2.2.1, (hc1 _ _ hgz).trans H0.out.2.2.2.2⟩ | go_keep)
    (first | (go_at_call 105; refine (HM.out _).mono ?_; rintro e w2 ⟨rfl, hb2⟩; obtain ⟨hc1, hf1⟩ := bcell hb2))
  go_wp2
  go_ret
  exact ⟨rfl, HB0.out.drew.trans (hb2.mono HB0.out.size)⟩
end Go.Proofs.YtpppfghdjbmbgaaGreatDoor.Tm
