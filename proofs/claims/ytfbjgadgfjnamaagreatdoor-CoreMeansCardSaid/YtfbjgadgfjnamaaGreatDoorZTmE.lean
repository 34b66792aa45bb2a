/- Package term's fitsKind, the rest. -/
import Derived.Test.YtfbjgadgfjnamaaGreatDoorZTmD
import Derived.Deep.RegionHeld3
import Derived.BigQuiet
namespace Go.Proofs.YtfbjgadgfjnamaaGreatDoor.Tm
open Go.RowKit
set_option linter.unusedVariables false
set_option maxRecDepth 100000 in
set_option maxHeartbeats 4000000 in
theorem fits_11 (n : NodeA) (w : World) (hG : GT w) (ho : NodeOk n) (hop : n.op = 11) :
    Calls Tryz.prog 139 #[.agg #[.int .i8 n.op, .int .i8 n.len, .int .i64 n.a0, .int .i64 n.a1, .int .i64 n.a2, .int .i64 n.sort, .int .i64 n.fn, .int .i64 n.num]] w fun e w' => e = .returned (.bool (fitsB n)) ∧ Below w.heap.size w w' := by
  obtain ⟨r, hr⟩ : ∃ r, fitsB n = r := ⟨_, rfl⟩
  rw [hr]
  have HNo := Lib.hid (fit_no hr)
  have HYes := Lib.hid (fit_yes hr)
  have HF := fits_iff_num n 1 (by omega) (by rw [hop]; rfl)
  obtain ⟨op, len, a0, a1, a2, sort, fn, num⟩ := n
  simp only at hop
  subst hop
  obtain ⟨⟨p1, p2⟩, ⟨p3, p4⟩, ⟨p5, p6⟩, ⟨p7, p8⟩, ⟨p9, p10⟩, ⟨p11, p12⟩, ⟨p13, p14⟩, ⟨p15, p16⟩⟩ := ho
  have HF := Lib.hid HF
  clear hr
  simp only at *
  have HB0 : Hid (Below w.heap.size w (w.alloc (.cells #[.int .i8 11, .int .i8 len, .int .i64 a0, .int .i64 a1, .int .i64 a2, .int .i64 sort, .int .i64 fn, .int .i64 num] 47))) := (Below.refl _ w).alloc (Nat.le_refl _) _
  have hcell := hG.at_ 11 1 rfl
  have hglt := hG.lt
  clear hG
  by_cases c0 : len = 1
  rotate_left
  · have hf : r = false := HNo.out (fun h => by have := HF.out.1 h; omega)
    subst hf
    have d0 := eq_f c0
    clear c0
    clear HNo HYes HF
    go_enter Tryz.func139, Tryz.ntmps139
    go_wp2
    go_quiet (fail)
    go_wp2
    go_ret
    exact ⟨rfl, below_drewN HB0.out⟩
  have d0 := eq_t c0
  by_cases c1 : fn = 0
  rotate_left
  · have hf : r = false := HNo.out (fun h => by have := HF.out.1 h; omega)
    subst hf
    have d1 := eq_f c1
    clear c0 c1
    clear HNo HYes HF
    go_enter Tryz.func139, Tryz.ntmps139
    go_wp2
    go_quiet (fail)
    go_wp2
    go_ret
    exact ⟨rfl, below_drewN HB0.out⟩
  have d1 := eq_t c1
  have hf : r = mayB num := by
    cases z : mayB num with
    | true => exact HYes.out (HF.out.2 ⟨c0, c1, z⟩)
    | false => exact HNo.out (fun h => by have := (HF.out.1 h).2.2; rw [z] at this; cases this)
  subst hf
  have HM : Hid (∀ W, Calls Tryz.prog 162 #[.int .i64 num] W fun e w' => e = .returned (.bool (mayB num)) ∧ Below W.heap.size W w') := fun W => May_any num W ⟨p15, p16⟩
  subst c0 c1
  obtain ⟨W0, hW0⟩ : ∃ W0, W0 = w.alloc (.cells #[.int .i8 11, .int .i8 1, .int .i64 a0, .int .i64 a1, .int .i64 a2, .int .i64 sort, .int .i64 0, .int .i64 num] 47) := ⟨_, rfl⟩
  have hz : w.heap.size < W0.heap.size := by rw [hW0]; simp
  have hgz : 0 < W0.heap.size := by omega
  have H0 : Hid (W0.cell? ⟨w.heap.size, 0, none⟩ = some (.int .i8 11) ∧ W0.cell? ⟨w.heap.size, 1, none⟩ = some (.int .i8 1) ∧ W0.cell? ⟨w.heap.size, 6, none⟩ = some (.int .i64 0) ∧ W0.cell? ⟨w.heap.size, 7, none⟩ = some (.int .i64 num) ∧ W0.cell? ⟨0, 11, none⟩ = some (.int .i8 1)) := by
    have hb := heap_alloc_new w (.cells #[.int .i8 11, .int .i8 1, .int .i64 a0, .int .i64 a1, .int .i64 a2, .int .i64 sort, .int .i64 0, .int .i64 num] 47)
    rw [← hW0] at hb
    refine ⟨(cell_of_row _ _ 0 _ _ _ hb).trans rfl, (cell_of_row _ _ 1 _ _ _ hb).trans rfl, (cell_of_row _ _ 6 _ _ _ hb).trans rfl, (cell_of_row _ _ 7 _ _ _ hb).trans rfl, ?_⟩
    rw [hW0]
    exact (((Below.refl w.heap.size w).alloc (Nat.le_refl _) _).cell (p := ⟨0, 11, none⟩) hglt).trans hcell
  rw [← hW0] at HB0
  clear HNo HYes HF hcell
  go_enter Tryz.func139, Tryz.ntmps139
  go_wp2
  rw [← hW0]
  obtain ⟨a0, a1, a2, a3, a4⟩ := H0.out
  clear hW0
  go_region_held3 (fun W => W.cell? ⟨w.heap.size, 0, none⟩ = some (.int .i8 11) ∧ W.cell? ⟨w.heap.size, 1, none⟩ = some (.int .i8 1) ∧ W.cell? ⟨w.heap.size, 6, none⟩ = some (.int .i64 0) ∧ W.cell? ⟨w.heap.size, 7, none⟩ = some (.int .i64 num) ∧ W.cell? ⟨0, 11, none⟩ = some (.int .i8 1))
    (first | exact H0.out | exact ⟨(hc1 _ _ hz).trans H0.out.1, (hc1 _ _ hz).trans H0.out.2.1, (hc1 _ _ hz).trans H0.out.2.2.1, (hc1 _ _ hz).trans H0.out.2.2.2.1, (hc1 _ _ hgz).trans H0.out.2.2.2.2⟩ | go_keep)
    (first | (go_at_call 162; refine (HM.out _).mono ?_; rintro e w2 ⟨rfl, hb2⟩; obtain ⟨hc1, hf1⟩ := bcell hb2))
  go_wp2
  go_ret
  exact ⟨rfl, HB0.out.drew.trans (hb2.mono HB0.out.size)⟩
set_option maxRecDepth 100000 in
set_option maxHeartbeats 4000000 in
theorem fits_12 (n : NodeA) (w : World) (hG : GT w) (ho : NodeOk n) (hop : n.op = 12) :
    Calls Tryz.prog 139 #[.agg #[.int .i8 n.op, .int .i8 n.len, .int .i64 n.a0, .int .i64 n.a1, .int .i64 n.a2, .int .i64 n.sort, .int .i64 n.fn, .int .i64 n.num]] w fun e w' => e = .returned (.bool (fitsB n)) ∧ Below w.heap.size w w' := by
  obtain ⟨r, hr⟩ : ∃ r, fitsB n = r := ⟨_, rfl⟩
  rw [hr]
  have HNo := Lib.hid (fit_no hr)
  have HYes := Lib.hid (fit_yes hr)
  have HF := fits_iff_num n 2 (by omega) (by rw [hop]; rfl)
  obtain ⟨op, len, a0, a1, a2, sort, fn, num⟩ := n
  simp only at hop
  subst hop
  obtain ⟨⟨p1, p2⟩, ⟨p3, p4⟩, ⟨p5, p6⟩, ⟨p7, p8⟩, ⟨p9, p10⟩, ⟨p11, p12⟩, ⟨p13, p14⟩, ⟨p15, p16⟩⟩ := ho
  have HF := Lib.hid HF
  clear hr
  simp only at *
  have HB0 : Hid (Below w.heap.size w (w.alloc (.cells #[.int .i8 12, .int .i8 len, .int .i64 a0, .int .i64 a1, .int .i64 a2, .int .i64 sort, .int .i64 fn, .int .i64 num] 47))) := (Below.refl _ w).alloc (Nat.le_refl _) _
  have hcell := hG.at_ 12 2 rfl
  have hglt := hG.lt
  clear hG
  by_cases c0 : len = 2
  rotate_left
  · have hf : r = false := HNo.out (fun h => by have := HF.out.1 h; omega)
    subst hf
    have d0 := eq_f c0
    clear c0
    clear HNo HYes HF
    go_enter Tryz.func139, Tryz.ntmps139
    go_wp2
    go_quiet (fail)
    go_wp2
    go_ret
    exact ⟨rfl, below_drewN HB0.out⟩
  have d0 := eq_t c0
  by_cases c1 : fn = 0
  rotate_left
  · have hf : r = false := HNo.out (fun h => by have := HF.out.1 h; omega)
    subst hf
    have d1 := eq_f c1
    clear c0 c1
    clear HNo HYes HF
    go_enter Tryz.func139, Tryz.ntmps139
    go_wp2
    go_quiet (fail)
    go_wp2
    go_ret
    exact ⟨rfl, below_drewN HB0.out⟩
  have d1 := eq_t c1
  have hf : r = mayB num := by
    cases z : mayB num with
    | true => exact HYes.out (HF.out.2 ⟨c0, c1, z⟩)
    | false => exact HNo.out (fun h => by have := (HF.out.1 h).2.2; rw [z] at this; cases this)
  subst hf
  have HM : Hid (∀ W, Calls Tryz.prog 162 #[.int .i64 num] W fun e w' => e = .returned (.bool (mayB num)) ∧ Below W.heap.size W w') := fun W => May_any num W ⟨p15, p16⟩
  subst c0 c1
  obtain ⟨W0, hW0⟩ : ∃ W0, W0 = w.alloc (.cells #[.int .i8 12, .int .i8 2, .int .i64 a0, .int .i64 a1, .int .i64 a2, .int .i64 sort, .int .i64 0, .int .i64 num] 47) := ⟨_, rfl⟩
  have hz : w.heap.size < W0.heap.size := by rw [hW0]; simp
  have hgz : 0 < W0.heap.size := by omega
  have H0 : Hid (W0.cell? ⟨w.heap.size, 0, none⟩ = some (.int .i8 12) ∧ W0.cell? ⟨w.heap.size, 1, none⟩ = some (.int .i8 2) ∧ W0.cell? ⟨w.heap.size, 6, none⟩ = some (.int .i64 0) ∧ W0.cell? ⟨w.heap.size, 7, none⟩ = some (.int .i64 num) ∧ W0.cell? ⟨0, 12, none⟩ = some (.int .i8 2)) := by
    have hb := heap_alloc_new w (.cells #[.int .i8 12, .int .i8 2, .int .i64 a0, .int .i64 a1, .int .i64 a2, .int .i64 sort, .int .i64 0, .int .i64 num] 47)
    rw [← hW0] at hb
    refine ⟨(cell_of_row _ _ 0 _ _ _ hb).trans rfl, (cell_of_row _ _ 1 _ _ _ hb).trans rfl, (cell_of_row _ _ 6 _ _ _ hb).trans rfl, (cell_of_row _ _ 7 _ _ _ hb).trans rfl, ?_⟩
    rw [hW0]
    exact (((Below.refl w.heap.size w).alloc (Nat.le_refl _) _).cell (p := ⟨0, 12, none⟩) hglt).trans hcell
  rw [← hW0] at HB0
  clear HNo HYes HF hcell
  go_enter Tryz.func139, Tryz.ntmps139
  go_wp2
  rw [← hW0]
  obtain ⟨a0, a1, a2, a3, a4⟩ := H0.out
  clear hW0
  go_region_held3 (fun W => W.cell? ⟨w.heap.size, 0, none⟩ = some (.int .i8 12) ∧ W.cell? ⟨w.heap.size, 1, none⟩ = some (.int .i8 2) ∧ W.cell? ⟨w.heap.size, 6, none⟩ = some (.int .i64 0) ∧ W.cell? ⟨w.heap.size, 7, none⟩ = some (.int .i64 num) ∧ W.cell? ⟨0, 12, none⟩ = some (.int .i8 2))
    (first | exact H0.out | exact ⟨(hc1 _ _ hz).trans H0.out.1, (hc1 _ _ hz).trans H0.out.2.1, (hc1 _ _ hz).trans H0.out.2.2.1, (hc1 _ _ hz).trans H0.out.2.2.2.1, (hc1 _ _ hgz).trans H0.out.2.2.2.2⟩ | go_keep)
    (first | (go_at_call 162; refine (HM.out _).mono ?_; rintro e w2 ⟨rfl, hb2⟩; obtain ⟨hc1, hf1⟩ := bcell hb2))
  go_wp2
  go_ret
  exact ⟨rfl, HB0.out.drew.trans (hb2.mono HB0.out.size)⟩
set_option maxRecDepth 100000 in
set_option maxHeartbeats 4000000 in
theorem fits_0 (n : NodeA) (w : World) (hG : GT w) (ho : NodeOk n) (hop : n.op = 0) :
    Calls Tryz.prog 139 #[.agg #[.int .i8 n.op, .int .i8 n.len, .int .i64 n.a0, .int .i64 n.a1, .int .i64 n.a2, .int .i64 n.sort, .int .i64 n.fn, .int .i64 n.num]] w fun e w' => e = .returned (.bool (fitsB n)) ∧ Below w.heap.size w w' := by
  obtain ⟨r, hr⟩ : ∃ r, fitsB n = r := ⟨_, rfl⟩
  rw [hr]
  have HNo := Lib.hid (fit_no hr)
  have HYes := Lib.hid (fit_yes hr)
  have HF := fits_iff_plain n 0 (by omega) (by rw [hop]; rfl)
  obtain ⟨op, len, a0, a1, a2, sort, fn, num⟩ := n
  simp only at hop
  subst hop
  obtain ⟨⟨p1, p2⟩, ⟨p3, p4⟩, ⟨p5, p6⟩, ⟨p7, p8⟩, ⟨p9, p10⟩, ⟨p11, p12⟩, ⟨p13, p14⟩, ⟨p15, p16⟩⟩ := ho
  have HF := Lib.hid HF
  clear hr
  simp only at *
  have HB0 : Hid (Below w.heap.size w (w.alloc (.cells #[.int .i8 0, .int .i8 len, .int .i64 a0, .int .i64 a1, .int .i64 a2, .int .i64 sort, .int .i64 fn, .int .i64 num] 47))) := (Below.refl _ w).alloc (Nat.le_refl _) _
  have hcell := hG.at_ 0 0 rfl
  have hglt := hG.lt
  clear hG
  by_cases c0 : len = 0
  rotate_left
  · have hf : r = false := HNo.out (fun h => by have := HF.out.1 h; omega)
    subst hf
    have d0 := eq_f c0
    clear c0
    clear HNo HYes HF
    go_enter Tryz.func139, Tryz.ntmps139
    go_wp2
    go_quiet (fail)
    go_wp2
    go_ret
    exact ⟨rfl, below_drewN HB0.out⟩
  have d0 := eq_t c0
  by_cases c1 : fn = 0
  rotate_left
  · have hf : r = false := HNo.out (fun h => by have := HF.out.1 h; omega)
    subst hf
    have d1 := eq_f c1
    clear c0 c1
    clear HNo HYes HF
    go_enter Tryz.func139, Tryz.ntmps139
    go_wp2
    go_quiet (fail)
    go_wp2
    go_ret
    exact ⟨rfl, below_drewN HB0.out⟩
  have d1 := eq_t c1
  by_cases c2 : num = 0
  rotate_left
  · have hf : r = false := HNo.out (fun h => by have := HF.out.1 h; omega)
    subst hf
    have d2 := eq_f c2
    clear c0 c1 c2
    clear HNo HYes HF
    go_enter Tryz.func139, Tryz.ntmps139
    go_wp2
    go_quiet (fail)
    go_wp2
    go_ret
    exact ⟨rfl, below_drewN HB0.out⟩
  have d2 := eq_t c2
  have hf : r = true := HYes.out (HF.out.2 ⟨c0, c1, c2⟩)
  subst hf
  clear c0 c1 c2
  clear HNo HYes HF
  go_enter Tryz.func139, Tryz.ntmps139
  go_wp2
  go_quiet (fail)
  go_wp2
  go_ret
  exact ⟨rfl, below_drewN HB0.out⟩
set_option maxRecDepth 100000 in
set_option maxHeartbeats 4000000 in
theorem fits_1 (n : NodeA) (w : World) (hG : GT w) (ho : NodeOk n) (hop : n.op = 1) :
    Calls Tryz.prog 139 #[.agg #[.int .i8 n.op, .int .i8 n.len, .int .i64 n.a0, .int .i64 n.a1, .int .i64 n.a2, .int .i64 n.sort, .int .i64 n.fn, .int .i64 n.num]] w fun e w' => e = .returned (.bool (fitsB n)) ∧ Below w.heap.size w w' := by
  obtain ⟨r, hr⟩ : ∃ r, fitsB n = r := ⟨_, rfl⟩
  rw [hr]
  have HNo := Lib.hid (fit_no hr)
  have HYes := Lib.hid (fit_yes hr)
  have HF := fits_iff_plain n 1 (by omega) (by rw [hop]; rfl)
  obtain ⟨op, len, a0, a1, a2, sort, fn, num⟩ := n
  simp only at hop
  subst hop
  obtain ⟨⟨p1, p2⟩, ⟨p3, p4⟩, ⟨p5, p6⟩, ⟨p7, p8⟩, ⟨p9, p10⟩, ⟨p11, p12⟩, ⟨p13, p14⟩, ⟨p15, p16⟩⟩ := ho
  have HF := Lib.hid HF
  clear hr
  simp only at *
  have HB0 : Hid (Below w.heap.size w (w.alloc (.cells #[.int .i8 1, .int .i8 len, .int .i64 a0, .int .i64 a1, .int .i64 a2, .int .i64 sort, .int .i64 fn, .int .i64 num] 47))) := (Below.refl _ w).alloc (Nat.le_refl _) _
  have hcell := hG.at_ 1 1 rfl
  have hglt := hG.lt
  clear hG
  by_cases c0 : len = 1
  rotate_left
  · have hf : r = false := HNo.out (fun h => by have := HF.out.1 h; omega)
    subst hf
    have d0 := eq_f c0
    clear c0
    clear HNo HYes HF
    go_enter Tryz.func139, Tryz.ntmps139
    go_wp2
    go_quiet (fail)
    go_wp2
    go_ret
    exact ⟨rfl, below_drewN HB0.out⟩
  have d0 := eq_t c0
  by_cases c1 : fn = 0
  rotate_left
  · have hf : r = false := HNo.out (fun h => by have := HF.out.1 h; omega)
    subst hf
    have d1 := eq_f c1
    clear c0 c1
    clear HNo HYes HF
    go_enter Tryz.func139, Tryz.ntmps139
    go_wp2
    go_quiet (fail)
    go_wp2
    go_ret
    exact ⟨rfl, below_drewN HB0.out⟩
  have d1 := eq_t c1
  by_cases c2 : num = 0
  rotate_left
  · have hf : r = false := HNo.out (fun h => by have := HF.out.1 h; omega)
    subst hf
    have d2 := eq_f c2
    clear c0 c1 c2
    clear HNo HYes HF
    go_enter Tryz.func139, Tryz.ntmps139
    go_wp2
    go_quiet (fail)
    go_wp2
    go_ret
    exact ⟨rfl, below_drewN HB0.out⟩
  have d2 := eq_t c2
  have hf : r = true := HYes.out (HF.out.2 ⟨c0, c1, c2⟩)
  subst hf
  clear c0 c1 c2
  clear HNo HYes HF
  go_enter Tryz.func139, Tryz.ntmps139
  go_wp2
  go_quiet (fail)
  go_wp2
  go_ret
  exact ⟨rfl, below_drewN HB0.out⟩
set_option maxRecDepth 100000 in
set_option maxHeartbeats 4000000 in
theorem fits_2 (n : NodeA) (w : World) (hG : GT w) (ho : NodeOk n) (hop : n.op = 2) :
    Calls Tryz.prog 139 #[.agg #[.int .i8 n.op, .int .i8 n.len, .int .i64 n.a0, .int .i64 n.a1, .int .i64 n.a2, .int .i64 n.sort, .int .i64 n.fn, .int .i64 n.num]] w fun e w' => e = .returned (.bool (fitsB n)) ∧ Below w.heap.size w w' := by
  obtain ⟨r, hr⟩ : ∃ r, fitsB n = r := ⟨_, rfl⟩
  rw [hr]
  have HNo := Lib.hid (fit_no hr)
  have HYes := Lib.hid (fit_yes hr)
  have HF := fits_iff_plain n 2 (by omega) (by rw [hop]; rfl)
  obtain ⟨op, len, a0, a1, a2, sort, fn, num⟩ := n
  simp only at hop
  subst hop
  obtain ⟨⟨p1, p2⟩, ⟨p3, p4⟩, ⟨p5, p6⟩, ⟨p7, p8⟩, ⟨p9, p10⟩, ⟨p11, p12⟩, ⟨p13, p14⟩, ⟨p15, p16⟩⟩ := ho
  have HF := Lib.hid HF
  clear hr
  simp only at *
  have HB0 : Hid (Below w.heap.size w (w.alloc (.cells #[.int .i8 2, .int .i8 len, .int .i64 a0, .int .i64 a1, .int .i64 a2, .int .i64 sort, .int .i64 fn, .int .i64 num] 47))) := (Below.refl _ w).alloc (Nat.le_refl _) _
  have hcell := hG.at_ 2 2 rfl
  have hglt := hG.lt
  clear hG
  by_cases c0 : len = 2
  rotate_left
  · have hf : r = false := HNo.out (fun h => by have := HF.out.1 h; omega)
    subst hf
    have d0 := eq_f c0
    clear c0
    clear HNo HYes HF
    go_enter Tryz.func139, Tryz.ntmps139
    go_wp2
    go_quiet (fail)
    go_wp2
    go_ret
    exact ⟨rfl, below_drewN HB0.out⟩
  have d0 := eq_t c0
  by_cases c1 : fn = 0
  rotate_left
  · have hf : r = false := HNo.out (fun h => by have := HF.out.1 h; omega)
    subst hf
    have d1 := eq_f c1
    clear c0 c1
    clear HNo HYes HF
    go_enter Tryz.func139, Tryz.ntmps139
    go_wp2
    go_quiet (fail)
    go_wp2
    go_ret
    exact ⟨rfl, below_drewN HB0.out⟩
  have d1 := eq_t c1
  by_cases c2 : num = 0
  rotate_left
  · have hf : r = false := HNo.out (fun h => by have := HF.out.1 h; omega)
    subst hf
    have d2 := eq_f c2
    clear c0 c1 c2
    clear HNo HYes HF
    go_enter Tryz.func139, Tryz.ntmps139
    go_wp2
    go_quiet (fail)
    go_wp2
    go_ret
    exact ⟨rfl, below_drewN HB0.out⟩
  have d2 := eq_t c2
  have hf : r = true := HYes.out (HF.out.2 ⟨c0, c1, c2⟩)
  subst hf
  clear c0 c1 c2
  clear HNo HYes HF
  go_enter Tryz.func139, Tryz.ntmps139
  go_wp2
  go_quiet (fail)
  go_wp2
  go_ret
  exact ⟨rfl, below_drewN HB0.out⟩
set_option maxRecDepth 100000 in
set_option maxHeartbeats 4000000 in
theorem fits_3 (n : NodeA) (w : World) (hG : GT w) (ho : NodeOk n) (hop : n.op = 3) :
    Calls Tryz.prog 139 #[.agg #[.int .i8 n.op, .int .i8 n.len, .int .i64 n.a0, .int .i64 n.a1, .int .i64 n.a2, .int .i64 n.sort, .int .i64 n.fn, .int .i64 n.num]] w fun e w' => e = .returned (.bool (fitsB n)) ∧ Below w.heap.size w w' := by
  obtain ⟨r, hr⟩ : ∃ r, fitsB n = r := ⟨_, rfl⟩
  rw [hr]
  have HNo := Lib.hid (fit_no hr)
  have HYes := Lib.hid (fit_yes hr)
  have HF := fits_iff_plain n 2 (by omega) (by rw [hop]; rfl)
  obtain ⟨op, len, a0, a1, a2, sort, fn, num⟩ := n
  simp only at hop
  subst hop
  obtain ⟨⟨p1, p2⟩, ⟨p3, p4⟩, ⟨p5, p6⟩, ⟨p7, p8⟩, ⟨p9, p10⟩, ⟨p11, p12⟩, ⟨p13, p14⟩, ⟨p15, p16⟩⟩ := ho
  have HF := Lib.hid HF
  clear hr
  simp only at *
  have HB0 : Hid (Below w.heap.size w (w.alloc (.cells #[.int .i8 3, .int .i8 len, .int .i64 a0, .int .i64 a1, .int .i64 a2, .int .i64 sort, .int .i64 fn, .int .i64 num] 47))) := (Below.refl _ w).alloc (Nat.le_refl _) _
  have hcell := hG.at_ 3 2 rfl
  have hglt := hG.lt
  clear hG
  by_cases c0 : len = 2
  rotate_left
  · have hf : r = false := HNo.out (fun h => by have := HF.out.1 h; omega)
    subst hf
    have d0 := eq_f c0
    clear c0
    clear HNo HYes HF
    go_enter Tryz.func139, Tryz.ntmps139
    go_wp2
    go_quiet (fail)
    go_wp2
    go_ret
    exact ⟨rfl, below_drewN HB0.out⟩
  have d0 := eq_t c0
  by_cases c1 : fn = 0
  rotate_left
  · have hf : r = false := HNo.out (fun h => by have := HF.out.1 h; omega)
    subst hf
    have d1 := eq_f c1
    clear c0 c1
    clear HNo HYes HF
    go_enter Tryz.func139, Tryz.ntmps139
    go_wp2
    go_quiet (fail)
    go_wp2
    go_ret
    exact ⟨rfl, below_drewN HB0.out⟩
  have d1 := eq_t c1
  by_cases c2 : num = 0
  rotate_left
  · have hf : r = false := HNo.out (fun h => by have := HF.out.1 h; omega)
    subst hf
    have d2 := eq_f c2
    clear c0 c1 c2
    clear HNo HYes HF
    go_enter Tryz.func139, Tryz.ntmps139
    go_wp2
    go_quiet (fail)
    go_wp2
    go_ret
    exact ⟨rfl, below_drewN HB0.out⟩
  have d2 := eq_t c2
  have hf : r = true := HYes.out (HF.out.2 ⟨c0, c1, c2⟩)
  subst hf
  clear c0 c1 c2
  clear HNo HYes HF
  go_enter Tryz.func139, Tryz.ntmps139
  go_wp2
  go_quiet (fail)
  go_wp2
  go_ret
  exact ⟨rfl, below_drewN HB0.out⟩
set_option maxRecDepth 100000 in
set_option maxHeartbeats 4000000 in
theorem fits_4 (n : NodeA) (w : World) (hG : GT w) (ho : NodeOk n) (hop : n.op = 4) :
    Calls Tryz.prog 139 #[.agg #[.int .i8 n.op, .int .i8 n.len, .int .i64 n.a0, .int .i64 n.a1, .int .i64 n.a2, .int .i64 n.sort, .int .i64 n.fn, .int .i64 n.num]] w fun e w' => e = .returned (.bool (fitsB n)) ∧ Below w.heap.size w w' := by
  obtain ⟨r, hr⟩ : ∃ r, fitsB n = r := ⟨_, rfl⟩
  rw [hr]
  have HNo := Lib.hid (fit_no hr)
  have HYes := Lib.hid (fit_yes hr)
  have HF := fits_iff_plain n 2 (by omega) (by rw [hop]; rfl)
  obtain ⟨op, len, a0, a1, a2, sort, fn, num⟩ := n
  simp only at hop
  subst hop
  obtain ⟨⟨p1, p2⟩, ⟨p3, p4⟩, ⟨p5, p6⟩, ⟨p7, p8⟩, ⟨p9, p10⟩, ⟨p11, p12⟩, ⟨p13, p14⟩, ⟨p15, p16⟩⟩ := ho
  have HF := Lib.hid HF
  clear hr
  simp only at *
  have HB0 : Hid (Below w.heap.size w (w.alloc (.cells #[.int .i8 4, .int .i8 len, .int .i64 a0, .int .i64 a1, .int .i64 a2, .int .i64 sort, .int .i64 fn, .int .i64 num] 47))) := (Below.refl _ w).alloc (Nat.le_refl _) _
  have hcell := hG.at_ 4 2 rfl
  have hglt := hG.lt
  clear hG
  by_cases c0 : len = 2
  rotate_left
  · have hf : r = false := HNo.out (fun h => by have := HF.out.1 h; omega)
    subst hf
    have d0 := eq_f c0
    clear c0
    clear HNo HYes HF
    go_enter Tryz.func139, Tryz.ntmps139
    go_wp2
    go_quiet (fail)
    go_wp2
    go_ret
    exact ⟨rfl, below_drewN HB0.out⟩
  have d0 := eq_t c0
  by_cases c1 : fn = 0
  rotate_left
  · have hf : r = false := HNo.out (fun h => by have := HF.out.1 h; omega)
    subst hf
    have d1 := eq_f c1
    clear c0 c1
    clear HNo HYes HF
    go_enter Tryz.func139, Tryz.ntmps139
    go_wp2
    go_quiet (fail)
    go_wp2
    go_ret
    exact ⟨rfl, below_drewN HB0.out⟩
  have d1 := eq_t c1
  by_cases c2 : num = 0
  rotate_left
  · have hf : r = false := HNo.out (fun h => by have := HF.out.1 h; omega)
    subst hf
    have d2 := eq_f c2
    clear c0 c1 c2
    clear HNo HYes HF
    go_enter Tryz.func139, Tryz.ntmps139
    go_wp2
    go_quiet (fail)
    go_wp2
    go_ret
    exact ⟨rfl, below_drewN HB0.out⟩
  have d2 := eq_t c2
  have hf : r = true := HYes.out (HF.out.2 ⟨c0, c1, c2⟩)
  subst hf
  clear c0 c1 c2
  clear HNo HYes HF
  go_enter Tryz.func139, Tryz.ntmps139
  go_wp2
  go_quiet (fail)
  go_wp2
  go_ret
  exact ⟨rfl, below_drewN HB0.out⟩
set_option maxRecDepth 100000 in
set_option maxHeartbeats 4000000 in
theorem fits_5 (n : NodeA) (w : World) (hG : GT w) (ho : NodeOk n) (hop : n.op = 5) :
    Calls Tryz.prog 139 #[.agg #[.int .i8 n.op, .int .i8 n.len, .int .i64 n.a0, .int .i64 n.a1, .int .i64 n.a2, .int .i64 n.sort, .int .i64 n.fn, .int .i64 n.num]] w fun e w' => e = .returned (.bool (fitsB n)) ∧ Below w.heap.size w w' := by
  obtain ⟨r, hr⟩ : ∃ r, fitsB n = r := ⟨_, rfl⟩
  rw [hr]
  have HNo := Lib.hid (fit_no hr)
  have HYes := Lib.hid (fit_yes hr)
  have HF := fits_iff_plain n 2 (by omega) (by rw [hop]; rfl)
  obtain ⟨op, len, a0, a1, a2, sort, fn, num⟩ := n
  simp only at hop
  subst hop
  obtain ⟨⟨p1, p2⟩, ⟨p3, p4⟩, ⟨p5, p6⟩, ⟨p7, p8⟩, ⟨p9, p10⟩, ⟨p11, p12⟩, ⟨p13, p14⟩, ⟨p15, p16⟩⟩ := ho
  have HF := Lib.hid HF
  clear hr
  simp only at *
  have HB0 : Hid (Below w.heap.size w (w.alloc (.cells #[.int .i8 5, .int .i8 len, .int .i64 a0, .int .i64 a1, .int .i64 a2, .int .i64 sort, .int .i64 fn, .int .i64 num] 47))) := (Below.refl _ w).alloc (Nat.le_refl _) _
  have hcell := hG.at_ 5 2 rfl
  have hglt := hG.lt
  clear hG
  by_cases c0 : len = 2
  rotate_left
  · have hf : r = false := HNo.out (fun h => by have := HF.out.1 h; omega)
    subst hf
    have d0 := eq_f c0
    clear c0
    clear HNo HYes HF
    go_enter Tryz.func139, Tryz.ntmps139
    go_wp2
    go_quiet (fail)
    go_wp2
    go_ret
    exact ⟨rfl, below_drewN HB0.out⟩
  have d0 := eq_t c0
  by_cases c1 : fn = 0
  rotate_left
  · have hf : r = false := HNo.out (fun h => by have := HF.out.1 h; omega)
    subst hf
    have d1 := eq_f c1
    clear c0 c1
    clear HNo HYes HF
    go_enter Tryz.func139, Tryz.ntmps139
    go_wp2
    go_quiet (fail)
    go_wp2
    go_ret
    exact ⟨rfl, below_drewN HB0.out⟩
  have d1 := eq_t c1
  by_cases c2 : num = 0
  rotate_left
  · have hf : r = false := HNo.out (fun h => by have := HF.out.1 h; omega)
    subst hf
    have d2 := eq_f c2
    clear c0 c1 c2
    clear HNo HYes HF
    go_enter Tryz.func139, Tryz.ntmps139
    go_wp2
    go_quiet (fail)
    go_wp2
    go_ret
    exact ⟨rfl, below_drewN HB0.out⟩
  have d2 := eq_t c2
  have hf : r = true := HYes.out (HF.out.2 ⟨c0, c1, c2⟩)
  subst hf
  clear c0 c1 c2
  clear HNo HYes HF
  go_enter Tryz.func139, Tryz.ntmps139
  go_wp2
  go_quiet (fail)
  go_wp2
  go_ret
  exact ⟨rfl, below_drewN HB0.out⟩
set_option maxRecDepth 100000 in
set_option maxHeartbeats 4000000 in
theorem fits_6 (n : NodeA) (w : World) (hG : GT w) (ho : NodeOk n) (hop : n.op = 6) :
    Calls Tryz.prog 139 #[.agg #[.int .i8 n.op, .int .i8 n.len, .int .i64 n.a0, .int .i64 n.a1, .int .i64 n.a2, .int .i64 n.sort, .int .i64 n.fn, .int .i64 n.num]] w fun e w' => e = .returned (.bool (fitsB n)) ∧ Below w.heap.size w w' := by
  obtain ⟨r, hr⟩ : ∃ r, fitsB n = r := ⟨_, rfl⟩
  rw [hr]
  have HNo := Lib.hid (fit_no hr)
  have HYes := Lib.hid (fit_yes hr)
  have HF := fits_iff_plain n 2 (by omega) (by rw [hop]; rfl)
  obtain ⟨op, len, a0, a1, a2, sort, fn, num⟩ := n
  simp only at hop
  subst hop
  obtain ⟨⟨p1, p2⟩, ⟨p3, p4⟩, ⟨p5, p6⟩, ⟨p7, p8⟩, ⟨p9, p10⟩, ⟨p11, p12⟩, ⟨p13, p14⟩, ⟨p15, p16⟩⟩ := ho
  have HF := Lib.hid HF
  clear hr
  simp only at *
  have HB0 : Hid (Below w.heap.size w (w.alloc (.cells #[.int .i8 6, .int .i8 len, .int .i64 a0, .int .i64 a1, .int .i64 a2, .int .i64 sort, .int .i64 fn, .int .i64 num] 47))) := (Below.refl _ w).alloc (Nat.le_refl _) _
  have hcell := hG.at_ 6 2 rfl
  have hglt := hG.lt
  clear hG
  by_cases c0 : len = 2
  rotate_left
  · have hf : r = false := HNo.out (fun h => by have := HF.out.1 h; omega)
    subst hf
    have d0 := eq_f c0
    clear c0
    clear HNo HYes HF
    go_enter Tryz.func139, Tryz.ntmps139
    go_wp2
    go_quiet (fail)
    go_wp2
    go_ret
    exact ⟨rfl, below_drewN HB0.out⟩
  have d0 := eq_t c0
  by_cases c1 : fn = 0
  rotate_left
  · have hf : r = false := HNo.out (fun h => by have := HF.out.1 h; omega)
    subst hf
    have d1 := eq_f c1
    clear c0 c1
    clear HNo HYes HF
    go_enter Tryz.func139, Tryz.ntmps139
    go_wp2
    go_quiet (fail)
    go_wp2
    go_ret
    exact ⟨rfl, below_drewN HB0.out⟩
  have d1 := eq_t c1
  by_cases c2 : num = 0
  rotate_left
  · have hf : r = false := HNo.out (fun h => by have := HF.out.1 h; omega)
    subst hf
    have d2 := eq_f c2
    clear c0 c1 c2
    clear HNo HYes HF
    go_enter Tryz.func139, Tryz.ntmps139
    go_wp2
    go_quiet (fail)
    go_wp2
    go_ret
    exact ⟨rfl, below_drewN HB0.out⟩
  have d2 := eq_t c2
  have hf : r = true := HYes.out (HF.out.2 ⟨c0, c1, c2⟩)
  subst hf
  clear c0 c1 c2
  clear HNo HYes HF
  go_enter Tryz.func139, Tryz.ntmps139
  go_wp2
  go_quiet (fail)
  go_wp2
  go_ret
  exact ⟨rfl, below_drewN HB0.out⟩
set_option maxRecDepth 100000 in
set_option maxHeartbeats 4000000 in
theorem fits_7 (n : NodeA) (w : World) (hG : GT w) (ho : NodeOk n) (hop : n.op = 7) :
    Calls Tryz.prog 139 #[.agg #[.int .i8 n.op, .int .i8 n.len, .int .i64 n.a0, .int .i64 n.a1, .int .i64 n.a2, .int .i64 n.sort, .int .i64 n.fn, .int .i64 n.num]] w fun e w' => e = .returned (.bool (fitsB n)) ∧ Below w.heap.size w w' := by
  obtain ⟨r, hr⟩ : ∃ r, fitsB n = r := ⟨_, rfl⟩
  rw [hr]
  have HNo := Lib.hid (fit_no hr)
  have HYes := Lib.hid (fit_yes hr)
  have HF := fits_iff_plain n 3 (by omega) (by rw [hop]; rfl)
  obtain ⟨op, len, a0, a1, a2, sort, fn, num⟩ := n
  simp only at hop
  subst hop
  obtain ⟨⟨p1, p2⟩, ⟨p3, p4⟩, ⟨p5, p6⟩, ⟨p7, p8⟩, ⟨p9, p10⟩, ⟨p11, p12⟩, ⟨p13, p14⟩, ⟨p15, p16⟩⟩ := ho
  have HF := Lib.hid HF
  clear hr
  simp only at *
  have HB0 : Hid (Below w.heap.size w (w.alloc (.cells #[.int .i8 7, .int .i8 len, .int .i64 a0, .int .i64 a1, .int .i64 a2, .int .i64 sort, .int .i64 fn, .int .i64 num] 47))) := (Below.refl _ w).alloc (Nat.le_refl _) _
  have hcell := hG.at_ 7 3 rfl
  have hglt := hG.lt
  clear hG
  by_cases c0 : len = 3
  rotate_left
  · have hf : r = false := HNo.out (fun h => by have := HF.out.1 h; omega)
    subst hf
    have d0 := eq_f c0
    clear c0
    clear HNo HYes HF
    go_enter Tryz.func139, Tryz.ntmps139
    go_wp2
    go_quiet (fail)
    go_wp2
    go_ret
    exact ⟨rfl, below_drewN HB0.out⟩
  have d0 := eq_t c0
  by_cases c1 : fn = 0
  rotate_left
  · have hf : r = false := HNo.out (fun h => by have := HF.out.1 h; omega)
    subst hf
    have d1 := eq_f c1
    clear c0 c1
    clear HNo HYes HF
    go_enter Tryz.func139, Tryz.ntmps139
    go_wp2
    go_quiet (fail)
    go_wp2
    go_ret
    exact ⟨rfl, below_drewN HB0.out⟩
  have d1 := eq_t c1
  by_cases c2 : num = 0
  rotate_left
  · have hf : r = false := HNo.out (fun h => by have := HF.out.1 h; omega)
    subst hf
    have d2 := eq_f c2
    clear c0 c1 c2
    clear HNo HYes HF
    go_enter Tryz.func139, Tryz.ntmps139
    go_wp2
    go_quiet (fail)
    go_wp2
    go_ret
    exact ⟨rfl, below_drewN HB0.out⟩
  have d2 := eq_t c2
  have hf : r = true := HYes.out (HF.out.2 ⟨c0, c1, c2⟩)
  subst hf
  clear c0 c1 c2
  clear HNo HYes HF
  go_enter Tryz.func139, Tryz.ntmps139
  go_wp2
  go_quiet (fail)
  go_wp2
  go_ret
  exact ⟨rfl, below_drewN HB0.out⟩
set_option maxRecDepth 100000 in
set_option maxHeartbeats 4000000 in
theorem fits_8 (n : NodeA) (w : World) (hG : GT w) (ho : NodeOk n) (hop : n.op = 8) :
    Calls Tryz.prog 139 #[.agg #[.int .i8 n.op, .int .i8 n.len, .int .i64 n.a0, .int .i64 n.a1, .int .i64 n.a2, .int .i64 n.sort, .int .i64 n.fn, .int .i64 n.num]] w fun e w' => e = .returned (.bool (fitsB n)) ∧ Below w.heap.size w w' := by
  obtain ⟨r, hr⟩ : ∃ r, fitsB n = r := ⟨_, rfl⟩
  rw [hr]
  have HNo := Lib.hid (fit_no hr)
  have HYes := Lib.hid (fit_yes hr)
  have HF := fits_iff_plain n 2 (by omega) (by rw [hop]; rfl)
  obtain ⟨op, len, a0, a1, a2, sort, fn, num⟩ := n
  simp only at hop
  subst hop
  obtain ⟨⟨p1, p2⟩, ⟨p3, p4⟩, ⟨p5, p6⟩, ⟨p7, p8⟩, ⟨p9, p10⟩, ⟨p11, p12⟩, ⟨p13, p14⟩, ⟨p15, p16⟩⟩ := ho
  have HF := Lib.hid HF
  clear hr
  simp only at *
  have HB0 : Hid (Below w.heap.size w (w.alloc (.cells #[.int .i8 8, .int .i8 len, .int .i64 a0, .int .i64 a1, .int .i64 a2, .int .i64 sort, .int .i64 fn, .int .i64 num] 47))) := (Below.refl _ w).alloc (Nat.le_refl _) _
  have hcell := hG.at_ 8 2 rfl
  have hglt := hG.lt
  clear hG
  by_cases c0 : len = 2
  rotate_left
  · have hf : r = false := HNo.out (fun h => by have := HF.out.1 h; omega)
    subst hf
    have d0 := eq_f c0
    clear c0
    clear HNo HYes HF
    go_enter Tryz.func139, Tryz.ntmps139
    go_wp2
    go_quiet (fail)
    go_wp2
    go_ret
    exact ⟨rfl, below_drewN HB0.out⟩
  have d0 := eq_t c0
  by_cases c1 : fn = 0
  rotate_left
  · have hf : r = false := HNo.out (fun h => by have := HF.out.1 h; omega)
    subst hf
    have d1 := eq_f c1
    clear c0 c1
    clear HNo HYes HF
    go_enter Tryz.func139, Tryz.ntmps139
    go_wp2
    go_quiet (fail)
    go_wp2
    go_ret
    exact ⟨rfl, below_drewN HB0.out⟩
  have d1 := eq_t c1
  by_cases c2 : num = 0
  rotate_left
  · have hf : r = false := HNo.out (fun h => by have := HF.out.1 h; omega)
    subst hf
    have d2 := eq_f c2
    clear c0 c1 c2
    clear HNo HYes HF
    go_enter Tryz.func139, Tryz.ntmps139
    go_wp2
    go_quiet (fail)
    go_wp2
    go_ret
    exact ⟨rfl, below_drewN HB0.out⟩
  have d2 := eq_t c2
  have hf : r = true := HYes.out (HF.out.2 ⟨c0, c1, c2⟩)
  subst hf
  clear c0 c1 c2
  clear HNo HYes HF
  go_enter Tryz.func139, Tryz.ntmps139
  go_wp2
  go_quiet (fail)
  go_wp2
  go_ret
  exact ⟨rfl, below_drewN HB0.out⟩
set_option maxRecDepth 100000 in
set_option maxHeartbeats 4000000 in
theorem fits_9 (n : NodeA) (w : World) (hG : GT w) (ho : NodeOk n) (hop : n.op = 9) :
    Calls Tryz.prog 139 #[.agg #[.int .i8 n.op, .int .i8 n.len, .int .i64 n.a0, .int .i64 n.a1, .int .i64 n.a2, .int .i64 n.sort, .int .i64 n.fn, .int .i64 n.num]] w fun e w' => e = .returned (.bool (fitsB n)) ∧ Below w.heap.size w w' := by
  obtain ⟨r, hr⟩ : ∃ r, fitsB n = r := ⟨_, rfl⟩
  rw [hr]
  have HNo := Lib.hid (fit_no hr)
  have HYes := Lib.hid (fit_yes hr)
  have HF := fits_iff_plain n 2 (by omega) (by rw [hop]; rfl)
  obtain ⟨op, len, a0, a1, a2, sort, fn, num⟩ := n
  simp only at hop
  subst hop
  obtain ⟨⟨p1, p2⟩, ⟨p3, p4⟩, ⟨p5, p6⟩, ⟨p7, p8⟩, ⟨p9, p10⟩, ⟨p11, p12⟩, ⟨p13, p14⟩, ⟨p15, p16⟩⟩ := ho
  have HF := Lib.hid HF
  clear hr
  simp only at *
  have HB0 : Hid (Below w.heap.size w (w.alloc (.cells #[.int .i8 9, .int .i8 len, .int .i64 a0, .int .i64 a1, .int .i64 a2, .int .i64 sort, .int .i64 fn, .int .i64 num] 47))) := (Below.refl _ w).alloc (Nat.le_refl _) _
  have hcell := hG.at_ 9 2 rfl
  have hglt := hG.lt
  clear hG
  by_cases c0 : len = 2
  rotate_left
  · have hf : r = false := HNo.out (fun h => by have := HF.out.1 h; omega)
    subst hf
    have d0 := eq_f c0
    clear c0
    clear HNo HYes HF
    go_enter Tryz.func139, Tryz.ntmps139
    go_wp2
    go_quiet (fail)
    go_wp2
    go_ret
    exact ⟨rfl, below_drewN HB0.out⟩
  have d0 := eq_t c0
  by_cases c1 : fn = 0
  rotate_left
  · have hf : r = false := HNo.out (fun h => by have := HF.out.1 h; omega)
    subst hf
    have d1 := eq_f c1
    clear c0 c1
    clear HNo HYes HF
    go_enter Tryz.func139, Tryz.ntmps139
    go_wp2
    go_quiet (fail)
    go_wp2
    go_ret
    exact ⟨rfl, below_drewN HB0.out⟩
  have d1 := eq_t c1
  by_cases c2 : num = 0
  rotate_left
  · have hf : r = false := HNo.out (fun h => by have := HF.out.1 h; omega)
    subst hf
    have d2 := eq_f c2
    clear c0 c1 c2
    clear HNo HYes HF
    go_enter Tryz.func139, Tryz.ntmps139
    go_wp2
    go_quiet (fail)
    go_wp2
    go_ret
    exact ⟨rfl, below_drewN HB0.out⟩
  have d2 := eq_t c2
  have hf : r = true := HYes.out (HF.out.2 ⟨c0, c1, c2⟩)
  subst hf
  clear c0 c1 c2
  clear HNo HYes HF
  go_enter Tryz.func139, Tryz.ntmps139
  go_wp2
  go_quiet (fail)
  go_wp2
  go_ret
  exact ⟨rfl, below_drewN HB0.out⟩
end Go.Proofs.YtfbjgadgfjnamaaGreatDoor.Tm
