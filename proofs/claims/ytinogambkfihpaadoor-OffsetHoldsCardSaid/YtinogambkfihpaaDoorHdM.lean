/- The document's Apply. -/
import Derived.Test.YtinogambkfihpaaDoorHdL
namespace Go.Proofs.YtinogambkfihpaaDoor
open Go.RowKit
set_option linter.unusedVariables false
def noFv : FvV := ⟨[], none, 0, 0⟩
def fvA (y : WorV) (f : Int) : FvV := (y.funs[f.toNat]?).getD noFv
def rowV (rows : List RowA) (b0 b1 b2 els : Int) : Int := ((rows.find? (fun s => sameA s ⟨b0, b1, b2, 0⟩)).map (·.v)).getD els
/-- What a function is of those arguments. -/
def applyV (x : SigV) (y : WorV) (f : Int) (l : List Int) : Int := if askE x y f l = 0 then rowV (fvA y f).rows (l.getD 0 0) (l.getD 1 0) (l.getD 2 0) (fvA y f).els else 0
theorem find_at {α : Type} {p : α → Bool} : ∀ {l : List α} {k : Nat} {y : α}, l[k]? = some y → p y = true → (∀ (j : Nat) (z : α), j < k → l[j]? = some z → p z = false) → l.find? p = some y
  | [], k, y, h, _, _ => by simp at h
  | a :: r, 0, y, h, hp, _ => by
    simp at h
    subst h
    simp [List.find?, hp]
  | a :: r, k + 1, y, h, hp, hno => by
    have h0 := hno 0 a (by omega) (by simp)
    rw [List.find?_cons, h0]
    exact find_at (by simpa using h) hp (fun j z hj hz => hno (j + 1) z (by omega) (by simpa using hz))
theorem find_no {α : Type} {p : α → Bool} {l : List α} (h : ∀ (j : Nat) (z : α), l[j]? = some z → p z = false) : l.find? p = none := by
  rw [List.find?_eq_none]
  intro z hz
  obtain ⟨j, hj⟩ := List.getElem?_of_mem hz
  rw [h j z hj]; simp
theorem askE_zero {x : SigV} {y : WorV} {f : Int} {l : List Int} (h : askE x y f l = 0) : worQ x y = true ∧ 0 ≤ f ∧ f < (x.funs.length : Int) ∧ (l.length : Int) = (fnA x f).len := by
  by_cases hc : worQ x y = true ∧ 0 ≤ f ∧ f < (x.funs.length : Int) ∧ (l.length : Int) = (fnA x f).len
  · exact hc
  · rw [askE_no hc] at h; cases h
theorem worQ_len {x : SigV} {y : WorV} (h : worQ x y = true) : y.funs.length = x.funs.length ∧ x.funs.length ≤ 12 := by
  unfold worQ at h
  simp only [Bool.and_eq_true, decide_eq_true_eq] at h
  exact ⟨h.2.2.1, (checkQ_len h.1).2⟩
set_option maxRecDepth 100000 in
set_option maxHeartbeats 4000000 in
theorem WApply_any (x : SigV) (y : WorV) (f : Int) (l : List Int) (la : Option Addr) (lc : Nat) (w : World) (hX : SigR w x) (hY : WorR w y) (hf : I64 f) (hl : At w w.heap.size (l.flatMap numL) la) (hlo : ∀ n ∈ l, I64 n) (hln : l.length ≤ maxLen) :
    Calls Tryd.prog 41 #[.agg #[.slice x.sa x.sorts.length x.sc, .slice x.fa x.funs.length x.fc, .slice x.ma x.macs.length x.mc], .agg #[.slice y.sa y.sizes.length y.sc, .slice y.fa y.funs.length y.fc], .int .i64 f, .slice la l.length lc] w fun e w' => e = .returned (.tuple #[.int .i64 (applyV x y f l), .int .i64 (askE x y f l)]) ∧ Below w.heap.size w w' := by
  obtain ⟨W0, hW0⟩ : ∃ W0, W0 = (w.alloc (.cells #[.slice x.sa x.sorts.length x.sc, .slice x.fa x.funs.length x.fc, .slice x.ma x.macs.length x.mc] 26)).alloc (.cells #[.slice y.sa y.sizes.length y.sc, .slice y.fa y.funs.length y.fc] 30) := ⟨_, rfl⟩
  have hB0 : Below w.heap.size w W0 := by rw [hW0]; exact ((Below.refl _ w).alloc (Nat.le_refl _) _).alloc (by simp) _
  have HB0 := Lib.hid hB0
  have hY0 : W0.heap[w.heap.size + 1]? = some (.cells #[.slice y.sa y.sizes.length y.sc, .slice y.fa y.funs.length y.fc] 30 (0, 0)) := by
    have := heap_alloc_new (w.alloc (.cells #[.slice x.sa x.sorts.length x.sc, .slice x.fa x.funs.length x.fc, .slice x.ma x.macs.length x.mc] 26)) (.cells #[.slice y.sa y.sizes.length y.sc, .slice y.fa y.funs.length y.fc] 30)
    rw [World.size_alloc] at this
    rw [hW0]; exact this
  have HK : Hid (∀ V, Below W0.heap.size W0 V → V.cell? ⟨w.heap.size + 1, 0, none⟩ = some (.slice y.sa y.sizes.length y.sc) ∧ V.cell? ⟨w.heap.size + 1, 1, none⟩ = some (.slice y.fa y.funs.length y.fc) ∧ w.heap.size + 1 < V.heap.size) := fun V hV => wor_cells ((hV.block _ (Array.getElem?_eq_some_iff.1 hY0).1).trans hY0)
  have HC := Lib.hid (Wasked_any x y f l la lc W0 (hX.below hB0) (hY.below hB0) hf ((hl.below hB0).more hB0.size) hlo hln)
  have HY := Lib.hid hY
  obtain ⟨f1, f2⟩ := hf
  clear hY0 hX hY hl hlo hB0
  by_cases h0 : askE x y f l = 0
  rotate_left
  · have hv : applyV x y f l = 0 := if_neg h0
    rw [hv]
    have e1 := ne_true h0
    generalize askE x y f l = E at *
    clear hv h0
    go_enter Tryd.func41, Tryd.ntmps41
    go_wp2_with (go_at_call 55; rw [← hW0]; clear hW0; refine HC.out.mono ?_; rintro e w3 ⟨⟨a0, a1, a2, rfl, _⟩, hb1⟩; have HB1 := Lib.hid hb1; clear hb1)
    go_ret2
    exact ⟨rfl, by first | exact HB0.out.trans (HB1.out.mono HB0.out.size) | exact (HB0.out.trans (HB1.out.mono HB0.out.size)).alloc (by have := HB1.out.size; have := HB0.out.size; omega) _⟩
  obtain ⟨hq, hf0, hfl, _⟩ := askE_zero h0
  obtain ⟨m1, m2⟩ := worQ_len hq
  obtain ⟨k, rfl⟩ : ∃ k : Nat, f = (k : Int) := ⟨f.toNat, by omega⟩
  have hk : k < y.funs.length := by omega
  obtain ⟨v, hv⟩ : ∃ v, y.funs[k]? = some v := ⟨_, List.getElem?_eq_getElem hk⟩
  have hvA : fvA y (k : Int) = v := by unfold fvA; rw [Int.toNat_natCast, hv]; rfl
  have hE : applyV x y (k : Int) l = rowV v.rows (l.getD 0 0) (l.getD 1 0) (l.getD 2 0) v.els := by unfold applyV; rw [if_pos h0, hvA]
  rw [hE]
  rw [h0] at HC ⊢
  obtain ⟨b0, hb0⟩ : ∃ b, b = l.getD 0 0 := ⟨_, rfl⟩
  obtain ⟨b1, hb1⟩ : ∃ b, b = l.getD 1 0 := ⟨_, rfl⟩
  obtain ⟨b2, hb2⟩ : ∃ b, b = l.getD 2 0 := ⟨_, rfl⟩
  rw [← hb0, ← hb1, ← hb2] at HC ⊢
  obtain ⟨R, hR⟩ : ∃ R, R = rowV v.rows b0 b1 b2 v.els := ⟨_, rfl⟩
  rw [← hR]
  have HR := Lib.hid hR
  obtain ⟨g, o, ha, hg, hcell⟩ := HY.out.fat (by rw [len_flat fvL_len]; omega)
  have p0 := hcell _ _ ((get_flat fvL_len y.funs k 0 v hv (by omega)).trans rfl)
  have p1 := hcell _ _ ((get_flat fvL_len y.funs k 1 v hv (by omega)).trans rfl)
  simp only [Nat.add_zero, ← Nat.add_assoc] at p0 p1
  have HP : Hid (∀ V, Below w.heap.size w V → V.cell? ⟨g, o + k * 2, none⟩ = some (.slice v.ra v.rows.length v.rc) ∧ V.cell? ⟨g, o + k * 2 + 1, none⟩ = some (.int .i64 v.els)) := fun V hV =>
    ⟨(hV.cell (p := ⟨g, o + k * 2, none⟩) hg).trans p0, (hV.cell (p := ⟨g, o + k * 2 + 1, none⟩) hg).trans p1⟩
  have HVO := Lib.hid (HY.out.fok v (List.mem_of_getElem? hv))
  have HA1 := Lib.hid ha
  have hkx : (k : Int) < (y.funs.length : Int) := by omega
  have hk0 : (0 : Int) ≤ (k : Int) := by omega
  clear hE hvA h0 hq hb0 hb1 hb2 hcell hv ha p0 p1 m1 m2 hR
  go_enter Tryd.func41, Tryd.ntmps41
  go_wp2_with (go_at_call 55; rw [← hW0]; clear hW0; refine HC.out.mono ?_; rintro e w3 ⟨⟨a0, a1, a2, rfl, hab⟩, hb1⟩; obtain ⟨rfl, rfl, rfl⟩ := hab rfl; have HB1 := Lib.hid hb1; clear hb1)
  obtain ⟨W2, hW2⟩ : ∃ W2, W2 = w3.alloc (.cells #[.int .i64 a0, .int .i64 a1, .int .i64 a2] 64) := ⟨_, rfl⟩
  have hX2 : W2.heap[w3.heap.size]? = some (.cells #[.int .i64 a0, .int .i64 a1, .int .i64 a2] 64 (0, 0)) := by rw [hW2]; exact heap_alloc_new w3 _
  have HB2 : Hid (Below W0.heap.size W0 W2) := by rw [hW2]; exact HB1.out.alloc HB1.out.size _
  have hsz2 : W2.heap.size = w3.heap.size + 1 := by rw [hW2]; simp
  obtain ⟨B, hB⟩ : ∃ B, B = w3.heap.size := ⟨_, rfl⟩
  rw [← hB] at hX2
  rw [← hW2]
  rw [← hB]
  have HBz : Hid (B < W2.heap.size) := by show _ < _; omega
  have HX2 := Lib.hid hX2
  clear hW2 hB hsz2 hX2
  have HBL : Hid (∀ V, Below W2.heap.size W2 V → Below W0.heap.size W0 V) := fun V hV => HB2.out.trans (hV.mono HB2.out.size)
  have HBW : Hid (∀ V, Below W2.heap.size W2 V → Below w.heap.size w V) := fun V hV => HB0.out.trans ((HBL.out V hV).mono HB0.out.size)
  have HS2 : Hid (∀ V, Below W2.heap.size W2 V → V.cell? ⟨w.heap.size + 1, 0, none⟩ = some (.slice y.sa y.sizes.length y.sc) ∧ V.cell? ⟨w.heap.size + 1, 1, none⟩ = some (.slice (some ⟨g, o, none⟩) y.funs.length y.fc) ∧ V.cell? ⟨g, o + k * 2, none⟩ = some (.slice v.ra v.rows.length v.rc) ∧ V.cell? ⟨g, o + k * 2 + 1, none⟩ = some (.int .i64 v.els) ∧ V.cell? ⟨B, 0, none⟩ = some (.int .i64 a0) ∧ V.cell? ⟨B, 1, none⟩ = some (.int .i64 a1) ∧ V.cell? ⟨B, 2, none⟩ = some (.int .i64 a2) ∧ w.heap.size + 1 < V.heap.size ∧ g < V.heap.size ∧ B < V.heap.size) := fun V hV => by
    obtain ⟨w0, w1, z⟩ := HK.out _ (HBL.out V hV)
    rw [HA1.out] at w1
    obtain ⟨p0, p1⟩ := HP.out _ (HBW.out V hV)
    obtain ⟨q0, q1, q2, z2⟩ := arr_cells ((hV.block _ HBz.out).trans HX2.out)
    exact ⟨w0, w1, p0, p1, q0, q1, q2, z, Nat.lt_of_lt_of_le hg (HBW.out V hV).size, z2⟩
  go_loopw [12] (fun i wr => ∃ j : Nat, j ≤ v.rows.length ∧ i = .int .i64 j ∧ Hid (∀ (i : Nat) (s : RowA), i < j → v.rows[i]? = some s → sameA s ⟨a0, a1, a2, 0⟩ = false) ∧ Hid (Below W2.heap.size W2 wr)) (fun i _ => v.rows.length - (intOf i).toNat)
  case atStart => exact ⟨0, Nat.zero_le _, rfl, fun j _ hj => absurd hj (Nat.not_lt_zero _), Below.refl _ _⟩
  case round =>
    obtain ⟨j, hj, rfl, HN, HB⟩ := hrel
    obtain ⟨w0, w1, p0, p1, q0, q1, q2, z0, z1, z2⟩ := HS2.out _ HB.out
    have hrl := HVO.out.rl
    have hrm := HVO.out.rm
    have hrz : v.rows.length ≤ 9223372036854775807 := by simp only [maxLen] at hrm; omega
    by_cases hlt : j < v.rows.length
    rotate_left
    · obtain rfl : j = v.rows.length := by omega
      obtain rfl : R = v.els := by rw [HR.out]; unfold rowV; rw [find_no (fun i s hs => HN.out i s (List.getElem?_eq_some_iff.1 hs).1 hs)]; rfl
      go_wp2
      go_ret2
      exact ⟨rfl, HBW.out _ HB.out⟩
    obtain ⟨s, hs⟩ : ∃ s, v.rows[j]? = some s := ⟨_, List.getElem?_eq_getElem hlt⟩
    obtain ⟨g3, o3, ha3, hg3, hcell3⟩ := HVO.out.rat (by rw [len_flat rowL_len]; omega)
    have hW := HBW.out _ HB.out
    have r0 := (hW.cell (p := ⟨g3, o3 + (j * 4 + 0), none⟩) hg3).trans (hcell3 _ _ ((get_flat rowL_len v.rows j 0 s hs (by omega)).trans rfl))
    have r1 := (hW.cell (p := ⟨g3, o3 + (j * 4 + 1), none⟩) hg3).trans (hcell3 _ _ ((get_flat rowL_len v.rows j 1 s hs (by omega)).trans rfl))
    have r2 := (hW.cell (p := ⟨g3, o3 + (j * 4 + 2), none⟩) hg3).trans (hcell3 _ _ ((get_flat rowL_len v.rows j 2 s hs (by omega)).trans rfl))
    have r3 := (hW.cell (p := ⟨g3, o3 + (j * 4 + 3), none⟩) hg3).trans (hcell3 _ _ ((get_flat rowL_len v.rows j 3 s hs (by omega)).trans rfl))
    simp only [Nat.add_zero, ← Nat.add_assoc] at r0 r1 r2 r3
    have hg4 : g3 < wr.heap.size := Nat.lt_of_lt_of_le hg3 hW.size
    rw [ha3] at p0
    have hji : (j : Int) < (v.rows.length : Int) := by omega
    have hsm : (decide (s.a0 = a0) && (decide (s.a1 = a1) && decide (s.a2 = a2))) = sameA s ⟨a0, a1, a2, 0⟩ := rfl
    by_cases hsr : sameA s ⟨a0, a1, a2, 0⟩ = true
    · obtain rfl : R = s.v := by rw [HR.out]; unfold rowV; rw [find_at hs hsr (fun i z hi hz => HN.out i z hi hz)]; rfl
      have e0 : ∀ W, (Op.equal 64 (.agg #[.int .i64 s.a0, .int .i64 s.a1, .int .i64 s.a2]) (.agg #[.int .i64 a0, .int .i64 a1, .int .i64 a2])).run Tryd.prog W = .ok true W := fun W => by rw [eq_arr, hsm, hsr]
      have g0 : ∀ W, (Op.equalIn 10000 64 (.agg #[.int .i64 s.a0, .int .i64 s.a1, .int .i64 s.a2]) (.agg #[.int .i64 a0, .int .i64 a1, .int .i64 a2])).run Tryd.prog W = .ok true W := fun W => by rw [eqi_arr, hsm, hsr]
      clear hsm hsr hs hcell3 ha3 hW
      go_wp2_with fail
      go_quiet (fail)
      go_wp2_with fail
      go_ret2
      exact ⟨rfl, below_dN (HBW.out _ HB.out)⟩
    · rw [Bool.not_eq_true] at hsr
      have e0 : ∀ W, (Op.equal 64 (.agg #[.int .i64 s.a0, .int .i64 s.a1, .int .i64 s.a2]) (.agg #[.int .i64 a0, .int .i64 a1, .int .i64 a2])).run Tryd.prog W = .ok false W := fun W => by rw [eq_arr, hsm, hsr]
      have g0 : ∀ W, (Op.equalIn 10000 64 (.agg #[.int .i64 s.a0, .int .i64 s.a1, .int .i64 s.a2]) (.agg #[.int .i64 a0, .int .i64 a1, .int .i64 a2])).run Tryd.prog W = .ok false W := fun W => by rw [eqi_arr, hsm, hsr]
      have HN2 : Hid (∀ (i : Nat) (t : RowA), i < j + 1 → v.rows[i]? = some t → sameA t ⟨a0, a1, a2, 0⟩ = false) := fun i t hi ht => by
        by_cases hij : i < j
        · exact HN.out i t hij ht
        · obtain rfl : i = j := by omega
          obtain rfl : s = t := by rw [hs] at ht; exact Option.some.inj ht
          exact hsr
      clear hsm hsr hs hcell3 ha3 hW
      go_wp2_with fail
      go_quiet (fail)
      go_wp2_with fail
      go_roundw
      case rel => exact ⟨j + 1, by omega, by go_num, HN2, below_dN HB.out⟩
      case measure => simp [intOf]; omega
end Go.Proofs.YtinogambkfihpaaDoor
