/- The document's Same of signatures: two that read alike are the same. -/
import Derived.Test.YthejmepiliiihaaDoorSgB
import Derived.Test.YthejmepiliiihaaDoorSexRa
import Derived.Test.YthejmepiliiihaaDoorSgEq
import Derived.Deep.RegionHeld3
import Derived.BigQuiet
namespace Go.Proofs.YthejmepiliiihaaDoor
open Go.RowKit
set_option linter.unusedVariables false
set_option maxRecDepth 100000 in
set_option maxHeartbeats 2000000 in
theorem sameMacro_any (m : MacA) (pa pa' : Option Addr) (pc pc' : Nat) (ba ba' : Option Addr) (bc bc' : Nat) (w : World) (hx : MacOk w w.heap.size ⟨m, pa, pc, ba, bc⟩) (hy : MacOk w w.heap.size ⟨m, pa', pc', ba', bc'⟩) :
    Calls Tryd.prog 24 #[.agg #[.string m.name, .slice pa m.params.length pc, .int .i64 m.res, .int .i8 m.body.kind, .string (bytesL m.body.text), .slice ba m.body.kids.length bc], .agg #[.string m.name, .slice pa' m.params.length pc', .int .i64 m.res, .int .i8 m.body.kind, .string (bytesL m.body.text), .slice ba' m.body.kids.length bc']] w fun e w' => e = .returned (.bool true) ∧ Below w.heap.size w w' := by
  have HC : Hid (∀ V, Below w.heap.size w V → Calls Tryd.prog 38 #[.agg #[.int .i8 m.body.kind, .string (bytesL m.body.text), .slice ba m.body.kids.length bc], .agg #[.int .i8 m.body.kind, .string (bytesL m.body.text), .slice ba' m.body.kids.length bc']] V fun e w' => e = .returned (.bool true) ∧ Below V.heap.size V w') := fun V hV => RSame_any m.body _ _ V (hx.body.below hV) (hy.body.below hV)
  have hpl : m.params.length ≤ 9223372036854775807 := by have h1 : m.params.length ≤ pc := hx.plen; have h2 : pc ≤ maxLen := hx.pcap; simp only [maxLen] at h2; omega
  have hp1 : m.params.length ≤ pc := hx.plen
  have hp2 : m.params.length ≤ pc' := hy.plen
  have HPA : Hid (At w w.heap.size (m.params.flatMap parC) pa) := hx.pat
  have HPB : Hid (At w w.heap.size (m.params.flatMap parC) pa') := hy.pat
  obtain ⟨W0, hW0⟩ : ∃ W0, W0 = (w.alloc (.cells #[.string m.name, .slice pa m.params.length pc, .int .i64 m.res, .int .i8 m.body.kind, .string (bytesL m.body.text), .slice ba m.body.kids.length bc] 50)).alloc (.cells #[.string m.name, .slice pa' m.params.length pc', .int .i64 m.res, .int .i8 m.body.kind, .string (bytesL m.body.text), .slice ba' m.body.kids.length bc'] 50) := ⟨_, rfl⟩
  have hB0 : Below w.heap.size w W0 := by rw [hW0]; exact ((Below.refl _ _).alloc (Nat.le_refl _) _).alloc (by simp) _
  have hX0 : W0.heap[w.heap.size]? = some (.cells #[.string m.name, .slice pa m.params.length pc, .int .i64 m.res, .int .i8 m.body.kind, .string (bytesL m.body.text), .slice ba m.body.kids.length bc] 50 (0, 0)) := by rw [hW0]; exact (Below.heap_alloc _ _ _ (by simp)).trans (heap_alloc_new w _)
  have hY0 : W0.heap[w.heap.size + 1]? = some (.cells #[.string m.name, .slice pa' m.params.length pc', .int .i64 m.res, .int .i8 m.body.kind, .string (bytesL m.body.text), .slice ba' m.body.kids.length bc'] 50 (0, 0)) := by
    rw [hW0]
    have := heap_alloc_new (w.alloc (.cells #[.string m.name, .slice pa m.params.length pc, .int .i64 m.res, .int .i8 m.body.kind, .string (bytesL m.body.text), .slice ba m.body.kids.length bc] 50)) (.cells #[.string m.name, .slice pa' m.params.length pc', .int .i64 m.res, .int .i8 m.body.kind, .string (bytesL m.body.text), .slice ba' m.body.kids.length bc'] 50)
    rwa [World.size_alloc] at this
  have HB0 := Lib.hid hB0
  have HX0 := Lib.hid hX0
  have HY0 := Lib.hid hY0
  have n0 := tn_yes m.name
  have n1 : (m.res != m.res) = false := by simp
  clear hx hy hB0 hX0 hY0
  go_enter Tryd.func24, Tryd.ntmps24
  go_wp2_with (go_at_call 38; rw [← hW0]; clear hW0; refine (HC.out _ HB0.out).mono ?_; rintro e w1 ⟨rfl, hb1⟩)
  have HB1 := Lib.hid (HB0.out.trans (hb1.mono HB0.out.size))
  have HX1 := Lib.hid ((hb1.block _ (Array.getElem?_eq_some_iff.1 HX0.out).1).trans HX0.out)
  have HY1 := Lib.hid ((hb1.block _ (Array.getElem?_eq_some_iff.1 HY0.out).1).trans HY0.out)
  clear hb1 HX0 HY0
  go_loopw [5] (fun i wr => ∃ k : Nat, k ≤ m.params.length ∧ i = .int .i64 k ∧ Hid (Below w.heap.size w wr) ∧ Hid (wr.heap[w.heap.size]? = some (.cells #[.string m.name, .slice pa m.params.length pc, .int .i64 m.res, .int .i8 m.body.kind, .string (bytesL m.body.text), .slice ba m.body.kids.length bc] 50 (0, 0))) ∧ Hid (wr.heap[w.heap.size + 1]? = some (.cells #[.string m.name, .slice pa' m.params.length pc', .int .i64 m.res, .int .i8 m.body.kind, .string (bytesL m.body.text), .slice ba' m.body.kids.length bc'] 50 (0, 0)))) (fun i _ => m.params.length - (intOf i).toNat)
  case atStart => exact ⟨0, Nat.zero_le _, rfl, HB1, HX1, HY1⟩
  case round =>
    obtain ⟨k, hkl, rfl, HB, HX, HY⟩ := hrel
    have x1 := cell_of_row _ _ 1 _ _ _ HX.out
    have y1 := cell_of_row _ _ 1 _ _ _ HY.out
    simp only [List.getElem?_toArray, List.getElem?_cons_zero, List.getElem?_cons_succ] at x1 y1
    by_cases hlt : k < m.params.length
    · obtain ⟨p, hp⟩ : ∃ p, m.params[k]? = some p := ⟨_, List.getElem?_eq_getElem hlt⟩
      obtain ⟨g, o, rfl, hg, hcell⟩ := (HPA.out.below HB.out) (by rw [len_flat parC_len]; omega)
      obtain ⟨g', o', rfl, hg', hcell'⟩ := (HPB.out.below HB.out) (by rw [len_flat parC_len]; omega)
      have q0 := hcell _ _ ((get_flat parC_len m.params k 0 p hp (by omega)).trans rfl)
      have q1 := hcell _ _ ((get_flat parC_len m.params k 1 p hp (by omega)).trans rfl)
      have r0 := hcell' _ _ ((get_flat parC_len m.params k 0 p hp (by omega)).trans rfl)
      have r1 := hcell' _ _ ((get_flat parC_len m.params k 1 p hp (by omega)).trans rfl)
      simp only [Nat.add_zero, ← Nat.add_assoc] at q0 q1 r0 r1
      have m0 := tn_yes p.name
      have m1 : (p.sort != p.sort) = false := by simp
      have m2 := tl_yes p.name
      have m3 : (p.sort == p.sort) = true := by simp
      clear hcell hcell' hp
      go_wp2
      go_region
      go_wp2_with fail
      go_roundw
      case rel => exact ⟨k + 1, by omega, by go_num, HB.out.drew, HX.out, HY.out⟩
      case measure => simp [intOf]; omega
    · obtain rfl : k = m.params.length := by omega
      go_wp2
      go_ret
      exact ⟨rfl, HB.out⟩
set_option maxRecDepth 100000 in
set_option maxHeartbeats 1500000 in
theorem Same_aux (ss : List ByteArray) (fs : List FunA) (ms ms' : List MacV) (sa sb fa fb ma mb : Option Addr) (sc sd fc fd mc md : Nat) (w : World) (hA : SigR w ⟨ss, sa, sc, fs, fa, fc, ms, ma, mc⟩) (hB : SigR w ⟨ss, sb, sd, fs, fb, fd, ms', mb, md⟩) (hm : ms'.map (·.m) = ms.map (·.m)) :
    Calls Tryd.prog 10 #[.agg #[.slice sa ss.length sc, .slice fa fs.length fc, .slice ma ms.length mc], .agg #[.slice sb ss.length sd, .slice fb fs.length fd, .slice mb ms.length md]] w fun e w' => e = .returned (.bool true) ∧ Below w.heap.size w w' := by
  have hml : ms'.length = ms.length := by have := congrArg List.length hm; simpa using this
  have HML := Lib.hid hml
  have HMS : Hid (∀ (k : Nat) (p : MacV), ms[k]? = some p → ∃ p' : MacV, ms'[k]? = some p' ∧ p'.m = p.m) := fun k p hp => by
    have hk : k < ms'.length := by rw [hml]; exact (List.getElem?_eq_some_iff.1 hp).1
    obtain ⟨p', hp'⟩ : ∃ p', ms'[k]? = some p' := ⟨_, List.getElem?_eq_getElem hk⟩
    have := congrArg (fun q : List MacA => q[k]?) hm
    simp only [List.getElem?_map, hp, hp', Option.map_some, Option.some.injEq] at this
    exact ⟨p', hp', this⟩
  have HSA : Hid (At w w.heap.size (ss.flatMap strC) sa) := hA.sat
  have HSB : Hid (At w w.heap.size (ss.flatMap strC) sb) := hB.sat
  have HFA : Hid (At w w.heap.size (fs.flatMap funC) fa) := hA.fat
  have HFB : Hid (At w w.heap.size (fs.flatMap funC) fb) := hB.fat
  have HM : Hid (At w w.heap.size (ms.flatMap macC) ma) := hA.mat
  have HM' : Hid (At w w.heap.size (ms'.flatMap macC) mb) := hB.mat
  have HMA : Hid (∀ m ∈ ms, MacOk w w.heap.size m) := hA.mok
  have HMB : Hid (∀ m ∈ ms', MacOk w w.heap.size m) := hB.mok
  have l1 : ss.length ≤ sc := hA.sl
  have l2 : fs.length ≤ fc := hA.fl
  have l3 : ms.length ≤ mc := hA.ml
  have l4 : ss.length ≤ sd := hB.sl
  have l5 : fs.length ≤ fd := hB.fl
  have l6 : ms.length ≤ md := by rw [← hml]; exact hB.ml
  have c1 : sc ≤ maxLen := hA.sm
  have c2 : fc ≤ maxLen := hA.fm
  have c3 : mc ≤ maxLen := hA.mm
  have k1 : ss.length ≤ 9223372036854775807 := by simp only [maxLen] at c1; omega
  have k2 : fs.length ≤ 9223372036854775807 := by simp only [maxLen] at c2; omega
  have k3 : ms.length ≤ 9223372036854775807 := by simp only [maxLen] at c3; omega
  have HB0 : Hid (Below w.heap.size w ((w.alloc (.cells #[.slice sa ss.length sc, .slice fa fs.length fc, .slice ma ms.length mc] 26)).alloc (.cells #[.slice sb ss.length sd, .slice fb fs.length fd, .slice mb ms.length md] 26))) := ((Below.refl _ _).alloc (Nat.le_refl _) _).alloc (by simp) _
  have HX0 : Hid (((w.alloc (.cells #[.slice sa ss.length sc, .slice fa fs.length fc, .slice ma ms.length mc] 26)).alloc (.cells #[.slice sb ss.length sd, .slice fb fs.length fd, .slice mb ms.length md] 26)).heap[w.heap.size]? = some (.cells #[.slice sa ss.length sc, .slice fa fs.length fc, .slice ma ms.length mc] 26 (0, 0))) := (Below.heap_alloc _ _ _ (by simp)).trans (heap_alloc_new w _)
  have HY0 : Hid (((w.alloc (.cells #[.slice sa ss.length sc, .slice fa fs.length fc, .slice ma ms.length mc] 26)).alloc (.cells #[.slice sb ss.length sd, .slice fb fs.length fd, .slice mb ms.length md] 26)).heap[w.heap.size + 1]? = some (.cells #[.slice sb ss.length sd, .slice fb fs.length fd, .slice mb ms.length md] 26 (0, 0))) := by
    have := heap_alloc_new (w.alloc (.cells #[.slice sa ss.length sc, .slice fa fs.length fc, .slice ma ms.length mc] 26)) (.cells #[.slice sb ss.length sd, .slice fb fs.length fd, .slice mb ms.length md] 26)
    rw [World.size_alloc] at this
    exact this
  have nn : ∀ n : Nat, ((n : Int) != (n : Int)) = false := fun n => by simp
  clear hA hB hm hml c1 c2 c3
  go_enter Tryd.func10, Tryd.ntmps10
  go_wp2
  obtain ⟨W0, hW0⟩ : ∃ W0, W0 = (w.alloc (.cells #[.slice sa ss.length sc, .slice fa fs.length fc, .slice ma ms.length mc] 26)).alloc (.cells #[.slice sb ss.length sd, .slice fb fs.length fd, .slice mb ms.length md] 26) := ⟨_, rfl⟩
  rw [← hW0] at HB0 HX0 HY0 ⊢
  clear hW0
  go_loopw [5] (fun i wr => ∃ k : Nat, k ≤ ss.length ∧ i = .int .i64 k ∧ Hid (Below w.heap.size w wr) ∧ Hid (wr.heap[w.heap.size]? = some (.cells #[.slice sa ss.length sc, .slice fa fs.length fc, .slice ma ms.length mc] 26 (0, 0))) ∧ Hid (wr.heap[w.heap.size + 1]? = some (.cells #[.slice sb ss.length sd, .slice fb fs.length fd, .slice mb ms.length md] 26 (0, 0)))) (fun i _ => ss.length - (intOf i).toNat)
  case atStart => exact ⟨0, Nat.zero_le _, rfl, HB0, HX0, HY0⟩
  case round =>
    obtain ⟨k, hkl, rfl, HB, HX, HY⟩ := hrel
    have x0 := cell_of_row _ _ 0 _ _ _ HX.out
    have x1 := cell_of_row _ _ 1 _ _ _ HX.out
    have x2 := cell_of_row _ _ 2 _ _ _ HX.out
    have y0 := cell_of_row _ _ 0 _ _ _ HY.out
    have y1 := cell_of_row _ _ 1 _ _ _ HY.out
    have y2 := cell_of_row _ _ 2 _ _ _ HY.out
    simp only [List.getElem?_toArray, List.getElem?_cons_zero, List.getElem?_cons_succ] at x0 x1 x2 y0 y1 y2
    by_cases hlt : k < ss.length
    · obtain ⟨p, hp⟩ : ∃ p, ss[k]? = some p := ⟨_, List.getElem?_eq_getElem hlt⟩
      obtain ⟨g, o, rfl, hg, hcell⟩ := (HSA.out.below HB.out) (by rw [len_flat strC_len]; omega)
      obtain ⟨g', o', rfl, hg', hcell'⟩ := (HSB.out.below HB.out) (by rw [len_flat strC_len]; omega)
      have q0 := hcell _ _ ((get_flat strC_len ss k 0 p hp (by omega)).trans rfl)
      have r0 := hcell' _ _ ((get_flat strC_len ss k 0 p hp (by omega)).trans rfl)
      simp only [Nat.mul_one, Nat.add_zero] at q0 r0
      have m0 := tn_yes p
      clear hcell hcell' hp
      go_wp2
      go_region
      go_wp2_with fail
      go_roundw
      case rel => exact ⟨k + 1, by omega, by go_num, HB.out.drew, HX.out, HY.out⟩
      case measure => simp [intOf]; omega
    · obtain rfl : k = ss.length := by omega
      go_wp2
      go_loopw [6] (fun i wr => ∃ k : Nat, k ≤ fs.length ∧ i = .int .i64 k ∧ Hid (Below w.heap.size w wr) ∧ Hid (wr.heap[w.heap.size]? = some (.cells #[.slice sa ss.length sc, .slice fa fs.length fc, .slice ma ms.length mc] 26 (0, 0))) ∧ Hid (wr.heap[w.heap.size + 1]? = some (.cells #[.slice sb ss.length sd, .slice fb fs.length fd, .slice mb ms.length md] 26 (0, 0)))) (fun i _ => fs.length - (intOf i).toNat)
      case atStart => exact ⟨0, Nat.zero_le _, rfl, HB, HX, HY⟩
      case round =>
        obtain ⟨k, hkl, rfl, HB, HX, HY⟩ := hrel
        have x0 := cell_of_row _ _ 0 _ _ _ HX.out
        have x1 := cell_of_row _ _ 1 _ _ _ HX.out
        have x2 := cell_of_row _ _ 2 _ _ _ HX.out
        have y0 := cell_of_row _ _ 0 _ _ _ HY.out
        have y1 := cell_of_row _ _ 1 _ _ _ HY.out
        have y2 := cell_of_row _ _ 2 _ _ _ HY.out
        simp only [List.getElem?_toArray, List.getElem?_cons_zero, List.getElem?_cons_succ] at x0 x1 x2 y0 y1 y2
        by_cases hlt : k < fs.length
        · obtain ⟨p, hp⟩ : ∃ p, fs[k]? = some p := ⟨_, List.getElem?_eq_getElem hlt⟩
          obtain ⟨g, o, rfl, hg, hcell⟩ := (HFA.out.below HB.out) (by rw [len_flat funC_len]; omega)
          obtain ⟨g', o', rfl, hg', hcell'⟩ := (HFB.out.below HB.out) (by rw [len_flat funC_len]; omega)
          have q0 := hcell _ _ ((get_flat funC_len fs k 0 p hp (by omega)).trans rfl)
          have r0 := hcell' _ _ ((get_flat funC_len fs k 0 p hp (by omega)).trans rfl)
          have q1 := hcell _ _ ((get_flat funC_len fs k 1 p hp (by omega)).trans rfl)
          have r1 := hcell' _ _ ((get_flat funC_len fs k 1 p hp (by omega)).trans rfl)
          have q2 := hcell _ _ ((get_flat funC_len fs k 2 p hp (by omega)).trans rfl)
          have r2 := hcell' _ _ ((get_flat funC_len fs k 2 p hp (by omega)).trans rfl)
          have q3 := hcell _ _ ((get_flat funC_len fs k 3 p hp (by omega)).trans rfl)
          have r3 := hcell' _ _ ((get_flat funC_len fs k 3 p hp (by omega)).trans rfl)
          have q4 := hcell _ _ ((get_flat funC_len fs k 4 p hp (by omega)).trans rfl)
          have r4 := hcell' _ _ ((get_flat funC_len fs k 4 p hp (by omega)).trans rfl)
          have q5 := hcell _ _ ((get_flat funC_len fs k 5 p hp (by omega)).trans rfl)
          have r5 := hcell' _ _ ((get_flat funC_len fs k 5 p hp (by omega)).trans rfl)
          simp only [Nat.add_zero, ← Nat.add_assoc] at q0 r0 q1 r1 q2 r2 q3 r3 q4 r4 q5 r5
          have he3 := fun W => eq3 p.a0 p.a1 p.a2 W
          have m0 := tl_yes p.name
          clear hcell hcell' hp
          go_wp2
          go_region
          go_wp2_with fail
          go_roundw
          case rel => exact ⟨k + 1, by omega, by go_num, HB.out.drew, HX.out, HY.out⟩
          case measure => simp [intOf]; omega
        · obtain rfl : k = fs.length := by omega
          go_wp2
          go_loopw [7] (fun i wr => ∃ k : Nat, k ≤ ms.length ∧ i = .int .i64 k ∧ Hid (Below w.heap.size w wr) ∧ Hid (wr.heap[w.heap.size]? = some (.cells #[.slice sa ss.length sc, .slice fa fs.length fc, .slice ma ms.length mc] 26 (0, 0))) ∧ Hid (wr.heap[w.heap.size + 1]? = some (.cells #[.slice sb ss.length sd, .slice fb fs.length fd, .slice mb ms.length md] 26 (0, 0)))) (fun i _ => ms.length - (intOf i).toNat)
          case atStart => exact ⟨0, Nat.zero_le _, rfl, HB, HX, HY⟩
          case round =>
            obtain ⟨k, hkl, rfl, HB, HX, HY⟩ := hrel
            have x2 := cell_of_row _ _ 2 _ _ _ HX.out
            have y2 := cell_of_row _ _ 2 _ _ _ HY.out
            simp only [List.getElem?_toArray, List.getElem?_cons_zero, List.getElem?_cons_succ] at x2 y2
            have hz := (Array.getElem?_eq_some_iff.1 HX.out).1
            have hz1 := (Array.getElem?_eq_some_iff.1 HY.out).1
            by_cases hlt : k < ms.length
            · obtain ⟨p, hp⟩ : ∃ p, ms[k]? = some p := ⟨_, List.getElem?_eq_getElem hlt⟩
              obtain ⟨p', hp', hpm⟩ := HMS.out k p hp
              obtain ⟨g, o, rfl, hg, hcell⟩ := (HM.out.below HB.out) (by rw [len_flat macC_len]; omega)
              obtain ⟨g', o', rfl, hg', hcell'⟩ := (HM'.out.below HB.out) (by rw [len_flat macC_len, HML.out]; omega)
              have hok := (HMA.out p (List.mem_of_getElem? hp)).below HB.out
              have hok' := (HMB.out p' (List.mem_of_getElem? hp')).below HB.out
              have hsw := HB.out.size
              have hok'' : MacOk wr w.heap.size ⟨p.m, p'.pa, p'.pc, p'.ba, p'.bc⟩ := by rw [← hpm]; exact hok'
              have q0 := hcell _ _ ((get_flat macC_len ms k 0 _ hp (by omega)).trans rfl)
              have q1 := hcell _ _ ((get_flat macC_len ms k 1 _ hp (by omega)).trans rfl)
              have q2 := hcell _ _ ((get_flat macC_len ms k 2 _ hp (by omega)).trans rfl)
              have q3 := hcell _ _ ((get_flat macC_len ms k 3 _ hp (by omega)).trans rfl)
              have q4 := hcell _ _ ((get_flat macC_len ms k 4 _ hp (by omega)).trans rfl)
              have q5 := hcell _ _ ((get_flat macC_len ms k 5 _ hp (by omega)).trans rfl)
              have r0 := hcell' _ _ ((get_flat macC_len ms' k 0 _ hp' (by omega)).trans rfl)
              have r1 := hcell' _ _ ((get_flat macC_len ms' k 1 _ hp' (by omega)).trans rfl)
              have r2 := hcell' _ _ ((get_flat macC_len ms' k 2 _ hp' (by omega)).trans rfl)
              have r3 := hcell' _ _ ((get_flat macC_len ms' k 3 _ hp' (by omega)).trans rfl)
              have r4 := hcell' _ _ ((get_flat macC_len ms' k 4 _ hp' (by omega)).trans rfl)
              have r5 := hcell' _ _ ((get_flat macC_len ms' k 5 _ hp' (by omega)).trans rfl)
              simp only [Nat.add_zero, ← Nat.add_assoc] at q0 q1 q2 q3 q4 q5 r0 r1 r2 r3 r4 r5
              rw [hpm] at r0 r1 r2 r3 r4 r5
              have hgw : g < wr.heap.size := Nat.lt_of_lt_of_le hg hsw
              have hgw' : g' < wr.heap.size := Nat.lt_of_lt_of_le hg' hsw
              have HC : Hid (∀ V, Below wr.heap.size wr V → Calls Tryd.prog 24 #[.agg #[.string p.m.name, .slice p.pa p.m.params.length p.pc, .int .i64 p.m.res, .int .i8 p.m.body.kind, .string (bytesL p.m.body.text), .slice p.ba p.m.body.kids.length p.bc], .agg #[.string p.m.name, .slice p'.pa p.m.params.length p'.pc, .int .i64 p.m.res, .int .i8 p.m.body.kind, .string (bytesL p.m.body.text), .slice p'.ba p.m.body.kids.length p'.bc]] V fun e w' => e = .returned (.bool true) ∧ Below V.heap.size V w') := fun V hV => by
                refine sameMacro_any p.m p.pa p'.pa p.pc p'.pc p.ba p'.ba p.bc p'.bc V ⟨hok.name, hok.plen, hok.pcap, (hok.pat.below (hV.mono hsw)).more (Nat.le_trans hsw hV.size), hok.pok, hok.res, hok.body.below hV⟩ ⟨hok''.name, hok''.plen, hok''.pcap, (hok''.pat.below (hV.mono hsw)).more (Nat.le_trans hsw hV.size), hok''.pok, hok''.res, hok''.body.below hV⟩
              have H0 := Lib.hid (And.intro x2 (And.intro y2 (And.intro q0 (And.intro q1 (And.intro q2 (And.intro q3 (And.intro q4 (And.intro q5 (And.intro r0 (And.intro r1 (And.intro r2 (And.intro r3 (And.intro r4 r5)))))))))))))
              clear hcell hcell' hp hp' hok hok' hok'' hpm
              go_wp2
              clear x2 y2 q0 q1 q2 q3 q4 q5 r0 r1 r2 r3 r4 r5
              go_region_held3 (fun W => W.cell? ⟨w.heap.size, 2, none⟩ = some (.slice (some ⟨g, o, none⟩) ms.length mc) ∧ W.cell? ⟨w.heap.size + 1, 2, none⟩ = some (.slice (some ⟨g', o', none⟩) ms.length md) ∧ W.cell? ⟨g, o + k * 6, none⟩ = some (.string p.m.name) ∧ W.cell? ⟨g, o + k * 6 + 1, none⟩ = some (.slice p.pa p.m.params.length p.pc) ∧ W.cell? ⟨g, o + k * 6 + 2, none⟩ = some (.int .i64 p.m.res) ∧ W.cell? ⟨g, o + k * 6 + 3, none⟩ = some (.int .i8 p.m.body.kind) ∧ W.cell? ⟨g, o + k * 6 + 4, none⟩ = some (.string (bytesL p.m.body.text)) ∧ W.cell? ⟨g, o + k * 6 + 5, none⟩ = some (.slice p.ba p.m.body.kids.length p.bc) ∧ W.cell? ⟨g', o' + k * 6, none⟩ = some (.string p.m.name) ∧ W.cell? ⟨g', o' + k * 6 + 1, none⟩ = some (.slice p'.pa p.m.params.length p'.pc) ∧ W.cell? ⟨g', o' + k * 6 + 2, none⟩ = some (.int .i64 p.m.res) ∧ W.cell? ⟨g', o' + k * 6 + 3, none⟩ = some (.int .i8 p.m.body.kind) ∧ W.cell? ⟨g', o' + k * 6 + 4, none⟩ = some (.string (bytesL p.m.body.text)) ∧ W.cell? ⟨g', o' + k * 6 + 5, none⟩ = some (.slice p'.ba p.m.body.kids.length p'.bc))
                (first | exact H0.out | exact ⟨(hc1 _ _ hz).trans H0.out.1, (hc1 _ _ hz1).trans H0.out.2.1, (hc1 _ _ hgw).trans H0.out.2.2.1, (hc1 _ _ hgw).trans H0.out.2.2.2.1, (hc1 _ _ hgw).trans H0.out.2.2.2.2.1, (hc1 _ _ hgw).trans H0.out.2.2.2.2.2.1, (hc1 _ _ hgw).trans H0.out.2.2.2.2.2.2.1, (hc1 _ _ hgw).trans H0.out.2.2.2.2.2.2.2.1, (hc1 _ _ hgw').trans H0.out.2.2.2.2.2.2.2.2.1, (hc1 _ _ hgw').trans H0.out.2.2.2.2.2.2.2.2.2.1, (hc1 _ _ hgw').trans H0.out.2.2.2.2.2.2.2.2.2.2.1, (hc1 _ _ hgw').trans H0.out.2.2.2.2.2.2.2.2.2.2.2.1, (hc1 _ _ hgw').trans H0.out.2.2.2.2.2.2.2.2.2.2.2.2.1, (hc1 _ _ hgw').trans H0.out.2.2.2.2.2.2.2.2.2.2.2.2.2⟩ | go_keep)
                (first | (go_at_call 24; refine (HC.out _ (by first | exact (Below.refl _ _).drew | exact Below.refl _ _)).mono ?_; rintro e w2 ⟨rfl, hb2⟩; obtain ⟨hc1, hf1⟩ := bcell hb2))
              have hw2 : Below wr.heap.size wr w2 := (Below.refl _ wr).drew.trans (hb2.mono (Nat.le_refl _))
              have HX2 := Lib.hid ((hw2.block _ hz).trans HX.out)
              have HY2 := Lib.hid ((hw2.block _ hz1).trans HY.out)
              have HB2 : Hid (Below w.heap.size w w2) := HB.out.trans (hw2.mono HB.out.size)
              clear hb2 hw2 hc1 hf1
              go_wp2_with fail
              go_roundw
              case rel => exact ⟨k + 1, by omega, by go_num, HB2, HX2, HY2⟩
              case measure => simp [intOf]; omega
            · obtain rfl : k = ms.length := by omega
              go_wp2
              go_ret
              exact ⟨rfl, HB.out⟩

theorem RSig_same (x y : SigV) (w : World) (hx : SigR w x) (hy : SigR w y) (ha : x.a = y.a) :
    Calls Tryd.prog 10 #[.agg #[.slice x.sa x.sorts.length x.sc, .slice x.fa x.funs.length x.fc, .slice x.ma x.macs.length x.mc], .agg #[.slice y.sa y.sorts.length y.sc, .slice y.fa y.funs.length y.fc, .slice y.ma y.macs.length y.mc]] w fun e w' => e = .returned (.bool true) ∧ Below w.heap.size w w' := by
  obtain ⟨ss, sa, sc, fs, fa, fc, ms, ma, mc⟩ := x
  obtain ⟨ss', sb, sd, fs', fb, fd, ms', mb, md⟩ := y
  simp only [SigV.a, SigA.mk.injEq] at ha
  obtain ⟨h1, h2, h3⟩ := ha
  subst h1
  subst h2
  have hl : ms'.length = ms.length := by have := congrArg List.length h3; simpa using this.symm
  have := Same_aux ss fs ms ms' sa sb fa fb ma mb sc sd fc fd mc md w hx hy h3.symm
  simpa only [hl] using this
end Go.Proofs.YthejmepiliiihaaDoor
