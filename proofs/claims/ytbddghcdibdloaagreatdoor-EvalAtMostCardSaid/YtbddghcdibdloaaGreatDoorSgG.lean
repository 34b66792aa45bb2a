/- The iterator over a signature's names, walked. -/
import Derived.Test.YtbddghcdibdloaaGreatDoorSgF
namespace Go.Proofs.YtbddghcdibdloaaGreatDoor
open Go.RowKit Go.Shelf
set_option linter.unusedVariables false
attribute [local go_sem] Oper.semAt_some
/-- Between two rounds of the iterator's loops. -/
structure DeclS (w W : World) (x : SigV) (Bn : Nat) (J : List NmS → World → Prop) (l : List Nm) (wr : World) : Prop where
  stay : Stay w wr
  big : W.heap.size ≤ wr.heap.size
  box : wr.heap[Bn]? = some (.cells #[.slice x.sa x.sorts.length x.sc, .slice x.fa x.funs.length x.fc, .slice x.ma x.macs.length x.mc] 34 (0, 0))
  j : ∃ pre : List NmS, pre.map (·.1) = l ∧ J pre wr
theorem take_snoc {α : Type} {l : List α} {k : Nat} {y : α} (h : l[k]? = some y) : l.take (k + 1) = l.take k ++ [y] := by
  rw [List.take_add_one, h]; rfl
theorem pre_map {α β : Type} (f : α → β) (l : List α) (k : Nat) : (l.take k).map f <+: l.map f := by rw [List.map_take]; exact List.take_prefix _ _
set_option maxRecDepth 100000 in
set_option maxHeartbeats 4000000 in
theorem decl1_in (n : Nat) (hn : 1 ≤ n) (l Bn : Nat) (x : SigV) (w W : World) (hR : SigR w x) (hW : Stay w W) (J Jx : List NmS → World → Prop) (hJ : AbidesFrom W.heap.size J)
    (hY : ∀ pre y W1, J pre W1 → pre.length < (namesA x.a).length → YieldAt Fence.wide (n - 1) Tryz.prog l (encN y) W1 fun e W' =>
      (e = .returned (.bool true) ∧ J (pre ++ [y]) W' ∧ KeepN w.heap.size Bn W1 W') ∨ (e = .returned (.bool false) ∧ Jx (pre ++ [y]) W'))
    (hB : W.heap[Bn]? = some (.cells #[.slice x.sa x.sorts.length x.sc, .slice x.fa x.funs.length x.fc, .slice x.ma x.macs.length x.mc] 34 (0, 0))) (h0 : J [] W) :
    CallsIn Fence.wide n Tryz.prog 72 #[.func (.yield l) #[] #[], .pointer (some ⟨Bn, 0, none⟩)] W fun e W' => (∃ v, e = .returned v) ∧
      ((∃ ys : List NmS, ys.map (·.1) = namesA x.a ∧ J ys W') ∨ (∃ pre : List NmS, pre.map (·.1) <+: namesA x.a ∧ Jx pre W')) := by
  have hBn : Bn < W.heap.size := (Array.getElem?_eq_some_iff.1 hB).1
  have HL0 : Hid (x.sorts.length ≤ 9223372036854775807) := by have := hR.sl; have := hR.sm; simp only [maxLen] at this; show _ ≤ _; omega
  have HL1 : Hid (x.funs.length ≤ 9223372036854775807) := by have := hR.fl; have := hR.fm; simp only [maxLen] at this; show _ ≤ _; omega
  have HL2 : Hid (x.macs.length ≤ 9223372036854775807) := by have := hR.ml; have := hR.mm; simp only [maxLen] at this; show _ ≤ _; omega
  have b0 := cell_of_row _ _ 0 _ _ _ hB
  simp only [List.getElem?_toArray, List.getElem?_cons_zero] at b0
  have HD0 : Hid (DeclS w W x Bn J [] W) := ⟨hW, Nat.le_refl _, hB, [], rfl, h0⟩
  have HR := Lib.hid hR
  have HJ := Lib.hid hJ
  have HY := Lib.hid hY
  have HNA : Hid (namesA x.a = x.sorts.map (fun s => (s, true)) ++ (x.funs.map (fun f => (f.name, false)) ++ x.macs.map (fun m => (m.m.name, false)))) := by show _ = _; simp [namesA, SigV.a]
  clear hB h0 hW hR hJ hY
  refine callsIn_of_wp Tryz.func72 rfl trivial ?_ rfl
  simp only [Tryz.ntmps72, List.size_toArray, List.length_cons, List.length_nil, Nat.reduceAdd, Nat.reduceSub, Array.replicate_succ, Array.replicate_zero, List.push_toArray, List.append_toArray, List.nil_append, List.cons_append]
  gi_wp2
  gi_loopw [12] (fun i wr => ∃ k : Nat, k ≤ x.sorts.length ∧ i = .int .i64 k ∧ Hid (DeclS w W x Bn J ((x.sorts.take k).map (fun s => (s, true))) wr)) (fun i _ => x.sorts.length - (intOf i).toNat)
  case atStart => exact ⟨0, Nat.zero_le _, rfl, HD0⟩
  case round =>
    obtain ⟨k, hkl, rfl, HD⟩ := hrel
    have hl0 := HL0.out
    by_cases hlt : k < x.sorts.length
    · obtain ⟨y, hy⟩ : ∃ y, x.sorts[k]? = some y := ⟨_, List.getElem?_eq_getElem hlt⟩
      obtain ⟨g, o, ha, hg, hcell⟩ := (HR.out.sat.stay HD.out.stay) (by rw [len_flat strC_len]; omega)
      have q0 := hcell _ _ ((get_flat strC_len x.sorts k 0 y hy (by omega)).trans rfl)
      simp only [Nat.mul_one, Nat.add_zero] at q0
      obtain ⟨pre, hpre, hj⟩ := HD.out.j
      have hys : (y).size ≤ maxLen := HR.out.sok y (List.mem_of_getElem? hy)
      have hplen : pre.length = k := by have := congrArg List.length hpre; simp only [List.length_map, List.length_take, Nat.min_eq_left hkl] at this; exact this
      obtain ⟨fn, tmps, assign, body, hyl, hRn⟩ := HY.out pre ⟨(y, true), hys⟩ wr hj (by rw [HNA.out, hplen]; simp; omega)
      simp only [encN] at hyl
      have HRn := Lib.hid hRn
      have HPre : Hid ((pre ++ [(⟨(y, true), hys⟩ : NmS)]).map (·.1) = (x.sorts.take (k + 1)).map (fun s => (s, true))) := by
        show _ = _
        rw [take_snoc hy]
        simp only [List.map_append, hpre, List.map_cons, List.map_nil]
      rw [ha]
      have HDb := HD.out
      have HDb := Lib.hid HDb
      clear hRn hpre hj hcell hy hplen
      gi_wp2
      refine HRn.out.mono ?_
      rintro e W3 (⟨rfl, hJ3, hk3⟩ | ⟨rfl, hJx3⟩)
      · have HD3 : Hid (DeclS w W x Bn J ((x.sorts.take (k + 1)).map (fun s => (s, true))) W3) := ⟨HDb.out.stay.trans hk3.1 (fun b hb => hk3.2 b (.inl hb)), Nat.le_trans HDb.out.big hk3.1, (hk3.2 Bn (.inr rfl)).trans HDb.out.box, _, HPre.out, hJ3⟩
        clear hJ3 hk3 hyl q0
        gi_wp2
        go_roundw
        case rel => exact ⟨k + 1, by omega, by go_num, HD3⟩
        case measure => simp [intOf]; omega
      · have HJx3 := Lib.hid hJx3
        clear hJx3 hyl q0
        gi_wp2
        refine bodyPost_ret (results_none rfl _ _ _) rfl ?_
        refine ⟨⟨_, rfl⟩, .inr ⟨_, ?_, HJx3.out⟩⟩
        rw [HPre.out, HNA.out]
        exact (pre_map _ _ _).trans (List.prefix_append _ _)
    · obtain rfl : k = x.sorts.length := by omega
      have HDe := HD
      rw [List.take_length] at HDe
      clear hkl hlt
      have hlt' := (Array.getElem?_eq_some_iff.1 HDe.out.box).1
      have d1 := cell_of_row _ _ 1 _ _ _ HDe.out.box
      have d2 := cell_of_row _ _ 2 _ _ _ HDe.out.box
      simp only [List.getElem?_toArray, List.getElem?_cons_zero, List.getElem?_cons_succ] at d1 d2
      gi_wp2
      gi_loopw [25] (fun i wr => ∃ k : Nat, k ≤ x.funs.length ∧ i = .int .i64 k ∧ Hid (DeclS w W x Bn J (x.sorts.map (fun s => (s, true)) ++ (x.funs.take k).map (fun s => (s.name, false))) wr)) (fun i _ => x.funs.length - (intOf i).toNat)
      case atStart => exact ⟨0, Nat.zero_le _, rfl, by have := HDe; simpa using this⟩
      case round =>
        obtain ⟨k, hkl, rfl, HD⟩ := hrel
        have hl0 := HL1.out
        by_cases hlt : k < x.funs.length
        · obtain ⟨y, hy⟩ : ∃ y, x.funs[k]? = some y := ⟨_, List.getElem?_eq_getElem hlt⟩
          obtain ⟨g, o, ha, hg, hcell⟩ := (HR.out.fat.stay HD.out.stay) (by rw [len_flat funC_len]; omega)
          have q0 := hcell _ _ ((get_flat funC_len x.funs k 0 y hy (by omega)).trans rfl)
          have q1 := hcell _ _ ((get_flat funC_len x.funs k 1 y hy (by omega)).trans rfl)
          have q2 := hcell _ _ ((get_flat funC_len x.funs k 2 y hy (by omega)).trans rfl)
          have q3 := hcell _ _ ((get_flat funC_len x.funs k 3 y hy (by omega)).trans rfl)
          have q4 := hcell _ _ ((get_flat funC_len x.funs k 4 y hy (by omega)).trans rfl)
          have q5 := hcell _ _ ((get_flat funC_len x.funs k 5 y hy (by omega)).trans rfl)
          simp only [Nat.add_zero, ← Nat.add_assoc] at q0 q1 q2 q3 q4 q5
          obtain ⟨pre, hpre, hj⟩ := HD.out.j
          have hys : (y.name).size ≤ maxLen := HR.out.fok y (List.mem_of_getElem? hy)|>.name
          have hplen : pre.length = x.sorts.length + k := by have := congrArg List.length hpre; simp only [List.length_map, List.length_append, List.length_take, Nat.min_eq_left hkl] at this; exact this
          have hj := HJ.out pre wr (wr.alloc (.cells #[.string y.name, .int .i64 y.len, .int .i64 y.a0, .int .i64 y.a1, .int .i64 y.a2, .int .i64 y.res] 29)) none hj (World.grownBy_alloc wr _ none) (fun r e => by cases e)
          obtain ⟨fn, tmps, assign, body, hyl, hRn⟩ := HY.out pre ⟨(y.name, false), hys⟩ (wr.alloc (.cells #[.string y.name, .int .i64 y.len, .int .i64 y.a0, .int .i64 y.a1, .int .i64 y.a2, .int .i64 y.res] 29)) hj (by rw [HNA.out, hplen]; simp; omega)
          simp only [encN] at hyl
          have HRn := Lib.hid hRn
          have HPre : Hid ((pre ++ [(⟨(y.name, false), hys⟩ : NmS)]).map (·.1) = x.sorts.map (fun s => (s, true)) ++ (x.funs.take (k + 1)).map (fun s => (s.name, false))) := by
            show _ = _
            rw [take_snoc hy]
            simp only [List.map_append, hpre, List.append_assoc, List.map_cons, List.map_nil]
          rw [ha]
          have HDb := HD.out
          have HDb := Lib.hid HDb
          clear hRn hpre hj hcell hy hplen
          gi_wp2
          refine HRn.out.mono ?_
          rintro e W3 (⟨rfl, hJ3, hk3⟩ | ⟨rfl, hJx3⟩)
          · have HD3 : Hid (DeclS w W x Bn J (x.sorts.map (fun s => (s, true)) ++ (x.funs.take (k + 1)).map (fun s => (s.name, false))) W3) := by
              have hb := HDb.out
              have hlt' := (Array.getElem?_eq_some_iff.1 hb.box).1
              have h1 := hb.stay.1
              refine ⟨hb.stay.trans (Nat.le_trans (by simp) hk3.1) (fun b hb' => (hk3.2 b (.inl hb')).trans (Below.heap_alloc _ _ _ (by omega))), Nat.le_trans hb.big (Nat.le_trans (by simp) hk3.1), ((hk3.2 Bn (.inr rfl)).trans (Below.heap_alloc _ _ _ hlt')).trans hb.box, _, HPre.out, hJ3⟩
            clear hJ3 hk3 hyl q0 q1 q2 q3 q4 q5
            gi_wp2
            go_roundw
            case rel => exact ⟨k + 1, by omega, by go_num, HD3⟩
            case measure => simp [intOf]; omega
          · have HJx3 := Lib.hid hJx3
            clear hJx3 hyl q0 q1 q2 q3 q4 q5
            gi_wp2
            refine bodyPost_ret (results_none rfl _ _ _) rfl ?_
            refine ⟨⟨_, rfl⟩, .inr ⟨_, ?_, HJx3.out⟩⟩
            rw [HPre.out, HNA.out]
            exact (List.prefix_append_right_inj _).2 ((pre_map _ _ _).trans (List.prefix_append _ _))
        · obtain rfl : k = x.funs.length := by omega
          have HDe := HD
          rw [List.take_length] at HDe
          clear hkl hlt
          have hlt' := (Array.getElem?_eq_some_iff.1 HDe.out.box).1
          have d1 := cell_of_row _ _ 1 _ _ _ HDe.out.box
          have d2 := cell_of_row _ _ 2 _ _ _ HDe.out.box
          simp only [List.getElem?_toArray, List.getElem?_cons_zero, List.getElem?_cons_succ] at d1 d2
          gi_wp2
          gi_loopw [39] (fun i wr => ∃ k : Nat, k ≤ x.macs.length ∧ i = .int .i64 k ∧ Hid (DeclS w W x Bn J (x.sorts.map (fun s => (s, true)) ++ (x.funs.map (fun f => (f.name, false)) ++ (x.macs.take k).map (fun s => (s.m.name, false)))) wr)) (fun i _ => x.macs.length - (intOf i).toNat)
          case atStart => exact ⟨0, Nat.zero_le _, rfl, by have := HDe; simpa using this⟩
          case round =>
            obtain ⟨k, hkl, rfl, HD⟩ := hrel
            have hl0 := HL2.out
            by_cases hlt : k < x.macs.length
            · obtain ⟨y, hy⟩ : ∃ y, x.macs[k]? = some y := ⟨_, List.getElem?_eq_getElem hlt⟩
              obtain ⟨g, o, ha, hg, hcell⟩ := (HR.out.mat.stay HD.out.stay) (by rw [len_flat macC_len]; omega)
              have q0 := hcell _ _ ((get_flat macC_len x.macs k 0 y hy (by omega)).trans rfl)
              have q1 := hcell _ _ ((get_flat macC_len x.macs k 1 y hy (by omega)).trans rfl)
              have q2 := hcell _ _ ((get_flat macC_len x.macs k 2 y hy (by omega)).trans rfl)
              have q3 := hcell _ _ ((get_flat macC_len x.macs k 3 y hy (by omega)).trans rfl)
              have q4 := hcell _ _ ((get_flat macC_len x.macs k 4 y hy (by omega)).trans rfl)
              have q5 := hcell _ _ ((get_flat macC_len x.macs k 5 y hy (by omega)).trans rfl)
              simp only [Nat.add_zero, ← Nat.add_assoc] at q0 q1 q2 q3 q4 q5
              obtain ⟨pre, hpre, hj⟩ := HD.out.j
              have hys : (y.m.name).size ≤ maxLen := HR.out.mok y (List.mem_of_getElem? hy)|>.name
              have hplen : pre.length = x.sorts.length + (x.funs.length + k) := by have := congrArg List.length hpre; simp only [List.length_map, List.length_append, List.length_take, Nat.min_eq_left hkl] at this; exact this
              have hj := HJ.out pre wr (wr.alloc (.cells #[.string y.m.name, .slice y.pa y.m.params.length y.pc, .int .i64 y.m.res, .int .i8 y.m.body.kind, .string (bytesL y.m.body.text), .slice y.ba y.m.body.kids.length y.bc] 127)) none hj (World.grownBy_alloc wr _ none) (fun r e => by cases e)
              obtain ⟨fn, tmps, assign, body, hyl, hRn⟩ := HY.out pre ⟨(y.m.name, false), hys⟩ (wr.alloc (.cells #[.string y.m.name, .slice y.pa y.m.params.length y.pc, .int .i64 y.m.res, .int .i8 y.m.body.kind, .string (bytesL y.m.body.text), .slice y.ba y.m.body.kids.length y.bc] 127)) hj (by rw [HNA.out, hplen]; simp; omega)
              simp only [encN] at hyl
              have HRn := Lib.hid hRn
              have HPre : Hid ((pre ++ [(⟨(y.m.name, false), hys⟩ : NmS)]).map (·.1) = x.sorts.map (fun s => (s, true)) ++ (x.funs.map (fun f => (f.name, false)) ++ (x.macs.take (k + 1)).map (fun s => (s.m.name, false)))) := by
                show _ = _
                rw [take_snoc hy]
                simp only [List.map_append, hpre, List.append_assoc, List.map_cons, List.map_nil]
              rw [ha]
              have HDb := HD.out
              have HDb := Lib.hid HDb
              clear hRn hpre hj hcell hy hplen
              gi_wp2
              refine HRn.out.mono ?_
              rintro e W3 (⟨rfl, hJ3, hk3⟩ | ⟨rfl, hJx3⟩)
              · have HD3 : Hid (DeclS w W x Bn J (x.sorts.map (fun s => (s, true)) ++ (x.funs.map (fun f => (f.name, false)) ++ (x.macs.take (k + 1)).map (fun s => (s.m.name, false)))) W3) := by
                  have hb := HDb.out
                  have hlt' := (Array.getElem?_eq_some_iff.1 hb.box).1
                  have h1 := hb.stay.1
                  refine ⟨hb.stay.trans (Nat.le_trans (by simp) hk3.1) (fun b hb' => (hk3.2 b (.inl hb')).trans (Below.heap_alloc _ _ _ (by omega))), Nat.le_trans hb.big (Nat.le_trans (by simp) hk3.1), ((hk3.2 Bn (.inr rfl)).trans (Below.heap_alloc _ _ _ hlt')).trans hb.box, _, HPre.out, hJ3⟩
                clear hJ3 hk3 hyl q0 q1 q2 q3 q4 q5
                gi_wp2
                go_roundw
                case rel => exact ⟨k + 1, by omega, by go_num, HD3⟩
                case measure => simp [intOf]; omega
              · have HJx3 := Lib.hid hJx3
                clear hJx3 hyl q0 q1 q2 q3 q4 q5
                gi_wp2
                refine bodyPost_ret (results_none rfl _ _ _) rfl ?_
                refine ⟨⟨_, rfl⟩, .inr ⟨_, ?_, HJx3.out⟩⟩
                rw [HPre.out, HNA.out]
                exact (List.prefix_append_right_inj _).2 ((List.prefix_append_right_inj _).2 (pre_map _ _ _))
            · obtain rfl : k = x.macs.length := by omega
              have HDe := HD
              rw [List.take_length] at HDe
              clear hkl hlt
              have hlt' := (Array.getElem?_eq_some_iff.1 HDe.out.box).1
              have d1 := cell_of_row _ _ 1 _ _ _ HDe.out.box
              have d2 := cell_of_row _ _ 2 _ _ _ HDe.out.box
              simp only [List.getElem?_toArray, List.getElem?_cons_zero, List.getElem?_cons_succ] at d1 d2
              gi_wp2
              go_end0
              obtain ⟨ys, hys, hjy⟩ := HDe.out.j
              exact ⟨⟨_, rfl⟩, .inl ⟨ys, hys.trans HNA.out.symm, hjy⟩⟩
end Go.Proofs.YtbddghcdibdloaaGreatDoor
