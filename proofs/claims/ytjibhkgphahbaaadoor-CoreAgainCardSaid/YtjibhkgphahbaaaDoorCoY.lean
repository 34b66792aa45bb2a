/- Core: newWalk. -/
import Derived.Test.YtjibhkgphahbaaaDoorCoV
import Derived.Laws.CopyOwn
import Derived.Deep.RegionHeld3
namespace Go.Proofs.YtjibhkgphahbaaaDoor.Tm
open Go.RowKit
set_option linter.unusedVariables false
set_option maxRecDepth 100000 in
set_option maxHeartbeats 2000000 in
theorem Repeat_any (n b : Nat) (w : World) (h0 : 0 < n) (hn : n ≤ 3000) (hb : w.cell? ⟨b, 0, none⟩ = some (.int .i64 (-1))) (hbz : b < w.heap.size) : Calls Tryd.prog 36 #[.slice (some ⟨b, 0, none⟩) 1 1, .int .i64 n] w fun e w' => e = .returned (.slice (some ⟨w.heap.size, 0, none⟩) n n) ∧ w'.heap[w.heap.size]? = some (.cells (repL n n).toArray 3 (0, 0)) ∧ Below w.heap.size w w' := by
  have HM : Hid (∀ V, Calls Tryd.prog 58 #[.int .u64 1, .int .u64 n] V fun e w' => e = .returned (.tuple #[.int .u64 0, .int .u64 n]) ∧ V = w') := fun V => Mul_one n V hn
  have d1 : IntKind.u64.wrap (n : Int) = n := u64_wrap n (by omega) (by omega)
  obtain ⟨W0, hW0⟩ : ∃ W0, W0 = w.alloc (.cells (repL 0 n).toArray 3) := ⟨_, rfl⟩
  have hmk : (Instr.makeSlice 25 (.int .i64 n) (.int .i64 n)).run Tryd.prog w = .ok (.slice (some ⟨w.heap.size, 0, none⟩) n n) W0 := by rw [hW0]; exact make_rep n hn w
  have hB0 : Below w.heap.size w W0 := by rw [hW0]; exact (Below.refl _ w).alloc (Nat.le_refl _) _
  have hg0 : W0.heap[w.heap.size]? = some (.cells (repL 0 n).toArray 3 (0, 0)) := by rw [hW0]; exact heap_alloc_new w _
  have hc0 : W0.cell? ⟨b, 0, none⟩ = some (.int .i64 (-1)) := (hB0.cell (p := ⟨b, 0, none⟩) hbz).trans hb
  have HB0 := Lib.hid hB0
  have HG0 := Lib.hid hg0
  have HC0 := Lib.hid hc0
  clear hW0 hB0 hg0 hc0 hb
  go_enter Tryd.func36, Tryd.ntmps36
  go_wp2_with (first | (go_at_call 58; refine (HM.out _).mono ?_; rintro e w' ⟨rfl, rfl⟩) | (refine wpList_copy_splice rfl _ _ _ _ rfl 3 Tryd.underlying25 intSz _ _ n n 1 1 rfl rfl w.heap.size 0 (repL 0 n) 3 HG0.out [.int .i64 (-1)] (by show (1 : Nat) = min 1 n; omega) (fun _ => ⟨rfl, _, rfl, fun j v hv => by cases j with | zero => (cases hv; exact HC0.out) | succ j => simp at hv⟩) (by rw [repL_len _ _ (Nat.zero_le _)]; simp; omega) (by simp [Value.oneCell']) w.heap.size _ HB0.out (Nat.le_refl _) ?_; intro w3 hg3 hb3; have HG3 : Hid (w3.heap[w.heap.size]? = some (.cells (repL 1 n).toArray 3 (0, 0))) := (by have h := hg3.out; rw [show [Value.int .i64 (-1)] = List.replicate 1 (.int .i64 (-1)) from rfl, repL_splice 0 1 n (by omega)] at h; exact h); have HB3 := Lib.hid hb3; clear hg3 hb3))
  go_loopw [8] (fun i wr => ∃ j : Nat, 1 ≤ j ∧ j ≤ n ∧ i = .int .i64 j ∧ Hid (wr.heap[w.heap.size]? = some (.cells (repL j n).toArray 3 (0, 0))) ∧ Hid (Below w.heap.size w wr)) (fun i _ => n - (intOf i).toNat)
  case atStart => exact ⟨1, Nat.le_refl _, h0, rfl, HG3, HB3⟩
  case round =>
    clear HG3 HB3 HG0 HB0 HC0 hmk HM d1
    obtain ⟨j, h1, hj, rfl, HG, HB⟩ := hrel
    by_cases hlt : j < n
    · obtain ⟨m, hm⟩ : ∃ m, min j (n - j) = m := ⟨_, rfl⟩
      have hmj : m ≤ j := by omega
      have hmn : j + m ≤ n := by omega
      have hm1 : 1 ≤ m := by omega
      have hne : ¬ n = j := by omega
      have HMin := Lib.hid hm
      have hjn : (j : Int) < (n : Int) := by omega
      have hwr : IntKind.i64.wrap ((j : Int) + (m : Int)) = (j : Int) + (m : Int) := by rw [IntKind.wrap_i64]; omega
      have HSrc : Hid (∀ (u : Nat) (v : Value), (List.replicate m (Value.int .i64 (-1)))[u]? = some v → wr.cell? ((⟨w.heap.size, 0, none⟩ : Addr).add u) = some v) := fun u v hu => by
        rw [Addr.add_lit]
        rw [List.getElem?_replicate] at hu
        split at hu
        · cases hu
          refine (cell_of_row _ _ _ _ _ _ HG.out).trans ?_
          rw [List.getElem?_toArray, repL, List.getElem?_append_left (by simp; omega), List.getElem?_replicate, if_pos (by omega)]
        · cases hu
      clear hm
      obtain ⟨V2, hV2⟩ : ∃ V2, V2 = wr.drew.setRow w.heap.size ((repL j n).toArray.toList.take j ++ List.replicate m (Value.int .i64 (-1)) ++ (repL j n).toArray.toList.drop (j + (List.replicate m (Value.int .i64 (-1))).length)).toArray := ⟨_, rfl⟩
      have hcp : (Builtin.copy_ #[25, 25] 3 #[.slice (some ⟨w.heap.size, j, none⟩) (n - j) (n - j), .slice (some ⟨w.heap.size, 0, none⟩) j n]).run Tryd.prog wr.drew = .ok (.int .i64 (m : Int)) V2 := by
        have h := run_copy_row (P := Tryd.prog) wr.drew 25 25 3 3 w.heap.size j (n - j) (n - j) ⟨w.heap.size, 0, none⟩ j n (repL j n).toArray 3 (List.replicate m (.int .i64 (-1))) Tryd.underlying25 intSz HG.out (by rw [List.length_replicate]; exact HMin.out.symm) HSrc.out (by show _ ≤ (repL j n).toArray.size; rw [List.size_toArray, repL_len _ _ hj, List.length_replicate]; exact hmn) (by simp [Value.oneCell'])
        rw [h, ← hV2, List.length_replicate]; rfl
      have HB4 : Hid (Below w.heap.size w V2) := by
        show Below _ _ _
        rw [hV2]
        exact below_setRow (w := wr.drew) ⟨HB.out.os, HB.out.tape, HB.out.output, HB.out.size, HB.out.block⟩ (Nat.le_refl _) _
      have HG4 : Hid (V2.heap[w.heap.size]? = some (.cells (repL (j + m) n).toArray 3 (0, 0))) := by
        show _ = _
        have h := setRow_heap wr.drew w.heap.size (repL j n).toArray ((repL j n).toArray.toList.take j ++ List.replicate m (Value.int .i64 (-1)) ++ (repL j n).toArray.toList.drop (j + (List.replicate m (Value.int .i64 (-1))).length)).toArray 3 (0, 0) HG.out
        rw [← hV2] at h
        rw [h, ← repL_splice j m n hmn]
        simp [splice]
      clear hV2
      go_wp2_with fail
      go_region
      all_goals
        go_wp2_with fail
        go_roundw
        case rel => exact ⟨j + m, by omega, hmn, by go_num, HG4, HB4⟩
        case measure => simp [intOf]; omega
    · obtain rfl : j = n := by omega
      go_wp2_with fail
      go_ret
      exact ⟨rfl, HG.out, HB.out⟩
end Go.Proofs.YtjibhkgphahbaaaDoor.Tm
namespace Go.Proofs.YtjibhkgphahbaaaDoor.Tm
open Go.RowKit
set_option linter.unusedVariables false
theorem cell_new1 (w : World) (v : Value) (t : TypeId) : (w.alloc (.cells #[v] t)).cell? ⟨w.heap.size, 0, none⟩ = some v := (cell_of_row _ _ 0 _ _ _ (heap_alloc_new w _)).trans rfl
theorem newWk_end {w w1 : World} {I M n : Nat} {l : List NodeA} {a : Option Addr} {c : Nat} (hA : TabR w l a c) (hb : Below w.heap.size w w1) (hI : w1.heap[I]? = some (.cells (repL l.length l.length).toArray 3 (0, 0))) :
    WkR (w1.alloc (.cells #[.slice a l.length c, .slice (some ⟨I, 0, none⟩) l.length l.length, .func (.func 20) #[.pointer (some ⟨M, 0, none⟩)] #[]] 72)) w1.heap.size I M l a c (List.replicate l.length (-1)) := by
  have hlt := (Array.getElem?_eq_some_iff.1 hI).1
  refine ⟨heap_alloc_new w1 _, ?_, by simp, (hA.below hb).below ((Below.refl _ w1).alloc (Nat.le_refl _) _), by omega⟩
  refine (Below.heap_alloc w1 _ _ hlt).trans (hI.trans ?_)
  have e : repL l.length l.length = (List.replicate l.length (-1 : Int)).map (Value.int .i64) := by simp [repL]
  rw [e]
set_option maxRecDepth 100000 in
set_option maxHeartbeats 4000000 in
theorem newWalk_any (l : List NodeA) (a : Option Addr) (c M : Nat) (w : World) (hA : TabR w l a c) (h0 : 0 < l.length) (hl : l.length ≤ 3000) :
    Calls Tryd.prog 19 #[.agg #[.slice a l.length c], .func (.func 20) #[.pointer (some ⟨M, 0, none⟩)] #[]] w fun e w' => ∃ X I, e = .returned (.pointer (some ⟨X, 0, none⟩)) ∧ w.heap.size ≤ I ∧ w.heap.size ≤ X ∧ X < w'.heap.size ∧ WkR w' X I M l a c (List.replicate l.length (-1)) ∧ Below w.heap.size w w' := by
  obtain ⟨W0, hW0⟩ : ∃ W0, W0 = w.alloc (.cells #[.slice a l.length c] 24) := ⟨_, rfl⟩
  have hB0 : Below w.heap.size w W0 := by rw [hW0]; exact (Below.refl _ w).alloc (Nat.le_refl _) _
  have hn0 : W0.heap[w.heap.size]? = some (.cells #[.slice a l.length c] 24 (0, 0)) := by rw [hW0]; exact heap_alloc_new w _
  have b0 : W0.cell? ⟨w.heap.size, 0, none⟩ = some (.slice a l.length c) := (cell_of_row _ _ 0 _ _ _ hn0).trans rfl
  have hbz := (Array.getElem?_eq_some_iff.1 hn0).1
  have HS : Hid (∀ V, Below W0.heap.size W0 V → V.cell? ⟨w.heap.size, 0, none⟩ = some (.slice a l.length c)) := fun V hV => (hV.cell (p := ⟨w.heap.size, 0, none⟩) hbz).trans b0
  have HD : Hid (Below W0.heap.size W0 W0.drew) := ⟨rfl, rfl, rfl, Nat.le_refl _, fun _ _ => rfl⟩
  have HDa : Hid (∀ o, Below W0.heap.size W0 (W0.drew.alloc o)) := fun o => HD.out.alloc (Nat.le_refl _) o
  have HDb : Hid (∀ o, Below W0.heap.size W0 (W0.alloc o).drew) := fun o => ⟨rfl, rfl, rfl, by show _ ≤ (W0.alloc o).heap.size; simp, fun k hk => Below.heap_alloc W0 o k hk⟩
  have HR : Hid (∀ (V : World) (b : Nat), V.cell? ⟨b, 0, none⟩ = some (.int .i64 (-1)) → b < V.heap.size → Calls Tryd.prog 36 #[.slice (some ⟨b, 0, none⟩) 1 1, .int .i64 l.length] V fun e w' => e = .returned (.slice (some ⟨V.heap.size, 0, none⟩) l.length l.length) ∧ w'.heap[V.heap.size]? = some (.cells (repL l.length l.length).toArray 3 (0, 0)) ∧ Below V.heap.size V w') := fun V b hb hz => Repeat_any l.length b V h0 hl hb hz
  have HRd : Hid (Calls Tryd.prog 36 #[.slice (some ⟨W0.heap.size, 0, none⟩) 1 1, .int .i64 l.length] (W0.drew.alloc (.cells #[.int .i64 (-1)] 3)) fun e w' => e = .returned (.slice (some ⟨W0.heap.size + 1, 0, none⟩) l.length l.length) ∧ w'.heap[W0.heap.size + 1]? = some (.cells (repL l.length l.length).toArray 3 (0, 0)) ∧ Below (W0.heap.size + 1) (W0.drew.alloc (.cells #[.int .i64 (-1)] 3)) w') := by
    have h := HR.out (W0.drew.alloc (.cells #[.int .i64 (-1)] 3)) W0.heap.size (cell_new1 W0.drew _ _) (by rw [World.size_alloc]; exact Nat.lt_succ_self _)
    rw [World.size_alloc] at h
    exact h
  have HA := Lib.hid hA
  have HB0 := Lib.hid hB0
  clear hB0 hn0 hA b0
  go_enter Tryd.func19, Tryd.ntmps19
  go_wp2_with fail
  rw [← hW0]
  clear hW0
  go_region_held3 (fun V => V.cell? ⟨w.heap.size, 0, none⟩ = some (.slice a l.length c))
    (first | with_reducible exact HS.out _ HD.out | with_reducible exact HS.out _ (HDa.out _) | with_reducible exact HS.out _ (HDb.out _) | with_reducible exact HS.out _ HK1.out | with_reducible exact HS.out _ (HK1a.out _))
    (first | (go_at_call 36; refine HRd.out.mono ?_; rintro e w1 ⟨rfl, hg1, hb1⟩; have HG1 := Lib.hid hg1; have HK1 := Lib.hid ((HDa.out _).trans (hb1.mono (Nat.le_succ _))); have HK1a : Hid (∀ o, Below W0.heap.size W0 (w1.alloc o)) := Lib.hid (fun o => HK1.out.alloc HK1.out.size o); clear hg1 hb1))
  all_goals
    have hW1 : Below w.heap.size w w1 := HB0.out.trans (HK1.out.mono HB0.out.size)
    have HW := Lib.hid (newWk_end (M := M) (n := 0) HA.out hW1 HG1.out)
    have HBf := Lib.hid hW1
    have hs1 := hW1.size
    have hs0 := HB0.out.size
    clear hW1
    go_wp2_with fail
    go_ret
    exact ⟨_, _, rfl, by omega, hs1, by rw [World.size_alloc]; exact Nat.lt_succ_self _, HW.out, HBf.out.alloc hs1 _⟩
end Go.Proofs.YtjibhkgphahbaaaDoor.Tm
