/- The first clause out of those that were unit. -/
import Derived.Test.YtggighikemhnfaaDoorUnX
namespace Go.Proofs.YtggighikemhnfaaDoor.Tm
open Go.RowKit
set_option linter.unusedVariables false
structure UnitO (W0 w' : World) (b : Nat) (s : USt) (ps : List Int) (rb n rc : Nat) (lv : Value) (t : Nat) (y : Int) : Prop where
  mem : t ∈ s.q
  min : ∀ u ∈ s.q, t ≤ u
  row : ∃ r, s.rows[t / 2]? = some r ∧ wat r (t % 2) = y
  run : LookR W0 w' b { s with q := s.q.erase t } ps (.slice (some ⟨rb, 0, none⟩) n rc) lv
set_option maxRecDepth 100000 in
set_option maxHeartbeats 4000000 in
theorem unit_none {W0 : World} {b : Nat} {s : USt} {ps : List Int} {rb n rc : Nat} {lv : Value} (w : World) (h : LookR W0 w b s ps (.slice (some ⟨rb, 0, none⟩) n rc) lv) (hq : s.q = []) :
    Calls Tryd.prog 38 #[.pointer (some ⟨b, 0, none⟩)] w fun e w' => e = .returned (.tuple #[.int .i64 (-1), .bool false]) ∧ w = w' := by
  obtain ⟨pg, qv, xs, L, hX⟩ := h
  obtain ⟨_, b1, _, _, blt, bfz⟩ := hX.box.cells
  have hL : L.length = 0 := by rw [qu_len hX.qu, hq]; rfl
  obtain ⟨qa, qc, hqv, _, _, _⟩ := own_at hX.qu.row
  rw [hL] at hqv
  subst hqv
  have HL : Hid (Calls Tryd.prog 59 #[.slice qa 0 qc] w fun e w' => e = .returned (.int .i64 0) ∧ w = w') := ILen_any qa 0 qc w
  clear hX hL bfz hq
  go_enter Tryd.func38, Tryd.ntmps38
  go_wp2_with (first | (go_at_call 59; with_reducible refine HL.out.mono ?_; rintro e w1 ⟨rfl, rfl⟩))
  go_ret2
  exact ⟨rfl, rfl⟩
set_option maxRecDepth 100000 in
set_option maxHeartbeats 4000000 in
theorem unit_some {W0 : World} {b : Nat} {s : USt} {ps : List Int} {rb n rc : Nat} {lv : Value} (w : World) (h : LookR W0 w b s ps (.slice (some ⟨rb, 0, none⟩) n rc) lv) (hq : s.q ≠ []) (hb : ∀ t ∈ s.q, t / 2 < s.rows.length) (hn : s.rows.length ≤ 2000) (hql : s.q.length ≤ 2000) :
    Calls Tryd.prog 38 #[.pointer (some ⟨b, 0, none⟩)] w fun e w' => ∃ t y, e = .returned (.tuple #[.int .i64 y, .bool true]) ∧ UnitO W0 w' b s ps rb n rc lv t y := by
  obtain ⟨pg, qv, xs, L, hX⟩ := h
  obtain ⟨_, b1, _, _, blt, bfz⟩ := hX.box.cells
  have hLl := qu_len hX.qu
  obtain ⟨m, hm⟩ : ∃ m, m + 1 = L.length := ⟨L.length - 1, by have : 0 < s.q.length := List.length_pos_iff.2 hq; omega⟩
  obtain ⟨g, cap, hqv⟩ : ∃ g cap, qv = .slice (some ⟨g, 0, none⟩) L.length cap := by
    rcases hX.qu.row.2 with ⟨_, e⟩ | ⟨g, cap, cur, e, _⟩
    · omega
    · exact ⟨g, cap, e⟩
  subst hqv
  have hne := (hX.qv_ne (g := g) rfl).1
  have hlen0 : ((L.length : Int) == 0) = false := eq_f (by omega)
  have HL : Hid (Calls Tryd.prog 59 #[.slice (some ⟨g, 0, none⟩) L.length cap] w fun e w' => e = .returned (.int .i64 L.length) ∧ w = w') := ILen_any _ _ _ w
  have HP : Hid (Calls Tryd.prog 60 #[.iface 84 (.pointer (some ⟨b, 1026, none⟩))] w fun e w' => ∃ (t : Nat) (L' : List Int), e = .returned (.iface 3 (.int .i64 (t : Int))) ∧ Hid (t ∈ s.q ∧ (∀ u ∈ s.q, t ≤ u) ∧ RunX W0 w' b { s with q := s.q.erase t } ps pg (.slice (some ⟨rb, 0, none⟩) n rc) (.slice (some ⟨g, 0, none⟩) L'.length cap) lv xs L')) := by
    refine (hPop_any W0.heap.size b g cap m pg _ lv s.conf s.q L w hX.box hX.qu (fun e => hne e.symm) hm (by omega)).mono ?_
    rintro e w' ⟨t, L', rfl, hO⟩
    exact ⟨t, L', rfl, hO.mem, hO.min, hX.pop hO⟩
  have HB : Hid ((∀ t ∈ s.q, t / 2 < s.rows.length) ∧ s.rows.length ≤ 2000) := ⟨hb, hn⟩
  have hTA : ∀ (W : World) (x : Int), Sem.run Tryd.prog (Instr.typeAssert (.iface 3 (.int .i64 x)) 20 3 false) W = .ok (.int .i64 x) W := fun W x => by kernel_rfl
  have hnr : s.rows.length = xs.length := by rw [← hX.rws, List.length_map]
  have HNr := Lib.hid hnr
  clear hX hLl hq hb hn hql hne hm bfz hnr
  go_enter Tryd.func38, Tryd.ntmps38
  go_wp2_with (first | (go_at_call 59; with_reducible refine HL.out.mono ?_; rintro e w1 ⟨rfl, rfl⟩))
  with_reducible refine HP.out.mono ?_
  rintro e w1 ⟨t, L', rfl, HX⟩
  obtain ⟨h1, h2, hX⟩ := HX.out
  have htl := HB.out.1 t h1
  have hr2 := HB.out.2
  obtain ⟨x, hx⟩ := hX.getRow (k := t / 2) htl
  obtain ⟨mm, hmm⟩ : ∃ mm, t / 2 = mm := ⟨_, rfl⟩
  rw [hmm] at hx htl
  obtain ⟨b0, _, _, _, blt1, _⟩ := hX.box.cells
  obtain ⟨r0, r1, r2, r3, r4, rlt, _⟩ := hX.rowAt hx
  have hmn : (mm : Int) < (n : Int) := by
    obtain ⟨a, c, e, h1, _⟩ := own_at hX.rows
    cases e
    have := (List.getElem?_eq_some_iff.1 hx).1
    omega
  have hnc : n ≤ 9223372036854775807 := by
    obtain ⟨a, c, e, h1, h2, _⟩ := own_at hX.rows
    cases e
    simp only [maxLen] at h2
    omega
  have hth : ((t : Nat) : Int) / 2 = (mm : Int) := by omega
  have htb : (t : Int) ≤ 5000 := by omega
  have HO : Hid (∀ y, wat x.r (t % 2) = y → UnitO W0 w1 b s ps rb n rc lv t y) := fun y hy => ⟨h1, h2, ⟨x.r, by rw [hmm]; exact hX.rowOf hx, hy⟩, _, _, _, _, hX⟩
  clear hX h1 h2 htl hx HX hr2
  rcases (by omega : t % 2 = 0 ∨ t % 2 = 1) with hp | hp
  · have hta : bits .and .i64 (t : Int) 1 = 0 := by rw [i64_and1 _ ⟨by omega, by omega⟩]; omega
    have HE := Lib.hid (HO.out x.r.w0 (by rw [hp]; rfl))
    clear hp hmm HO
    go_wp2
    go_ret2
    exact ⟨t, x.r.w0, rfl, HE.out⟩
  · have hta : bits .and .i64 (t : Int) 1 = 1 := by rw [i64_and1 _ ⟨by omega, by omega⟩]; omega
    have HE := Lib.hid (HO.out x.r.w1 (by rw [hp]; rfl))
    clear hp hmm HO
    go_wp2
    go_ret2
    exact ⟨t, x.r.w1, rfl, HE.out⟩
end Go.Proofs.YtggighikemhnfaaDoor.Tm
