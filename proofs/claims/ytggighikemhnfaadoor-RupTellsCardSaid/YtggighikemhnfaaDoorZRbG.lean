/- rup's Refutes; law17's wakes. -/
import Derived.Test.YtggighikemhnfaaDoorZRbE
namespace Go.Proofs.YtggighikemhnfaaDoor.Tm
open Go.RowKit Go.Shelf
set_option linter.unusedVariables false
attribute [local go_sem] Oper.semAt_some
set_option maxRecDepth 100000 in
set_option maxHeartbeats 4000000 in
theorem Row_in (rs : List RowD) (a : Option Addr) (c : Nat) (ss : List RowD) (a' : Option Addr) (c' : Nat) (cls st : List (List Int)) (w : World) (hcl : rs.map (·.xs) = cls) (hst : ss.map (·.xs) = st) (hG : GC w) (hR : RowsR w rs a c) (hS : RowsR w ss a' c') (hl : rs.length + ss.length ≤ 1000) (hx : ∀ y ∈ rs ++ ss, y.xs.length ≤ 100) :
    CallsIn Fence.wide 8 Tryd.prog 26 #[.slice a rs.length c, .slice a' ss.length c'] w fun e w' => (∃ n : Int, e = .returned (.int .i64 n) ∧ RowP cls st n) ∧ Below w.heap.size w w' := by
  have HEa : Hid (∀ V, Calls Tryd.prog 51 #[.slice a rs.length c, .slice a' ss.length c'] V fun e w' => e = .returned (.func (.func 68) #[] #[.pointer (some ⟨V.heap.size, 0, none⟩), .pointer (some ⟨V.heap.size + 1, 0, none⟩)]) ∧ (V.alloc (.cells #[.slice a rs.length c] 22)).alloc (.cells #[.slice a' ss.length c'] 22) = w') := fun V => Each_any _ _ _ _ _ _ V
  have hd : 1 ≤ 8 := by omega
  have HRS := Lib.hid (And.intro hR hS)
  have HGx := Lib.hid (And.intro hG hx)
  have HCS := Lib.hid (And.intro hcl hst)
  have HSl : Hid (st.length = ss.length) := by show _ = _; rw [← hst, List.length_map]
  clear hR hS hG hcl hst hx
  refine callsIn_of_wp_marks Tryd.func26 rfl trivial ?_ rfl
  simp only [Tryd.ntmps26, List.size_toArray, List.length_cons, List.length_nil, Nat.reduceAdd, Nat.reduceSub, Array.replicate_succ, Array.replicate_zero, List.push_toArray, List.append_toArray, List.nil_append, List.cons_append]
  gi_wp2_with (refine ⟨trivial, ?_⟩; gi_at_call 51; refine (callsIn_wide.2 (HEa.out _)).mono ?_; rintro e w4 ⟨rfl, hw4⟩)
  obtain ⟨hb4, hz4, e0, e1, e2, e3⟩ := four_new hw4
  have HB4 := Lib.hid hb4
  have hek : EK w rs a c ss a' c' (w.heap.size + 1 + 1) w4 := ⟨fun b hb => hb4.block b hb, hb4.size, e2, e3⟩
  have hI0 : RwI cls st w4 w.heap.size [] w4 := ⟨⟨rfl, rfl, rfl, Nat.le_refl _, fun _ _ _ _ => rfl, e0, e1⟩, fun i h => absurd h (by simp)⟩
  clear hw4 hb4 e0 e1 e2 e3 HEa
  refine wpIn_rangeFunc_Z rfl hd (gf := 68) (lb := #[.pointer (some ⟨w.heap.size + 1 + 1, 0, none⟩), .pointer (some ⟨w.heap.size + 1 + 1 + 1, 0, none⟩)]) rfl trivial (enters_of Tryd.func68 (by kernel_rfl) rfl)
    (encs := encX rs ss) (Y := YcX rs ss) (S := fun ys => ys.map XD.k = List.range ss.length) (Sp := SpX ss) (ex := fun b => b = w.heap.size ∨ b = w.heap.size + 1)
    (fun W hW y0 J Jx hJ _ hY h0 => each1_in 7 (by omega) y0 w rs a c ss a' c' HRS.out.1 HRS.out.2 (by omega) (w.heap.size + 1 + 1) w4.heap.size _ (by omega) (fun b hb => by omega) (by omega) (by omega) W hW.size J Jx hJ hY (hek.below hW) h0) (fun _ => rfl)
    (RwI cls st w4 w.heap.size) (RwX cls st w4 w.heap.size) (fun pre A B h hb => ⟨h.1.below hb, h.2⟩) (fun pre A l o o' h hl ho hc => ⟨h.1.put (o := o) hl (by omega), h.2⟩)
    (fun pre A B ⟨j, m, h, hp⟩ hb => ⟨j, m, h.below hb, hp⟩) (fun pre A l o o' ⟨j, m, h, hp⟩ hl ho hc => ⟨j, m, h.put (o := o) hl (by omega), hp⟩)
    (fun B hB => ⟨hI0.1.below hB, hI0.2⟩)
    (fun x a1 W => a1 = { tmps := #[Value.slice a rs.length c, Value.slice a' ss.length c', undef, undef, Value.pointer (some ⟨w.heap.size, 0, none⟩), Value.pointer (some ⟨w.heap.size + 1, 0, none⟩), .slice x.a (rs.length + x.k) x.c, stp ss x.k, Value.slice a rs.length c, Value.slice a' ss.length c', Value.func (Fn.func 68) #[] #[Value.pointer (some ⟨w.heap.size + 1 + 1, 0, none⟩), Value.pointer (some ⟨w.heap.size + 1 + 1 + 1, 0, none⟩)], .slice x.a (rs.length + x.k) x.c, stp ss x.k, undef, undef, undef, undef, undef, undef, undef], defers := [] } ∧ YcX rs ss x W) (fun x a1 A l o o' ⟨h1, h2⟩ hl ho hc => ⟨h1, h2.put ho hc⟩) ?_ ?_ ?_ ?_
  · rintro l' pre x W K hsz hsp hy hI hK
    simp only [encX]
    gi_wp2
    exact hK _ _ (KeepsFrom.refl _ _) (KeepsC.refl _ _ _) hI ⟨rfl, hy⟩
  · rintro l' pre x a1 V hsz hsp hI ⟨rfl, hy⟩
    obtain ⟨hk, hkl⟩ := hsp.last
    obtain ⟨s, hs⟩ : ∃ s, ss[x.k]? = some s := ⟨_, List.getElem?_eq_getElem (by omega)⟩
    have hst : stp ss x.k = .slice s.a s.xs.length s.c := by unfold stp; rw [hs]; rfl
    have hold : ∀ b, b < w.heap.size → V.heap[b]? = w.heap[b]? := fun b hb => (hI.1.block b (by omega) (by omega) (by omega)).trans (HB4.out.block b hb)
    have HF : Hid (Calls Tryd.prog 24 #[.slice x.a (rs.length + x.k) x.c, .slice s.a s.xs.length s.c] V fun e w' => (∃ q : Bool, e = .returned (.bool q) ∧ (q = true ↔ FolAt cls st x.k)) ∧ Hid (Below V.heap.size V w')) := by
      have e1 : (rs ++ ss.take x.k).length = rs.length + x.k := by simp; omega
      have e2 : (rs ++ ss.take x.k).map (·.xs) = cls ++ st.take x.k := by rw [← HCS.out.1, ← HCS.out.2, List.map_append, List.map_take]
      have e3 : st[x.k]? = some s.xs := by rw [← HCS.out.2, List.getElem?_map, hs]; rfl
      have hh : ∀ y ∈ rs ++ ss.take x.k, y.xs.length ≤ 100 := fun y hy => HGx.out.2 y ((List.mem_append.1 hy).elim (fun h => List.mem_append_left _ h) (fun h => List.mem_append_right _ (List.mem_of_mem_take h)))
      have hz := HB4.out.size
      have h := Follows_any (rs ++ ss.take x.k) x.a x.c s.xs s.a s.c (cls ++ st.take x.k) V e2 (HGx.out.1.same (by omega) hold) hy.1 (hy.2 s hs) (by omega) (by rw [← e2]; have := flat_hund hh; omega) (by have := HGx.out.2 s (List.mem_append_right _ (List.mem_of_getElem? hs)); omega)
      rw [e1] at h
      refine h.mono ?_
      rintro e w' ⟨⟨q, h1, h2⟩, h3⟩
      refine ⟨⟨q, h1, h2.trans ⟨fun h => ⟨s.xs, e3, h⟩, fun ⟨c0, h4, h5⟩ => ?_⟩⟩, h3⟩
      rw [e3] at h4
      cases h4
      exact h5
    have HI := Lib.hid hI
    have hd2 : 1 ≤ 8 - 1 - 1 := by omega
    have HKk := Lib.hid hk
    rw [hst]
    clear hy hs hst hold hk hI
    gi_wp2_with fail
    refine ⟨trivial, ?_⟩
    refine (CallsIn.inRound l' (callsIn_wide.2 HF.out)).mono ?_
    rintro e V1 ⟨⟨q, rfl, hq⟩, HB1⟩
    have h1 := HI.out.1.below HB1.out
    have c5 : V1.cell? ⟨w.heap.size + 1, 0, none⟩ = some (.int .i64 pre.length) := (cell_of_row _ _ 0 _ _ _ h1.b1).trans rfl
    have c4 : V1.cell? ⟨w.heap.size, 0, none⟩ = some (.int .i64 0) := (cell_of_row _ _ 0 _ _ _ h1.b0).trans rfl
    have z4 := (Array.getElem?_eq_some_iff.1 h1.b0).1
    have z5 := (Array.getElem?_eq_some_iff.1 h1.b1).1
    have f4 := row_frozen h1.b0 0
    have f5 := row_frozen h1.b1 0
    have hpl : (pre.length : Int) ≤ 1000 := by omega
    have hKf : ∀ N v, N < w4.heap.size → KeepsFrom w4.heap.size V (V1.setCell ⟨N, 0, none⟩ v) := fun N v hN => ⟨by have := HB1.out.size; simpa [World.setCell] using this, fun k o hk ho _ => (Below.heap_setCell _ _ _ _ (by show k ≠ N; omega)).trans ((HB1.out.block k (Array.getElem?_eq_some_iff.1 ho).1).trans ho)⟩
    cases q with
    | false =>
      have HP : Hid (KeepsFrom w4.heap.size V (V1.setCell ⟨w.heap.size, 0, none⟩ (.int .i64 pre.length)) ∧ RwX cls st w4 w.heap.size (pre ++ [x]) (V1.setCell ⟨w.heap.size, 0, none⟩ (.int .i64 pre.length))) := by
        refine ⟨hKf _ _ (by omega), pre.length, _, h1.set0 _, .inr ⟨pre.length, rfl, by rw [HSl.out]; exact hkl, ?_, HI.out.2⟩⟩
        rw [← HKk.out]
        exact fun h => by have := hq.2 h; cases this
      clear h1 hKf hq HF HI
      gi_wp2
      exact HP.out
    | true =>
      have HP : Hid (KeepsFrom w4.heap.size V (V1.setCell ⟨w.heap.size + 1, 0, none⟩ (.int .i64 ((pre.length : Int) + 1))) ∧ KeepsC w4.heap.size (fun b => b = w.heap.size ∨ b = w.heap.size + 1) V (V1.setCell ⟨w.heap.size + 1, 0, none⟩ (.int .i64 ((pre.length : Int) + 1))) ∧ RwI cls st w4 w.heap.size (pre ++ [x]) (V1.setCell ⟨w.heap.size + 1, 0, none⟩ (.int .i64 ((pre.length : Int) + 1)))) := by
        refine ⟨hKf _ _ (by omega), ⟨by have := HB1.out.size; simpa [World.setCell] using this, fun b o hb ho _ => (Below.heap_setCell _ _ _ _ (fun e => hb (.inr e))).trans ((HB1.out.block b (Array.getElem?_eq_some_iff.1 ho).1).trans ho)⟩, ?_, fun i hi => ?_⟩
        · rw [List.length_append, List.length_singleton]
          exact h1.set1 _
        · rw [List.length_append, List.length_singleton] at hi
          by_cases e : i = pre.length
          · rw [e, ← HKk.out]; exact hq.1 rfl
          · exact HI.out.2 i (by omega)
      clear h1 hKf hq HF HI
      gi_wp2
      exact HP.out
  · rintro D ys W hD hS ⟨hI, hF⟩ hDf
    have hyl : ys.length = ss.length := by
      have := congrArg List.length hS
      rw [List.length_map, List.length_range] at this
      exact this
    have c4 : W.cell? ⟨w.heap.size, 0, none⟩ = some (.int .i64 0) := (cell_of_row _ _ 0 _ _ _ hI.b0).trans rfl
    have z4 := (Array.getElem?_eq_some_iff.1 hI.b0).1
    have f4 := row_frozen hI.b0 0
    have h9 := hI.set0 (-1)
    have hb9 : Below w.heap.size w (W.setCell ⟨w.heap.size, 0, none⟩ (.int .i64 (-1))) := ⟨h9.os.trans HB4.out.os, h9.tape.trans HB4.out.tape, h9.output.trans HB4.out.output, Nat.le_trans HB4.out.size h9.size, fun k hk => (h9.block k (by omega) (by omega) (by omega)).trans (HB4.out.block k hk)⟩
    have HM : Hid (Marks w4.heap.size [{ target := .collected D, args := #[] }] (W.setCell ⟨w.heap.size, 0, none⟩ (.int .i64 (-1)))) := by
      refine ⟨[D], rfl, by simp, fun E hE => ?_⟩
      obtain rfl : E = D := by simpa using hE
      exact ⟨hD, (Below.heap_setCell _ _ _ _ (by show E ≠ w.heap.size; omega)).trans hDf⟩
    have HQ := Lib.hid (And.intro h9.b0 hb9)
    have HRw : Hid (RowP cls st (-1)) := .inl ⟨rfl, fun j hj => hF j (by rw [hyl]; have := HSl.out; omega)⟩
    clear h9 hb9 hI hF hDf hS hyl
    gi_wp2
    refine Marks.leave (by simp) HM.out (fun w' hb hc => ?_)
    have p1 : w'.cell? ⟨w.heap.size, 0, none⟩ = some (.int .i64 (-1)) := (cell_of_row _ _ 0 _ _ _ (hc _ _ _ _ HQ.out.1)).trans rfl
    exact ⟨.int .i64 (-1), by simp [results, Tryd.results26, go_sem, p1], ⟨-1, rfl, HRw.out⟩, HQ.out.2.trans (hb.mono (by omega))⟩
  · rintro D pre x W hD hsp ⟨j, m, hI, hp⟩ hDf
    have hb9 : Below w.heap.size w W := ⟨hI.os.trans HB4.out.os, hI.tape.trans HB4.out.tape, hI.output.trans HB4.out.output, Nat.le_trans HB4.out.size hI.size, fun k hk => (hI.block k (by omega) (by omega) (by omega)).trans (HB4.out.block k hk)⟩
    have HM : Marks w4.heap.size [{ target := .collected D, args := #[] }] W := by
      refine ⟨[D], rfl, by simp, fun E hE => ?_⟩
      obtain rfl : E = D := by simpa using hE
      exact ⟨hD, hDf⟩
    refine Marks.leave (by simp) HM (fun w' hb hc => ?_)
    have p1 : w'.cell? ⟨w.heap.size, 0, none⟩ = some (.int .i64 j) := (cell_of_row _ _ 0 _ _ _ (hc _ _ _ _ hI.b0)).trans rfl
    exact ⟨.int .i64 j, by simp [results, Tryd.results26, go_sem, p1], ⟨j, rfl, hp⟩, hb9.trans (hb.mono (by omega))⟩
theorem Row_any (rs : List RowD) (a : Option Addr) (c : Nat) (ss : List RowD) (a' : Option Addr) (c' : Nat) (cls st : List (List Int)) (w : World) (hcl : rs.map (·.xs) = cls) (hst : ss.map (·.xs) = st) (hG : GC w) (hR : RowsR w rs a c) (hS : RowsR w ss a' c') (hl : rs.length + ss.length ≤ 1000) (hx : ∀ y ∈ rs ++ ss, y.xs.length ≤ 100) :
    Calls Tryd.prog 26 #[.slice a rs.length c, .slice a' ss.length c'] w fun e w' => (∃ n : Int, e = .returned (.int .i64 n) ∧ RowP cls st n) ∧ Below w.heap.size w w' := callsIn_wide.1 (Row_in rs a c ss a' c' cls st w hcl hst hG hR hS hl hx)
end Go.Proofs.YtggighikemhnfaaDoor.Tm
namespace Go.Proofs.YtggighikemhnfaaDoor.Tm
open Go.RowKit
set_option linter.unusedVariables false
def RefP (cls st : List (List Int)) : Prop := st.getLast? = some [] ∧ RowP cls st (-1)
set_option maxRecDepth 100000 in
theorem Refutes_any (rs : List RowD) (a : Option Addr) (c : Nat) (ss : List RowD) (a' : Option Addr) (c' : Nat) (cls st : List (List Int)) (w : World) (hcl : rs.map (·.xs) = cls) (hst : ss.map (·.xs) = st) (hG : GC w) (hR : RowsR w rs a c) (hS : RowsR w ss a' c') (hl : rs.length + ss.length ≤ 1000) (hx : ∀ y ∈ rs ++ ss, y.xs.length ≤ 100) :
    Calls Tryd.prog 28 #[.slice a rs.length c, .slice a' ss.length c'] w fun e w' => (∃ q : Bool, e = .returned (.bool q) ∧ (q = true ↔ RefP cls st)) ∧ Below w.heap.size w w' := by
  have HRw := Lib.hid (Row_any rs a c ss a' c' cls st w hcl hst hG hR hS hl hx)
  have HS := Lib.hid hS
  have HB0 : Hid (Below w.heap.size w w) := Below.refl _ _
  have l1 : ss.length ≤ c' := hS.le
  have c1 : ss.length ≤ 9223372036854775807 := by omega
  cases hlen : ss.length with
  | zero =>
    have HQ : Hid (¬ RefP cls st) := fun h => by
      have : st = [] := by rw [← hst, List.eq_nil_of_length_eq_zero hlen]; rfl
      rw [this] at h
      cases h.1
    rw [hlen] at HRw l1 c1
    clear hcl hst hG hR hS hx
    go_enter Tryd.func28, Tryd.ntmps28
    go_wp2
    go_ret
    exact ⟨⟨false, rfl, ⟨fun h => (by cases h), fun h => absurd h HQ.out⟩⟩, HB0.out⟩
  | succ m =>
    obtain ⟨s, hs⟩ : ∃ s, ss[m]? = some s := ⟨_, List.getElem?_eq_getElem (by omega)⟩
    obtain ⟨g, o, rfl, hg, q0⟩ := HS.out.cell hs
    have hla : st.getLast? = some s.xs := by
      rw [← hst, List.getLast?_eq_getElem?, List.length_map, hlen, List.getElem?_map, Nat.add_sub_cancel, hs]; rfl
    have hsl : s.xs.length ≤ s.c := (HS.out.ok s (List.mem_of_getElem? hs)).le
    have hsx : s.xs.length ≤ 100 := hx s (List.mem_append_right _ (List.mem_of_getElem? hs))
    rw [hlen] at HRw l1 c1
    have hm1 : (m : Int) + 1 - 1 = m := by omega
    by_cases h0 : s.xs.length = 0
    · have d0 : ((s.xs.length : Int) == 0) = true := eq_t (by omega)
      have hnil : s.xs = [] := List.eq_nil_of_length_eq_zero h0
      rw [hnil] at hla
      have HLa := Lib.hid hla
      clear hcl hst hG hR hS hx hs hla hnil h0
      go_enter Tryd.func28, Tryd.ntmps28
      go_wp2_with fail
      with_reducible refine HRw.out.mono ?_
      rintro e w1 ⟨⟨n, rfl, hn⟩, hb⟩
      have HN := Lib.hid hn
      have HB := Lib.hid hb
      clear hn hb
      by_cases hn1 : n = -1
      · have d1 : (n == -1) = true := eq_t hn1
        have HQ : Hid (RefP cls st) := ⟨HLa.out, by rw [← hn1]; exact HN.out⟩
        clear hn1
        go_wp2_with fail
        go_ret
        exact ⟨⟨true, rfl, ⟨fun _ => HQ.out, fun _ => rfl⟩⟩, HB.out⟩
      · have d1 : (n == -1) = false := eq_f hn1
        have HQ : Hid (¬ RefP cls st) := fun h => absurd (HN.out.same h.2) hn1
        clear hn1
        go_wp2_with fail
        go_ret
        exact ⟨⟨false, rfl, ⟨fun h => (by cases h), fun h => absurd h HQ.out⟩⟩, HB.out⟩
    · have d0 : ((s.xs.length : Int) == 0) = false := eq_f (by omega)
      have HQ : Hid (¬ RefP cls st) := fun h => by
        have h2 := h.1
        rw [hla] at h2
        have h3 := Option.some.inj h2
        exact h0 (by rw [h3]; rfl)
      clear hcl hst hG hR hS hx hs hla h0
      go_enter Tryd.func28, Tryd.ntmps28
      go_wp2
      go_ret
      exact ⟨⟨false, rfl, ⟨fun h => (by cases h), fun h => absurd h HQ.out⟩⟩, HB0.out⟩
def fourL : List (List Int) := [[2, 4], [2, 5], [3, 4], [3, 5]]
theorem fol1 : Fol fourL [2] := by
  refine ⟨[3, 4], ((1 : Nat) : Int), .inr ⟨by decide, ?_⟩, by decide⟩
  show RunsD _ [3] _ _
  refine .put (k := 0) (c := [2, 4]) (y := 4) (noF (by decide)) rfl (by decide) (noU 0 (by decide)) ?_
  exact .conf (k := 1) (c := [2, 5]) rfl (by decide) (fun j d hj hd => by
    obtain rfl : j = 0 := by omega
    cases hd
    decide)
theorem fol0 : ¬ Fol fourL [] := by
  have h : RunRel fourL [] [] (-1) := .inr ⟨by decide, .done (noF (by decide)) (fun j d hd => noU 4 (by decide) j d (List.getElem?_eq_some_iff.1 hd).1 hd)⟩
  rw [fol_of (c := []) h]
  exact fun h => h rfl
theorem fol2 : Fol (fourL ++ [[2]]) [] := by
  refine ⟨[2, 4], ((3 : Nat) : Int), .inr ⟨by decide, ?_⟩, by decide⟩
  show RunsD _ [] _ _
  refine .put (k := 4) (c := [2]) (y := 2) (noF (by decide)) rfl (by decide) (noU 4 (by decide)) ?_
  refine .put (k := 2) (c := [3, 4]) (y := 4) (noF (by decide)) rfl (by decide) (noU 2 (by decide)) ?_
  refine .conf (k := 3) (c := [3, 5]) rfl (by decide) (fun j d hj hd => ?_)
  match j, hj with
  | 0, _ => cases hd; decide
  | 1, _ => cases hd; decide
  | 2, _ => cases hd; decide
theorem fol3 : Fol (fourL ++ [[2]]) [4, 5] := ⟨[5], -2, .inl ⟨by decide, by decide, rfl⟩, by decide⟩
theorem fol4 : Fol (fourL ++ [[2], [4, 5]]) [6] := by
  refine ⟨[7, 2, 4], ((3 : Nat) : Int), .inr ⟨by decide, ?_⟩, by decide⟩
  show RunsD _ [7] _ _
  refine .put (k := 4) (c := [2]) (y := 2) (noF (by decide)) rfl (by decide) (noU 4 (by decide)) ?_
  refine .put (k := 2) (c := [3, 4]) (y := 4) (noF (by decide)) rfl (by decide) (noU 2 (by decide)) ?_
  refine .conf (k := 3) (c := [3, 5]) rfl (by decide) (fun j d hj hd => ?_)
  match j, hj with
  | 0, _ => cases hd; decide
  | 1, _ => cases hd; decide
  | 2, _ => cases hd; decide
theorem ref1 : RefP fourL [[2], []] := ⟨rfl, .inl ⟨rfl, fun j hj => by
  match j, hj with
  | 0, _ => exact ⟨[2], rfl, fol1⟩
  | 1, _ => exact ⟨[], rfl, fol2⟩⟩⟩
theorem ref2 : ¬ RefP fourL [[]] := fun h => by
  have k : RowP fourL [[]] ((0 : Nat) : Int) := .inr ⟨0, rfl, by decide, fun ⟨c, h1, h2⟩ => by cases h1; exact fol0 h2, fun i hi => absurd hi (by omega)⟩
  have := h.2.same k
  cases this
theorem row3 : RowP fourL [[2], [4, 5], [6]] (-1) := .inl ⟨rfl, fun j hj => by
  match j, hj with
  | 0, _ => exact ⟨[2], rfl, fol1⟩
  | 1, _ => exact ⟨[4, 5], rfl, fol3⟩
  | 2, _ => exact ⟨[6], rfl, fol4⟩⟩
end Go.Proofs.YtggighikemhnfaaDoor.Tm
