/- AtomsLits: its walk. -/
import Derived.Test.YtaiabpbcipnjaaaDoorAtN
namespace Go.Proofs.YtaiabpbcipnjaaaDoor.Tm
open Go.RowKit
set_option linter.unusedVariables false
theorem grown_below {A B C : World} {S : Nat} (h : A.grownBy B (some S)) (k : Below B.heap.size B C) : A.grownBy C (some S) :=
  ⟨k.os.trans h.os, k.tape.trans h.tape, k.output.trans h.output, Nat.le_trans h.size k.size, fun i hi hn => (k.block i (Nat.lt_of_lt_of_le hi h.size)).trans (h.block i hi hn)⟩
theorem grown_refl (A : World) (S : Nat) : A.grownBy A (some S) := ⟨rfl, rfl, rfl, Nat.le_refl _, fun _ _ _ => rfl⟩
/-- The marks of the places in a row. -/
def onesL (N : Nat) (xs : List Int) : List Int := xs.foldl (fun b x => b.set x.toNat 1) (List.replicate N 0)
theorem ones_len (xs : List Int) : ∀ (b : List Int), (xs.foldl (fun b x => b.set x.toNat 1) b).length = b.length := by
  induction xs with
  | nil => intro b; rfl
  | cons x r ih => intro b; rw [List.foldl_cons, ih]; simp
theorem ones_keep (xs : List Int) (i : Nat) : ∀ (b : List Int), b[i]? = some 1 → (xs.foldl (fun b x => b.set x.toNat 1) b)[i]? = some 1 := by
  induction xs with
  | nil => intro b h; exact h
  | cons x r ih =>
    intro b h
    rw [List.foldl_cons]
    refine ih _ ?_
    rw [List.getElem?_set]
    have := (List.getElem?_eq_some_iff.1 h).1
    split
    · rw [if_pos (by omega)]
    · exact h
theorem ones_mem (xs : List Int) (i : Nat) (h : (i : Int) ∈ xs) : ∀ (b : List Int), i < b.length → (xs.foldl (fun b x => b.set x.toNat 1) b)[i]? = some 1 := by
  induction xs with
  | nil => cases h
  | cons x r ih =>
    intro b hb
    rw [List.foldl_cons]
    rcases List.mem_cons.1 h with rfl | h
    · refine ones_keep r i _ ?_
      rw [List.getElem?_set, Int.toNat_natCast, if_pos rfl, if_pos hb]
    · exact ih h _ (by simpa using hb)
theorem onesL_snoc {N k : Nat} {xs : List Int} {x : Int} (h : xs[k]? = some x) : onesL N (xs.take (k + 1)) = (onesL N (xs.take k)).set x.toNat 1 := by
  rw [take_snoc h]
  simp [onesL, List.foldl_append]
theorem lit_yes {l : List NodeA} {i : Nat} {n : NodeA} (hn : l[i]? = some n) (hb : isB n = true) : atLit l (i : Int) = (ltN (i, false), 0) ∧ mayL l [ltN (i, false)] = true := by
  have hlt := (List.getElem?_eq_some_iff.1 hn).1
  unfold isB at hb
  rw [Bool.and_eq_true, Bool.not_eq_true', decide_eq_true_eq, decide_eq_false_iff_not] at hb
  have hh : hasB l (i : Int) = true := decide_eq_true ⟨by omega, by omega⟩
  have hl := litF_end hn hb.2 false
  refine ⟨?_, ?_⟩
  · unfold atLit
    rw [if_pos hh, Int.toNat_natCast, hl, nodA_at hn]
    exact if_pos ⟨hb.1, hb.1⟩
  · unfold mayL
    rw [List.any_cons, List.any_nil, Bool.or_false]
    unfold noneB
    rw [ltN_half, show (((i, false) : Nat × Bool).1 : Int) = (i : Int) from rfl, hh, nodA_at hn]
    unfold isB
    rw [decide_eq_true hb.1, decide_eq_false hb.2]; rfl
theorem eufL_sub (l : List NodeA) (xs : List Int) : (eufL l xs).Sublist xs := by
  unfold eufL
  split
  · exact List.filter_sublist
  · exact List.nil_sublist _
theorem sub_next {x : Int} {r xs : List Int} {t : Nat} {y : Int} (h : (x :: r).Sublist (xs.drop t)) (hy : xs[t]? = some y) : (y = x → r.Sublist (xs.drop (t + 1))) ∧ (y ≠ x → (x :: r).Sublist (xs.drop (t + 1))) := by
  have hlt := (List.getElem?_eq_some_iff.1 hy).1
  have e : xs.drop t = y :: xs.drop (t + 1) := by
    rw [List.drop_eq_getElem_cons hlt]
    congr 1
    exact (List.getElem?_eq_some_iff.1 hy).2
  rw [e] at h
  refine ⟨fun hxy => ?_, fun hxy => ?_⟩
  · cases h with
    | cons _ h => exact (List.sublist_cons_self _ _).trans h
    | cons_cons _ h => exact h
  · cases h with
    | cons _ h => exact h
    | cons_cons _ h => exact absurd rfl hxy
theorem sub_lt {x : Int} {r xs : List Int} {t : Nat} (h : (x :: r).Sublist (xs.drop t)) : t < xs.length := by
  have := h.length_le
  simp at this
  omega
theorem one_ints (w : World) (x : Int) (hx : I64 x) : IntsR (w.alloc (.cells #[.int .i64 x] 3)) [x] (some ⟨w.heap.size, 0, none⟩) 1 := by
  have h := heap_alloc_new w (.cells #[.int .i64 x] 3)
  refine ⟨Nat.le_refl _, by decide, fun _ => ⟨w.heap.size, 0, rfl, by simp, fun i v hv => ?_⟩, fun y hy => ?_⟩
  · rw [Nat.zero_add, cell_of_row _ _ _ _ _ _ h, ← Array.getElem?_toList]
    exact hv
  · obtain rfl : y = x := by simpa using hy
    exact hx
set_option maxRecDepth 100000 in
set_option maxHeartbeats 8000000 in
theorem AtomsLits_c (w : World) (l : List NodeA) (a : Option Addr) (c : Nat) (hA : TabR w l a c) (xs : List Int) (b1 : Option Addr) (d1 : Nat) (hX : IntsR w xs b1 d1) (hG : GK w) :
    Calls Tryd.prog 3 #[.agg #[.slice a l.length c], .slice b1 xs.length d1] w fun e w' => e = .returned (.bool true) ∧ Below w.heap.size w w' := by
  have hlm : l.length ≤ 9223372036854775807 := by have h1 := hA.le; have h2 := hA.cap; simp only [maxLen] at h2; omega
  have hx1 := hX.le
  have hx2 : xs.length ≤ 9223372036854775807 := by have h2 := hX.cap; simp only [maxLen] at h2; omega
  have hle := hA.le
  obtain ⟨W0, hW0⟩ : ∃ W0, W0 = w.alloc (.cells #[.slice a l.length c] 24) := ⟨_, rfl⟩
  obtain ⟨hB0, hXX⟩ := tab_box hW0
  have HWk : Hid (∀ V, Below w.heap.size w V → Calls Tryd.prog 7 #[] V fun e w' => e = .returned (.bool true) ∧ Below V.heap.size V w') := fun V hV => wakes_any V (hG.below hV)
  have HXX := Lib.hid hXX
  have HB0 := Lib.hid hB0
  obtain ⟨x0, xz⟩ := hXX _ (Below.refl _ _)
  cases hgr : decide (300 < l.length) with
  | true =>
    have HGr : Hid (Calls Tryd.prog 5 #[.agg #[.slice a l.length c]] W0 fun e w' => e = .returned (.bool true) ∧ Below W0.heap.size W0 w') := Great_any l a c true W0 hlm hgr
    clear hgr hA hB0 hX hG hXX
    go_enter Tryd.func3, Tryd.ntmps3
    go_wp2_with fail
    rw [← hW0]
    clear hW0
    refine HGr.out.mono ?_
    rintro e w1 ⟨rfl, hb1⟩
    have HB1 : Hid (Below w.heap.size w w1) := HB0.out.trans (hb1.mono HB0.out.size)
    clear hb1
    go_wp2_with fail
    refine (HWk.out _ HB1.out).mono ?_
    rintro e w2 ⟨rfl, hb2⟩
    go_wp2_with fail
    go_ret
    exact ⟨rfl, ball HB1.out hb2⟩
  | false =>
  have HGr : Hid (Calls Tryd.prog 5 #[.agg #[.slice a l.length c]] W0 fun e w' => e = .returned (.bool false) ∧ Below W0.heap.size W0 w') := Great_any l a c false W0 hlm hgr
  have hl3 : l.length ≤ 300 := by have := of_decide_eq_false hgr; omega
  by_cases hfew : 300 < xs.length
  · have d5 : decide (300 < (xs.length : Int)) = true := decide_eq_true (by omega)
    clear hgr hA hB0 hX hG hXX
    go_enter Tryd.func3, Tryd.ntmps3
    go_wp2_with fail
    rw [← hW0]
    clear hW0
    refine HGr.out.mono ?_
    rintro e w1 ⟨rfl, hb1⟩
    have HB1 : Hid (Below w.heap.size w w1) := HB0.out.trans (hb1.mono HB0.out.size)
    clear hb1
    go_wp2_with fail
    refine (HWk.out _ HB1.out).mono ?_
    rintro e w2 ⟨rfl, hb2⟩
    go_wp2_with fail
    go_ret
    exact ⟨rfl, ball HB1.out hb2⟩
  have d5 : decide (300 < (xs.length : Int)) = false := decide_eq_false (by omega)
  obtain ⟨v, hv⟩ : ∃ v, errB2 (mayT l) = v := ⟨_, rfl⟩
  have HCk : Hid (∀ V, Below w.heap.size w V → Calls Tryd.prog 6 #[.agg #[.slice a l.length c]] V fun e w' => e = .returned (.int .i64 v) ∧ Below V.heap.size V w') := fun V hV => RCheck_any l a c v V (hA.below hV) (by omega) hv
  cases hm : mayT l with
  | false =>
    obtain rfl : 2 = v := by rw [← hv, hm]; rfl
    clear hgr hA hB0 hX hG hXX hv hm
    go_enter Tryd.func3, Tryd.ntmps3
    go_wp2_with fail
    rw [← hW0]
    clear hW0
    refine HGr.out.mono ?_
    rintro e w1 ⟨rfl, hb1⟩
    have HB1 := Lib.hid hb1
    clear hb1 x0 xz
    obtain ⟨x0, xz⟩ := HXX.out _ HB1.out
    go_wp2_with fail
    refine (HCk.out _ (HB0.out.trans (HB1.out.mono HB0.out.size))).mono ?_
    rintro e w2 ⟨rfl, hb2⟩
    have HB2 : Hid (Below w.heap.size w w2) := HB0.out.trans ((HB1.out.trans (hb2.mono HB1.out.size)).mono HB0.out.size)
    clear hb2
    go_wp2_with fail
    refine (HWk.out _ HB2.out).mono ?_
    rintro e w3 ⟨rfl, hb3⟩
    go_wp2_with fail
    go_ret
    exact ⟨rfl, ball HB2.out hb3⟩
  | true =>
  obtain rfl : 0 = v := by rw [← hv, hm]; rfl
  have hok := (mayT_ok hm).2
  have HBo : Hid (∀ V, Below w.heap.size w V → Calls Tryd.prog 8 #[.agg #[.slice a l.length c]] V fun e w' => ∃ v, e = .returned v ∧ RowO w' V.heap.size (bL l l.length) v ∧ Below V.heap.size V w') := fun V hV => Bools_any l a c V (hG.below hV).t (hA.below hV) hm (by omega)
  have HLt : Hid (∀ V (i : Nat) (p : Int × Int), i < l.length → atLit l i = p → Below w.heap.size w V → Calls Tryd.prog 9 #[.agg #[.slice a l.length c], .int .i64 i] V fun e w' => e = .returned (.tuple #[.int .i64 p.1, .int .i64 p.2]) ∧ Below V.heap.size V w') := fun V i p hi hp hV => Lit_any l a c i p V (hG.below hV).t (hA.below hV) hm (by omega) ⟨by omega, by omega⟩ hp
  have HMy : Hid (∀ V x b, Below w.heap.size w V → mayL l [x] = true → IntsR V [x] b 1 → Calls Tryd.prog 11 #[.agg #[.slice a l.length c], .slice b 1 1] V fun e w' => e = .returned (.bool true) ∧ Below V.heap.size V w') := fun V x b hV hx hI => May_any l a c [x] b 1 true V (hG.below hV).t (hA.below hV) hm (by omega) hI (by simp) hx
  have HMk : Hid (∀ (V : World) (i : Nat), i < l.length → Calls Tryd.prog 10 #[.int .i64 i, .bool false] V fun e w' => e = .returned (.int .i64 (ltN (i, false))) ∧ V = w') := fun V i hi => Make_any i false V (by omega)
  have HE : Hid (∀ V, Below w.heap.size w V → Calls Tryd.prog 12 #[.agg #[.slice a l.length c], .slice b1 xs.length d1] V fun e w' => ∃ b' d', e = .returned (.slice b' (eufL l xs).length d') ∧ Hid (IntsR w' (eufL l xs) b' d') ∧ Hid (Below V.heap.size V w')) := fun V hV => (Euf_any l a c xs b1 d1 V (hG.below hV) (hA.below hV) hm (by omega) (hX.below hV) (by omega)).mono fun e w' ⟨v, h1, h2, h3⟩ => by
    obtain ⟨b', d', rfl, h4⟩ := h2.ints (fun z hz => hX.ok z (eufL_mem hz))
    exact ⟨b', d', h1, h4, h3⟩
  have HI : Hid (∀ V, Below w.heap.size w V → Calls Tryd.prog 13 #[.agg #[.slice a l.length c], .slice b1 xs.length d1] V fun e w' => ∃ b' d', e = .returned (.slice b' (idlL l xs).length d') ∧ Hid (Below V.heap.size V w')) := fun V hV => (Idl_any l a c xs b1 d1 V (hG.below hV) (hA.below hV) hm (by omega) (hX.below hV) (by omega)).mono fun e w' ⟨v, h1, h2, h3⟩ => by
    obtain ⟨b', d', rfl, h4⟩ := h2.ints (fun z hz => hX.ok z (idlL_mem hz))
    exact ⟨b', d', h1, h3⟩
  obtain ⟨E, hE⟩ : ∃ E, eufL l xs = E := ⟨_, rfl⟩
  obtain ⟨ni, hni⟩ : ∃ n, (idlL l xs).length = n := ⟨_, rfl⟩
  have hni3 : ni ≤ xs.length := by rw [← hni]; exact idlL_len l xs
  have hE3 : E.length ≤ xs.length := by rw [← hE]; exact eufL_len l xs
  have hEs : E.Sublist xs := by rw [← hE]; exact eufL_sub l xs
  rw [hE] at HE
  rw [hni] at HI
  have HEs := Lib.hid hEs
  obtain ⟨BL, hBL⟩ : ∃ BL, bL l l.length = BL := ⟨_, rfl⟩
  have HBl : Hid (∀ x ∈ BL, ∃ i : Nat, x = (i : Int) ∧ i < l.length) := fun x hx => by
    rw [← hBL] at hx
    obtain ⟨i, h1, h2, _⟩ := bL_mem.1 hx
    exact ⟨i, h1, h2⟩
  have HBm : Hid (∀ (i : Nat) (n : NodeA), l[i]? = some n → isB n = true → (i : Int) ∈ BL) := fun i n hn hb => by
    rw [← hBL]
    exact bL_mem.2 ⟨i, rfl, (List.getElem?_eq_some_iff.1 hn).1, by rw [nodA_at hn]; exact hb⟩
  have HBi : Hid (∀ x ∈ BL, I64 x) := by rw [← hBL]; exact bL_i64 (by omega)
  have hBl3 : BL.length ≤ 300 := by rw [← hBL]; exact Nat.le_trans (bL_len l _) hl3
  rw [hBL] at HBo
  have HLy : Hid (∀ (i : Nat) (n : NodeA), l[i]? = some n → isB n = true → atLit l (i : Int) = (ltN (i, false), 0) ∧ mayL l [ltN (i, false)] = true) := fun i n hn hb => lit_yes hn hb
  have hmk := make_int (l.length : Int) l.length rfl (by omega)
  have HA := Lib.hid hA
  have HX := Lib.hid hX
  clear hgr hA hB0 hX hG hXX hv hm hok hE hni hEs hBL
  go_enter Tryd.func3, Tryd.ntmps3
  go_wp2_with fail
  rw [← hW0]
  clear hW0
  refine HGr.out.mono ?_
  rintro e w1 ⟨rfl, hb1⟩
  have HB1 := Lib.hid hb1
  clear hb1 x0 xz
  obtain ⟨x0, xz⟩ := HXX.out _ HB1.out
  go_wp2_with fail
  refine (HCk.out _ (HB0.out.trans (HB1.out.mono HB0.out.size))).mono ?_
  rintro e w3 ⟨rfl, hb3⟩
  have HB3 : Hid (Below W0.heap.size W0 w3) := HB1.out.trans (hb3.mono HB1.out.size)
  have HBw : Hid (Below w.heap.size w w3) := HB0.out.trans (HB3.out.mono HB0.out.size)
  clear hb3 x0 xz
  obtain ⟨x0, xz⟩ := HXX.out _ HB3.out
  obtain ⟨w4, hw4⟩ : ∃ w4, w4 = w3.alloc (.cells (intRow (List.replicate l.length 0)) 3) := ⟨_, rfl⟩
  have hb34 : Below w3.heap.size w3 w4 := by rw [hw4]; exact (Below.refl _ _).alloc (Nat.le_refl _) _
  have HR4 : Hid (w4.heap[w3.heap.size]? = some (.cells (intRow (onesL l.length [])) 3 (0, 0))) := by show _ = _; rw [hw4]; exact heap_alloc_new _ _
  have HB4 : Hid (Below W0.heap.size W0 w4) := HB3.out.trans (hb34.mono HB3.out.size)
  have HB34 := Lib.hid hb34
  have x4 := (HXX.out _ HB4.out).1
  have x4z := (HXX.out _ HB4.out).2
  rw [hw4] at x4 x4z
  clear hb34
  go_wp2_with fail
  rw [← hw4]
  clear hw4 x0 xz x4 x4z hmk
  refine (HBo.out _ (HB0.out.trans (HB4.out.mono HB0.out.size))).mono ?_
  rintro e w5 ⟨v5, rfl, hr5, hb5⟩
  have hz4 : w3.heap.size < w4.heap.size := (Array.getElem?_eq_some_iff.1 HR4.out).1
  obtain ⟨a5, c5, rfl, hl5, hc5, hat5, hg5⟩ := own_at hr5
  have HR5 : Hid (w5.heap[w3.heap.size]? = some (.cells (intRow (onesL l.length [])) 3 (0, 0))) := (hb5.block _ hz4).trans HR4.out
  have HD5 : Hid (Below w3.heap.size w3 w5) := HB34.out.trans (hb5.mono HB34.out.size)
  have h35 : w3.heap.size < w5.heap.size := by have := hb5.size; omega
  have HBc : Hid (∀ (V : World) (k : Nat) (x : Int), w5.grownBy V (some w3.heap.size) → BL[k]? = some x → ∃ g : Nat, a5 = some ⟨g, 0, none⟩ ∧ g < V.heap.size ∧ V.cell? ⟨g, k, none⟩ = some (.int .i64 x)) := fun V k x hV hk => by
    obtain ⟨g, e, h1, h2⟩ := hg5 (by have := (List.getElem?_eq_some_iff.1 hk).1; omega)
    obtain ⟨g', o', e', h3, h4⟩ := hat5 (by have := (List.getElem?_eq_some_iff.1 hk).1; simp; omega)
    rw [e] at e'
    cases e'
    refine ⟨g, e, Nat.lt_of_lt_of_le h2 hV.size, ?_⟩
    have h5 := h4 k (.int .i64 x) (by rw [List.getElem?_map, hk]; rfl)
    rw [Nat.zero_add] at h5
    exact (World.cell?_of_block (a := ⟨g, k, none⟩) (hV.block g h2 (fun e => by have := Option.some.inj e; omega))).trans h5
  have HXg : Hid (∀ V, w5.grownBy V (some w3.heap.size) → Below w3.heap.size w3 V ∧ Below W0.heap.size W0 V ∧ Below w.heap.size w V ∧ V.cell? ⟨w.heap.size, 0, none⟩ = some (.slice a l.length c) ∧ w.heap.size < V.heap.size ∧ w3.heap.size < V.heap.size) := fun V hV => by
    have h1 : Below w3.heap.size w3 V := HD5.out.grown hV HD5.out.size (fun k e => by cases e; exact Nat.le_refl _)
    have h2 : Below W0.heap.size W0 V := HB3.out.trans (h1.mono HB3.out.size)
    obtain ⟨h3, h4⟩ := HXX.out V h2
    exact ⟨h1, h2, HB0.out.trans (h2.mono HB0.out.size), h3, h4, by have := hV.size; omega⟩
  clear hb5 hr5 hat5 hg5
  go_wp2_with fail
  go_loopw [35] (fun i wr => ∃ k : Nat, k ≤ BL.length ∧ i = .int .i64 k ∧ Hid (w5.grownBy wr (some w3.heap.size)) ∧ Hid (wr.heap[w3.heap.size]? = some (.cells (intRow (onesL l.length (BL.take k))) 3 (0, 0)))) (fun i _ => BL.length - (intOf i).toNat)
  case atStart => exact ⟨0, Nat.zero_le _, rfl, grown_refl _ _, by show _ = _; rw [List.take_zero]; exact HR5.out⟩
  case round =>
    obtain ⟨k, hk, rfl, HGw, HR⟩ := hrel
    obtain ⟨_, _, _, x0, xz, sz⟩ := HXg.out wr HGw.out
    by_cases hlt : k < BL.length
    · obtain ⟨x, hx⟩ : ∃ x, BL[k]? = some x := ⟨_, List.getElem?_eq_getElem hlt⟩
      obtain ⟨i, rfl, hi⟩ := HBl.out x (List.mem_of_getElem? hx)
      obtain ⟨g, rfl, gz, q0⟩ := HBc.out wr k _ HGw.out hx
      have hii : (i : Int) < (l.length : Int) := by omega
      have hi0 : (0 : Int) ≤ (i : Int) := by omega
      have hki : (k : Int) < (BL.length : Int) := by omega
      obtain ⟨b, hb⟩ : ∃ b, (onesL l.length (BL.take k))[i]? = some b := ⟨_, List.getElem?_eq_getElem (by unfold onesL; rw [ones_len]; simpa using hi)⟩
      have sq := int_cell HR.out hb
      have sf := row_frozen HR.out
      have HR2 : Hid ((wr.setCell ⟨w3.heap.size, i, none⟩ (.int .i64 1)).heap[w3.heap.size]? = some (.cells (intRow (onesL l.length (BL.take (k + 1)))) 3 (0, 0))) := by
        show _ = _
        rw [onesL_snoc hx, Int.toNat_natCast]
        exact int_set HR.out i 1
      have HG2 : Hid (w5.grownBy (wr.setCell ⟨w3.heap.size, i, none⟩ (.int .i64 1)) (some w3.heap.size)) := grown_set HGw.out
      clear hx hb
      go_wp2_with fail
      go_roundw
      case rel => exact ⟨k + 1, by omega, by go_num, HG2, HR2⟩
      case measure => simp [intOf]; omega
    · obtain rfl : k = BL.length := by omega
      have HR6 : Hid (wr.heap[w3.heap.size]? = some (.cells (intRow (onesL l.length BL)) 3 (0, 0))) := by have := HR; rw [List.take_length] at this; exact this
      obtain ⟨w6, hw6⟩ : ∃ w6, w6 = wr := ⟨_, rfl⟩
      subst hw6
      have HG6 := HGw
      clear HR HGw
      go_wp2_with fail
      go_loopw [54] (fun i wr => ∃ k : Nat, k ≤ l.length ∧ i = .int .i64 k ∧ Hid (w5.grownBy wr (some w3.heap.size)) ∧ Hid (wr.heap[w3.heap.size]? = some (.cells (intRow (onesL l.length BL)) 3 (0, 0)))) (fun i _ => l.length - (intOf i).toNat)
      case atStart => exact ⟨0, Nat.zero_le _, rfl, HG6, HR6⟩
      case round =>
        clear x0 xz sz HR6 HG6
        obtain ⟨k, hk, rfl, HGw, HR⟩ := hrel
        obtain ⟨hb3, hb0, hbw, x0, xz, sz⟩ := HXg.out wr HGw.out
        by_cases hlt : k < l.length
        · obtain ⟨n, hn⟩ : ∃ n, l[k]? = some n := ⟨_, List.getElem?_eq_getElem hlt⟩
          obtain ⟨g, o, rfl, hg, q0, q1, q2, q3, q4, q5, q6, q7⟩ := (HA.out.below hbw).node hn
          have hki : (k : Int) < (l.length : Int) := by omega
          have hk0 : (0 : Int) ≤ (k : Int) := by omega
          obtain ⟨p, hp⟩ : ∃ p, atLit l k = p := ⟨_, rfl⟩
          have hwn : Below wr.heap.size wr (wr.alloc (.cells #[.int .i8 n.op, .int .i8 n.len, .int .i64 n.a0, .int .i64 n.a1, .int .i64 n.a2, .int .i64 n.sort, .int .i64 n.fn, .int .i64 n.num] 34)) := (Below.refl _ _).alloc (Nat.le_refl _) _
          have xn : (wr.alloc (.cells #[.int .i8 n.op, .int .i8 n.len, .int .i64 n.a0, .int .i64 n.a1, .int .i64 n.a2, .int .i64 n.sort, .int .i64 n.fn, .int .i64 n.num] 34)).cell? ⟨w.heap.size, 0, none⟩ = some (.slice (some ⟨g, o, none⟩) l.length c) := (hwn.cell (p := ⟨w.heap.size, 0, none⟩) xz).trans x0
          have HLc := Lib.hid (HLt.out _ k p hlt hp (ball hbw hwn))
          have HN := Lib.hid hn
          have HP := Lib.hid hp
          have hnb : (wr.alloc (.cells #[.int .i8 n.op, .int .i8 n.len, .int .i64 n.a0, .int .i64 n.a1, .int .i64 n.a2, .int .i64 n.sort, .int .i64 n.fn, .int .i64 n.num] 34)).heap[wr.heap.size]? = some (.cells #[.int .i8 n.op, .int .i8 n.len, .int .i64 n.a0, .int .i64 n.a1, .int .i64 n.a2, .int .i64 n.sort, .int .i64 n.fn, .int .i64 n.num] 34 (0, 0)) := heap_alloc_new _ _
          have HNB := Lib.hid hnb
          have HWn := Lib.hid hwn
          clear hn hp hwn hnb hb3 hb0 hbw
          go_wp2_with fail
          refine HLc.out.mono ?_
          rintro e w7 ⟨rfl, hb7⟩
          have hb67 : Below wr.heap.size wr w7 := ball HWn.out hb7
          have HG7 : Hid (w5.grownBy w7 (some w3.heap.size)) := grown_below HGw.out hb67
          have HR7 : Hid (w7.heap[w3.heap.size]? = some (.cells (intRow (onesL l.length BL)) 3 (0, 0))) := (hb67.block _ sz).trans HR.out
          obtain ⟨n0, n1, n2, n3, n4, n5, n6, n7, nz⟩ := node_box2 ((hb7.block _ (by simp)).trans HNB.out)
          clear hb7 hb67 q0 q1 q2 q3 q4 q5 q6 q7 x0 xz xn HLc hg
          obtain ⟨hb3, hb0, hbw, x0, xz, sz7⟩ := HXg.out w7 HG7.out
          cases hb : isB n with
          | false =>
            have hsn : ¬ n.sort = 0 ∨ n.op = 1 := by
              unfold isB at hb
              rw [Bool.and_eq_false_iff, decide_eq_false_iff_not, Bool.not_eq_false', decide_eq_true_eq] at hb
              exact hb
            clear hb hb3 hb0 hbw
            by_cases h0 : n.sort = 0
            · have e0 := eq_t h0
              have e1 := ne_f (hsn.resolve_left (fun h => h h0))
              clear hsn h0
              go_wp2_with fail
              go_roundw
              case rel => exact ⟨k + 1, by omega, by go_num, HG7, HR7⟩
              case measure => simp [intOf]; omega
            · have e0 := eq_f h0
              clear hsn h0
              go_wp2_with fail
              go_roundw
              case rel => exact ⟨k + 1, by omega, by go_num, HG7, HR7⟩
              case measure => simp [intOf]; omega
          | true =>
            obtain ⟨hl1, hl2⟩ := HLy.out k n HN.out hb
            rw [HP.out] at hl1
            subst hl1
            have hin := ones_mem BL k (HBm.out k n HN.out hb) (List.replicate l.length 0) (by simpa using hlt)
            have sq : w7.cell? ⟨w3.heap.size, k, none⟩ = some (.int .i64 1) := int_cell HR7.out hin
            have hs2 : n.sort = 0 ∧ ¬ n.op = 1 := by
              unfold isB at hb
              rw [Bool.and_eq_true, Bool.not_eq_true', decide_eq_true_eq, decide_eq_false_iff_not] at hb
              exact hb
            have e0 := eq_t hs2.1
            have e1 := ne_t hs2.2
            obtain ⟨z, hz⟩ : ∃ z, ltN (k, false) = z := ⟨_, rfl⟩
            have hz64 : I64 z := by rw [← hz]; simp only [ltN]; exact ⟨by omega, by omega⟩
            rw [hz] at hl2
            have e2 : (z != z) = false := ne_f rfl
            have HMk1 : Hid (Calls Tryd.prog 10 #[.int .i64 k, .bool false] w7 fun e w' => e = .returned (.int .i64 z) ∧ w7 = w') := by rw [← hz]; exact HMk.out w7 k hlt
            have hw8 : Below w7.heap.size w7 (w7.alloc (.cells #[.int .i64 z] 3)) := (Below.refl _ _).alloc (Nat.le_refl _) _
            have HM8 := Lib.hid (HMy.out (w7.alloc (.cells #[.int .i64 z] 3)) z _ (ball hbw hw8) hl2 (one_ints w7 z hz64))
            have HW8 := Lib.hid hw8
            simp only [hz]
            clear hb hb3 hb0 hbw hl2 hin hs2 hz hz64 hw8
            go_wp2_with (first
              | (go_at_call 10; refine HMk1.out.mono ?_; rintro e w8 ⟨rfl, rfl⟩)
              | (go_at_call 11; refine HM8.out.mono ?_; rintro e w9 ⟨rfl, hb9⟩; have HB9 := Lib.hid hb9; clear hb9))
            have hb79 : Below w7.heap.size w7 w9 := ball HW8.out HB9.out
            have HG9 : Hid (w5.grownBy w9 (some w3.heap.size)) := grown_below HG7.out hb79
            have HR9 : Hid (w9.heap[w3.heap.size]? = some (.cells (intRow (onesL l.length BL)) 3 (0, 0))) := (hb79.block _ sz7).trans HR7.out
            clear hb79
            go_roundw
            case rel => exact ⟨k + 1, by omega, by go_num, HG9, HR9⟩
            case measure => simp [intOf]; omega
        · obtain rfl : k = l.length := by omega
          obtain ⟨w7, hw7⟩ : ∃ w7, w7 = wr := ⟨_, rfl⟩
          subst hw7
          have HE7 := Lib.hid (HE.out _ hbw)
          have HB7 := Lib.hid hb0
          clear HGw HR hb3 hb0 hbw
          go_wp2_with fail
          refine HE7.out.mono ?_
          rintro e w8 ⟨a8, c8, rfl, HI8, HB78⟩
          have HB8 : Hid (Below W0.heap.size W0 w8) := HB7.out.trans (HB78.out.mono HB7.out.size)
          have HX8 : Hid (IntsR w8 xs b1 d1) := HX.out.below (HB0.out.trans (HB8.out.mono HB0.out.size))
          clear x0 xz sz HE7
          obtain ⟨x0, xz⟩ := HXX.out _ HB8.out
          go_wp2_with fail
          go_loopw [12, 102] (fun t i wr => ∃ (u k : Nat), k ≤ E.length ∧ u ≤ xs.length ∧ t = .int .i64 u ∧ i = .int .i64 k ∧ Hid (Below w8.heap.size w8 wr) ∧ Hid ((E.drop k).Sublist (xs.drop u))) (fun _ i _ => E.length - (intOf i).toNat)
          case atStart => exact ⟨0, 0, Nat.zero_le _, Nat.zero_le _, rfl, rfl, Below.refl _ _, by show List.Sublist _ _; rw [List.drop_zero, List.drop_zero]; exact HEs.out⟩
          case round =>
            clear x0 xz
            obtain ⟨u, k, hk, hu, rfl, rfl, HV, HS⟩ := hrel
            by_cases hlt : k < E.length
            · obtain ⟨x, hx⟩ : ∃ x, E[k]? = some x := ⟨_, List.getElem?_eq_getElem hlt⟩
              obtain ⟨g, o, rfl, hg, q0⟩ := (HI8.out.below HV.out).cell hx
              have hki : (k : Int) < (E.length : Int) := by omega
              have HS0 : Hid ((x :: E.drop (k + 1)).Sublist (xs.drop u)) := by
                have h := HS.out
                rw [List.drop_eq_getElem_cons hlt, (List.getElem?_eq_some_iff.1 hx).2] at h
                exact h
              obtain ⟨V, hV⟩ : ∃ V, V = wr := ⟨_, rfl⟩
              subst hV
              have HVV := HV
              clear hx HS HV
              go_wp2_with fail
              go_loopw [12] (fun t wr => ∃ (u : Nat), u ≤ xs.length ∧ t = .int .i64 u ∧ Hid (Below w8.heap.size w8 wr) ∧ Hid ((x :: E.drop (k + 1)).Sublist (xs.drop u))) (fun t _ => xs.length - (intOf t).toNat)
              case atStart => exact ⟨u, hu, rfl, HVV, HS0⟩
              case round =>
                clear HS0 hu q0 hg HVV
                obtain ⟨u, hu, rfl, HV, HS⟩ := hrel
                have hult := sub_lt HS.out
                obtain ⟨y, hy⟩ : ∃ y, xs[u]? = some y := ⟨_, List.getElem?_eq_getElem hult⟩
                obtain ⟨g1, o1, rfl, hg1, r0⟩ := (HX8.out.below HV.out).cell hy
                have hui : (u : Int) < (xs.length : Int) := by omega
                have hu0 : (0 : Int) ≤ (u : Int) := by omega
                obtain ⟨hs1, hs2⟩ := sub_next HS.out hy
                by_cases hxy : y = x
                · have HS1 := Lib.hid (hs1 hxy)
                  have e0 := ne_f hxy
                  clear hs1 hs2 hy HS hxy
                  go_wp2_with fail
                  go_roundw
                  case rel => exact ⟨u + 1, k + 1, by omega, by omega, by go_num, by go_num, HV, HS1⟩
                  case measure => simp [intOf]; omega
                · have HS1 := Lib.hid (hs2 hxy)
                  have e0 := ne_t hxy
                  clear hs1 hs2 hy HS hxy
                  go_wp2_with fail
                  go_roundw
                  case rel => exact ⟨u + 1, by omega, by go_num, HV, HS1⟩
                  case measure => simp [intOf]; omega
            · obtain rfl : k = E.length := by omega
              have HB9 : Hid (Below W0.heap.size W0 wr) := HB8.out.trans (HV.out.mono HB8.out.size)
              clear HS HV
              go_wp2_with fail
              refine wp_region_held_drew (S := fun V => V.cell? ⟨w.heap.size, 0, none⟩ = some (.slice a l.length c) ∧ w.heap.size < V.heap.size) (by kernel_rfl) (HXX.out _ HB9.out.drew) (fun hHeld => ?_)
              refine wpAnyH_take (i := 0) (oi := { dst := some 127, op := Op.load 24 (Operand.tmp 2), type := 24, pos := "law.go:92", after := #[], guard := none }) (v := .agg #[.slice a l.length c]) rfl (by kernel_rfl) (by kernel_rfl) (by kernel_rfl) (fun _ _ _ h => h) (Or.inl ⟨by rfl, ?_⟩) (by assumption) ?_
              · (intro w hSw; (try dsimp only at hSw); go_simp)
              try simp only [Act.put, List.setIfInBounds_toArray, List.set_cons_zero, List.set_cons_succ]
              refine wpAnyH_take (i := 1) (oi := { dst := some 128, op := Op.move (Operand.tmp 1), type := 25, pos := "law.go:92", after := #[], guard := none }) (v := .slice b1 xs.length d1) rfl (by kernel_rfl) (by kernel_rfl) (by kernel_rfl) (fun _ _ _ h => h) (Or.inl ⟨by rfl, ?_⟩) (by assumption) ?_
              · (intro w hSw; (try dsimp only at hSw); go_simp)
              try simp only [Act.put, List.setIfInBounds_toArray, List.set_cons_zero, List.set_cons_succ]
              refine wpAnyH_take (i := 4) (oi := { dst := some 131, op := Op.load 24 (Operand.tmp 2), type := 24, pos := "law.go:92", after := #[], guard := none }) (v := .agg #[.slice a l.length c]) rfl (by kernel_rfl) (by kernel_rfl) (by kernel_rfl) (fun _ _ _ h => h) (Or.inl ⟨by rfl, ?_⟩) (by assumption) ?_
              · (intro w hSw; (try dsimp only at hSw); go_simp)
              try simp only [Act.put, List.setIfInBounds_toArray, List.set_cons_zero, List.set_cons_succ]
              refine wpAnyH_take (i := 5) (oi := { dst := some 132, op := Op.move (Operand.tmp 1), type := 25, pos := "law.go:92", after := #[], guard := none }) (v := .slice b1 xs.length d1) rfl (by kernel_rfl) (by kernel_rfl) (by kernel_rfl) (fun _ _ _ h => h) (Or.inl ⟨by rfl, ?_⟩) (by assumption) ?_
              · (intro w hSw; (try dsimp only at hSw); go_simp)
              try simp only [Act.put, List.setIfInBounds_toArray, List.set_cons_zero, List.set_cons_succ]
              refine wpAnyH_take (i := 9) (oi := { dst := some 136, op := Op.move (Operand.tmp 1), type := 25, pos := "law.go:92", after := #[], guard := none }) (v := .slice b1 xs.length d1) rfl (by kernel_rfl) (by kernel_rfl) (by kernel_rfl) (fun _ _ _ h => h) (Or.inl ⟨by rfl, ?_⟩) (by assumption) ?_
              · (intro w hSw; (try dsimp only at hSw); go_simp)
              try simp only [Act.put, List.setIfInBounds_toArray, List.set_cons_zero, List.set_cons_succ]
              refine wpAnyH_take (i := 10) (oi := { dst := some 137, op := Op.call { callee := Callee.builtin Builtin.len, args := #[Operand.tmp 136], argTypes := #[25] }, type := 3, pos := "law.go:92", after := #[{ on := 9, ground := Ground.data }], guard := none }) (v := .int .i64 xs.length) rfl (by kernel_rfl) (by kernel_rfl) (by kernel_rfl) (fun _ _ _ h => h) (Or.inl ⟨by rfl, ?_⟩) (by assumption) ?_
              · (intro w hSw; (try dsimp only at hSw); go_simp)
              try simp only [Act.put, List.setIfInBounds_toArray, List.set_cons_zero, List.set_cons_succ]
              refine wpAnyH_take (i := 11) (oi := { dst := some 138, op := Op.binOp BinOp.mul 3 (Operand.const (Value.int IntKind.i64 2)) (Operand.tmp 137) 3, type := 3, pos := "law.go:92", after := #[{ on := 10, ground := Ground.data }], guard := none }) (v := .int .i64 (2 * (xs.length : Int))) rfl (by kernel_rfl) (by kernel_rfl) (by kernel_rfl) (fun _ _ _ h => h) (Or.inl ⟨by rfl, ?_⟩) (by assumption) ?_
              · (intro w hSw; (try dsimp only at hSw); (go_simp; rw [IntKind.wrap_i64]; omega))
              try simp only [Act.put, List.setIfInBounds_toArray, List.set_cons_zero, List.set_cons_succ]
              refine wpAnyH_ready (rs := [2]) (by kernel_rfl) (by simp) ?_
              refine AllReadyH.cons (o := { dst := some 129, op := Op.call { callee := Callee.value (Operand.func 13), args := #[Operand.tmp 127, Operand.tmp 128], argTypes := #[24, 25] }, type := 25, pos := "law.go:92", after := #[{ on := 0, ground := Ground.data }, { on := 1, ground := Ground.data }], guard := none }) rfl (fun K hK => ?_) AllReadyH.nil
              go_simp
              go_at_call 13
              refine (HI.out wr.drew (HB0.out.trans (Below.mono HB9.out.drew HB0.out.size))).mono ?_
              rintro e u1 ⟨e1, f1, rfl, HBV1⟩
              have HU1 : Hid (Below W0.heap.size W0 u1) := Below.trans HB9.out.drew (HBV1.out.mono (Below.size HB9.out.drew))
              go_wp2_with fail
              refine hK.out _ _ ?_ (fun hHeld => ?_)
              · exact HXX.out _ HU1.out
              clear hK K
              try simp only [Act.put, List.setIfInBounds_toArray, List.set_cons_zero, List.set_cons_succ]
              refine wpAnyH_take (i := 3) (oi := { dst := some 130, op := Op.call { callee := Callee.builtin Builtin.len, args := #[Operand.tmp 129], argTypes := #[25] }, type := 3, pos := "law.go:92", after := #[{ on := 2, ground := Ground.data }], guard := none }) (v := .int .i64 ni) rfl (by kernel_rfl) (by kernel_rfl) (by kernel_rfl) (fun _ _ _ h => h) (Or.inl ⟨by rfl, ?_⟩) (by assumption) ?_
              · (intro w hSw; (try dsimp only at hSw); go_simp)
              try simp only [Act.put, List.setIfInBounds_toArray, List.set_cons_zero, List.set_cons_succ]
              refine wpAnyH_ready (rs := [6]) (by kernel_rfl) (by simp) ?_
              refine AllReadyH.cons (o := { dst := some 133, op := Op.call { callee := Callee.value (Operand.func 12), args := #[Operand.tmp 131, Operand.tmp 132], argTypes := #[24, 25] }, type := 25, pos := "law.go:92", after := #[{ on := 4, ground := Ground.data }, { on := 5, ground := Ground.data }, { on := 2, ground := Ground.chain }], guard := none }) rfl (fun K hK => ?_) AllReadyH.nil
              go_simp
              go_at_call 12
              refine (HE.out u1 (HB0.out.trans (HU1.out.mono HB0.out.size))).mono ?_
              rintro e u2 ⟨e2, f2, rfl, _, HBV2⟩
              have HU2 : Hid (Below W0.heap.size W0 u2) := HU1.out.trans (HBV2.out.mono HU1.out.size)
              go_wp2_with fail
              refine hK.out _ _ ?_ (fun hHeld => ?_)
              · exact HXX.out _ HU2.out
              clear hK K
              try simp only [Act.put, List.setIfInBounds_toArray, List.set_cons_zero, List.set_cons_succ]
              refine wpAnyH_take (i := 7) (oi := { dst := some 134, op := Op.call { callee := Callee.builtin Builtin.len, args := #[Operand.tmp 133], argTypes := #[25] }, type := 3, pos := "law.go:92", after := #[{ on := 6, ground := Ground.data }], guard := none }) (v := .int .i64 E.length) rfl (by kernel_rfl) (by kernel_rfl) (by kernel_rfl) (fun _ _ _ h => h) (Or.inl ⟨by rfl, ?_⟩) (by assumption) ?_
              · (intro w hSw; (try dsimp only at hSw); go_simp)
              try simp only [Act.put, List.setIfInBounds_toArray, List.set_cons_zero, List.set_cons_succ]
              refine wpAnyH_take (i := 8) (oi := { dst := some 135, op := Op.binOp BinOp.add 3 (Operand.tmp 130) (Operand.tmp 134) 3, type := 3, pos := "law.go:92", after := #[{ on := 3, ground := Ground.data }, { on := 7, ground := Ground.data }], guard := none }) (v := .int .i64 ((ni : Int) + (E.length : Int))) rfl (by kernel_rfl) (by kernel_rfl) (by kernel_rfl) (fun _ _ _ h => h) (Or.inl ⟨by rfl, ?_⟩) (by assumption) ?_
              · (intro w hSw; (try dsimp only at hSw); (go_simp; rw [IntKind.wrap_i64]; omega))
              try simp only [Act.put, List.setIfInBounds_toArray, List.set_cons_zero, List.set_cons_succ]
              refine wpAnyH_take (i := 12) (oi := { dst := some 139, op := Op.binOp BinOp.leq 3 (Operand.tmp 135) (Operand.tmp 138) 3, type := 4, pos := "law.go:92", after := #[{ on := 8, ground := Ground.data }, { on := 11, ground := Ground.data }], guard := none }) (v := .bool true) rfl (by kernel_rfl) (by kernel_rfl) (by kernel_rfl) (fun _ _ _ h => h) (Or.inl ⟨by rfl, ?_⟩) (by assumption) ?_
              · (intro w hSw; (try dsimp only at hSw); (go_simp; omega))
              try simp only [Act.put, List.setIfInBounds_toArray, List.set_cons_zero, List.set_cons_succ]
              refine wpAnyH_take (i := 13) (oi := { dst := some 140, op := Op.move (Operand.tmp 139), type := 4, pos := "law.go:92", after := #[{ on := 12, ground := Ground.data }, { on := 6, ground := Ground.chain }], guard := none }) (v := .bool true) rfl (by kernel_rfl) (by kernel_rfl) (by kernel_rfl) (fun _ _ _ h => h) (Or.inl ⟨by rfl, ?_⟩) (by assumption) ?_
              · (intro w hSw; (try dsimp only at hSw); go_simp)
              try simp only [Act.put, List.setIfInBounds_toArray, List.set_cons_zero, List.set_cons_succ]
              refine wpAnyH_ready (rs := [14]) (by kernel_rfl) (by simp) ?_
              refine AllReadyH.cons (o := { dst := some 141, op := Op.call { callee := Callee.value (Operand.func 7), args := #[], argTypes := #[] }, type := 4, pos := "law.go:92", after := #[{ on := 13, ground := Ground.chain }, { on := 13, ground := Ground.guard }], guard := some (13, true) }) rfl (fun K hK => ?_) AllReadyH.nil
              go_simp
              go_at_call 7
              refine (HWk.out u2 (HB0.out.trans (HU2.out.mono HB0.out.size))).mono ?_
              rintro e u3 ⟨rfl, hb3⟩
              have HU3 : Hid (Below W0.heap.size W0 u3) := HU2.out.trans (hb3.mono HU2.out.size)
              clear hb3
              go_wp2_with fail
              refine hK.out _ _ ?_ (fun hHeld => ?_)
              · exact HXX.out _ HU3.out
              clear hK K
              try simp only [Act.put, List.setIfInBounds_toArray, List.set_cons_zero, List.set_cons_succ]
              refine wpAnyH_take (i := 15) (oi := { dst := some 142, op := Op.pick (Operand.tmp 140) (Operand.tmp 141) (Operand.const (Value.bool false)), type := 4, pos := "law.go:92", after := #[{ on := 13, ground := Ground.data }, { on := 14, ground := Ground.data }], guard := none }) (v := .bool true) rfl (by kernel_rfl) (by kernel_rfl) (by kernel_rfl) (fun _ _ _ h => h) (Or.inl ⟨by rfl, ?_⟩) (by assumption) ?_
              · (intro w hSw; (try dsimp only at hSw); go_simp)
              try simp only [Act.put, List.setIfInBounds_toArray, List.set_cons_zero, List.set_cons_succ]
              refine wpAnyH_take (i := 16) (oi := { dst := some 4, op := Op.assign (Operand.tmp 142), type := 4, pos := "law.go:92", after := #[{ on := 15, ground := Ground.data }, { on := 14, ground := Ground.chain }, { on := 0, ground := Ground.phase }, { on := 1, ground := Ground.phase }, { on := 2, ground := Ground.phase }, { on := 3, ground := Ground.phase }, { on := 4, ground := Ground.phase }, { on := 5, ground := Ground.phase }, { on := 6, ground := Ground.phase }, { on := 7, ground := Ground.phase }, { on := 8, ground := Ground.phase }, { on := 9, ground := Ground.phase }, { on := 10, ground := Ground.phase }, { on := 11, ground := Ground.phase }, { on := 12, ground := Ground.phase }, { on := 13, ground := Ground.phase }, { on := 14, ground := Ground.phase }, { on := 15, ground := Ground.phase }], guard := none }) (v := .bool true) rfl (by kernel_rfl) (by kernel_rfl) (by kernel_rfl) (fun _ _ _ h => h) (Or.inl ⟨by rfl, ?_⟩) (by assumption) ?_
              · (intro w hSw; (try dsimp only at hSw); go_simp)
              try simp only [Act.put, List.setIfInBounds_toArray, List.set_cons_zero, List.set_cons_succ]
              refine wpAnyH_done (by kernel_rfl) ?_ _
              go_wp2_with fail
              go_ret
              exact ⟨rfl, HB0.out.trans (HU3.out.mono HB0.out.size)⟩
end Go.Proofs.YtaiabpbcipnjaaaDoor.Tm
