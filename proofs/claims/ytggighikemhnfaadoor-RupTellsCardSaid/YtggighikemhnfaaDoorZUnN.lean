/- container/heap's Push and Pop over the run's queue. -/
import Derived.Test.YtggighikemhnfaaDoorZUnL
namespace Go.Proofs.YtggighikemhnfaaDoor.Tm
open Go.RowKit
set_option linter.unusedVariables false
/-- The queue's row in memory is a heap of what q holds. -/
structure QuR (w : World) (base : Nat) (qv : Value) (q : List Nat) (L : List Int) : Prop where
  row : RowO w base L qv
  heap : HeapN L L.length
  perm : L.Perm (q.map Int.ofNat)
theorem qu_len {w : World} {base : Nat} {qv : Value} {q : List Nat} {L : List Int} (h : QuR w base qv q L) : L.length = q.length := by rw [h.perm.length_eq, List.length_map]
theorem own_move {w w' : World} {base size n : Nat} {E : TypeId} {v : Value} {L : List Value} (h : w.ownsRow base E size v n L) (hk : ∀ g, v.ownBlock = some g → w'.heap[g]? = w.heap[g]?) : w'.ownsRow base E size v n L := by
  refine ⟨h.1, ?_⟩
  rcases h.2 with h1 | ⟨g', cap, cur, rfl, h1, h2, h3⟩
  · exact .inl h1
  · exact .inr ⟨g', cap, cur, rfl, h1, (hk g' (by simp [Value.ownBlock])).trans h2, h3⟩
theorem qPop_any (base b g cap m : Nat) (pg : Nat → Option Nat) (rv lv : Value) (cf : Int) (L : List Int) (w : World) (hB : BoxR w b pg rv (.slice (some ⟨g, 0, none⟩) L.length cap) lv cf) (hR : RowO w base L (.slice (some ⟨g, 0, none⟩) L.length cap)) (hne : b ≠ g) (hm : m + 1 = L.length) :
    Calls Tryd.prog 96 #[.pointer (some ⟨b, 1026, none⟩)] w fun e w' => e = .returned (xI (atI L m)) ∧ BoxR w' b pg rv (.slice (some ⟨g, 0, none⟩) m cap) lv cf ∧ RowO w' base (L.take m) (.slice (some ⟨g, 0, none⟩) m cap) ∧ Kp (fun k => k ≠ b) w w' := by
  obtain ⟨_, a1, _, _, hlt, hfz⟩ := hB.cells
  have f1 := hfz 1026
  have c1 := row_cell hR (i := m) (by omega)
  obtain ⟨cur, h2, h1, h3, h4, h5, h6⟩ := row_own hR
  have l1 : L.length ≤ 9223372036854775807 := by simp only [maxLen] at h4; omega
  have l2 : cap ≤ 9223372036854775807 := by simp only [maxLen] at h4; omega
  have hE : BoxR (w.setCell ⟨b, 1026, none⟩ (.slice (some ⟨g, 0, none⟩) m cap)) b pg rv (.slice (some ⟨g, 0, none⟩) m cap) lv cf ∧ RowO (w.setCell ⟨b, 1026, none⟩ (.slice (some ⟨g, 0, none⟩) m cap)) base (L.take m) (.slice (some ⟨g, 0, none⟩) m cap) ∧ Kp (fun k => k ≠ b) w (w.setCell ⟨b, 1026, none⟩ (.slice (some ⟨g, 0, none⟩) m cap)) := by
    refine ⟨hB.setq _, ?_, (Kp.refl _ w).set (fun e => e rfl) _⟩
    have hl : (L.take m).length = m := by rw [List.length_take]; omega
    unfold RowO
    rw [hl]
    refine ⟨by rw [List.length_map, hl]; omega, .inr ⟨g, cap, cur, rfl, h1, (Below.heap_setCell _ _ _ _ (fun e => hne e.symm)).trans h2, by omega, h4, by omega, ?_⟩⟩
    rw [Nat.mul_one, List.map_take, ← h6, List.take_take, Nat.min_eq_left (by omega)]
  have HE := Lib.hid hE
  obtain ⟨x, hx⟩ : ∃ x, atI L m = x := ⟨_, rfl⟩
  rw [hx] at c1 ⊢
  have hgl := (Array.getElem?_eq_some_iff.1 h2).1
  have i1 : (m : Int) < (L.length : Int) := by omega
  have hlm : (L.length : Int) = (m : Int) + 1 := by omega
  have hcm : (m : Int) ≤ (cap : Int) := by omega
  obtain ⟨n, hn⟩ : ∃ n, L.length = n := ⟨_, rfl⟩
  rw [hn] at a1 h3 l1 hm i1
  obtain rfl : n = m + 1 := hm.symm
  clear hB hR hfz h2 h5 h6 hE hx hlm hn
  unfold xI
  go_enter Tryd.func96, Tryd.ntmps96
  go_wp2
  go_ret
  exact ⟨rfl, HE.out⟩
end Go.Proofs.YtggighikemhnfaaDoor.Tm
namespace Go.Proofs.YtggighikemhnfaaDoor.Tm
open Go.RowKit
set_option linter.unusedVariables false
theorem pop_plain {L L2 : List Int} {q : List Nat} {n : Nat} (hL : n + 1 = L.length) (hH : HeapN L L.length) (hq : L.Perm (q.map Int.ofNat)) (hp : L2.Perm (swapL L 0 n)) (h2 : HeapN L2 n) (hk : ∀ i, n ≤ i → atI L2 i = atI (swapL L 0 n) i) :
    ∃ t : Nat, atI L2 n = (t : Int) ∧ t ∈ q ∧ (∀ u ∈ q, t ≤ u) ∧ HeapN (L2.take n) (L2.take n).length ∧ (L2.take n).Perm ((q.erase t).map Int.ofNat) ∧ L2.length = n + 1 := by
  have hl2 : L2.length = n + 1 := by rw [hp.length_eq, swapL_len]; omega
  have e0 : atI L2 n = atI L 0 := by rw [hk n (Nat.le_refl _), atI_swap (by omega) (by omega), if_pos rfl]
  have hmem : atI L 0 ∈ L := List.mem_of_getElem? (atI_get (by omega))
  obtain ⟨t, ht, he⟩ := List.mem_map.1 (hq.subset hmem)
  have he' : (t : Int) = atI L 0 := he
  refine ⟨t, by rw [e0, he'], ht, fun u hu => ?_, h2.take (by omega), ?_, hl2⟩
  · have h1 : Int.ofNat u ∈ L := hq.symm.subset (List.mem_map.2 ⟨u, hu, rfl⟩)
    have h3 := hH.all _ h1
    rw [← he'] at h3
    exact Int.ofNat_le.1 h3
  · have hsp : L2 = L2.take n ++ [atI L2 n] := by
      have := List.take_append_drop n L2
      rw [drop_get (atI_get (by omega)), List.drop_of_length_le (by omega)] at this
      exact this.symm
    have h1 : (L2.take n ++ [atI L2 n]).Perm ((t :: q.erase t).map Int.ofNat) := by
      rw [← hsp]
      exact ((hp.trans (swapL_perm (by omega) (by omega))).trans hq).trans ((List.perm_cons_erase ht).map _)
    have h2 : (atI L2 n :: L2.take n).Perm ((t :: q.erase t).map Int.ofNat) := (List.perm_append_comm (l₁ := [atI L2 n])).trans h1
    rw [e0, ← he', List.map_cons] at h2
    exact h2.cons_inv
theorem up_box {w w' : World} {b g : Nat} {pg : Nat → Option Nat} {rv qv lv : Value} {cf : Int} (h : BoxR w b pg rv qv lv cf) (k : Kp (fun k => k ≠ g) w w') (hne : b ≠ g) : BoxR w' b pg rv qv lv cf := h.heap (k.keep b hne)
structure PopO (w w' : World) (base b : Nat) (pg : Nat → Option Nat) (rv lv : Value) (cf : Int) (g cap : Nat) (q : List Nat) (t : Nat) (L : List Int) : Prop where
  mem : t ∈ q
  min : ∀ u ∈ q, t ≤ u
  box : BoxR w' b pg rv (.slice (some ⟨g, 0, none⟩) L.length cap) lv cf
  qu : QuR w' base (.slice (some ⟨g, 0, none⟩) L.length cap) (q.erase t) L
  kp : Kp (fun k => k ≠ b ∧ k ≠ g) w w'
set_option maxHeartbeats 4000000 in
theorem hPop_any (base b g cap n : Nat) (pg : Nat → Option Nat) (rv lv : Value) (cf : Int) (q : List Nat) (L : List Int) (w : World) (hB : BoxR w b pg rv (.slice (some ⟨g, 0, none⟩) L.length cap) lv cf) (hQ : QuR w base (.slice (some ⟨g, 0, none⟩) L.length cap) q L) (hne : b ≠ g) (hn : n + 1 = L.length) (hl : L.length ≤ 1000000) :
    Calls Tryd.prog 60 #[qI b] w fun e w' => ∃ (t : Nat) (L' : List Int), e = .returned (xI (t : Int)) ∧ PopO w w' base b pg rv lv cf g cap q t L' := by
  obtain ⟨_, a1, _, _, hlt, hfz⟩ := hB.cells
  have hHQ : HQ w base b g cap L := ⟨a1, hQ.row, hne, hlt⟩
  have HLen : Hid (Calls Tryd.prog 59 #[.slice (some ⟨g, 0, none⟩) L.length cap] w fun e w' => e = .returned (.int .i64 L.length) ∧ w = w') := ILen_any _ _ _ w
  have hmLen := meth_Len a1
  have hmSwap := meth_Swap a1
  have hmPop : ∀ W, Sem.run Tryd.prog (method 223 84 (.pointer (some ⟨b, 1026, none⟩)) "Pop") W = .ok (96, .pointer (some ⟨b, 1026, none⟩)) W := fun W => meth_Pop W b
  have HS : Hid (Calls Tryd.prog 95 #[.slice (some ⟨g, 0, none⟩) L.length cap, .int .i64 0, .int .i64 n] w fun e w' => e = .returned (.tuple #[]) ∧ Hid (RowO w' base (swapL L 0 n) (.slice (some ⟨g, 0, none⟩) L.length cap) ∧ Kp (fun k => k ≠ g) w w')) := ISwap_any base g cap L 0 n w hQ.row (by omega) (by omega)
  have HD : Hid (∀ w1, RowO w1 base (swapL L 0 n) (.slice (some ⟨g, 0, none⟩) L.length cap) ∧ Kp (fun k => k ≠ g) w w1 → Calls Tryd.prog 74 #[.iface 84 (.pointer (some ⟨b, 1026, none⟩)), .int .i64 0, .int .i64 n] w1 fun e w' => ∃ r : Bool, e = .returned (.bool r) ∧ ∃ L', L'.Perm (swapL L 0 n) ∧ HeapN L' n ∧ (∀ i, n ≤ i → atI L' i = atI (swapL L 0 n) i) ∧ HQ w' base b g cap L' ∧ Kp (fun k => k ≠ g) w1 w') := fun w1 ⟨h1, h2⟩ =>
    down_any base b g cap (swapL L 0 n) n w1 (hHQ.kp h2 (swapL_len _ _ _) h1) (by rw [swapL_len]; omega) (by rw [swapL_len]; exact hl) (by rw [swapL_len]; omega) (hQ.heap.pop hn)
  have HP : Hid (∀ w1 w2 L2, Kp (fun k => k ≠ g) w w1 → L2.Perm (swapL L 0 n) → HeapN L2 n → (∀ i, n ≤ i → atI L2 i = atI (swapL L 0 n) i) → HQ w2 base b g cap L2 → Kp (fun k => k ≠ g) w1 w2 →
      Calls Tryd.prog 96 #[.pointer (some ⟨b, 1026, none⟩)] w2 fun e w' => ∃ (t : Nat) (L' : List Int), e = .returned (xI (t : Int)) ∧ PopO w w' base b pg rv lv cf g cap q t L') := fun w1 w2 L2 k1 p1 p2 p3 h2 k2 => by
    obtain ⟨t, t1, t2, t3, t4, t5, t6⟩ := pop_plain hn hQ.heap hQ.perm p1 p2 p3
    have k12 := k1.trans k2
    have hB2 := up_box hB k12 hne
    rw [show L.length = L2.length by omega] at hB2
    refine (qPop_any base b g cap n pg rv lv cf L2 w2 hB2 h2.row hne (by omega)).mono ?_
    rintro e w' ⟨rfl, b1, b2, b3⟩
    have hl : (L2.take n).length = n := by rw [List.length_take]; omega
    refine ⟨t, L2.take n, by rw [t1], t2, t3, by rw [hl]; exact b1, ⟨by rw [hl]; exact b2, t4, t5⟩, ⟨b3.os.trans k12.os, b3.tape.trans k12.tape, b3.output.trans k12.output, b3.size.trans k12.size, fun k hk => (b3.keep k hk.1).trans (k12.keep k hk.2)⟩⟩
  have hln : (L.length : Int) = (n : Int) + 1 := by omega
  clear hB hQ hHQ hfz
  rw [hln] at HLen
  have HLn := Lib.hid hln
  clear hln a1
  unfold qI
  go_enter Tryd.func60, Tryd.ntmps60
  go_wp2_with fail
  refine HLen.out.mono ?_
  rintro e w1 ⟨rfl, rfl⟩
  go_wp2_with fail
  refine HS.out.mono ?_
  rintro e w1 ⟨rfl, HW1⟩
  go_wp2_with fail
  refine (HD.out _ HW1.out).mono ?_
  rintro e w2 ⟨r, rfl, L2, p1, p2, p3, h2, k2⟩
  have HX := Lib.hid (And.intro p1 (And.intro p2 (And.intro p3 (And.intro h2 k2))))
  clear p1 p2 p3 h2 k2
  go_wp2_with fail
  refine (HP.out _ _ _ HW1.out.2 HX.out.1 HX.out.2.1 HX.out.2.2.1 HX.out.2.2.2.1 HX.out.2.2.2.2).mono ?_
  rintro e w3 ⟨t, L', rfl, HO⟩
  have HO1 := Lib.hid HO
  clear HO
  unfold xI
  go_wp2
  go_ret
  exact ⟨t, L', rfl, HO1.out⟩
structure HPushO (w w' : World) (base b : Nat) (pg : Nat → Option Nat) (rv qv lv : Value) (cf : Int) (g cap : Nat) (q : List Nat) (t : Nat) (L : List Int) : Prop where
  box : BoxR w' b pg rv (.slice (some ⟨g, 0, none⟩) L.length cap) lv cf
  qu : QuR w' base (.slice (some ⟨g, 0, none⟩) L.length cap) (t :: q) L
  gw : Gw (fun k => k ≠ b ∧ some k ≠ qv.ownBlock) w w'
  at_ : qv.ownBlock = some g ∨ w.heap.size ≤ g
set_option maxHeartbeats 4000000 in
theorem hPush_any (base b : Nat) (pg : Nat → Option Nat) (rv qv lv : Value) (cf : Int) (q : List Nat) (t : Nat) (L : List Int) (w : World) (hB : BoxR w b pg rv qv lv cf) (hQ : QuR w base qv q L) (hne : some b ≠ qv.ownBlock) (hb : base ≤ w.heap.size) (hl : L.length ≤ 900000) :
    Calls Tryd.prog 73 #[qI b, xI (t : Int)] w fun e w' => ∃ g cap L', e = .returned (.tuple #[]) ∧ HPushO w w' base b pg rv qv lv cf g cap q t L' := by
  have HP : Hid (Calls Tryd.prog 97 #[.pointer (some ⟨b, 1026, none⟩), .iface 3 (.int .i64 (t : Int))] w fun e w' => e = .returned (.tuple #[]) ∧ ∃ g cap, BoxR w' b pg rv (.slice (some ⟨g, 0, none⟩) (L.length + 1) cap) lv cf ∧ PushO w w' base b qv L t g cap) := qPush_any base b pg rv qv lv cf L t w hB hQ.row hne hb (by omega)
  have hmPush : ∀ W, Sem.run Tryd.prog (method 223 84 (.pointer (some ⟨b, 1026, none⟩)) "Push") W = .ok (97, .pointer (some ⟨b, 1026, none⟩)) W := fun W => meth_Push W b
  have hbl := hB.cells.2.2.2.2.1
  have HE : Hid (∀ w1 g cap, BoxR w1 b pg rv (.slice (some ⟨g, 0, none⟩) (L.length + 1) cap) lv cf → PushO w w1 base b qv L t g cap → b ≠ g ∧ HQ w1 base b g cap (L ++ [(t : Int)]) ∧
      Calls Tryd.prog 76 #[.iface 84 (.pointer (some ⟨b, 1026, none⟩)), .int .i64 L.length] w1 fun e w' => ∃ g cap L', e = .returned (.tuple #[]) ∧ HPushO w w' base b pg rv qv lv cf g cap q t L') := fun w1 g cap hB1 hO => by
    have hgb : b ≠ g := fun e => by
      rcases hO.at_ with h | h
      · exact hne (by rw [h, e])
      · omega
    have hll : (L ++ [(t : Int)]).length = L.length + 1 := by simp
    have hHQ : HQ w1 base b g cap (L ++ [(t : Int)]) := ⟨by rw [hll]; exact hB1.cells.2.1, by rw [hll]; exact hO.row, hgb, hB1.cells.2.2.2.2.1⟩
    refine ⟨hgb, hHQ, (up_any base b g cap (L ++ [(t : Int)]) L.length w1 hHQ (by omega) (by rw [hll]; exact hQ.heap.push)).mono ?_⟩
    rintro e w' ⟨rfl, L', l1, l2, l3, l4⟩
    have hl' : L'.length = L.length + 1 := by rw [l1.length_eq, hll]
    have hp : L'.Perm ((t :: q).map Int.ofNat) := l1.trans ((List.perm_append_comm (l₂ := [(t : Int)])).trans (by rw [List.map_cons]; exact List.Perm.cons _ hQ.perm))
    refine ⟨g, cap, L', rfl, by rw [hl']; exact up_box hB1 l4 hgb, ⟨l3.row, l2, hp⟩, hO.grow.kp l4 (fun i hi hp e => ?_), hO.at_⟩
    rcases hO.at_ with h | h
    · exact hp.2 (by rw [h, e])
    · omega
  clear hB hQ hne hb hbl
  unfold qI xI
  go_enter Tryd.func73, Tryd.ntmps73
  go_wp2_with fail
  refine HP.out.mono ?_
  rintro e w1 ⟨rfl, g, cap, hB1, hO1⟩
  obtain ⟨e1, e2, e3⟩ := HE.out w1 g cap hB1 hO1
  have hll : (L ++ [(t : Int)]).length = L.length + 1 := by simp
  have hp := e2.ptr
  rw [hll] at hp
  have hmLen := meth_Len hp
  have HL : Hid (Calls Tryd.prog 59 #[.slice (some ⟨g, 0, none⟩) (L.length + 1) cap] w1 fun e w' => e = .returned (.int .i64 ((L.length : Int) + 1)) ∧ w1 = w') := ILen_any _ _ _ w1
  have HU := Lib.hid e3
  clear hB1 hO1 e2 hll hp e3
  go_wp2_with fail
  refine HL.out.mono ?_
  rintro e w2 ⟨rfl, rfl⟩
  go_wp2_with fail
  refine HU.out.mono ?_
  rintro e w3 ⟨g', cap', L', rfl, HO⟩
  have HO1 := Lib.hid HO
  clear HO
  go_wp2
  go_end0
  exact ⟨g', cap', L', rfl, HO1.out⟩
end Go.Proofs.YtggighikemhnfaaDoor.Tm
