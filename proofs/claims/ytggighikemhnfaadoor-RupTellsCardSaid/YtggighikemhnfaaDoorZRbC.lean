/- slices.Concat over clauses; two rows of clauses. -/
import Derived.Test.YtggighikemhnfaaDoorZRaH
import Derived.Test.YtggighikemhnfaaDoorZRbB
import Derived.Test.YtggighikemhnfaaDoorShf
namespace Go.Proofs.YtggighikemhnfaaDoor.Tm
open Go.RowKit
set_option linter.unusedVariables false
structure RrD where
  rs : List RowD
  a : Option Addr
  c : Nat
def rrV (r : RrD) : Value := .slice r.a r.rs.length r.c
structure RrR (w : World) (L : List RrD) (a : Option Addr) (c : Nat) : Prop where
  le : L.length ≤ c
  cap : c ≤ maxLen
  tat : At w w.heap.size (L.map rrV) a
  ok : ∀ r ∈ L, RowsR w r.rs r.a r.c
theorem RrR.below {w w' : World} {L : List RrD} {a : Option Addr} {c : Nat} (h : RrR w L a c) (hb : Below w.heap.size w w') : RrR w' L a c :=
  ⟨h.le, h.cap, (h.tat.below hb).more hb.size, fun r hr => (h.ok r hr).below hb⟩
theorem RrR.cell {w : World} {L : List RrD} {a : Option Addr} {c k : Nat} {r : RrD} (h : RrR w L a c) (hk : L[k]? = some r) : ∃ g o : Nat, a = some ⟨g, o, none⟩ ∧ g < w.heap.size ∧ w.cell? ⟨g, o + k, none⟩ = some (.slice r.a r.rs.length r.c) := by
  have hlt := (List.getElem?_eq_some_iff.1 hk).1
  obtain ⟨g, o, e, hg, hc⟩ := h.tat (by simp; omega)
  exact ⟨g, o, e, hg, hc k _ (by rw [List.getElem?_map, hk]; rfl)⟩
theorem rr_two (w : World) (A B : RrD) (hA : RowsR w A.rs A.a A.c) (hB : RowsR w B.rs B.a B.c) : RrR (w.alloc (.cells #[.slice A.a A.rs.length A.c, .slice B.a B.rs.length B.c] 22)) [A, B] (some ⟨w.heap.size, 0, none⟩) 2 := by
  have hb := (Below.refl w.heap.size w).alloc (Nat.le_refl _) (.cells #[.slice A.a A.rs.length A.c, .slice B.a B.rs.length B.c] 22)
  refine ⟨Nat.le_refl _, by decide, fun _ => ⟨w.heap.size, 0, rfl, by simp, fun i v hv => ?_⟩, fun r hr => ?_⟩
  · rw [Nat.zero_add, cell_of_row _ _ i _ _ _ (heap_alloc_new w _)]
    match i with
    | 0 => exact hv
    | 1 => exact hv
    | i + 2 => simp at hv
  · rcases List.mem_cons.1 hr with rfl | hr
    · exact hA.below hb
    · rw [List.mem_singleton.1 hr]; exact hB.below hb
def flatR (L : List RrD) : List RowD := L.flatMap (·.rs)
theorem flatR_step {L : List RrD} {k : Nat} {r : RrD} (h : L[k]? = some r) : flatR (L.take (k + 1)) = flatR (L.take k) ++ r.rs := by
  unfold flatR
  rw [List.take_add_one, h, List.flatMap_append]
  simp
theorem flatR_take_le (L : List RrD) (k : Nat) : (flatR (L.take k)).length ≤ (flatR L).length := by
  have h : flatR L = flatR (L.take k) ++ flatR (L.drop k) := by
    unfold flatR
    rw [← List.flatMap_append, List.take_append_drop]
  rw [h, List.length_append]
  omega
theorem growR_any (n : Nat) (w : World) (hn : n ≤ 5000) :
    Calls Tryd.prog 69 #[.slice none 0 0, .int .i64 n] w fun e w' => ∃ v, e = .returned v ∧ RowsO w' w.heap.size [] v ∧ Below w.heap.size w w' := by
  obtain ⟨i0, hi_, hz0, hz1, hz2⟩ := info_parts info_sl
  by_cases h0 : n = 0
  · subst h0
    refine (Any8.slices_Grow_room Tryd.laysGrow none 0 0 0 w (by omega) (by omega) (by omega) (by omega)).mono ?_
    rintro e w' ⟨rfl, rfl⟩
    exact ⟨_, rfl, ⟨rfl, .inl ⟨rfl, rfl⟩⟩, Below.refl _ _⟩
  · refine (Any8.slices_Grow_grow Tryd.laysGrow i0 (.slice none 0 0) hi_ hz0 (by omega) none 0 0 n [] w (by omega) (by omega) (by rw [hz2]; omega) (by omega) (by simp) (fun _ => rfl) (fun a h => by cases h)).mono ?_
    rintro e w' ⟨rfl, rfl⟩
    have hc := grownCap_ge w (0 + n) 0 23
    have hm := grownCap_le_maxLen w (0 + n) 0 23 (by simp only [maxLen]; omega)
    refine ⟨_, rfl, ⟨rfl, .inr ⟨w.heap.size, _, _, rfl, Nat.le_refl _, heap_alloc_new w.drew _, Nat.zero_le _, hm, ?_, by simp⟩⟩, (Below.refl _ w).drew.alloc (Nat.le_refl _) _⟩
    show _ = grownCap w (0 + n) 0 23 * 1
    rw [show Tryd.laysGrow_ren.t 25 = 23 from rfl]
    generalize grownCap w (0 + n) 0 23 = C at hc hm ⊢
    simp only [Array.size_append, size_zeroCells, List.size_toArray, List.length_nil]
    simp [Value.cells]
    omega
set_option maxRecDepth 100000 in
theorem ConcatR_any (L : List RrD) (a : Option Addr) (c : Nat) (w : World) (hA : RrR w L a c) (hm : (flatR L).length ≤ 5000) :
    Calls Tryd.prog 54 #[.slice a L.length c] w fun e w' => ∃ v, e = .returned v ∧ RowsO w' w.heap.size (flatR L) v ∧ Below w.heap.size w w' := by
  have HA := Lib.hid hA
  have l1 : L.length ≤ c := hA.le
  have c1 : L.length ≤ 9223372036854775807 := by have := hA.cap; simp only [maxLen] at this; omega
  have HBr : Hid (Below w.heap.size w w) := Below.refl _ _
  have HM := Lib.hid hm
  have HGr : Hid (∀ V (n : Nat), Below w.heap.size w V → n ≤ 5000 → Calls Tryd.prog 69 #[.slice none 0 0, .int .i64 n] V fun e w' => ∃ v, e = .returned v ∧ Hid (RowsO w' w.heap.size [] v) ∧ Hid (Below w.heap.size w w')) := fun V n hV hn => (growR_any n V hn).mono fun e w' ⟨v, h1, h2, h3⟩ => ⟨v, h1, own_base h2 hV.size, ball hV h3⟩
  clear hA hm
  go_enter Tryd.func54, Tryd.ntmps54
  go_wp2
  go_loopw [3, 11] (fun p i wr => ∃ (k n : Nat), k ≤ L.length ∧ p = .int .i64 (n : Nat) ∧ i = .int .i64 k ∧ Hid ((flatR (L.take k)).length = n) ∧ Hid (wr = w)) (fun _ i _ => L.length - (intOf i).toNat)
  case atStart => exact ⟨0, 0, Nat.zero_le _, rfl, rfl, rfl, rfl⟩
  case round =>
    obtain ⟨k, n, hkl, rfl, rfl, HE, HW⟩ := hrel
    have hn : n ≤ 5000 := by have := flatR_take_le L k; have := HE.out; have := HM.out; omega
    by_cases hlt : k < L.length
    · obtain ⟨r, hr⟩ : ∃ r, L[k]? = some r := ⟨_, List.getElem?_eq_getElem hlt⟩
      obtain ⟨g, o, rfl, hg, q0⟩ := (HA.out.below (by rw [HW.out]; exact Below.refl _ _ : Below w.heap.size w wr)).cell hr
      obtain ⟨m, hm⟩ : ∃ m, r.rs.length = m := ⟨_, rfl⟩
      have HE2 : Hid ((flatR (L.take (k + 1))).length = n + m) := by show _ = _; rw [flatR_step hr, List.length_append, HE.out, hm]
      have hn2 : n + m ≤ 5000 := by have := flatR_take_le L (k + 1); have := HE2.out; have := HM.out; omega
      rw [hm] at q0
      have hnn : (n : Int) + (m : Int) ≤ 5000 := by omega
      have hn0 : (0 : Int) ≤ (n : Int) + (m : Int) := by omega
      clear hr hm HE
      go_wp2
      go_roundw
      case rel => exact ⟨k + 1, n + m, by omega, by go_num, by go_num, HE2, HW⟩
      case measure => simp [intOf]; omega
    · obtain rfl : k = L.length := by omega
      have HWb : Hid (Below w.heap.size w wr) := by show Below _ _ _; rw [HW.out]; exact Below.refl _ _
      clear HE
      go_wp2_with (first | (go_at_call 69; refine (HGr.out _ n HWb.out hn).mono ?_; rintro e w1 ⟨v1, rfl, HR1, HB1⟩))
      have HR0 : Hid (RowsO w1 w.heap.size (flatR (L.take 0)) v1) := HR1.out
      clear HR1
      go_loopw [6, 27] (fun p i wr => ∃ (k : Nat), k ≤ L.length ∧ i = .int .i64 k ∧ Hid (RowsO wr w.heap.size (flatR (L.take k)) p) ∧ Hid (Below w.heap.size w wr)) (fun _ i _ => L.length - (intOf i).toNat)
      case atStart => exact ⟨0, Nat.zero_le _, rfl, HR0, HB1⟩
      case round =>
        rename_i p i wr2
        clear HR0 HB1
        obtain ⟨k, hkl, rfl, HR, HW2⟩ := hrel
        by_cases hlt : k < L.length
        · obtain ⟨r, hr⟩ : ∃ r, L[k]? = some r := ⟨_, List.getElem?_eq_getElem hlt⟩
          have hAr := HA.out.below HW2.out
          obtain ⟨g, o, rfl, hg, q0⟩ := hAr.cell hr
          have hIr := hAr.ok r (List.mem_of_getElem? hr)
          obtain ⟨xs0, hxs0⟩ : ∃ x, flatR (L.take k) = x := ⟨_, rfl⟩
          have hrow := HR.out
          rw [hxs0] at hrow
          have HN : Hid (xs0 ++ r.rs = flatR (L.take (k + 1))) := by show _ = _; rw [flatR_step hr, hxs0]
          have hlen : (xs0.length + r.rs.length) * 24 ≤ 140737488355328 := by have h1 := flatR_take_le L (k + 1); have h2 := HM.out; rw [← HN.out, List.length_append] at h1; omega
          have hbs : w.heap.size ≤ _ := HW2.out.size
          clear hr hxs0 hAr HR
          go_wp2_with (first
            | (at_builtin; refine wpList_appR rfl _ _ rfl rfl w.heap.size _ xs0 r.rs r.a r.c (by rfl) (by rfl) hrow hIr hbs hlen ?_; intro v4 w4 hr4 hg4; have HB4 : Hid (Below w.heap.size w w4) := HW2.out.grown hg4 HW2.out.size (fun k e => (own_lt hrow e).1); rw [HN.out] at hr4; have HR4 := Lib.hid hr4; clear hr4 hg4))
          go_roundw
          case rel => exact ⟨k + 1, by omega, by go_num, HR4, HB4⟩
          case measure => simp [intOf]; omega
        · obtain rfl : k = L.length := by omega
          have HRx : Hid (RowsO _ w.heap.size (flatR L) _) := (by have h := HR.out; rw [List.take_length] at h; exact h)
          clear HR
          go_wp2
          go_ret
          exact ⟨_, rfl, HRx.out, HW2.out⟩
end Go.Proofs.YtggighikemhnfaaDoor.Tm
