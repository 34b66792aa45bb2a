/- Rows put together: slices.Grow, slices.Concat. -/
import Derived.Test.YtbjplhbflbabjaaDoorClC
import Derived.Test.YtbjplhbflbabjaaDoorClD
namespace Go.Proofs.YtbjplhbflbabjaaDoor.Tm
open Go.RowKit Go.Sort Go.Lib Go.Shelf
set_option linter.unusedVariables false
theorem run_app (w : World) (base : Nat) (v : Value) (xs ys : List Int) (b : Option Addr) (d : Nat) (hown : RowO w base xs v) (hI : IntsR w ys b d) (hb : base ≤ w.heap.size) (hl : xs.length + ys.length ≤ 6000) :
    ∃ v' w', (Builtin.append_ #[22, 22] 22 #[v, .slice b ys.length d]).run Tryd.prog w = .ok v' w' ∧ RowO w' base (xs ++ ys) v' ∧ w.grownBy w' v.ownBlock := by
  obtain ⟨i0, hi_, hz0, hz1, hz2⟩ := info_parts info_int
  cases b with
  | none =>
    have h0 : ys = [] := by
      cases ys with
      | nil => rfl
      | cons y r =>
        obtain ⟨g, o, e, _⟩ := hI.tat (by simp)
        cases e
    subst h0
    refine ⟨v, w, ?_, by rw [List.append_nil]; exact hown, ⟨rfl, rfl, rfl, Nat.le_refl _, fun _ _ _ => rfl⟩⟩
    rcases hown.2 with ⟨rfl, h⟩ | ⟨g, cap, cur, rfl, _, _, hc, _, _, _⟩
    · simp [Builtin.append_, run_underlying Tryd.underlying22, sizeOf, typeInfo, hi_, Builtin.lenOf, Builtin.firstCells]
    · simp [Builtin.append_, run_underlying Tryd.underlying22, sizeOf, typeInfo, hi_, Builtin.lenOf, Builtin.firstCells, loadCells, hc, storeCells]
  | some ad =>
    have hnews : ∀ j u, (ys.map (Value.int .i64))[j]? = some u → w.cell? (ad.add j) = some u := fun j u hu => by
      have hlt := (List.getElem?_eq_some_iff.1 hu).1
      obtain ⟨g, o, e, _, hc⟩ := hI.tat (by omega)
      cases e
      have := hc j u hu
      rw [Addr.add_lit]; exact this
    obtain ⟨v', w', hr, h2, h3, _, _⟩ := run_append_own_at (P := Tryd.prog) w base 22 22 3 i0 _ 1 8 Tryd.underlying22 hi_ hz0 hz1 hz2 rfl (by decide) v xs.length (xs.map (Value.int .i64)) hown ad ys.length d (ys.map (Value.int .i64)) (by simp) hnews (by simp [Value.oneCell']) (by simp only [maxLen]; omega) (by omega) hb
    refine ⟨v', w', hr, ?_, h3⟩
    unfold RowO
    rw [List.length_append, List.map_append]
    exact h2
theorem wp_app {w : World} {o : Oper} {a : Act} {K : Act → World → Prop} {Q : Exit → Act → World → Prop} (s x : Operand) (ho : o.op = .call { callee := .builtin .append, args := #[s, x], argTypes := #[22, 22] }) (hty : o.type = 22)
    (base : Nat) (v : Value) (xs ys : List Int) (b : Option Addr) (d : Nat) (hs : a.eval s = v) (hx : a.eval x = .slice b ys.length d) (hown : RowO w base xs v) (hI : IntsR w ys b d) (hb : base ≤ w.heap.size) (hl : xs.length + ys.length ≤ 6000)
    (h : ∀ v' w', RowO w' base (xs ++ ys) v' → w.grownBy w' v.ownBlock → K (a.put o.dst v') w') : o.wp Tryd.prog a w K Q := by
  obtain ⟨v', w', hr, h2, h3⟩ := run_app w base v xs ys b d hown hI hb hl
  unfold Oper.wp execOp
  simp only [ho, hty, resolve, invoke, builtin, Sem.run_bind, Sem.run_pure, Result.andThen_ok, List.map_toArray, List.map_cons, List.map_nil, hs, hx, hr]
  exact h v' w' h2 h3
theorem wpList_app {w : World} {ops : Array Oper} {rest : List Oper} {o : Oper} {a : Act} {Q : Exit → Act → World → Prop} (hgd : o.guard = none) (s x : Operand) (ho : o.op = .call { callee := .builtin .append, args := #[s, x], argTypes := #[22, 22] }) (hty : o.type = 22)
    (base : Nat) (v : Value) (xs ys : List Int) (b : Option Addr) (d : Nat) (hs : a.eval s = v) (hx : a.eval x = .slice b ys.length d) (hown : RowO w base xs v) (hI : IntsR w ys b d) (hb : base ≤ w.heap.size) (hl : xs.length + ys.length ≤ 6000)
    (h : ∀ v' w', RowO w' base (xs ++ ys) v' → w.grownBy w' v.ownBlock → wpList Tryd.prog ops Q rest (a.put o.dst v') w') : wpList Tryd.prog ops Q (o :: rest) a w :=
  wpList_plain hgd fun _ hK => wp_app s x ho hty base v xs ys b d hs hx hown hI hb hl fun v' w' h2 h3 => hK _ _ (h v' w' h2 h3)
theorem wpList_appG {w : World} {ops : Array Oper} {rest : List Oper} {o : Oper} {a : Act} {Q : Exit → Act → World → Prop} (hw : Region.wanted o (yielded ops a.tmps) = true) (s x : Operand) (ho : o.op = .call { callee := .builtin .append, args := #[s, x], argTypes := #[22, 22] }) (hty : o.type = 22)
    (base : Nat) (v : Value) (xs ys : List Int) (b : Option Addr) (d : Nat) (hs : a.eval s = v) (hx : a.eval x = .slice b ys.length d) (hown : RowO w base xs v) (hI : IntsR w ys b d) (hb : base ≤ w.heap.size) (hl : xs.length + ys.length ≤ 6000)
    (h : ∀ v' w', RowO w' base (xs ++ ys) v' → w.grownBy w' v.ownBlock → wpList Tryd.prog ops Q rest (a.put o.dst v') w') : wpList Tryd.prog ops Q (o :: rest) a w :=
  wpList_step fun K hK => by
    rw [if_pos hw]
    exact wp_app s x ho hty base v xs ys b d hs hx hown hI hb hl fun v' w' h2 h3 => hK _ _ (h v' w' h2 h3)
theorem step_app {w : World} {ops : Array Oper} {o : Oper} {a : Act} {K : Act → World → Prop} {Q : Exit → Act → World → Prop} {E : Prop} (hgd : o.guard = none) (s x : Operand) (ho : o.op = .call { callee := .builtin .append, args := #[s, x], argTypes := #[22, 22] }) (hty : o.type = 22)
    (base : Nat) (v : Value) (xs ys : List Int) (b : Option Addr) (d : Nat) (hs : a.eval s = v) (hx : a.eval x = .slice b ys.length d) (hown : RowO w base xs v) (hI : IntsR w ys b d) (hb : base ≤ w.heap.size) (hl : xs.length + ys.length ≤ 6000)
    (h : ∀ v' w', RowO w' base (xs ++ ys) v' → w.grownBy w' v.ownBlock → K (a.put o.dst v') w') : if Region.wanted o (yielded ops a.tmps) = true then Oper.wp Tryd.prog o a w K Q else E := by
  have hw : Region.wanted o (yielded ops a.tmps) = true := by simp [Region.wanted, hgd]
  rw [if_pos hw]
  exact wp_app s x ho hty base v xs ys b d hs hx hown hI hb hl h
theorem row_zero (w : World) : RowO (w.alloc (.cells #[] 3)) w.heap.size [] (.slice (some ⟨w.heap.size, 0, none⟩) 0 0) := ⟨rfl, .inr ⟨w.heap.size, 0, #[], rfl, Nat.le_refl _, heap_alloc_new w _, Nat.le_refl _, by decide, rfl, rfl⟩⟩
/-- A row of one's own, from a base on, grew: what lies below the base is as it was. -/
theorem below_row {w V V2 : World} {base : Nat} {xs : List Int} {v : Value} (h : Below w.heap.size w V) (hown : RowO V base xs v) (hg : V.grownBy V2 v.ownBlock) (hb : w.heap.size ≤ base) : Below w.heap.size w V2 :=
  h.grown hg h.size (fun k e => Nat.le_trans hb (own_lt hown e).1)
theorem grow_any (n : Nat) (w : World) (hn : n ≤ 5000) :
    Calls Tryd.prog 43 #[.slice none 0 0, .int .i64 n] w fun e w' => ∃ v, e = .returned v ∧ RowO w' w.heap.size [] v ∧ Below w.heap.size w w' := by
  obtain ⟨i0, hi_, hz0, hz1, hz2⟩ := info_parts info_int
  by_cases h0 : n = 0
  · subst h0
    refine (Any8.slices_Grow_room Tryd.laysGrow none 0 0 0 w (by omega) (by omega) (by omega) (by omega)).mono ?_
    rintro e w' ⟨rfl, rfl⟩
    exact ⟨_, rfl, ⟨rfl, .inl ⟨rfl, rfl⟩⟩, Below.refl _ _⟩
  · refine (Any8.slices_Grow_grow Tryd.laysGrow i0 (.int .i64 0) hi_ hz0 (by omega) none 0 0 n [] w (by omega) (by omega) (by rw [hz2]; omega) (by omega) (by simp) (fun _ => rfl) (fun a h => by cases h)).mono ?_
    rintro e w' ⟨rfl, rfl⟩
    have hc := grownCap_ge w (0 + n) 0 3
    have hm := grownCap_le_maxLen w (0 + n) 0 3 (by simp only [maxLen]; omega)
    refine ⟨_, rfl, ⟨rfl, .inr ⟨w.heap.size, _, _, rfl, Nat.le_refl _, heap_alloc_new w.drew _, Nat.zero_le _, hm, ?_, by simp⟩⟩, (Below.refl _ w).drew.alloc (Nat.le_refl _) _⟩
    show _ = grownCap w (0 + n) 0 3 * 1
    rw [show Tryd.laysGrow_ren.t 25 = 3 from rfl]
    generalize grownCap w (0 + n) 0 3 = C at hc hm ⊢
    simp only [Array.size_append, size_zeroCells, List.size_toArray, List.length_nil]
    simp [Value.cells]
    omega
def flatM (rs : List RowD) : List Int := rs.flatMap (·.xs)
theorem flat_step {rs : List RowD} {k : Nat} {r : RowD} (h : rs[k]? = some r) : flatM (rs.take (k + 1)) = flatM (rs.take k) ++ r.xs := by
  unfold flatM
  rw [List.take_add_one, h, List.flatMap_append]
  simp
theorem flat_take_le (rs : List RowD) (k : Nat) : (flatM (rs.take k)).length ≤ (flatM rs).length := by
  have h : flatM rs = flatM (rs.take k) ++ flatM (rs.drop k) := by
    unfold flatM
    rw [← List.flatMap_append, List.take_append_drop]
  rw [h, List.length_append]
  omega
theorem Concat_any (rs : List RowD) (a : Option Addr) (c : Nat) (w : World) (hA : RowsR w rs a c) (hm : (flatM rs).length ≤ 5000) :
    Calls Tryd.prog 29 #[.slice a rs.length c] w fun e w' => ∃ v, e = .returned v ∧ RowO w' w.heap.size (flatM rs) v ∧ Below w.heap.size w w' := by
  have HA := Lib.hid hA
  have l1 : rs.length ≤ c := hA.le
  have c1 : rs.length ≤ 9223372036854775807 := by have := hA.cap; simp only [maxLen] at this; omega
  have HBr : Hid (Below w.heap.size w w) := Below.refl _ _
  have HM := Lib.hid hm
  have HGr : Hid (∀ V (n : Nat), Below w.heap.size w V → n ≤ 5000 → Calls Tryd.prog 43 #[.slice none 0 0, .int .i64 n] V fun e w' => ∃ v, e = .returned v ∧ Hid (RowO w' w.heap.size [] v) ∧ Hid (Below w.heap.size w w')) := fun V n hV hn => (grow_any n V hn).mono fun e w' ⟨v, h1, h2, h3⟩ => ⟨v, h1, h2.base hV.size, ball hV h3⟩
  clear hA hm
  go_enter Tryd.func29, Tryd.ntmps29
  go_wp2
  go_loopw [3, 11] (fun p i wr => ∃ (k n : Nat), k ≤ rs.length ∧ p = .int .i64 (n : Nat) ∧ i = .int .i64 k ∧ Hid ((flatM (rs.take k)).length = n) ∧ Hid (wr = w)) (fun _ i _ => rs.length - (intOf i).toNat)
  case atStart => exact ⟨0, 0, Nat.zero_le _, rfl, rfl, rfl, rfl⟩
  case round =>
    obtain ⟨k, n, hkl, rfl, rfl, HE, HW⟩ := hrel
    have hn : n ≤ 5000 := by have := flat_take_le rs k; have := HE.out; have := HM.out; omega
    by_cases hlt : k < rs.length
    · obtain ⟨r, hr⟩ : ∃ r, rs[k]? = some r := ⟨_, List.getElem?_eq_getElem hlt⟩
      obtain ⟨g, o, rfl, hg, q0⟩ := (HA.out.below (by rw [HW.out]; exact Below.refl _ _ : Below w.heap.size w wr)).cell hr
      obtain ⟨m, hm⟩ : ∃ m, r.xs.length = m := ⟨_, rfl⟩
      have HE2 : Hid ((flatM (rs.take (k + 1))).length = n + m) := by show _ = _; rw [flat_step hr, List.length_append, HE.out, hm]
      have hn2 : n + m ≤ 5000 := by have := flat_take_le rs (k + 1); have := HE2.out; have := HM.out; omega
      rw [hm] at q0
      have hnn : (n : Int) + (m : Int) ≤ 5000 := by omega
      have hn0 : (0 : Int) ≤ (n : Int) + (m : Int) := by omega
      clear hr hm HE
      go_wp2
      go_roundw
      case rel => exact ⟨k + 1, n + m, by omega, by go_num, by go_num, HE2, HW⟩
      case measure => simp [intOf]; omega
    · obtain rfl : k = rs.length := by omega
      have HWb : Hid (Below w.heap.size w wr) := by show Below _ _ _; rw [HW.out]; exact Below.refl _ _
      clear HE
      go_wp2_with (first | (go_at_call 43; refine (HGr.out _ n HWb.out hn).mono ?_; rintro e w1 ⟨v1, rfl, HR1, HB1⟩))
      have HR0 : Hid (RowO w1 w.heap.size (flatM (rs.take 0)) v1) := HR1.out
      clear HR1
      go_loopw [6, 27] (fun p i wr => ∃ (k : Nat), k ≤ rs.length ∧ i = .int .i64 k ∧ Hid (RowO wr w.heap.size (flatM (rs.take k)) p) ∧ Hid (Below w.heap.size w wr)) (fun _ i _ => rs.length - (intOf i).toNat)
      case atStart => exact ⟨0, Nat.zero_le _, rfl, HR0, HB1⟩
      case round =>
        rename_i p i wr2
        clear HR0 HB1
        obtain ⟨k, hkl, rfl, HR, HW2⟩ := hrel
        by_cases hlt : k < rs.length
        · obtain ⟨r, hr⟩ : ∃ r, rs[k]? = some r := ⟨_, List.getElem?_eq_getElem hlt⟩
          have hAr := HA.out.below HW2.out
          obtain ⟨g, o, rfl, hg, q0⟩ := hAr.cell hr
          have hIr := hAr.ok r (List.mem_of_getElem? hr)
          obtain ⟨xs0, hxs0⟩ : ∃ x, flatM (rs.take k) = x := ⟨_, rfl⟩
          have hrow := HR.out
          rw [hxs0] at hrow
          have HN : Hid (xs0 ++ r.xs = flatM (rs.take (k + 1))) := by show _ = _; rw [flat_step hr, hxs0]
          have hlen : xs0.length + r.xs.length ≤ 6000 := by have h1 := flat_take_le rs (k + 1); have h2 := HM.out; rw [← HN.out, List.length_append] at h1; omega
          have hbs : w.heap.size ≤ _ := HW2.out.size
          clear hr hxs0 hAr HR
          go_wp2_with (first
            | (at_builtin; refine wpList_app rfl _ _ rfl rfl w.heap.size _ xs0 r.xs r.a r.c (by rfl) (by rfl) hrow hIr hbs hlen ?_; intro v4 w4 hr4 hg4; have HB4 : Hid (Below w.heap.size w w4) := below_row HW2.out hrow hg4 (Nat.le_refl _); rw [HN.out] at hr4; have HR4 := Lib.hid hr4; clear hr4 hg4))
          go_roundw
          case rel => exact ⟨k + 1, by omega, by go_num, HR4, HB4⟩
          case measure => simp [intOf]; omega
        · obtain rfl : k = rs.length := by omega
          have HRx : Hid (RowO _ w.heap.size (flatM rs) _) := (by have h := HR.out; rw [List.take_length] at h; exact h)
          clear HR
          go_wp2
          go_ret
          exact ⟨_, rfl, HRx.out, HW2.out⟩
end Go.Proofs.YtbjplhbflbabjaaDoor.Tm
