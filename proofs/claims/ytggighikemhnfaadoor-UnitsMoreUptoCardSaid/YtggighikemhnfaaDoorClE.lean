/- Rows put together: slices.Grow, slices.Concat. -/
import Derived.Test.YtggighikemhnfaaDoorClC
namespace Go.Proofs.YtggighikemhnfaaDoor.Tm
open Go.RowKit Go.Lib
set_option linter.unusedVariables false
theorem len_fits {n cap : Nat} (h1 : n ≤ cap) (h2 : cap ≤ maxLen) : n ≤ 9223372036854775807 := by simp only [maxLen] at h2; omega
theorem run_app (w : World) (base : Nat) (v : Value) (xs ys : List Int) (b : Option Addr) (d : Nat) (hown : RowO w base xs v) (hI : IntsR w ys b d) (hb : base ≤ w.heap.size) (hl : xs.length + ys.length ≤ 6000) :
    ∃ v' w', (Builtin.append_ #[23, 23] 23 #[v, .slice b ys.length d]).run Tryd.prog w = .ok v' w' ∧ RowO w' base (xs ++ ys) v' ∧ w.grownBy w' v.ownBlock := by
  obtain ⟨i0, hi_, hz0, hz1, hz2⟩ := info_parts info_int
  cases b with
  | none =>
    have h0 : ys = [] := by
      cases ys with
      | nil => rfl
      | cons y r =>
        obtain ⟨g, o, e, _⟩ := hI.tat (by simp)
        cases e
    subst h0
    refine ⟨v, w, ?_, by rw [List.append_nil]; exact hown, ⟨rfl, rfl, rfl, Nat.le_refl _, fun _ _ _ => rfl⟩⟩
    rcases hown.2 with ⟨rfl, h⟩ | ⟨g, cap, cur, rfl, _, _, hc, _, _, _⟩
    · simp [Builtin.append_, run_underlying Tryd.underlying23, sizeOf, typeInfo, hi_, Builtin.lenOf, Builtin.firstCells]
    · simp [Builtin.append_, run_underlying Tryd.underlying23, sizeOf, typeInfo, hi_, Builtin.lenOf, Builtin.firstCells, loadCells, hc, storeCells]
  | some ad =>
    have hnews : ∀ j u, (ys.map (Value.int .i64))[j]? = some u → w.cell? (ad.add j) = some u := fun j u hu => by
      have hlt := (List.getElem?_eq_some_iff.1 hu).1
      obtain ⟨g, o, e, _, hc⟩ := hI.tat (by omega)
      cases e
      have := hc j u hu
      rw [Addr.add_lit]; exact this
    obtain ⟨v', w', hr, h2, h3, _, _⟩ := run_append_own_at (P := Tryd.prog) w base 23 23 3 i0 _ 1 8 Tryd.underlying23 hi_ hz0 hz1 hz2 rfl (by decide) v xs.length (xs.map (Value.int .i64)) hown ad ys.length d (ys.map (Value.int .i64)) (by simp) hnews (by simp [Value.oneCell']) (by simp only [maxLen]; omega) (by omega) hb
    refine ⟨v', w', hr, ?_, h3⟩
    unfold RowO
    rw [List.length_append, List.map_append]
    exact h2
theorem wp_app {w : World} {o : Oper} {a : Act} {K : Act → World → Prop} {Q : Exit → Act → World → Prop} (s x : Operand) (ho : o.op = .call { callee := .builtin .append, args := #[s, x], argTypes := #[23, 23] }) (hty : o.type = 23)
    (base : Nat) (v : Value) (xs ys : List Int) (b : Option Addr) (d : Nat) (hs : a.eval s = v) (hx : a.eval x = .slice b ys.length d) (hown : RowO w base xs v) (hI : IntsR w ys b d) (hb : base ≤ w.heap.size) (hl : xs.length + ys.length ≤ 6000)
    (h : ∀ v' w', RowO w' base (xs ++ ys) v' → w.grownBy w' v.ownBlock → K (a.put o.dst v') w') : o.wp Tryd.prog a w K Q := by
  obtain ⟨v', w', hr, h2, h3⟩ := run_app w base v xs ys b d hown hI hb hl
  unfold Oper.wp execOp
  simp only [ho, hty, resolve, invoke, builtin, Sem.run_bind, Sem.run_pure, Result.andThen_ok, List.map_toArray, List.map_cons, List.map_nil, hs, hx, hr]
  exact h v' w' h2 h3
theorem wpList_app {w : World} {ops : Array Oper} {rest : List Oper} {o : Oper} {a : Act} {Q : Exit → Act → World → Prop} (hgd : o.guard = none) (s x : Operand) (ho : o.op = .call { callee := .builtin .append, args := #[s, x], argTypes := #[23, 23] }) (hty : o.type = 23)
    (base : Nat) (v : Value) (xs ys : List Int) (b : Option Addr) (d : Nat) (hs : a.eval s = v) (hx : a.eval x = .slice b ys.length d) (hown : RowO w base xs v) (hI : IntsR w ys b d) (hb : base ≤ w.heap.size) (hl : xs.length + ys.length ≤ 6000)
    (h : ∀ v' w', RowO w' base (xs ++ ys) v' → w.grownBy w' v.ownBlock → wpList Tryd.prog ops Q rest (a.put o.dst v') w') : wpList Tryd.prog ops Q (o :: rest) a w :=
  wpList_plain hgd fun _ hK => wp_app s x ho hty base v xs ys b d hs hx hown hI hb hl fun v' w' h2 h3 => hK _ _ (h v' w' h2 h3)
theorem wpList_appG {w : World} {ops : Array Oper} {rest : List Oper} {o : Oper} {a : Act} {Q : Exit → Act → World → Prop} (hw : Region.wanted o (yielded ops a.tmps) = true) (s x : Operand) (ho : o.op = .call { callee := .builtin .append, args := #[s, x], argTypes := #[23, 23] }) (hty : o.type = 23)
    (base : Nat) (v : Value) (xs ys : List Int) (b : Option Addr) (d : Nat) (hs : a.eval s = v) (hx : a.eval x = .slice b ys.length d) (hown : RowO w base xs v) (hI : IntsR w ys b d) (hb : base ≤ w.heap.size) (hl : xs.length + ys.length ≤ 6000)
    (h : ∀ v' w', RowO w' base (xs ++ ys) v' → w.grownBy w' v.ownBlock → wpList Tryd.prog ops Q rest (a.put o.dst v') w') : wpList Tryd.prog ops Q (o :: rest) a w :=
  wpList_step fun K hK => by
    rw [if_pos hw]
    exact wp_app s x ho hty base v xs ys b d hs hx hown hI hb hl fun v' w' h2 h3 => hK _ _ (h v' w' h2 h3)
theorem step_app {w : World} {ops : Array Oper} {o : Oper} {a : Act} {K : Act → World → Prop} {Q : Exit → Act → World → Prop} {E : Prop} (hgd : o.guard = none) (s x : Operand) (ho : o.op = .call { callee := .builtin .append, args := #[s, x], argTypes := #[23, 23] }) (hty : o.type = 23)
    (base : Nat) (v : Value) (xs ys : List Int) (b : Option Addr) (d : Nat) (hs : a.eval s = v) (hx : a.eval x = .slice b ys.length d) (hown : RowO w base xs v) (hI : IntsR w ys b d) (hb : base ≤ w.heap.size) (hl : xs.length + ys.length ≤ 6000)
    (h : ∀ v' w', RowO w' base (xs ++ ys) v' → w.grownBy w' v.ownBlock → K (a.put o.dst v') w') : if Region.wanted o (yielded ops a.tmps) = true then Oper.wp Tryd.prog o a w K Q else E := by
  have hw : Region.wanted o (yielded ops a.tmps) = true := by simp [Region.wanted, hgd]
  rw [if_pos hw]
  exact wp_app s x ho hty base v xs ys b d hs hx hown hI hb hl h
theorem row_zero (w : World) : RowO (w.alloc (.cells #[] 3)) w.heap.size [] (.slice (some ⟨w.heap.size, 0, none⟩) 0 0) := ⟨rfl, .inr ⟨w.heap.size, 0, #[], rfl, Nat.le_refl _, heap_alloc_new w _, Nat.le_refl _, by decide, rfl, rfl⟩⟩
/-- A row of one's own, from a base on, grew: what lies below the base is as it was. -/
theorem below_row {w V V2 : World} {base : Nat} {xs : List Int} {v : Value} (h : Below w.heap.size w V) (hown : RowO V base xs v) (hg : V.grownBy V2 v.ownBlock) (hb : w.heap.size ≤ base) : Below w.heap.size w V2 :=
  h.grown hg h.size (fun k e => Nat.le_trans hb (own_lt hown e).1)
def flatM (rs : List RowD) : List Int := rs.flatMap (·.xs)
theorem flat_step {rs : List RowD} {k : Nat} {r : RowD} (h : rs[k]? = some r) : flatM (rs.take (k + 1)) = flatM (rs.take k) ++ r.xs := by
  unfold flatM
  rw [List.take_add_one, h, List.flatMap_append]
  simp
theorem flat_take_le (rs : List RowD) (k : Nat) : (flatM (rs.take k)).length ≤ (flatM rs).length := by
  have h : flatM rs = flatM (rs.take k) ++ flatM (rs.drop k) := by
    unfold flatM
    rw [← List.flatMap_append, List.take_append_drop]
  rw [h, List.length_append]
  omega
end Go.Proofs.YtggighikemhnfaaDoor.Tm
