/- UnitsMore. -/
import Derived.Test.YtggighikemhnfaaDoorZRaD
namespace Go.Proofs.YtggighikemhnfaaDoor.Tm
open Go.RowKit Go.Lib
set_option linter.unusedVariables false
theorem run_appR (w : World) (base : Nat) (v : Value) (xs ys : List RowD) (b : Option Addr) (d : Nat) (hown : RowsO w base xs v) (hI : RowsR w ys b d) (hb : base ≤ w.heap.size) (hl : (xs.length + ys.length) * 24 ≤ 140737488355328) :
    ∃ v' w', (Builtin.append_ #[22, 22] 22 #[v, .slice b ys.length d]).run Tryd.prog w = .ok v' w' ∧ RowsO w' base (xs ++ ys) v' ∧ w.grownBy w' v.ownBlock := by
  obtain ⟨i0, hi_, hz0, hz1, hz2⟩ := info_parts info_sl
  cases b with
  | none =>
    have h0 : ys = [] := by
      cases ys with
      | nil => rfl
      | cons y r =>
        obtain ⟨g, o, e, _⟩ := hI.tat (by simp)
        cases e
    subst h0
    refine ⟨v, w, ?_, by rw [List.append_nil]; exact hown, ⟨rfl, rfl, rfl, Nat.le_refl _, fun _ _ _ => rfl⟩⟩
    rcases hown.2 with ⟨rfl, h⟩ | ⟨g, cap, cur, rfl, _, _, hc, _, _, _⟩
    · simp [Builtin.append_, run_underlying Tryd.underlying22, sizeOf, typeInfo, hi_, Builtin.lenOf, Builtin.firstCells]
    · simp [Builtin.append_, run_underlying Tryd.underlying22, sizeOf, typeInfo, hi_, Builtin.lenOf, Builtin.firstCells, loadCells, hc, storeCells]
  | some ad =>
    have hnews : ∀ j u, (ys.map rowV)[j]? = some u → w.cell? (ad.add j) = some u := fun j u hu => by
      have hlt := (List.getElem?_eq_some_iff.1 hu).1
      obtain ⟨g, o, e, _, hc⟩ := hI.tat (by omega)
      cases e
      have := hc j u hu
      rw [Addr.add_lit]; exact this
    obtain ⟨v', w', hr, h2, h3, _, _⟩ := run_append_own_at (P := Tryd.prog) w base 22 22 23 i0 _ 1 24 Tryd.underlying22 hi_ hz0 hz1 hz2 rfl (by decide) v xs.length (xs.map rowV) hown ad ys.length d (ys.map rowV) (by simp) hnews (by simp [Value.oneCell', rowV]) (by simp only [maxLen]; omega) (by omega) hb
    refine ⟨v', w', hr, ?_, h3⟩
    unfold RowsO
    rw [List.length_append, List.map_append]
    exact h2
theorem wp_appR {w : World} {o : Oper} {a : Act} {K : Act → World → Prop} {Q : Exit → Act → World → Prop} (s x : Operand) (ho : o.op = .call { callee := .builtin .append, args := #[s, x], argTypes := #[22, 22] }) (hty : o.type = 22)
    (base : Nat) (v : Value) (xs ys : List RowD) (b : Option Addr) (d : Nat) (hs : a.eval s = v) (hx : a.eval x = .slice b ys.length d) (hown : RowsO w base xs v) (hI : RowsR w ys b d) (hb : base ≤ w.heap.size) (hl : (xs.length + ys.length) * 24 ≤ 140737488355328)
    (h : ∀ v' w', RowsO w' base (xs ++ ys) v' → w.grownBy w' v.ownBlock → K (a.put o.dst v') w') : o.wp Tryd.prog a w K Q := by
  obtain ⟨v', w', hr, h2, h3⟩ := run_appR w base v xs ys b d hown hI hb hl
  unfold Oper.wp execOp
  simp only [ho, hty, resolve, invoke, builtin, Sem.run_bind, Sem.run_pure, Result.andThen_ok, List.map_toArray, List.map_cons, List.map_nil, hs, hx, hr]
  exact h v' w' h2 h3
theorem wpList_appR {w : World} {ops : Array Oper} {rest : List Oper} {o : Oper} {a : Act} {Q : Exit → Act → World → Prop} (hgd : o.guard = none) (s x : Operand) (ho : o.op = .call { callee := .builtin .append, args := #[s, x], argTypes := #[22, 22] }) (hty : o.type = 22)
    (base : Nat) (v : Value) (xs ys : List RowD) (b : Option Addr) (d : Nat) (hs : a.eval s = v) (hx : a.eval x = .slice b ys.length d) (hown : RowsO w base xs v) (hI : RowsR w ys b d) (hb : base ≤ w.heap.size) (hl : (xs.length + ys.length) * 24 ≤ 140737488355328)
    (h : ∀ v' w', RowsO w' base (xs ++ ys) v' → w.grownBy w' v.ownBlock → wpList Tryd.prog ops Q rest (a.put o.dst v') w') : wpList Tryd.prog ops Q (o :: rest) a w :=
  wpList_plain hgd fun _ hK => wp_appR s x ho hty base v xs ys b d hs hx hown hI hb hl fun v' w' h2 h3 => hK _ _ (h v' w' h2 h3)
theorem more_plain {cls cls' : List (List Int)} {gs gs' r r' : List Int} {k' : Int} (hm : ∀ c ∈ cls', c ∈ cls) (hg : ∀ x ∈ gs', x ∈ gs) (h : RunRel cls gs r (-1)) (h' : RunRel cls' gs' r' k') : k' = -1 ∧ ∀ x ∈ r', x ∈ r := by
  obtain ⟨_, _, hC⟩ := h.inv
  have hc := hC rfl
  exact h'.sub (fun x hx hmay => hc.given x (hg x hx) hmay) (fun c hcc => hc.nf c (hm c hcc)) (fun c hcc => hc.nu c (hm c hcc)) hc.cons
end Go.Proofs.YtggighikemhnfaaDoor.Tm
