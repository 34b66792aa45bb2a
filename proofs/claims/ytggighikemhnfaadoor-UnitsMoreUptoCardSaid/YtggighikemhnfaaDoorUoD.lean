/- A long row behind a short one; what a run that ends keeps. -/
import Derived.Test.YtggighikemhnfaaDoorUoC
namespace Go.Proofs.YtggighikemhnfaaDoor.Tm
open Go.RowKit Go.Lib
set_option linter.unusedVariables false
theorem run_appB (w : World) (base : Nat) (v : Value) (xs ys : List Int) (b : Option Addr) (d : Nat) (hown : RowO w base xs v) (hI : IntsR w ys b d) (hb : base ≤ w.heap.size) (hl : (xs.length + ys.length) * 8 ≤ 140737488355328) :
    ∃ v' w', (Builtin.append_ #[23, 23] 23 #[v, .slice b ys.length d]).run Tryd.prog w = .ok v' w' ∧ RowO w' base (xs ++ ys) v' ∧ w.grownBy w' v.ownBlock := by
  obtain ⟨i0, hi_, hz0, hz1, hz2⟩ := info_parts info_int
  cases b with
  | none =>
    have h0 : ys = [] := by
      cases ys with
      | nil => rfl
      | cons y r =>
        obtain ⟨g, o, e, _⟩ := hI.tat (by simp)
        cases e
    subst h0
    refine ⟨v, w, ?_, by rw [List.append_nil]; exact hown, ⟨rfl, rfl, rfl, Nat.le_refl _, fun _ _ _ => rfl⟩⟩
    rcases hown.2 with ⟨rfl, h⟩ | ⟨g, cap, cur, rfl, _, _, hc, _, _, _⟩
    · simp [Builtin.append_, run_underlying Tryd.underlying23, sizeOf, typeInfo, hi_, Builtin.lenOf, Builtin.firstCells]
    · simp [Builtin.append_, run_underlying Tryd.underlying23, sizeOf, typeInfo, hi_, Builtin.lenOf, Builtin.firstCells, loadCells, hc, storeCells]
  | some ad =>
    have hnews : ∀ j u, (ys.map (Value.int .i64))[j]? = some u → w.cell? (ad.add j) = some u := fun j u hu => by
      have hlt := (List.getElem?_eq_some_iff.1 hu).1
      obtain ⟨g, o, e, _, hc⟩ := hI.tat (by omega)
      cases e
      have := hc j u hu
      rw [Addr.add_lit]; exact this
    obtain ⟨v', w', hr, h2, h3, _, _⟩ := run_append_own_at (P := Tryd.prog) w base 23 23 3 i0 _ 1 8 Tryd.underlying23 hi_ hz0 hz1 hz2 rfl (by decide) v xs.length (xs.map (Value.int .i64)) hown ad ys.length d (ys.map (Value.int .i64)) (by simp) hnews (by simp [Value.oneCell']) (by simp only [maxLen]; omega) (by omega) hb
    refine ⟨v', w', hr, ?_, h3⟩
    unfold RowO
    rw [List.length_append, List.map_append]
    exact h2
theorem wp_appB {w : World} {o : Oper} {a : Act} {K : Act → World → Prop} {Q : Exit → Act → World → Prop} (s x : Operand) (ho : o.op = .call { callee := .builtin .append, args := #[s, x], argTypes := #[23, 23] }) (hty : o.type = 23)
    (base : Nat) (v : Value) (xs ys : List Int) (b : Option Addr) (d : Nat) (hs : a.eval s = v) (hx : a.eval x = .slice b ys.length d) (hown : RowO w base xs v) (hI : IntsR w ys b d) (hb : base ≤ w.heap.size) (hl : (xs.length + ys.length) * 8 ≤ 140737488355328)
    (h : ∀ v' w', RowO w' base (xs ++ ys) v' → w.grownBy w' v.ownBlock → K (a.put o.dst v') w') : o.wp Tryd.prog a w K Q := by
  obtain ⟨v', w', hr, h2, h3⟩ := run_appB w base v xs ys b d hown hI hb hl
  unfold Oper.wp execOp
  simp only [ho, hty, resolve, invoke, builtin, Sem.run_bind, Sem.run_pure, Result.andThen_ok, List.map_toArray, List.map_cons, List.map_nil, hs, hx, hr]
  exact h v' w' h2 h3
theorem wpList_appB {w : World} {ops : Array Oper} {rest : List Oper} {o : Oper} {a : Act} {Q : Exit → Act → World → Prop} (hgd : o.guard = none) (s x : Operand) (ho : o.op = .call { callee := .builtin .append, args := #[s, x], argTypes := #[23, 23] }) (hty : o.type = 23)
    (base : Nat) (v : Value) (xs ys : List Int) (b : Option Addr) (d : Nat) (hs : a.eval s = v) (hx : a.eval x = .slice b ys.length d) (hown : RowO w base xs v) (hI : IntsR w ys b d) (hb : base ≤ w.heap.size) (hl : (xs.length + ys.length) * 8 ≤ 140737488355328)
    (h : ∀ v' w', RowO w' base (xs ++ ys) v' → w.grownBy w' v.ownBlock → wpList Tryd.prog ops Q rest (a.put o.dst v') w') : wpList Tryd.prog ops Q (o :: rest) a w :=
  wpList_plain hgd fun _ hK => wp_appB s x ho hty base v xs ys b d hs hx hown hI hb hl fun v' w' h2 h3 => hK _ _ (h v' w' h2 h3)
/-- What holds where a run has ended without a conflict. -/
structure Clo (cls : List (List Int)) (gs R : List Int) : Prop where
  given : ∀ x ∈ gs, mayU x = true → x ∈ R
  nf : ∀ c ∈ cls, ¬ FalC R c
  nu : ∀ c ∈ cls, ∀ y, ¬ UniC R c y
  cons : ∀ x ∈ R, negM x ∉ R
  may : ∀ x ∈ R, mayU x = true
  nodup : R.Nodup
structure PsI (ps : List Int) : Prop where
  cons : ∀ x ∈ ps, negM x ∉ ps
  may : ∀ x ∈ ps, mayU x = true
  nodup : ps.Nodup
theorem PsI.nil : PsI [] := ⟨fun x h => (by cases h), fun x h => (by cases h), List.nodup_nil⟩
theorem PsI.put {ps : List Int} {x : Int} (h : PsI ps) (hx : valL ps x = 0) : PsI (ps ++ [x]) := by
  obtain ⟨h1, h2, h3⟩ := val_zero hx
  refine ⟨fun y hy e => ?_, fun y hy => ?_, ?_⟩
  · rcases List.mem_append.1 hy with hy | hy <;> rcases List.mem_append.1 e with e | e
    · exact h.cons y hy e
    · have : negM y = x := by simpa using e
      exact h3 (by rw [← this, negM_neg]; exact hy)
    · rw [show y = x by simpa using hy] at e
      exact h3 e
    · rw [show y = x by simpa using hy] at e
      exact negM_ne x (by simpa using e)
  · rcases List.mem_append.1 hy with hy | hy
    · exact h.may y hy
    · rw [show y = x by simpa using hy]; exact h1
  · rw [List.nodup_append]
    exact ⟨h.nodup, by simp, fun a ha b hb e => h2 (by rw [show b = x by simpa using hb] at e; rw [← e]; exact ha)⟩
theorem giveM_inv : ∀ (gs ps : List Int), PsI ps → PsI (giveM ps gs).1 ∧ (∀ x ∈ ps, x ∈ (giveM ps gs).1) ∧ ((giveM ps gs).2 = true → ∀ x ∈ gs, mayU x = true → x ∈ (giveM ps gs).1) ∧ ∀ x ∈ (giveM ps gs).1, x ∈ ps ∨ x ∈ gs
  | [], ps, h => ⟨h, fun x hx => hx, fun _ x hx => (by cases hx), fun x hx => .inl hx⟩
  | y :: g, ps, h => by
    unfold giveM
    by_cases hm : mayU y = true
    · rw [if_pos hm]
      by_cases h0 : valL ps y = 0
      · rw [if_pos h0]
        obtain ⟨a1, a2, a3, a4⟩ := giveM_inv g (ps ++ [y]) (h.put h0)
        refine ⟨a1, fun x hx => a2 x (by simp [hx]), fun ht x hx hmx => ?_, fun x hx => ?_⟩
        · rcases List.mem_cons.1 hx with rfl | hx
          · exact a2 x (by simp)
          · exact a3 ht x hx hmx
        · rcases a4 x hx with e | e
          · rcases List.mem_append.1 e with e | e
            · exact .inl e
            · exact .inr (by rw [show x = y by simpa using e]; simp)
          · exact .inr (by simp [e])
      · rw [if_neg h0]
        by_cases h2 : valL ps y = 2
        · rw [if_pos h2]
          exact ⟨h, fun x hx => hx, fun ht => (by cases ht), fun x hx => .inl hx⟩
        · rw [if_neg h2]
          obtain ⟨a1, a2, a3, a4⟩ := giveM_inv g ps h
          refine ⟨a1, a2, fun ht x hx hmx => ?_, fun x hx => (a4 x hx).imp_right (fun e => by simp [e])⟩
          rcases List.mem_cons.1 hx with rfl | hx
          · have h1 : valL ps x = 1 := by
              rcases valL_cases ps x with e | e | e
              · exact absurd e h0
              · exact e
              · exact absurd e h2
            exact a2 x (val_one h1).2
          · exact a3 ht x hx hmx
    · rw [if_neg hm]
      obtain ⟨a1, a2, a3, a4⟩ := giveM_inv g ps h
      refine ⟨a1, a2, fun ht x hx hmx => ?_, fun x hx => (a4 x hx).imp_right (fun e => by simp [e])⟩
      rcases List.mem_cons.1 hx with rfl | hx
      · exact absurd hmx hm
      · exact a3 ht x hx hmx
theorem RunsD.inv {cls : List (List Int)} {ps r : List Int} {e : Int} (h : RunsD cls ps r e) : PsI ps → PsI r ∧ (∀ x ∈ ps, x ∈ r) ∧ (∀ x ∈ r, x ∈ ps ∨ ∃ c ∈ cls, x ∈ c) ∧ (e = -1 → (∀ c ∈ cls, ¬ FalC r c) ∧ ∀ c ∈ cls, ∀ y, ¬ UniC r c y) := by
  induction h with
  | conf h1 h2 h3 => exact fun hp => ⟨hp, fun x hx => hx, fun x hx => .inl hx, fun e => by omega⟩
  | done h1 h2 =>
    refine fun hp => ⟨hp, fun x hx => hx, fun x hx => .inl hx, fun _ => ⟨fun c hc => ?_, fun c hc => ?_⟩⟩
    · obtain ⟨j, hj⟩ := List.getElem?_of_mem hc
      exact h1 j c hj
    · obtain ⟨j, hj⟩ := List.getElem?_of_mem hc
      exact h2 j c hj
  | put h1 h2 h3 h4 h5 ih =>
    intro hp
    obtain ⟨a1, a2, a3, a4⟩ := ih (hp.put h3.2.1)
    refine ⟨a1, fun x hx => a2 x (by simp [hx]), fun x hx => ?_, a4⟩
    rcases a3 x hx with e | e
    · rcases List.mem_append.1 e with e | e
      · exact .inl e
      · rw [show x = _ by simpa using e]
        exact .inr ⟨_, List.mem_of_getElem? h2, h3.1⟩
    · exact .inr e
theorem RunRel.inv {cls : List (List Int)} {gs r : List Int} {e : Int} (h : RunRel cls gs r e) : PsI r ∧ (∀ x ∈ r, x ∈ gs ∨ ∃ c ∈ cls, x ∈ c) ∧ (e = -1 → Clo cls gs r) := by
  obtain ⟨a1, a2, a3, a4⟩ := giveM_inv gs [] PsI.nil
  rcases h with ⟨h1, h2, h3⟩ | ⟨h1, h2⟩
  · refine ⟨by rw [h2]; exact a1, fun x hx => .inl ((a4 x (by rw [← h2]; exact hx)).resolve_left (by simp)), fun e => by omega⟩
  · obtain ⟨b1, b2, b3, b4⟩ := h2.inv a1
    refine ⟨b1, fun x hx => (b3 x hx).imp_left (fun e => (a4 x e).resolve_left (by simp)), fun e => ?_⟩
    obtain ⟨c1, c2⟩ := b4 e
    exact ⟨fun x hx hm => b2 x (a3 h1 x hx hm), c1, c2, b1.cons, b1.may, b1.nodup⟩
theorem val_sub {ps R : List Int} (hs : ∀ x ∈ ps, x ∈ R) (hc : ∀ x ∈ R, negM x ∉ R) {x : Int} (h : valL ps x = 2) : valL R x = 2 := by
  by_cases hm : mayU x = true
  · unfold valL at h
    rw [if_pos hm] at h
    split at h
    · cases h
    · split at h
      · rename_i h1 h2
        have h3 := hs _ h2
        exact val_neg (fun e => hc _ e h3) h3
      · cases h
  · unfold valL; rw [if_neg hm]
theorem giveM_sub {R : List Int} (hc : ∀ x ∈ R, negM x ∉ R) : ∀ (gs ps : List Int), (∀ x ∈ ps, x ∈ R) → (∀ x ∈ gs, mayU x = true → x ∈ R) → (giveM ps gs).2 = true ∧ ∀ x ∈ (giveM ps gs).1, x ∈ R
  | [], ps, h, _ => ⟨rfl, h⟩
  | y :: g, ps, h, hg => by
    unfold giveM
    by_cases hm : mayU y = true
    · rw [if_pos hm]
      have hy := hg y (by simp) hm
      by_cases h0 : valL ps y = 0
      · rw [if_pos h0]
        refine giveM_sub hc g (ps ++ [y]) (fun x hx => ?_) (fun x hx => hg x (by simp [hx]))
        rcases List.mem_append.1 hx with e | e
        · exact h x e
        · rw [show x = y by simpa using e]; exact hy
      · rw [if_neg h0]
        by_cases h2 : valL ps y = 2
        · exfalso
          have := val_sub h hc h2
          rw [val_mem hm hy] at this
          cases this
        · rw [if_neg h2]
          exact giveM_sub hc g ps h (fun x hx => hg x (by simp [hx]))
    · rw [if_neg hm]
      exact giveM_sub hc g ps h (fun x hx => hg x (by simp [hx]))
theorem RunsD.sub {cls : List (List Int)} {ps r R : List Int} {e : Int} (h : RunsD cls ps r e) (hnf : ∀ c ∈ cls, ¬ FalC R c) (hnu : ∀ c ∈ cls, ∀ y, ¬ UniC R c y) (hc : ∀ x ∈ R, negM x ∉ R) : (∀ x ∈ ps, x ∈ R) → e = -1 ∧ ∀ x ∈ r, x ∈ R := by
  induction h with
  | conf h1 h2 h3 => exact fun hs => absurd (fun x hx => val_sub hs hc (h2 x hx)) (hnf _ (List.mem_of_getElem? h1))
  | done h1 h2 => exact fun hs => ⟨rfl, hs⟩
  | put h1 h2 h3 h4 h5 ih =>
    rename_i ps r e k c y
    intro hs
    refine ih (fun x hx => ?_)
    rcases List.mem_append.1 hx with e | e
    · exact hs x e
    · rw [show x = y by simpa using e]
      have hcm := List.mem_of_getElem? h2
      have ho : ∀ z ∈ c, valL R z = 2 ∨ z = y := fun z hz => (h3.2.2 z hz).imp_left (val_sub hs hc)
      rcases valL_cases R y with g | g | g
      · exact absurd ⟨h3.1, g, ho⟩ (hnu c hcm y)
      · exact (val_one g).2
      · exact absurd (fun z hz => (ho z hz).elim id (fun e => by rw [e]; exact g)) (hnf c hcm)
/-- What a smaller run puts lies in what a greater one that ends has put. -/
theorem RunRel.sub {cls : List (List Int)} {gs r R : List Int} {e : Int} (h : RunRel cls gs r e) (hg : ∀ x ∈ gs, mayU x = true → x ∈ R) (hnf : ∀ c ∈ cls, ¬ FalC R c) (hnu : ∀ c ∈ cls, ∀ y, ¬ UniC R c y) (hc : ∀ x ∈ R, negM x ∉ R) : e = -1 ∧ ∀ x ∈ r, x ∈ R := by
  obtain ⟨g1, g2⟩ := giveM_sub hc gs [] (fun x hx => by cases hx) hg
  rcases h with ⟨h1, _⟩ | ⟨h1, h2⟩
  · rw [g1] at h1; cases h1
  · exact h2.sub hnf hnu hc g2
theorem turn_plain {cls : List (List Int)} {gs r R : List Int} {x ng k e : Int} (h1 : RunRel cls gs r k) (hx : k ≠ -1 ∨ x ∈ r) (h0 : 0 ≤ x) (hx4 : x ≤ 4000) (hng : negM x = ng) (h2 : RunRel cls (gs ++ [ng]) R e) : e ≠ -1 := fun he => by
  have hC := h2.inv.2.2 he
  obtain ⟨a1, a2⟩ := h1.sub (fun y hy hm => hC.given y (by simp [hy]) hm) hC.nf hC.nu hC.cons
  rcases hx with hx | hx
  · exact hx a1
  · have hn : mayU ng = true := by
      rw [← hng]
      refine mayU_iff.2 ⟨negM_nonneg h0, ?_⟩
      unfold negM; split <;> omega
    have := hC.given ng (by simp) hn
    rw [← hng] at this
    exact hC.cons x (a2 x hx) this
end Go.Proofs.YtggighikemhnfaaDoor.Tm
