/- ref15's has, Within; a run's literals' numbers. -/
import Derived.Test.YtggighikemhnfaaDoorZUnZ
namespace Go.Proofs.YtggighikemhnfaaDoor.Tm
open Go.RowKit
set_option linter.unusedVariables false
theorem Closes_any (rs : List RowD) (a : Option Addr) (c : Nat) (gs : List Int) (a2 : Option Addr) (c2 : Nat) (cls : List (List Int)) (w : World) (hcl : rs.map (·.xs) = cls) (hG : GC w) (hR : RowsR w rs a c) (hA : IntsR w gs a2 c2) (hl : rs.length ≤ 1000) (hf : cls.flatten.length ≤ 600000) (hgl : gs.length ≤ 10000) :
    Calls Tryd.prog 17 #[.slice a rs.length c, .slice a2 gs.length c2] w fun e w' => (∃ r k q, RunRel cls gs r k ∧ e = .returned (.bool q) ∧ q = decide (k ≠ -1)) ∧ Below w.heap.size w w' := by
  have HR := Lib.hid (Run_any rs a c gs a2 c2 cls w hcl hG hR hA hl hf hgl)
  clear hcl hG hR hA hl hf hgl
  go_enter Tryd.func17, Tryd.ntmps17
  go_wp2_with fail
  with_reducible refine HR.out.mono ?_
  rintro e w1 ⟨r, k, a', c', rfl, h1, h2, h3⟩
  have HX := Lib.hid (And.intro h1 h3)
  clear h1 h2 h3
  by_cases hk : k = -1
  · have e1 : (k != -1) = false := ne_f hk
    have HQ : Hid (false = decide (k ≠ -1)) := (decide_eq_false (fun e => e hk)).symm
    clear hk
    go_wp2
    go_ret
    exact ⟨⟨r, k, false, HX.out.1, rfl, HQ.out⟩, HX.out.2⟩
  · have e1 : (k != -1) = true := ne_t hk
    have HQ : Hid (true = decide (k ≠ -1)) := (decide_eq_true hk).symm
    clear hk
    go_wp2
    go_ret
    exact ⟨⟨r, k, true, HX.out.1, rfl, HQ.out⟩, HX.out.2⟩
end Go.Proofs.YtggighikemhnfaaDoor.Tm
namespace Go.Proofs.YtggighikemhnfaaDoor.Tm
open Go.RowKit
set_option linter.unusedVariables false
def GrP (e : Ending) (P : Prop) : Prop := ∃ q : Bool, e = .returned (.bool q) ∧ (q = false → P)
theorem GrP.yes (P : Prop) : GrP (.returned (.bool true)) P := ⟨true, rfl, fun h => by cases h⟩
theorem GrP.no {P : Prop} (h : P) : GrP (.returned (.bool false)) P := ⟨false, rfl, fun _ => h⟩
theorem RGreat_any (rs : List RowD) (a : Option Addr) (c : Nat) (w : World) (hR : RowsR w rs a c) :
    Calls Tryd.prog 22 #[.slice a rs.length c] w fun e w' => GrP e (rs.length ≤ 80 ∧ ∀ y ∈ rs, y.xs.length ≤ 20) ∧ w = w' := by
  have HR := Lib.hid hR
  have l1 : rs.length ≤ c := hR.le
  have c1 : rs.length ≤ 9223372036854775807 := by have := hR.cap; simp only [maxLen] at this; omega
  clear hR
  by_cases hl : 80 < rs.length
  · have d1 : decide (80 < (rs.length : Int)) = true := decide_eq_true (by omega)
    clear hl
    go_enter Tryd.func22, Tryd.ntmps22
    go_wp2
    go_ret
    exact ⟨GrP.yes _, rfl⟩
  · have d1 : decide (80 < (rs.length : Int)) = false := decide_eq_false (by omega)
    have HLn : Hid (rs.length ≤ 80) := by show _ ≤ _; omega
    clear hl
    go_enter Tryd.func22, Tryd.ntmps22
    go_wp2
    go_loopw [3] (fun iv wr => ∃ k : Nat, k ≤ rs.length ∧ iv = .int .i64 k ∧ Hid (∀ j y, j < k → rs[j]? = some y → y.xs.length ≤ 20) ∧ wr = w) (fun iv _ => rs.length - (intOf iv).toNat)
    case atStart => exact ⟨0, Nat.zero_le _, rfl, (fun j y h _ => absurd h (by omega)), rfl⟩
    case round =>
      obtain ⟨k, hkl, rfl, HE, rfl⟩ := hrel
      by_cases hlt : k < rs.length
      · obtain ⟨y, hy⟩ : ∃ y, rs[k]? = some y := ⟨_, List.getElem?_eq_getElem hlt⟩
        obtain ⟨g, o, rfl, hg, q0⟩ := HR.out.cell hy
        have HI := Lib.hid (HR.out.ok y (List.mem_of_getElem? hy))
        have l2 : y.xs.length ≤ y.c := HI.out.le
        have c2 : y.xs.length ≤ 9223372036854775807 := by have := HI.out.cap; simp only [maxLen] at this; omega
        have HY := Lib.hid hy
        clear hy
        by_cases h2 : 20 < y.xs.length
        · have d2 : decide (20 < (y.xs.length : Int)) = true := decide_eq_true (by omega)
          clear h2
          go_wp2
          go_ret
          exact ⟨GrP.yes _, rfl⟩
        · have d2 : decide (20 < (y.xs.length : Int)) = false := decide_eq_false (by omega)
          have HN : Hid (∀ j z, j < k + 1 → rs[j]? = some z → z.xs.length ≤ 20) := fun j z hj h1 => by
            by_cases e : j = k
            · subst e
              rw [HY.out] at h1
              cases h1
              omega
            · exact HE.out j z (by omega) h1
          obtain ⟨ya, hya⟩ : ∃ ya, y.a = ya := ⟨_, rfl⟩
          rw [hya] at q0 HI
          clear h2 hya
          go_wp2
          rename World => wk
          go_loopw [4] (fun iv w2 => ∃ j : Nat, j ≤ y.xs.length ∧ iv = .int .i64 j ∧ w2 = wk) (fun iv _ => y.xs.length - (intOf iv).toNat)
          case atStart => exact ⟨0, Nat.zero_le _, rfl, rfl⟩
          case round =>
            obtain ⟨j, hjl, rfl, rfl⟩ := hrel
            by_cases hlt2 : j < y.xs.length
            · obtain ⟨z, hz⟩ : ∃ z, y.xs[j]? = some z := ⟨_, List.getElem?_eq_getElem hlt2⟩
              obtain ⟨g2, o2, rfl, hg2, q2⟩ := HI.out.cell hz
              clear hz
              by_cases h3 : 4096 < z
              · have d3 : decide (4096 < z) = true := decide_eq_true h3
                clear h3
                go_wp2
                go_ret
                exact ⟨GrP.yes _, rfl⟩
              · have d3 : decide (4096 < z) = false := decide_eq_false h3
                clear h3
                go_wp2
                go_roundw
                case rel => exact ⟨j + 1, by omega, by go_num, trivial⟩
                case measure => simp [intOf]; omega
            · obtain rfl : j = y.xs.length := by omega
              go_wp2
              go_roundw
              case rel => exact ⟨k + 1, by omega, by go_num, HN, trivial⟩
              case measure => simp [intOf]; omega
      · obtain rfl : k = rs.length := by omega
        have HF : Hid (rs.length ≤ 80 ∧ ∀ y ∈ rs, y.xs.length ≤ 20) := ⟨HLn.out, fun y hy => by
          obtain ⟨j, hj⟩ := List.getElem?_of_mem hy
          exact HE.out j y (List.getElem?_eq_some_iff.1 hj).1 hj⟩
        go_wp2
        go_ret
        exact ⟨GrP.no HF.out, rfl⟩
end Go.Proofs.YtggighikemhnfaaDoor.Tm
namespace Go.Proofs.YtggighikemhnfaaDoor.Tm
open Go.RowKit
set_option linter.unusedVariables false
instance (ps c : List Int) : Decidable (FalC ps c) := inferInstanceAs (Decidable (∀ x ∈ c, valL ps x = 2))
instance (ps c : List Int) (y : Int) : Decidable (UniC ps c y) := inferInstanceAs (Decidable (y ∈ c ∧ valL ps y = 0 ∧ ∀ x ∈ c, valL ps x = 2 ∨ x = y))
theorem noF {cls : List (List Int)} {ps : List Int} (h : ∀ d ∈ cls, ¬ FalC ps d) : ∀ (j : Nat) (d : List Int), cls[j]? = some d → ¬ FalC ps d := fun j d hd => h d (List.mem_of_getElem? hd)
theorem noU {cls : List (List Int)} {ps : List Int} (k : Nat) (h : ∀ d ∈ cls.take k, ∀ z ∈ d, ¬ UniC ps d z) : ∀ (j : Nat) (d : List Int), j < k → cls[j]? = some d → ∀ z, ¬ UniC ps d z := fun j d hj hd z hz =>
  h d (List.mem_of_getElem? (i := j) (by rw [List.getElem?_take, if_pos hj]; exact hd)) z hz.1 hz
theorem rows_row {w : World} {b : Nat} {rs : List RowD} {ty : TypeId} (h : w.heap[b]? = some (.cells ⟨rs.map rowV⟩ ty (0, 0))) (hok : ∀ r ∈ rs, IntsR w r.xs r.a r.c) (hm : rs.length ≤ 3000) : RowsR w rs (some ⟨b, 0, none⟩) rs.length := by
  refine ⟨Nat.le_refl _, by unfold maxLen; omega, fun _ => ⟨b, 0, rfl, (Array.getElem?_eq_some_iff.1 h).1, fun i v hv => ?_⟩, hok⟩
  rw [Nat.zero_add, cell_of_row w b i _ _ _ h, ← Array.getElem?_toList]
  exact hv
end Go.Proofs.YtggighikemhnfaaDoor.Tm
namespace Go.Proofs.YtggighikemhnfaaDoor.Tm
open Go.RowKit Go.Lib
set_option linter.unusedVariables false
theorem run_appB (w : World) (base : Nat) (v : Value) (xs ys : List Int) (b : Option Addr) (d : Nat) (hown : RowO w base xs v) (hI : IntsR w ys b d) (hb : base ≤ w.heap.size) (hl : (xs.length + ys.length) * 8 ≤ 140737488355328) :
    ∃ v' w', (Builtin.append_ #[23, 23] 23 #[v, .slice b ys.length d]).run Tryd.prog w = .ok v' w' ∧ RowO w' base (xs ++ ys) v' ∧ w.grownBy w' v.ownBlock := by
  obtain ⟨i0, hi_, hz0, hz1, hz2⟩ := info_parts info_int
  cases b with
  | none =>
    have h0 : ys = [] := by
      cases ys with
      | nil => rfl
      | cons y r =>
        obtain ⟨g, o, e, _⟩ := hI.tat (by simp)
        cases e
    subst h0
    refine ⟨v, w, ?_, by rw [List.append_nil]; exact hown, ⟨rfl, rfl, rfl, Nat.le_refl _, fun _ _ _ => rfl⟩⟩
    rcases hown.2 with ⟨rfl, h⟩ | ⟨g, cap, cur, rfl, _, _, hc, _, _, _⟩
    · simp [Builtin.append_, run_underlying Tryd.underlying23, sizeOf, typeInfo, hi_, Builtin.lenOf, Builtin.firstCells]
    · simp [Builtin.append_, run_underlying Tryd.underlying23, sizeOf, typeInfo, hi_, Builtin.lenOf, Builtin.firstCells, loadCells, hc, storeCells]
  | some ad =>
    have hnews : ∀ j u, (ys.map (Value.int .i64))[j]? = some u → w.cell? (ad.add j) = some u := fun j u hu => by
      have hlt := (List.getElem?_eq_some_iff.1 hu).1
      obtain ⟨g, o, e, _, hc⟩ := hI.tat (by omega)
      cases e
      have := hc j u hu
      rw [Addr.add_lit]; exact this
    obtain ⟨v', w', hr, h2, h3, _, _⟩ := run_append_own_at (P := Tryd.prog) w base 23 23 3 i0 _ 1 8 Tryd.underlying23 hi_ hz0 hz1 hz2 rfl (by decide) v xs.length (xs.map (Value.int .i64)) hown ad ys.length d (ys.map (Value.int .i64)) (by simp) hnews (by simp [Value.oneCell']) (by simp only [maxLen]; omega) (by omega) hb
    refine ⟨v', w', hr, ?_, h3⟩
    unfold RowO
    rw [List.length_append, List.map_append]
    exact h2
theorem wp_appB {w : World} {o : Oper} {a : Act} {K : Act → World → Prop} {Q : Exit → Act → World → Prop} (s x : Operand) (ho : o.op = .call { callee := .builtin .append, args := #[s, x], argTypes := #[23, 23] }) (hty : o.type = 23)
    (base : Nat) (v : Value) (xs ys : List Int) (b : Option Addr) (d : Nat) (hs : a.eval s = v) (hx : a.eval x = .slice b ys.length d) (hown : RowO w base xs v) (hI : IntsR w ys b d) (hb : base ≤ w.heap.size) (hl : (xs.length + ys.length) * 8 ≤ 140737488355328)
    (h : ∀ v' w', RowO w' base (xs ++ ys) v' → w.grownBy w' v.ownBlock → K (a.put o.dst v') w') : o.wp Tryd.prog a w K Q := by
  obtain ⟨v', w', hr, h2, h3⟩ := run_appB w base v xs ys b d hown hI hb hl
  unfold Oper.wp execOp
  simp only [ho, hty, resolve, invoke, builtin, Sem.run_bind, Sem.run_pure, Result.andThen_ok, List.map_toArray, List.map_cons, List.map_nil, hs, hx, hr]
  exact h v' w' h2 h3
theorem wpList_appB {w : World} {ops : Array Oper} {rest : List Oper} {o : Oper} {a : Act} {Q : Exit → Act → World → Prop} (hgd : o.guard = none) (s x : Operand) (ho : o.op = .call { callee := .builtin .append, args := #[s, x], argTypes := #[23, 23] }) (hty : o.type = 23)
    (base : Nat) (v : Value) (xs ys : List Int) (b : Option Addr) (d : Nat) (hs : a.eval s = v) (hx : a.eval x = .slice b ys.length d) (hown : RowO w base xs v) (hI : IntsR w ys b d) (hb : base ≤ w.heap.size) (hl : (xs.length + ys.length) * 8 ≤ 140737488355328)
    (h : ∀ v' w', RowO w' base (xs ++ ys) v' → w.grownBy w' v.ownBlock → wpList Tryd.prog ops Q rest (a.put o.dst v') w') : wpList Tryd.prog ops Q (o :: rest) a w :=
  wpList_plain hgd fun _ hK => wp_appB s x ho hty base v xs ys b d hs hx hown hI hb hl fun v' w' h2 h3 => hK _ _ (h v' w' h2 h3)
/-- What holds where a run has ended without a conflict. -/
structure Clo (cls : List (List Int)) (gs R : List Int) : Prop where
  given : ∀ x ∈ gs, mayU x = true → x ∈ R
  nf : ∀ c ∈ cls, ¬ FalC R c
  nu : ∀ c ∈ cls, ∀ y, ¬ UniC R c y
  cons : ∀ x ∈ R, negM x ∉ R
  may : ∀ x ∈ R, mayU x = true
  nodup : R.Nodup
structure PsI (ps : List Int) : Prop where
  cons : ∀ x ∈ ps, negM x ∉ ps
  may : ∀ x ∈ ps, mayU x = true
  nodup : ps.Nodup
theorem PsI.nil : PsI [] := ⟨fun x h => (by cases h), fun x h => (by cases h), List.nodup_nil⟩
theorem PsI.put {ps : List Int} {x : Int} (h : PsI ps) (hx : valL ps x = 0) : PsI (ps ++ [x]) := by
  obtain ⟨h1, h2, h3⟩ := val_zero hx
  refine ⟨fun y hy e => ?_, fun y hy => ?_, ?_⟩
  · rcases List.mem_append.1 hy with hy | hy <;> rcases List.mem_append.1 e with e | e
    · exact h.cons y hy e
    · have : negM y = x := by simpa using e
      exact h3 (by rw [← this, negM_neg]; exact hy)
    · rw [show y = x by simpa using hy] at e
      exact h3 e
    · rw [show y = x by simpa using hy] at e
      exact negM_ne x (by simpa using e)
  · rcases List.mem_append.1 hy with hy | hy
    · exact h.may y hy
    · rw [show y = x by simpa using hy]; exact h1
  · rw [List.nodup_append]
    exact ⟨h.nodup, by simp, fun a ha b hb e => h2 (by rw [show b = x by simpa using hb] at e; rw [← e]; exact ha)⟩
theorem giveM_inv : ∀ (gs ps : List Int), PsI ps → PsI (giveM ps gs).1 ∧ (∀ x ∈ ps, x ∈ (giveM ps gs).1) ∧ ((giveM ps gs).2 = true → ∀ x ∈ gs, mayU x = true → x ∈ (giveM ps gs).1) ∧ ∀ x ∈ (giveM ps gs).1, x ∈ ps ∨ x ∈ gs
  | [], ps, h => ⟨h, fun x hx => hx, fun _ x hx => (by cases hx), fun x hx => .inl hx⟩
  | y :: g, ps, h => by
    unfold giveM
    by_cases hm : mayU y = true
    · rw [if_pos hm]
      by_cases h0 : valL ps y = 0
      · rw [if_pos h0]
        obtain ⟨a1, a2, a3, a4⟩ := giveM_inv g (ps ++ [y]) (h.put h0)
        refine ⟨a1, fun x hx => a2 x (by simp [hx]), fun ht x hx hmx => ?_, fun x hx => ?_⟩
        · rcases List.mem_cons.1 hx with rfl | hx
          · exact a2 x (by simp)
          · exact a3 ht x hx hmx
        · rcases a4 x hx with e | e
          · rcases List.mem_append.1 e with e | e
            · exact .inl e
            · exact .inr (by rw [show x = y by simpa using e]; simp)
          · exact .inr (by simp [e])
      · rw [if_neg h0]
        by_cases h2 : valL ps y = 2
        · rw [if_pos h2]
          exact ⟨h, fun x hx => hx, fun ht => (by cases ht), fun x hx => .inl hx⟩
        · rw [if_neg h2]
          obtain ⟨a1, a2, a3, a4⟩ := giveM_inv g ps h
          refine ⟨a1, a2, fun ht x hx hmx => ?_, fun x hx => (a4 x hx).imp_right (fun e => by simp [e])⟩
          rcases List.mem_cons.1 hx with rfl | hx
          · have h1 : valL ps x = 1 := by
              rcases valL_cases ps x with e | e | e
              · exact absurd e h0
              · exact e
              · exact absurd e h2
            exact a2 x (val_one h1).2
          · exact a3 ht x hx hmx
    · rw [if_neg hm]
      obtain ⟨a1, a2, a3, a4⟩ := giveM_inv g ps h
      refine ⟨a1, a2, fun ht x hx hmx => ?_, fun x hx => (a4 x hx).imp_right (fun e => by simp [e])⟩
      rcases List.mem_cons.1 hx with rfl | hx
      · exact absurd hmx hm
      · exact a3 ht x hx hmx
theorem RunsD.inv {cls : List (List Int)} {ps r : List Int} {e : Int} (h : RunsD cls ps r e) : PsI ps → PsI r ∧ (∀ x ∈ ps, x ∈ r) ∧ (∀ x ∈ r, x ∈ ps ∨ ∃ c ∈ cls, x ∈ c) ∧ (e = -1 → (∀ c ∈ cls, ¬ FalC r c) ∧ ∀ c ∈ cls, ∀ y, ¬ UniC r c y) := by
  induction h with
  | conf h1 h2 h3 => exact fun hp => ⟨hp, fun x hx => hx, fun x hx => .inl hx, fun e => by omega⟩
  | done h1 h2 =>
    refine fun hp => ⟨hp, fun x hx => hx, fun x hx => .inl hx, fun _ => ⟨fun c hc => ?_, fun c hc => ?_⟩⟩
    · obtain ⟨j, hj⟩ := List.getElem?_of_mem hc
      exact h1 j c hj
    · obtain ⟨j, hj⟩ := List.getElem?_of_mem hc
      exact h2 j c hj
  | put h1 h2 h3 h4 h5 ih =>
    intro hp
    obtain ⟨a1, a2, a3, a4⟩ := ih (hp.put h3.2.1)
    refine ⟨a1, fun x hx => a2 x (by simp [hx]), fun x hx => ?_, a4⟩
    rcases a3 x hx with e | e
    · rcases List.mem_append.1 e with e | e
      · exact .inl e
      · rw [show x = _ by simpa using e]
        exact .inr ⟨_, List.mem_of_getElem? h2, h3.1⟩
    · exact .inr e
theorem RunRel.inv {cls : List (List Int)} {gs r : List Int} {e : Int} (h : RunRel cls gs r e) : PsI r ∧ (∀ x ∈ r, x ∈ gs ∨ ∃ c ∈ cls, x ∈ c) ∧ (e = -1 → Clo cls gs r) := by
  obtain ⟨a1, a2, a3, a4⟩ := giveM_inv gs [] PsI.nil
  rcases h with ⟨h1, h2, h3⟩ | ⟨h1, h2⟩
  · refine ⟨by rw [h2]; exact a1, fun x hx => .inl ((a4 x (by rw [← h2]; exact hx)).resolve_left (by simp)), fun e => by omega⟩
  · obtain ⟨b1, b2, b3, b4⟩ := h2.inv a1
    refine ⟨b1, fun x hx => (b3 x hx).imp_left (fun e => (a4 x e).resolve_left (by simp)), fun e => ?_⟩
    obtain ⟨c1, c2⟩ := b4 e
    exact ⟨fun x hx hm => b2 x (a3 h1 x hx hm), c1, c2, b1.cons, b1.may, b1.nodup⟩
theorem val_sub {ps R : List Int} (hs : ∀ x ∈ ps, x ∈ R) (hc : ∀ x ∈ R, negM x ∉ R) {x : Int} (h : valL ps x = 2) : valL R x = 2 := by
  by_cases hm : mayU x = true
  · unfold valL at h
    rw [if_pos hm] at h
    split at h
    · cases h
    · split at h
      · rename_i h1 h2
        have h3 := hs _ h2
        exact val_neg (fun e => hc _ e h3) h3
      · cases h
  · unfold valL; rw [if_neg hm]
theorem giveM_sub {R : List Int} (hc : ∀ x ∈ R, negM x ∉ R) : ∀ (gs ps : List Int), (∀ x ∈ ps, x ∈ R) → (∀ x ∈ gs, mayU x = true → x ∈ R) → (giveM ps gs).2 = true ∧ ∀ x ∈ (giveM ps gs).1, x ∈ R
  | [], ps, h, _ => ⟨rfl, h⟩
  | y :: g, ps, h, hg => by
    unfold giveM
    by_cases hm : mayU y = true
    · rw [if_pos hm]
      have hy := hg y (by simp) hm
      by_cases h0 : valL ps y = 0
      · rw [if_pos h0]
        refine giveM_sub hc g (ps ++ [y]) (fun x hx => ?_) (fun x hx => hg x (by simp [hx]))
        rcases List.mem_append.1 hx with e | e
        · exact h x e
        · rw [show x = y by simpa using e]; exact hy
      · rw [if_neg h0]
        by_cases h2 : valL ps y = 2
        · exfalso
          have := val_sub h hc h2
          rw [val_mem hm hy] at this
          cases this
        · rw [if_neg h2]
          exact giveM_sub hc g ps h (fun x hx => hg x (by simp [hx]))
    · rw [if_neg hm]
      exact giveM_sub hc g ps h (fun x hx => hg x (by simp [hx]))
theorem RunsD.sub {cls : List (List Int)} {ps r R : List Int} {e : Int} (h : RunsD cls ps r e) (hnf : ∀ c ∈ cls, ¬ FalC R c) (hnu : ∀ c ∈ cls, ∀ y, ¬ UniC R c y) (hc : ∀ x ∈ R, negM x ∉ R) : (∀ x ∈ ps, x ∈ R) → e = -1 ∧ ∀ x ∈ r, x ∈ R := by
  induction h with
  | conf h1 h2 h3 => exact fun hs => absurd (fun x hx => val_sub hs hc (h2 x hx)) (hnf _ (List.mem_of_getElem? h1))
  | done h1 h2 => exact fun hs => ⟨rfl, hs⟩
  | put h1 h2 h3 h4 h5 ih =>
    rename_i ps r e k c y
    intro hs
    refine ih (fun x hx => ?_)
    rcases List.mem_append.1 hx with e | e
    · exact hs x e
    · rw [show x = y by simpa using e]
      have hcm := List.mem_of_getElem? h2
      have ho : ∀ z ∈ c, valL R z = 2 ∨ z = y := fun z hz => (h3.2.2 z hz).imp_left (val_sub hs hc)
      rcases valL_cases R y with g | g | g
      · exact absurd ⟨h3.1, g, ho⟩ (hnu c hcm y)
      · exact (val_one g).2
      · exact absurd (fun z hz => (ho z hz).elim id (fun e => by rw [e]; exact g)) (hnf c hcm)
/-- What a smaller run puts lies in what a greater one that ends has put. -/
theorem RunRel.sub {cls : List (List Int)} {gs r R : List Int} {e : Int} (h : RunRel cls gs r e) (hg : ∀ x ∈ gs, mayU x = true → x ∈ R) (hnf : ∀ c ∈ cls, ¬ FalC R c) (hnu : ∀ c ∈ cls, ∀ y, ¬ UniC R c y) (hc : ∀ x ∈ R, negM x ∉ R) : e = -1 ∧ ∀ x ∈ r, x ∈ R := by
  obtain ⟨g1, g2⟩ := giveM_sub hc gs [] (fun x hx => by cases hx) hg
  rcases h with ⟨h1, _⟩ | ⟨h1, h2⟩
  · rw [g1] at h1; cases h1
  · exact h2.sub hnf hnu hc g2
end Go.Proofs.YtggighikemhnfaaDoor.Tm
namespace Go.Proofs.YtggighikemhnfaaDoor.Tm
open Go.RowKit
set_option linter.unusedVariables false
theorem has_any (xs : List Int) (a : Option Addr) (c : Nat) (x : Int) (w : World) (hA : IntsR w xs a c) :
    Calls Tryd.prog 75 #[.slice a xs.length c, .int .i64 x] w fun e w' => e = .returned (.bool (decide (x ∈ xs))) ∧ w = w' := by
  have HA := Lib.hid hA
  have l1 : xs.length ≤ c := hA.le
  have c1 : xs.length ≤ 9223372036854775807 := by have := hA.cap; simp only [maxLen] at this; omega
  obtain ⟨q, hq⟩ : ∃ q, decide (x ∈ xs) = q := ⟨_, rfl⟩
  have HQ := Lib.hid hq
  rw [hq]
  clear hA hq
  go_enter Tryd.func75, Tryd.ntmps75
  go_wp2
  go_loopw [5] (fun iv wr => ∃ k : Nat, k ≤ xs.length ∧ iv = .int .i64 k ∧ Hid (∀ j y, j < k → xs[j]? = some y → y ≠ x) ∧ wr = w) (fun iv _ => xs.length - (intOf iv).toNat)
  case atStart => exact ⟨0, Nat.zero_le _, rfl, (fun j y h _ => absurd h (by omega)), rfl⟩
  case round =>
    obtain ⟨k, hkl, rfl, HE, rfl⟩ := hrel
    by_cases hlt : k < xs.length
    · obtain ⟨y, hy⟩ : ∃ y, xs[k]? = some y := ⟨_, List.getElem?_eq_getElem hlt⟩
      obtain ⟨g, o, rfl, hg, q0⟩ := HA.out.cell hy
      have HY := Lib.hid hy
      clear hy
      by_cases hxy : y = x
      · have e1 : (y == x) = true := eq_t hxy
        have HR : Hid (true = q) := by
          show _ = _
          rw [← HQ.out, decide_eq_true (by rw [← hxy]; exact List.mem_of_getElem? HY.out)]
        clear hxy
        go_wp2
        go_ret
        exact ⟨ret_bool HR.out, rfl⟩
      · have e1 : (y == x) = false := eq_f hxy
        have HN : Hid (∀ j z, j < k + 1 → xs[j]? = some z → z ≠ x) := fun j z hj h1 => by
          by_cases e : j = k
          · subst e
            rw [HY.out] at h1
            cases h1
            exact hxy
          · exact HE.out j z (by omega) h1
        clear hxy
        go_wp2
        go_roundw
        case rel => exact ⟨k + 1, by omega, by go_num, HN, trivial⟩
        case measure => simp [intOf]; omega
    · obtain rfl : k = xs.length := by omega
      have HR : Hid (false = q) := by
        show _ = _
        rw [← HQ.out, decide_eq_false (fun h => by
          obtain ⟨j, hj⟩ := List.getElem?_of_mem h
          exact HE.out j x (List.getElem?_eq_some_iff.1 hj).1 hj rfl)]
      go_wp2
      go_ret
      exact ⟨ret_bool HR.out, rfl⟩
end Go.Proofs.YtggighikemhnfaaDoor.Tm
