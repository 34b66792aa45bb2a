/- Units: what a run answers, in the document's words. -/
import Derived.Test.YtggighikemhnfaaDoorUnC
namespace Go.Proofs.YtggighikemhnfaaDoor.Tm
set_option linter.unusedVariables false
def FalC (ps c : List Int) : Prop := ∀ x ∈ c, valL ps x = 2
def UniC (ps c : List Int) (y : Int) : Prop := y ∈ c ∧ valL ps y = 0 ∧ ∀ x ∈ c, valL ps x = 2 ∨ x = y
/-- The run from literals that were put to the answer. -/
inductive RunsD (cls : List (List Int)) : List Int → List Int → Int → Prop
  | conf {ps : List Int} {k : Nat} {c : List Int} : cls[k]? = some c → FalC ps c → (∀ (j : Nat) (d : List Int), j < k → cls[j]? = some d → ¬ FalC ps d) → RunsD cls ps ps (k : Int)
  | done {ps : List Int} : (∀ (j : Nat) (d : List Int), cls[j]? = some d → ¬ FalC ps d) → (∀ (j : Nat) (d : List Int), cls[j]? = some d → ∀ y, ¬ UniC ps d y) → RunsD cls ps ps (-1)
  | put {ps r : List Int} {e : Int} {k : Nat} {c : List Int} {y : Int} : (∀ (j : Nat) (d : List Int), cls[j]? = some d → ¬ FalC ps d) → cls[k]? = some c → UniC ps c y → (∀ (j : Nat) (d : List Int), j < k → cls[j]? = some d → ∀ z, ¬ UniC ps d z) → RunsD cls (ps ++ [y]) r e → RunsD cls ps r e
theorem UniC.eq {ps c : List Int} {y z : Int} (h : UniC ps c y) (k : UniC ps c z) : y = z := by
  rcases k.2.2 y h.1 with e | e
  · rw [h.2.1] at e; cases e
  · exact e
theorem RunsD.same {cls : List (List Int)} {ps r r' : List Int} {e e' : Int} (h : RunsD cls ps r e) : RunsD cls ps r' e' → r = r' ∧ e = e' := by
  induction h with
  | conf h1 h2 h3 =>
    rename_i ps k c
    intro g
    cases g with
    | conf g1 g2 g3 =>
      rename_i k' c'
      have : k = k' := by
        rcases Nat.lt_trichotomy k k' with l | l | l
        · exact absurd h2 (g3 _ _ l h1)
        · exact l
        · exact absurd g2 (h3 _ _ l g1)
      exact ⟨rfl, by rw [this]⟩
    | done g1 g2 => exact absurd h2 (g1 _ _ h1)
    | put g1 g2 g3 g4 g5 => exact absurd h2 (g1 _ _ h1)
  | done h1 h2 =>
    intro g
    cases g with
    | conf g1 g2 g3 => exact absurd g2 (h1 _ _ g1)
    | done g1 g2 => exact ⟨rfl, rfl⟩
    | put g1 g2 g3 g4 g5 => exact absurd g3 (h2 _ _ g2 _)
  | put h1 h2 h3 h4 h5 ih =>
    rename_i ps r e k c y
    intro g
    cases g with
    | conf g1 g2 g3 => exact absurd g2 (h1 _ _ g1)
    | done g1 g2 => exact absurd h3 (g2 _ _ h2 _)
    | put g1 g2 g3 g4 g5 =>
      rename_i k' c' y'
      have hk : k = k' := by
        rcases Nat.lt_trichotomy k k' with l | l | l
        · exact absurd h3 (g4 _ _ l h2 _)
        · exact l
        · exact absurd g3 (h4 _ _ l g2 _)
      subst hk
      rw [h2] at g2
      cases g2
      have hy := h3.eq g3
      subst hy
      exact ih g5
/-- What is given, put. -/
def giveM : List Int → List Int → List Int × Bool
  | ps, [] => (ps, true)
  | ps, x :: g => if mayU x = true then (if valL ps x = 0 then giveM (ps ++ [x]) g else if valL ps x = 2 then (ps, false) else giveM ps g) else giveM ps g
def RunRel (cls : List (List Int)) (given r : List Int) (e : Int) : Prop :=
  ((giveM [] given).2 = false ∧ r = (giveM [] given).1 ∧ e = -2) ∨ ((giveM [] given).2 = true ∧ RunsD cls (giveM [] given).1 r e)
theorem RunRel.same {cls : List (List Int)} {given r r' : List Int} {e e' : Int} (h : RunRel cls given r e) (k : RunRel cls given r' e') : r = r' ∧ e = e' := by
  rcases h with ⟨h1, h2, h3⟩ | ⟨h1, h2⟩ <;> rcases k with ⟨k1, k2, k3⟩ | ⟨k1, k2⟩
  · exact ⟨h2.trans k2.symm, h3.trans k3.symm⟩
  · rw [h1] at k1; cases k1
  · rw [h1] at k1; cases k1
  · exact h2.same k2
section
variable {cls : List (List Int)} {s : USt}
theorem Inv.get (h : Inv cls cls.length [] s) {k : Nat} {c : List Int} (hc : cls[k]? = some c) : ∃ r, s.rows[k]? = some r ∧ RowI s.ps c r ∧ Stat s k r := by
  have hk := (List.getElem?_eq_some_iff.1 hc).1
  obtain ⟨r, hr⟩ : ∃ r, s.rows[k]? = some r := ⟨_, List.getElem?_eq_getElem (by rw [h.len]; exact hk)⟩
  exact ⟨r, hr, h.row k r c hk hr hc, h.stat k r hk hr (by simp) (by simp)⟩
theorem RowI.in_c {ps c : List Int} {r : URow} (h : RowI ps c r) (j : Nat) (hv : valL ps (wat r j) ≠ 2) : wat r j ∈ c := by
  rcases h.mem j with e | e
  · rw [e] at hv; exact absurd rfl hv
  · exact e.1
theorem Inv.no_false (h : Inv cls cls.length [] s) {k : Nat} {c : List Int} (hc : cls[k]? = some c) (hcf : s.conf = -1 ∨ (k : Int) < s.conf) : ¬ FalC s.ps c := fun hF => by
  obtain ⟨r, hr, hI, hS⟩ := h.get hc
  have key : ∀ j, valL s.ps (wat r j) ≠ 2 → False := fun j hv => hv (hF _ (hI.in_c j hv))
  rcases hS with g | g | ⟨_, j, _, g, _⟩ | ⟨_, _, _, g1, g2⟩
  · rcases g with g | g
    · exact key 0 (by show valL s.ps r.w0 ≠ 2; rw [g]; decide)
    · exact key 1 (by show valL s.ps r.w1 ≠ 2; rw [g]; decide)
  · exact key 0 (by show valL s.ps r.w0 ≠ 2; rw [g.1]; decide)
  · exact key j (by rw [g]; decide)
  · rcases hcf with e | e
    · exact g1 e
    · omega
theorem Inv.unit (h : Inv cls cls.length [] s) (hcf : s.conf = -1) {k : Nat} {c : List Int} (hc : cls[k]? = some c) {y : Int} (hU : UniC s.ps c y) : ∃ t ∈ s.q, t / 2 = k := by
  obtain ⟨r, hr, hI, hS⟩ := h.get hc
  obtain ⟨h1, h2, h3⟩ := hU
  have key : ∀ j, valL s.ps (wat r j) ≠ 2 → wat r j = y := fun j hv => (h3 _ (hI.in_c j hv)).resolve_left hv
  rcases hS with g | g | ⟨_, j, hj, _, _, g⟩ | ⟨_, _, _, g1, g2⟩
  · exfalso
    rcases g with g | g
    · have := key 0 (by show valL s.ps r.w0 ≠ 2; rw [g]; decide)
      rw [← this] at h2
      rw [show wat r 0 = r.w0 from rfl, g] at h2; cases h2
    · have := key 1 (by show valL s.ps r.w1 ≠ 2; rw [g]; decide)
      rw [← this] at h2
      rw [show wat r 1 = r.w1 from rfl, g] at h2; cases h2
  · exfalso
    have a := key 0 (by show valL s.ps r.w0 ≠ 2; rw [g.1]; decide)
    have b := key 1 (by show valL s.ps r.w1 ≠ 2; rw [g.2]; decide)
    have := hI.ne (a.trans b.symm)
    rw [this, valL_none] at g
    cases g.1
  · exact ⟨_, g, by omega⟩
  · exact absurd hcf g1
/-- A slot of the queue. -/
theorem Inv.slot (h : Inv cls cls.length [] s) (hcf : s.conf = -1) {t : Nat} (ht : t ∈ s.q) : ∃ r c, s.rows[t / 2]? = some r ∧ cls[t / 2]? = some c ∧ mayU (wat r (t % 2)) = true ∧ (valL s.ps (wat r (t % 2)) = 0 ∧ UniC s.ps c (wat r (t % 2)) ∨ valL s.ps (wat r (t % 2)) = 1) := by
  obtain ⟨g1, _, r, g2, g3, g4, g5⟩ := h.q2 t ht
  obtain ⟨c, hc⟩ : ∃ c, cls[t / 2]? = some c := ⟨_, List.getElem?_eq_getElem g1⟩
  have hI := h.row _ r c g1 g2 hc
  have hj : t % 2 < 2 := Nat.mod_lt _ (by omega)
  refine ⟨r, c, g2, hc, g5, ?_⟩
  rcases valL_cases s.ps (wat r (t % 2)) with e | e | e
  · refine .inl ⟨e, hI.in_c _ (by rw [e]; decide), e, fun x hx => ?_⟩
    rcases hI.cover g3 x hx with g | g | g
    · exact .inl g
    · rcases (by omega : t % 2 = 0 ∨ t % 2 = 1) with e0 | e0 <;> rw [e0] at g4 ⊢
      · exact .inr g
      · exact .inl (by rw [g]; exact g4)
    · rcases (by omega : t % 2 = 0 ∨ t % 2 = 1) with e0 | e0 <;> rw [e0] at g4 ⊢
      · exact .inl (by rw [g]; exact g4)
      · exact .inr g
  · exact .inr e
  · exfalso
    have h22 := two_wat hj (p := fun z => valL s.ps z = 2) e g4
    rcases h.stat _ r g1 g2 (by simp) (by simp) with g | g | ⟨_, j, hj2, g, _⟩ | g
    · rcases g with g | g
      · rw [h22.1] at g; cases g
      · rw [h22.2] at g; cases g
    · rw [h22.1] at g; cases g.1
    · have := (wat_two hj2 (p := fun z => valL s.ps z = 2) h22).1
      rw [this] at g; cases g
    · exact g.2.2.2.1 hcf
theorem Inv.done_conf (h : Inv cls cls.length [] s) (hcf : s.conf ≠ -1) : RunsD cls s.ps s.ps s.conf := by
  rcases h.cf with e | ⟨k, r, g1, g2, g3, g4, g5, g6⟩
  · exact absurd e hcf
  · obtain ⟨c, hc⟩ : ∃ c, cls[k]? = some c := ⟨_, List.getElem?_eq_getElem g1⟩
    have hI := h.row _ r c g1 g3 hc
    have := RunsD.conf (ps := s.ps) hc (fun x hx => by
      rcases hI.cover g4 x hx with g | g | g
      · exact g
      · rw [g]; exact g5
      · rw [g]; exact g6) (fun j d hj hd => h.no_false hd (.inr (by omega)))
    rw [g2]
    exact this
theorem Inv.done_none (h : Inv cls cls.length [] s) (hcf : s.conf = -1) (hq : s.q = []) : RunsD cls s.ps s.ps (-1) :=
  .done (fun j d hd => h.no_false hd (.inl hcf)) (fun j d hd y hU => by
    obtain ⟨t, ht, _⟩ := h.unit hcf hd hU
    rw [hq] at ht
    cases ht)
theorem Inv.step (h : Inv cls cls.length [] s) (hcf : s.conf = -1) {t : Nat} (ht : t ∈ s.q) (hmin : ∀ u ∈ s.q, t ≤ u) {r : URow} (hr : s.rows[t / 2]? = some r) (hv : valL s.ps (wat r (t % 2)) = 0) {rs : List Int} {e : Int} (hR : RunsD cls (s.ps ++ [wat r (t % 2)]) rs e) : RunsD cls s.ps rs e := by
  obtain ⟨r', c, g1, g2, g3, g4⟩ := h.slot hcf ht
  rw [hr] at g1
  cases g1
  rcases g4 with g4 | g4
  · refine .put (fun j d hd => h.no_false hd (.inl hcf)) g2 g4.2 (fun j d hj hd z hU => ?_) hR
    obtain ⟨u, hu, e⟩ := h.unit hcf hd hU
    have := hmin u hu
    omega
  · rw [hv] at g4; cases g4
theorem Inv.drop (h : Inv cls cls.length [] s) {t : Nat} {r : URow} (hr : s.rows[t / 2]? = some r) (hv : valL s.ps (wat r (t % 2)) = 1) : Inv cls cls.length [] { s with q := s.q.erase t } := by
  refine ⟨h.len, h.ml, h.row, fun u hu => (by cases hu), fun k v hk hkv n1 n2 => ?_, fun u hu => (by cases hu), h.chain, h.far, (List.erase_sublist.map (· / 2)).nodup h.q1, fun u hu => h.q2 u (List.mem_of_mem_erase hu), h.cf, h.may, h.cons⟩
  rcases h.stat k v hk hkv n1 n2 with g | g | ⟨g1, j, g2, g3, g4, g5⟩ | g
  · exact .inl g
  · exact .inr (.inl g)
  · refine .inr (.inr (.inl ⟨g1, j, g2, g3, g4, (List.mem_erase_of_ne (fun e => ?_)).2 g5⟩))
    rw [← e, show (2 * k + j) / 2 = k by omega, hkv] at hr
    cases hr
    rw [← e, show (2 * k + j) % 2 = j by omega, g3] at hv
    cases hv
  · exact .inr (.inr (.inr g))
end
theorem nodup_erase {l : List Nat} {t u : Nat} (hn : (l.map (· / 2)).Nodup) (hu : u ∈ l) (h : u ∉ l.erase t) : u = t := by
  exact Decidable.byContradiction fun e => h ((List.mem_erase_of_ne e).2 hu)
/-- How many literals of the clauses are open. -/
def opens (cls : List (List Int)) (ps : List Int) : Nat := (cls.flatten.filter (fun x => decide (valL ps x = 0))).length
theorem filter_lt {l : List Int} {p q : Int → Bool} (h : ∀ x, q x = true → p x = true) {y : Int} (hy : y ∈ l) (h1 : p y = true) (h2 : q y = false) : (l.filter q).length < (l.filter p).length := by
  have hle : ∀ l : List Int, (l.filter q).length ≤ (l.filter p).length := fun l => by
    induction l with
    | nil => exact Nat.le_refl _
    | cons x r ih =>
      rw [List.filter_cons, List.filter_cons]
      by_cases hq : q x = true
      · rw [if_pos hq, if_pos (h x hq)]; simp; exact ih
      · rw [if_neg hq]
        split
        · simp; omega
        · exact ih
  induction l with
  | nil => cases hy
  | cons x r ih =>
    rw [List.filter_cons, List.filter_cons]
    rcases List.mem_cons.1 hy with e | e
    · subst e
      rw [if_pos h1, if_neg (by rw [h2]; decide)]
      have := hle r
      simp; omega
    · have := ih e
      by_cases hq : q x = true
      · rw [if_pos hq, if_pos (h x hq)]; simp; exact this
      · rw [if_neg hq]
        split
        · simp; omega
        · exact this
theorem opens_lt {cls : List (List Int)} {ps : List Int} {k : Nat} {c : List Int} {y : Int} (hc : cls[k]? = some c) (hy : y ∈ c) (hv : valL ps y = 0) : opens cls (ps ++ [y]) < opens cls ps := by
  refine filter_lt (fun x hx => ?_) (List.mem_flatten.2 ⟨c, List.mem_of_getElem? hc, hy⟩) (decide_eq_true hv) (decide_eq_false (by rw [put_self hv]; decide))
  exact decide_eq_true (put_back hv (of_decide_eq_true hx)).1
end Go.Proofs.YtggighikemhnfaaDoor.Tm
