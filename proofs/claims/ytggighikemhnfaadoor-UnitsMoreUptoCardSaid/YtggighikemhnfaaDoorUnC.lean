/- Units: a literal is put; a clause comes in; what a run answers. -/
import Derived.Test.YtggighikemhnfaaDoorUnB
namespace Go.Proofs.YtggighikemhnfaaDoor.Tm
set_option linter.unusedVariables false
theorem val_zero {ps : List Int} {x : Int} (h : valL ps x = 0) : mayU x = true ∧ x ∉ ps ∧ negM x ∉ ps := by
  have hm := valL_may (ps := ps) (x := x) (by rw [h]; decide)
  unfold valL at h
  rw [if_pos hm] at h
  split at h
  · cases h
  · split at h
    · cases h
    · exact ⟨hm, by assumption, by assumption⟩
theorem val_one {ps : List Int} {x : Int} (h : valL ps x = 1) : mayU x = true ∧ x ∈ ps := by
  have hm := valL_may (ps := ps) (x := x) (by rw [h]; decide)
  unfold valL at h
  rw [if_pos hm] at h
  split at h
  · exact ⟨hm, by assumption⟩
  · split at h <;> cases h
theorem val_mem {ps : List Int} {x : Int} (hm : mayU x = true) (h : x ∈ ps) : valL ps x = 1 := by unfold valL; rw [if_pos hm, if_pos h]
theorem val_neg {ps : List Int} {x : Int} (h : x ∉ ps) (h2 : negM x ∈ ps) : valL ps x = 2 := by
  unfold valL
  by_cases hm : mayU x = true
  · rw [if_pos hm, if_neg h, if_pos h2]
  · rw [if_neg hm]
theorem put_self {ps : List Int} {l : Int} (h : valL ps l = 0) : valL (ps ++ [l]) l = 1 := val_mem (val_zero h).1 (by simp)
theorem put_neg {ps : List Int} {l : Int} (h : valL ps l = 0) : valL (ps ++ [l]) (negM l) = 2 := by
  obtain ⟨_, h1, h2⟩ := val_zero h
  exact val_neg (fun e => (List.mem_append.1 e).elim h2 (fun e => negM_ne l (by simpa using e))) (by rw [negM_neg]; simp)
theorem put_other {ps : List Int} {l x : Int} (h1 : x ≠ l) (h2 : x ≠ negM l) : valL (ps ++ [l]) x = valL ps x := by
  have e1 : x ∈ ps ++ [l] ↔ x ∈ ps := by simp [h1]
  have e2 : negM x ∈ ps ++ [l] ↔ negM x ∈ ps := by
    have : negM x ≠ l := fun e => h2 (by rw [← e, negM_neg])
    simp [this]
  unfold valL
  simp only [e1, e2]
theorem val_negz {ps : List Int} {l : Int} (h : valL ps l = 0) (hm : mayU (negM l) = true) : valL ps (negM l) = 0 := by
  obtain ⟨_, h1, h2⟩ := val_zero h
  unfold valL
  rw [if_pos hm, if_neg h2, negM_neg, if_neg h1]
theorem put_keep {ps : List Int} {l x : Int} (h : valL ps l = 0) (hx : valL ps x ≠ 0) : valL (ps ++ [l]) x = valL ps x := by
  by_cases e : x = negM l
  · subst e
    by_cases hm : mayU (negM l) = true
    · exact absurd (val_negz h hm) hx
    · unfold valL
      rw [if_neg hm, if_neg hm]
  · exact put_other (fun e => hx (by rw [e]; exact h)) e
theorem put_two {ps : List Int} {l x : Int} (h : valL ps l = 0) (hx : valL ps x = 2) : valL (ps ++ [l]) x = 2 := (put_keep h (by rw [hx]; decide)).trans hx
theorem put_one {ps : List Int} {l x : Int} (h : valL ps l = 0) (hx : valL ps x = 1) : valL (ps ++ [l]) x = 1 := (put_keep h (by rw [hx]; decide)).trans hx
theorem put_back {ps : List Int} {l x : Int} (h : valL ps l = 0) (hx : valL (ps ++ [l]) x = 0) : valL ps x = 0 ∧ x ≠ l ∧ x ≠ negM l := by
  refine ⟨Decidable.byContradiction fun e => e ((put_keep h e).symm.trans hx), fun e => ?_, fun e => ?_⟩
  · rw [e, put_self h] at hx; cases hx
  · rw [e, put_neg h] at hx; cases hx
/-- What watches the Neg. -/
def ChN (cls : List (List Int)) (m : Nat) (s : USt) (l : Int) (cs : List Nat) : Prop :=
  ChainL s.rows (s.heads (negM l)) cs ∧ cs.Nodup ∧ ∀ t, t ∈ cs ↔ (t / 2 < m ∧ ∃ r, s.rows[t / 2]? = some r ∧ wat r (t % 2) = negM l)
theorem Inv.wat_may {cls : List (List Int)} {m : Nat} {P : List Nat} {s : USt} (h : Inv cls m P s) {k : Nat} {r : URow} (hk : k < m) (hr : s.rows[k]? = some r) (j : Nat) : wat r j = -1 ∨ mayU (wat r j) = true := by
  obtain ⟨c, hc⟩ : ∃ c, cls[k]? = some c := ⟨_, List.getElem?_eq_getElem (by have := h.ml; omega)⟩
  exact ((h.row _ _ _ hk hr hc).mem j).imp_right And.right
theorem Inv.chn {cls : List (List Int)} {m : Nat} {P : List Nat} {s : USt} (h : Inv cls m P s) {l : Int} (hl : valL s.ps l = 0) : ∃ cs, ChN cls m s l cs := by
  by_cases hm : mayU (negM l) = true
  · exact h.chain _ (val_negz hl hm)
  · refine ⟨[], h.far _ (by simpa using hm), List.nodup_nil, fun t => ⟨fun e => (by cases e), fun ⟨g1, r, g2, g3⟩ => ?_⟩⟩
    have hl0 := (mayU_iff.1 (val_zero hl).1).1
    have hn0 := negM_nonneg hl0
    rcases h.wat_may g1 g2 (t % 2) with e | e
    · rw [g3] at e; omega
    · rw [g3] at e; exact absurd e hm
theorem put_inv {cls : List (List Int)} {m : Nat} {s : USt} {l : Int} {cs q' : List Nat} (h : Inv cls m [] s) (hcf : s.conf = -1) (hl : valL s.ps l = 0) (hc : ChN cls m s l cs) (hq : q'.Sublist s.q)
    (hrem : ∀ t ∈ s.q, t ∉ q' → ∀ r, s.rows[t / 2]? = some r → wat r (t % 2) = l) : Inv cls m cs { s with ps := s.ps ++ [l], q := q' } := by
  have hl0 := (mayU_iff.1 (val_zero hl).1).1
  have hn0 := negM_nonneg hl0
  have hboth : ∀ k r, k < m → s.rows[k]? = some r → ∀ j, j < 2 → wat r j = negM l → wat r (1 - j) ≠ negM l := fun k r hk hr j hj e e2 => by
    obtain ⟨c, hcc⟩ : ∃ c, cls[k]? = some c := ⟨_, List.getElem?_eq_getElem (by have := h.ml; omega)⟩
    have := (h.row _ _ _ hk hr hcc).ne' hj (e.trans e2.symm)
    omega
  have hnP : ∀ k, 2 * k ∉ ([] : List Nat) := fun k e => by cases e
  refine ⟨h.len, h.ml, fun k r c hk hr hcc => ?_, fun t ht => ?_, fun k r hk hr n1 n2 => ?_, fun t ht e => ?_, fun x hx => ?_, h.far, ?_, fun t ht => ?_, .inl hcf, fun x hx => ?_, fun x hx e => ?_⟩
  · have hI := h.row k r c hk hr hcc
    obtain ⟨pre, g1, g2⟩ := hI.suf
    exact ⟨⟨pre, g1, fun x hx => (g2 x hx).imp_left (put_two hl)⟩, hI.m0, hI.m1, hI.ne⟩
  · obtain ⟨g1, r, g2, g3⟩ := (hc.2.2 t).1 ht
    refine ⟨g1, fun v hv => ?_⟩
    obtain rfl : v = r := Option.some.inj ((hv : s.rows[t / 2]? = some v).symm.trans g2)
    have hj : t % 2 < 2 := Nat.mod_lt _ (by omega)
    refine ⟨by rw [g3]; exact put_neg hl, fun e => ?_⟩
    have ho : wat v (1 - t % 2) ≠ negM l := hboth _ _ g1 g2 _ hj g3
    have ho2 : valL s.ps (wat v (1 - t % 2)) = 2 := by
      rcases valL_cases s.ps (wat v (1 - t % 2)) with e0 | e0 | e0
      · by_cases hwl : wat v (1 - t % 2) = l
        · have e1 : valL (s.ps ++ [l]) (wat v (1 - t % 2)) = 2 := e
          rw [hwl, put_self hl] at e1
          cases e1
        · have e1 : valL (s.ps ++ [l]) (wat v (1 - t % 2)) = 2 := e
          rw [put_other hwl ho, e0] at e1
          cases e1
      · have e1 : valL (s.ps ++ [l]) (wat v (1 - t % 2)) = 2 := e
        rw [put_one hl e0] at e1
        cases e1
      · exact e0
    have hmn : mayU (negM l) = true := by
      rcases h.wat_may g1 g2 (t % 2) with e | e
      · rw [g3] at e; omega
      · rw [g3] at e; exact e
    have hz := val_negz hl hmn
    rcases h.stat (t / 2) v g1 g2 (hnP _) (fun e => by cases e) with g | g | g | g
    · have : ∃ j, j < 2 ∧ valL s.ps (wat v j) = 1 := g.elim (fun g => ⟨0, by omega, g⟩) (fun g => ⟨1, by omega, g⟩)
      obtain ⟨j, hj2, hv1⟩ := this
      by_cases ej : j = t % 2
      · subst ej
        rw [g3, hz] at hv1; cases hv1
      · rw [show j = 1 - t % 2 by omega, ho2] at hv1; cases hv1
    · have := (wat_two hj (p := fun z => valL s.ps z = 0) g).2
      rw [ho2] at this; cases this
    · exact g.1
    · exact g.1
  · have nin : ∀ j, j < 2 → wat r j ≠ negM l := fun j hj e => by
      have : 2 * k + j ∈ cs := (hc.2.2 _).2 ⟨by omega, r, by rw [show (2 * k + j) / 2 = k by omega]; exact hr, by rw [show (2 * k + j) % 2 = j by omega]; exact e⟩
      rcases (by omega : j = 0 ∨ j = 1) with rfl | rfl
      · exact n1 this
      · exact n2 this
    have w0 : r.w0 ≠ negM l := nin 0 (by omega)
    have w1 : r.w1 ≠ negM l := nin 1 (by omega)
    have z0 : ∀ x, x ≠ negM l → valL s.ps x = 0 → x = l ∨ valL (s.ps ++ [l]) x = 0 := fun x h1 h2 => by
      by_cases e : x = l
      · exact .inl e
      · exact .inr ((put_other e h1).trans h2)
    rcases h.stat k r hk hr (hnP _) (fun e => by cases e) with g | g | ⟨g1, j, g2, g3, g4, g5⟩ | g
    · exact .inl (g.imp (put_one hl) (put_one hl))
    · rcases z0 _ w0 g.1 with e | e
      · exact .inl (.inl (by show valL (s.ps ++ [l]) r.w0 = 1; rw [e]; exact put_self hl))
      · rcases z0 _ w1 g.2 with e2 | e2
        · exact .inl (.inr (by show valL (s.ps ++ [l]) r.w1 = 1; rw [e2]; exact put_self hl))
        · exact .inr (.inl ⟨e, e2⟩)
    · rcases z0 _ (nin j g2) g3 with e | e
      · refine .inl ?_
        have := or_wat (r := r) (k := 1 - j) (by omega) (p := fun z => valL (s.ps ++ [l]) z = 1) (by rw [show 1 - (1 - j) = j by omega, e]; exact put_self hl)
        exact this
      · refine .inr (.inr (.inl ⟨g1, j, g2, e, put_two hl g4, Decidable.byContradiction fun hn => ?_⟩))
        have := hrem _ g5 hn r (by rw [show (2 * k + j) / 2 = k by omega]; exact hr)
        rw [show (2 * k + j) % 2 = j by omega] at this
        rw [this, put_self hl] at e; cases e
    · exact absurd hcf g.2.2.2.1
  · obtain ⟨g1, r, g2, g3⟩ := (hc.2.2 t).1 ht
    obtain ⟨_, r', g4, g5⟩ := (hc.2.2 _).1 e
    rw [sib_half, g2] at g4
    cases g4
    rw [sib_mod] at g5
    exact hboth _ _ g1 g2 _ (Nat.mod_lt _ (by omega)) g3 g5
  · exact h.chain x (put_back hl hx).1
  · exact (hq.map (· / 2)).nodup h.q1
  · obtain ⟨g1, _, r, g2, g3, g4, g5⟩ := h.q2 t (hq.subset ht)
    refine ⟨g1, fun e => ?_, r, g2, g3, put_two hl g4, g5⟩
    obtain ⟨_, r', g6, g7⟩ := (hc.2.2 _).1 e
    rw [sib_half, g2] at g6
    cases g6
    rw [sib_mod] at g7
    rw [g7] at g4
    have hmn : mayU (negM l) = true := by
      rcases h.wat_may g1 g2 (1 - t % 2) with e | e
      · rw [g7] at e; omega
      · rw [g7] at e; exact e
    rw [val_negz hl hmn] at g4; cases g4
  · rcases List.mem_append.1 hx with hx | hx
    · exact h.may x hx
    · rw [show x = l by simpa using hx]; exact (val_zero hl).1
  · obtain ⟨_, h1, h2⟩ := val_zero hl
    rcases List.mem_append.1 hx with hx | hx <;> rcases List.mem_append.1 e with e | e
    · exact h.cons x hx e
    · have : negM x = l := by simpa using e
      exact h2 (by rw [← this, negM_neg]; exact hx)
    · rw [show x = l by simpa using hx] at e
      exact h2 e
    · rw [show x = l by simpa using hx] at e
      exact negM_ne l (by simpa using e)
theorem fold_inv {cls : List (List Int)} {m : Nat} : ∀ {cs : List Nat} {s : USt}, Inv cls m cs s → cs.Nodup → Inv cls m [] (cs.foldl lookM s)
  | [], s, h, _ => h
  | t :: cs, s, h, hn => fold_inv (cs := cs) (s := lookM s t) (look_inv h hn) (List.nodup_cons.1 hn).2
theorem fold_ps : ∀ (cs : List Nat) (s : USt), (cs.foldl lookM s).ps = s.ps
  | [], s => rfl
  | t :: cs, s => by rw [List.foldl_cons, fold_ps cs, lookM_ps]
/-- A clause comes in: its first slot is looked at. -/
theorem start_inv {cls : List (List Int)} {k : Nat} {s : USt} {c : List Int} (h : Inv cls k [] s) (hc : cls[k]? = some c) : Inv cls (k + 1) [2 * k + 1] (lookM { s with rows := s.rows.set k ⟨c, -1, -1, 0, 0⟩ } (2 * k)) := by
  have hkl := (List.getElem?_eq_some_iff.1 hc).1
  have hlen : k < s.rows.length := by rw [h.len]; exact hkl
  obtain ⟨r0, hr0⟩ : ∃ r, s.rows[k]? = some r := ⟨_, List.getElem?_eq_getElem hlen⟩
  have e2 : 2 * k / 2 = k := by omega
  have e3 : 2 * k % 2 = 0 := by omega
  have e4 : (2 * k + 1) / 2 = k := by omega
  have e5 : (2 * k + 1) % 2 = 1 := by omega
  have hr : (s.rows.set k ⟨c, -1, -1, 0, 0⟩)[2 * k / 2]? = some (⟨c, -1, -1, 0, 0⟩ : URow) := by rw [e2, get_set hr0, if_pos rfl]
  have hold : ∀ (r' : URow) (j : Nat), j < k → ((s.rows.set k (⟨c, -1, -1, 0, 0⟩ : URow)).set (2 * k / 2) r')[j]? = s.rows[j]? := fun r' j hj => by
    rw [get_set hr, if_neg (by omega), get_set hr0, if_neg (by omega)]
  have hat : ∀ (r' : URow), ((s.rows.set k (⟨c, -1, -1, 0, 0⟩ : URow)).set (2 * k / 2) r')[k]? = some r' := fun r' => by
    rw [get_set hr, if_pos e2.symm]
  have hr2 : ∀ (r' : URow), ((s.rows.set k (⟨c, -1, -1, 0, 0⟩ : URow)).set (2 * k / 2) r')[2 * k / 2]? = some r' := fun r' => by
    rw [get_set hr, if_pos rfl]
  have hlen2 : ∀ (r' : URow), ((s.rows.set k (⟨c, -1, -1, 0, 0⟩ : URow)).set (2 * k / 2) r').length = cls.length := fun r' => by
    rw [List.length_set, List.length_set]; exact h.len
  have hkm : ∀ j, 2 * j ∉ [2 * k + 1] → 2 * j + 1 ∉ [2 * k + 1] → j ≠ k := fun j _ n2 e => n2 (by rw [e]; simp)
  have hone : ∀ t ∈ [2 * k + 1], sib t ∉ [2 * k + 1] := fun t ht e => by
    rw [show t = 2 * k + 1 by simpa using ht] at e
    have : sib (2 * k + 1) = 2 * k + 1 := by simpa using e
    exact sib_ne _ this
  have hq2 : ∀ (r' : URow) (q : List Nat), (∀ t ∈ q, t ∈ s.q) → ∀ t ∈ q, t / 2 < k + 1 ∧ sib t ∉ [2 * k + 1] ∧ ∃ r, ((s.rows.set k (⟨c, -1, -1, 0, 0⟩ : URow)).set (2 * k / 2) r')[t / 2]? = some r ∧ r.rest = [] ∧ valL s.ps (wat r (1 - t % 2)) = 2 ∧ mayU (wat r (t % 2)) = true := fun r' q hq t ht => by
    obtain ⟨g1, _, r, g2, g3⟩ := h.q2 t (hq t ht)
    refine ⟨by omega, fun e => ?_, r, by rw [hold r' _ g1]; exact g2, g3⟩
    have : sib t = 2 * k + 1 := by simpa using e
    have h2 := sib_half t
    omega
  -- chains of a literal that the new row does not watch
  have hch : ∀ (r' : URow) (n y : Int) (cs : List Nat), ChO s.rows k n y cs → (∀ j, j < 2 → wat r' j ≠ y) → ChO ((s.rows.set k (⟨c, -1, -1, 0, 0⟩ : URow)).set (2 * k / 2) r') (k + 1) n y cs := fun r' n y cs hcs hw => by
    refine ⟨hcs.1.same (fun t ht u hu => ⟨u, by rw [hold r' _ ((hcs.2.2 t).1 ht).1]; exact hu, rfl⟩), hcs.2.1, fun t => (hcs.2.2 t).trans ⟨fun ⟨g1, r, g2, g3⟩ => ⟨by omega, r, by rw [hold r' _ g1]; exact g2, g3⟩, fun ⟨g1, r, g2, g3⟩ => ?_⟩⟩
    by_cases ht : t / 2 = k
    · rw [ht, hat r'] at g2
      cases g2
      exact absurd g3 (hw _ (Nat.mod_lt _ (by omega)))
    · refine ⟨by omega, r, ?_, g3⟩
      rw [hold r' _ (by omega)] at g2
      exact g2
  have hno : ∀ y, valL s.ps y = 0 → y ≠ -1 := fun y hy e => by rw [e, valL_none] at hy; cases hy
  unfold lookM
  dsimp only
  rw [hr]
  dsimp only
  have hw1 : wat (⟨c, -1, -1, 0, 0⟩ : URow) (1 - 2 * k % 2) = -1 := by rw [e3]; rfl
  rw [hw1, valL_none, if_neg (by decide)]
  split
  · rename_i x rest hs
    obtain ⟨s1, s2, pre2, s3, s4⟩ := seekM_some hs
    have hxc : x ∈ c := by show x ∈ c; rw [show c = pre2 ++ x :: rest from s3]; simp
    have hp : putW (⟨c, -1, -1, 0, 0⟩ : URow) (2 * k % 2) x (s.heads x) rest = ⟨rest, x, -1, s.heads x, 0⟩ := by rw [e3]; rfl
    rw [hp]
    refine ⟨hlen2 _, hkl, fun j r d hj hrj hd => ?_, fun t ht => ?_, fun j r hj hrj n1 n2 => ?_, hone, fun y hy => ?_, fun y hy => ?_, h.q1, hq2 _ _ (fun _ h => h), ?_, h.may, h.cons⟩
    · by_cases ejk : j = k
      · subst ejk
        rw [hat] at hrj
        cases hrj
        rw [hc] at hd
        cases hd
        refine ⟨⟨pre2 ++ [x], by rw [show c = pre2 ++ x :: rest from s3]; simp, fun y hy => ?_⟩, .inr ⟨hxc, valL_may s2⟩, .inl rfl, fun e => absurd e s1⟩
        rcases List.mem_append.1 hy with hy | hy
        · rcases s4 y hy with g | g
          · exact .inl g
          · exact .inl (by rw [g]; rfl)
        · exact .inr (.inl (by simpa using hy))
      · rw [hold _ _ (by omega)] at hrj
        exact h.row j r d (by omega) hrj hd
    · rw [show t = 2 * k + 1 by simpa using ht, e4]
      refine ⟨by omega, fun v hv => ?_⟩
      have hv2 := (hat _).symm.trans hv
      cases hv2
      rw [e5]
      exact ⟨rfl, fun e => absurd e s2⟩
    · have ejk := hkm j n1 n2
      rw [hold _ _ (by omega)] at hrj
      exact (h.stat j r (by omega) hrj (by simp) (by simp)).grow rfl (fun _ h => h) (fun a b => ⟨a, b⟩)
    · obtain ⟨cs, hcs⟩ := h.chain y hy
      show ∃ cs, ChO _ (k + 1) (if y = x then ((2 * k : Nat) : Int) + 1 else s.heads y) y cs
      by_cases hyx : y = x
      · subst hyx
        rw [if_pos rfl]
        have hnk : 2 * k ∉ cs := fun e => by have := ((hcs.2.2 _).1 e).1; omega
        refine ⟨2 * k :: cs, ⟨rfl, ⟨rest, y, -1, s.heads y, 0⟩, hr2 _, ?_⟩, List.nodup_cons.2 ⟨hnk, hcs.2.1⟩, fun t => ?_⟩
        · rw [e3]
          exact hcs.1.same (fun t ht u hu => ⟨u, by rw [hold _ _ ((hcs.2.2 t).1 ht).1]; exact hu, rfl⟩)
        · rw [List.mem_cons, hcs.2.2 t]
          constructor
          · rintro (e | ⟨g1, r, g2, g3⟩)
            · subst e
              exact ⟨by omega, _, hr2 _, by rw [e3]; rfl⟩
            · exact ⟨by omega, r, by rw [hold _ _ g1]; exact g2, g3⟩
          · rintro ⟨g1, r, g2, g3⟩
            by_cases htk : t / 2 = k
            · rw [htk, hat] at g2
              cases g2
              by_cases ht0 : t % 2 = 0
              · exact .inl (by omega)
              · rw [show t % 2 = 1 by omega] at g3
                exact absurd g3.symm (hno y hy)
            · rw [hold _ _ (by omega)] at g2
              exact .inr ⟨by omega, r, g2, g3⟩
      · rw [if_neg hyx]
        refine ⟨cs, hch _ _ _ _ hcs (fun j hj => ?_)⟩
        rcases (by omega : j = 0 ∨ j = 1) with rfl | rfl
        · exact fun e => hyx e.symm
        · exact fun e => hno y hy e.symm
    · show (if y = x then ((2 * k : Nat) : Int) + 1 else s.heads y) = 0
      rw [if_neg (fun e => by subst e; rw [valL_may s2] at hy; cases hy)]
      exact h.far y hy
    · rcases h.cf with e | ⟨j, r, g1, g2, g3, g4⟩
      · exact .inl e
      · exact .inr ⟨j, r, by omega, g2, by rw [hold _ _ g1]; exact g3, g4⟩
  · rename_i x rest hs
    obtain ⟨s1, s2⟩ := seekM_none hs
    rw [if_neg (by decide), e2]
    obtain ⟨cf, hcf⟩ : ∃ cf, (if s.conf = -1 ∨ (k : Int) < s.conf then (k : Int) else s.conf) = cf := ⟨_, rfl⟩
    rw [hcf]
    have hle : cf ≠ -1 ∧ (s.conf ≠ -1 → cf ≤ s.conf) ∧ (cf = (k : Int) ∨ cf = s.conf) := by
      rw [← hcf]
      split
      · rename_i e
        refine ⟨by omega, fun e2 => ?_, .inl rfl⟩
        rcases e with e | e
        · exact absurd e e2
        · omega
      · rename_i e
        exact ⟨fun e' => e (.inl e'), fun _ => Int.le_refl _, .inr rfl⟩
    have hold' := fun r' j hj => (hold r' j hj)
    rw [e2] at hold hat hlen2 hch
    refine ⟨hlen2 _, hkl, fun j r d hj hrj hd => ?_, fun t ht => ?_, fun j r hj hrj n1 n2 => ?_, hone, fun y hy => ?_, h.far, h.q1, ?_, ?_, h.may, h.cons⟩
    · by_cases ejk : j = k
      · subst ejk
        rw [hat] at hrj
        cases hrj
        rw [hc] at hd
        cases hd
        exact ⟨⟨c, by simp, fun y hy => (s2 y hy).imp_right (fun e => .inl e)⟩, .inl rfl, .inl rfl, fun _ => rfl⟩
      · rw [hold _ _ (by omega)] at hrj
        exact h.row j r d (by omega) hrj hd
    · rw [show t = 2 * k + 1 by simpa using ht, e4]
      refine ⟨by omega, fun v hv => ?_⟩
      have hv2 := (hat _).symm.trans hv
      cases hv2
      rw [e5]
      exact ⟨rfl, fun _ => rfl⟩
    · have ejk := hkm j n1 n2
      rw [hold _ _ (by omega)] at hrj
      exact (h.stat j r (by omega) hrj (by simp) (by simp)).grow rfl (fun _ h => h) (fun a b => ⟨hle.1, Int.le_trans (hle.2.1 a) b⟩)
    · obtain ⟨cs, hcs⟩ := h.chain y hy
      refine ⟨cs, hch _ _ _ _ hcs (fun j hj => ?_)⟩
      rcases (by omega : j = 0 ∨ j = 1) with rfl | rfl <;> exact fun e => hno y hy e.symm
    · have := hq2 { rest := [], w0 := -1, w1 := -1, n0 := 0, n1 := 0 } s.q (fun _ h => h)
      rw [e2] at this
      exact this
    · rcases hle.2.2 with e | e
      · exact .inr ⟨k, _, by omega, e, hat _, rfl, rfl, rfl⟩
      · rcases h.cf with g | ⟨j, r, g1, g2, g3, g4⟩
        · exact absurd (e.trans g) hle.1
        · exact .inr ⟨j, r, by omega, e.trans g2, by rw [hold _ _ g1]; exact g3, g4⟩
end Go.Proofs.YtggighikemhnfaaDoor.Tm
