/- Units: a look at a slot keeps what the run keeps. -/
import Derived.Test.YtggighikemhnfaaDoorUnA
namespace Go.Proofs.YtggighikemhnfaaDoor.Tm
set_option linter.unusedVariables false
theorem get_set {rows : List URow} {a k : Nat} {r r' : URow} (h : rows[a]? = some r) : (rows.set a r')[k]? = if k = a then some r' else rows[k]? := by
  have hlt := (List.getElem?_eq_some_iff.1 h).1
  rw [List.getElem?_set]
  split
  · rename_i e
    subst e
    simp
  · rename_i e
    rw [if_neg (fun e' => e e'.symm)]
/-- A chain of an open literal. -/
def ChO (rows : List URow) (m : Nat) (n x : Int) (cs : List Nat) : Prop :=
  ChainL rows n cs ∧ cs.Nodup ∧ ∀ t, t ∈ cs ↔ (t / 2 < m ∧ ∃ r, rows[t / 2]? = some r ∧ wat r (t % 2) = x)
theorem ChO.rest {rows : List URow} {m a : Nat} {n x : Int} {cs : List Nat} {r r' : URow} (h : ChO rows m n x cs) (hr : rows[a]? = some r) (hw : ∀ j, wat r' j = wat r j) (hn : ∀ j, nxt r' j = nxt r j) : ChO (rows.set a r') m n x cs := by
  refine ⟨h.1.same (fun t ht u hu => ?_), h.2.1, fun t => (h.2.2 t).trans ⟨fun ⟨h1, u, h2, h3⟩ => ⟨h1, ?_⟩, fun ⟨h1, u, h2, h3⟩ => ⟨h1, ?_⟩⟩⟩
  · rw [get_set hr]
    split
    · rename_i e
      rw [e, hr] at hu
      cases hu
      exact ⟨r', rfl, hn _⟩
    · exact ⟨u, hu, rfl⟩
  · rw [get_set hr]
    split
    · rename_i e
      rw [e, hr] at h2
      cases h2
      exact ⟨r', rfl, (hw _).trans h3⟩
    · exact ⟨u, h2, h3⟩
  · rw [get_set hr] at h2
    split at h2
    · rename_i e
      cases h2
      exact ⟨r, by rw [e]; exact hr, (hw _).symm.trans h3⟩
    · exact ⟨u, h2, h3⟩
theorem ChO.other {rows : List URow} {m a : Nat} {n x y nn : Int} {cs : List Nat} {r : URow} {rest : List Int} {j : Nat} (hj : j < 2) (h : ChO rows m n y cs) (hr : rows[a]? = some r) (h1 : wat r j ≠ y) (h2 : x ≠ y) : ChO (rows.set a (putW r j x nn rest)) m n y cs := by
  refine ⟨h.1.same (fun t ht u hu => ?_), h.2.1, fun t => (h.2.2 t).trans ⟨fun ⟨g1, u, g2, g3⟩ => ⟨g1, ?_⟩, fun ⟨g1, u, g2, g3⟩ => ⟨g1, ?_⟩⟩⟩
  · rw [get_set hr]
    split
    · rename_i e
      rw [e, hr] at hu
      cases hu
      obtain ⟨_, v, hv, hv2⟩ := (h.2.2 t).1 ht
      rw [e, hr] at hv
      cases hv
      refine ⟨_, rfl, ?_⟩
      rw [nxt_putW hj (Nat.mod_lt _ (by omega)), if_neg (fun e' => h1 (by rw [← e']; exact hv2))]
    · exact ⟨u, hu, rfl⟩
  · rw [get_set hr]
    split
    · rename_i e
      rw [e, hr] at g2
      cases g2
      refine ⟨_, rfl, ?_⟩
      rw [wat_putW hj (Nat.mod_lt _ (by omega)), if_neg (fun e' => h1 (by rw [← e']; exact g3))]
      exact g3
    · exact ⟨u, g2, g3⟩
  · rw [get_set hr] at g2
    split at g2
    · rename_i e
      cases g2
      rw [wat_putW hj (Nat.mod_lt _ (by omega))] at g3
      split at g3
      · exact absurd g3 h2
      · exact ⟨r, by rw [e]; exact hr, g3⟩
    · exact ⟨u, g2, g3⟩
theorem ChO.more {rows : List URow} {m : Nat} {n x : Int} {cs : List Nat} {r : URow} {rest : List Int} {t : Nat} (h : ChO rows m n x cs) (hr : rows[t / 2]? = some r) (h1 : wat r (t % 2) ≠ x) (ht : t / 2 < m) :
    ChO (rows.set (t / 2) (putW r (t % 2) x n rest)) m ((t : Int) + 1) x (t :: cs) := by
  have hj : t % 2 < 2 := Nat.mod_lt _ (by omega)
  have hn : t ∉ cs := fun e => by
    obtain ⟨_, v, hv, hv2⟩ := (h.2.2 t).1 e
    rw [hr] at hv
    cases hv
    exact h1 hv2
  refine ⟨⟨rfl, putW r (t % 2) x n rest, by rw [get_set hr, if_pos rfl], ?_⟩, List.nodup_cons.2 ⟨hn, h.2.1⟩, fun u => ?_⟩
  · rw [nxt_putW hj hj, if_pos rfl]
    refine h.1.same (fun u hu v hv => ?_)
    rw [get_set hr]
    split
    · rename_i e
      rw [e, hr] at hv
      cases hv
      refine ⟨_, rfl, ?_⟩
      rw [nxt_putW hj (Nat.mod_lt _ (by omega)), if_neg (fun e' => hn (by have : u = t := by omega
                                                                          rw [← this]; exact hu))]
    · exact ⟨v, hv, rfl⟩
  · rw [List.mem_cons, h.2.2 u]
    by_cases hut : u = t
    · subst hut
      exact ⟨fun _ => ⟨ht, _, by rw [get_set hr, if_pos rfl], by rw [wat_putW hj hj, if_pos rfl]⟩, fun _ => .inl rfl⟩
    · constructor
      · rintro (e | ⟨g1, v, g2, g3⟩)
        · exact absurd e hut
        · refine ⟨g1, ?_⟩
          rw [get_set hr]
          split
          · rename_i e
            rw [e, hr] at g2
            cases g2
            refine ⟨_, rfl, ?_⟩
            rw [wat_putW hj (Nat.mod_lt _ (by omega)), if_neg (fun e' => by omega)]
            exact g3
          · exact ⟨v, g2, g3⟩
      · rintro ⟨g1, v, g2, g3⟩
        refine .inr ⟨g1, ?_⟩
        rw [get_set hr] at g2
        split at g2
        · rename_i e
          cases g2
          rw [wat_putW hj (Nat.mod_lt _ (by omega)), if_neg (fun e' => by omega)] at g3
          exact ⟨r, by rw [e]; exact hr, g3⟩
        · exact ⟨v, g2, g3⟩
theorem two_k {k t : Nat} {P : List Nat} (h : k ≠ t / 2) (h1 : 2 * k ∉ P) (h2 : 2 * k + 1 ∉ P) : 2 * k ∉ t :: P ∧ 2 * k + 1 ∉ t :: P :=
  ⟨fun e => (List.mem_cons.1 e).elim (fun e => h (by omega)) h1, fun e => (List.mem_cons.1 e).elim (fun e => h (by omega)) h2⟩
theorem Stat.grow {s s' : USt} {k : Nat} {r : URow} (h : Stat s k r) (hp : s'.ps = s.ps) (hq : ∀ t ∈ s.q, t ∈ s'.q) (hc : s.conf ≠ -1 → s.conf ≤ (k : Int) → s'.conf ≠ -1 ∧ s'.conf ≤ (k : Int)) : Stat s' k r := by
  unfold Stat at h ⊢
  rw [hp]
  rcases h with h | h | ⟨h1, j, h2, h3, h4, h5⟩ | ⟨h1, h2, h3, h4, h5⟩
  · exact .inl h
  · exact .inr (.inl h)
  · exact .inr (.inr (.inl ⟨h1, j, h2, h3, h4, hq _ h5⟩))
  · exact .inr (.inr (.inr ⟨h1, h2, h3, hc h4 h5⟩))
set_option maxHeartbeats 1000000 in
theorem look_inv {cls : List (List Int)} {m t : Nat} {P : List Nat} {s : USt} (h : Inv cls m (t :: P) s) (hn : (t :: P).Nodup) : Inv cls m P (lookM s t) := by
  obtain ⟨hnP, hP⟩ := List.nodup_cons.1 hn
  obtain ⟨htm, hpd⟩ := h.pend t (by simp)
  have hlen : t / 2 < s.rows.length := by rw [h.len]; have := h.ml; omega
  obtain ⟨r, hr⟩ : ∃ r, s.rows[t / 2]? = some r := ⟨_, List.getElem?_eq_getElem hlen⟩
  obtain ⟨c, hc⟩ : ∃ c, cls[t / 2]? = some c := ⟨_, List.getElem?_eq_getElem (by have := h.ml; omega)⟩
  have hj : t % 2 < 2 := Nat.mod_lt _ (by omega)
  have hI := h.row _ _ _ htm hr hc
  obtain ⟨p1, p2⟩ := hpd r hr
  have hsib : sib t ∉ P := fun e => h.one t (by simp) (List.mem_cons_of_mem _ e)
  have hPne : ∀ u ∈ P, u / 2 ≠ t / 2 := fun u hu e => by
    by_cases hut : u = t
    · exact hnP (by rw [← hut]; exact hu)
    · exact hsib (by rw [← sib_of e.symm (fun e' => hut e'.symm)]; exact hu)
  have hq2 : ∀ u ∈ s.q, u / 2 < m ∧ sib u ∉ P ∧ ∃ r, s.rows[u / 2]? = some r ∧ r.rest = [] ∧ valL s.ps (wat r (1 - u % 2)) = 2 ∧ mayU (wat r (u % 2)) = true := fun u hu => by
    obtain ⟨g1, g2, g3⟩ := h.q2 u hu
    exact ⟨g1, fun e => g2 (List.mem_cons_of_mem _ e), g3⟩
  have hqt : ∀ u ∈ s.q, u / 2 = t / 2 → valL s.ps (wat r (1 - t % 2)) = 2 := fun u hu e => by
    by_cases hut : u = t
    · subst hut
      obtain ⟨_, _, v, g1, _, g2, _⟩ := h.q2 u hu
      rw [hr] at g1
      cases g1
      exact g2
    · obtain ⟨_, g, _⟩ := h.q2 u hu
      exact absurd (by rw [sib_of e hut]; simp) g
  have hch : ∀ x, valL s.ps x = 0 → ∃ cs, ChO s.rows m (s.heads x) x cs := h.chain
  unfold lookM
  rw [hr]
  dsimp only
  split
  · rename_i ho
    refine ⟨h.len, h.ml, h.row, fun u hu => h.pend u (List.mem_cons_of_mem _ hu), fun k v hk hv n1 n2 => ?_, fun u hu e => h.one u (List.mem_cons_of_mem _ hu) (List.mem_cons_of_mem _ e), h.chain, h.far, h.q1, hq2, h.cf, h.may, h.cons⟩
    by_cases hkt : k = t / 2
    · subst hkt
      rw [hr] at hv
      cases hv
      exact .inl (or_wat hj (p := fun z => valL s.ps z = 1) ho)
    · obtain ⟨n3, n4⟩ := two_k hkt n1 n2
      exact h.stat k v hk hv n3 n4
  · rename_i ho
    split
    · rename_i x rest hs
      obtain ⟨s1, s2, pre2, s3, s4⟩ := seekM_some hs
      have ho0 : valL s.ps (wat r (1 - t % 2)) = 0 := by
        rcases valL_cases s.ps (wat r (1 - t % 2)) with e | e | e
        · exact e
        · exact absurd e ho
        · rw [p2 e] at s3
          cases pre2 <;> cases s3
      have hxc : x ∈ c := by
        obtain ⟨pre, g1, _⟩ := hI.suf
        rw [g1, s3]; simp
      have hwj : wat r (t % 2) ≠ x := fun e => by rw [e] at p1; exact s2 p1
      refine ⟨by show (s.rows.set _ _).length = _; rw [List.length_set]; exact h.len, h.ml, fun k v d hk hv hd => ?_, fun u hu => ?_, fun k v hk hv n1 n2 => ?_, fun u hu e => h.one u (List.mem_cons_of_mem _ hu) (List.mem_cons_of_mem _ e), fun y hy => ?_, fun y hy => ?_, h.q1, fun u hu => ?_, ?_, h.may, h.cons⟩
      · rw [get_set hr] at hv
        split at hv
        · rename_i e
          subst e
          cases hv
          rw [hc] at hd
          cases hd
          obtain ⟨pre, g1, g2⟩ := hI.suf
          have hw : ∀ i, i < 2 → wat (putW r (t % 2) x (s.heads x) rest) i = if i = t % 2 then x else wat r i := fun i hi => wat_putW hj hi
          have key : ∀ y, (valL s.ps y = 2 ∨ y = x ∨ y = wat r (1 - t % 2)) → valL s.ps y = 2 ∨ y = (putW r (t % 2) x (s.heads x) rest).w0 ∨ y = (putW r (t % 2) x (s.heads x) rest).w1 := by
            intro y hy
            have w0 := hw 0 (by omega)
            have w1 := hw 1 (by omega)
            have e0 : wat (putW r (t % 2) x (s.heads x) rest) 0 = (putW r (t % 2) x (s.heads x) rest).w0 := rfl
            have e1 : wat (putW r (t % 2) x (s.heads x) rest) 1 = (putW r (t % 2) x (s.heads x) rest).w1 := rfl
            rw [← e0, ← e1, w0, w1]
            rcases (by omega : t % 2 = 0 ∨ t % 2 = 1) with e | e <;> rw [e] at hy ⊢ <;> rcases hy with hy | hy | hy
            · exact .inl hy
            · exact .inr (.inl hy)
            · exact .inr (.inr hy)
            · exact .inl hy
            · exact .inr (.inr hy)
            · exact .inr (.inl hy)
          have old : ∀ y, (y = r.w0 ∨ y = r.w1) → valL s.ps y = 2 ∨ y = x ∨ y = wat r (1 - t % 2) := by
            intro y hy
            rcases (by omega : t % 2 = 0 ∨ t % 2 = 1) with e | e <;> rw [e] at p1 ⊢ <;> rcases hy with hy | hy
            · exact .inl (by rw [hy]; exact p1)
            · exact .inr (.inr hy)
            · exact .inr (.inr hy)
            · exact .inl (by rw [hy]; exact p1)
          refine ⟨⟨pre ++ (pre2 ++ [x]), by rw [rest_putW, g1, s3]; simp, fun y hy => key y ?_⟩, ?_, ?_, fun e => ?_⟩
          · rcases List.mem_append.1 hy with hy | hy
            · rcases g2 y hy with g | g
              · exact .inl g
              · exact old y g
            · rcases List.mem_append.1 hy with hy | hy
              · rcases s4 y hy with g | g
                · exact .inl g
                · exact .inr (.inr g)
              · exact .inr (.inl (by simpa using hy))
          · show wat (putW r (t % 2) x (s.heads x) rest) 0 = -1 ∨ _
            show _ ∨ (wat (putW r (t % 2) x (s.heads x) rest) 0 ∈ _ ∧ mayU (wat (putW r (t % 2) x (s.heads x) rest) 0) = true)
            rw [hw 0 (by omega)]
            split
            · exact .inr ⟨hxc, valL_may s2⟩
            · exact hI.mem 0
          · show wat (putW r (t % 2) x (s.heads x) rest) 1 = -1 ∨ (wat (putW r (t % 2) x (s.heads x) rest) 1 ∈ _ ∧ mayU (wat (putW r (t % 2) x (s.heads x) rest) 1) = true)
            rw [hw 1 (by omega)]
            split
            · exact .inr ⟨hxc, valL_may s2⟩
            · exact hI.mem 1
          · exfalso
            have e' : wat (putW r (t % 2) x (s.heads x) rest) 0 = wat (putW r (t % 2) x (s.heads x) rest) 1 := e
            rw [hw 0 (by omega), hw 1 (by omega)] at e'
            rcases (by omega : t % 2 = 0 ∨ t % 2 = 1) with g | g <;> rw [g] at e' s1
            · exact s1 e'
            · exact s1 e'.symm
        · rename_i e
          exact h.row k v d hk hv hd
      · obtain ⟨g1, g2⟩ := h.pend u (List.mem_cons_of_mem _ hu)
        refine ⟨g1, fun v hv => ?_⟩
        rw [get_set hr, if_neg (hPne u hu)] at hv
        exact g2 v hv
      · rw [get_set hr] at hv
        split at hv
        · rename_i e
          cases hv
          have hx : valL s.ps (wat (putW r (t % 2) x (s.heads x) rest) (t % 2)) = valL s.ps x := by rw [wat_putW hj hj, if_pos rfl]
          have hy : valL s.ps (wat (putW r (t % 2) x (s.heads x) rest) (1 - t % 2)) = 0 := by rw [wat_putW hj (by omega), if_neg (by omega)]; exact ho0
          rcases valL_cases s.ps x with e0 | e0 | e0
          · exact .inr (.inl (two_wat hj (p := fun z => valL s.ps z = 0) (hx.trans e0) hy))
          · have hx1 := hx.trans e0
            refine .inl ?_
            have := or_wat (r := putW r (t % 2) x (s.heads x) rest) (k := 1 - t % 2) (by omega) (p := fun z => valL s.ps z = 1) (by rw [show 1 - (1 - t % 2) = t % 2 by omega]; exact hx1)
            exact this
          · exact absurd e0 s2
        · rename_i e
          obtain ⟨n3, n4⟩ := two_k e n1 n2
          exact (h.stat k v hk hv n3 n4).grow rfl (fun _ h => h) (fun a b => ⟨a, b⟩)
      · obtain ⟨cs, hcs⟩ := hch y hy
        show ∃ cs, ChO _ m (if y = x then (t : Int) + 1 else s.heads y) y cs
        by_cases hyx : y = x
        · subst hyx
          rw [if_pos rfl]
          exact ⟨t :: cs, hcs.more hr hwj htm⟩
        · rw [if_neg hyx]
          exact ⟨cs, hcs.other hj hr (fun e => by rw [e] at p1; rw [p1] at hy; cases hy) (fun e => hyx e.symm)⟩
      · show (if y = x then (t : Int) + 1 else s.heads y) = 0
        rw [if_neg (fun e => by subst e; rw [valL_may s2] at hy; cases hy)]
        exact h.far y hy
      · obtain ⟨g1, g2, v, g3, g4⟩ := hq2 u hu
        refine ⟨g1, g2, v, ?_, g4⟩
        rw [get_set hr, if_neg (fun e => by have := hqt u hu e; rw [ho0] at this; cases this)]
        exact g3
      · rcases h.cf with e | ⟨k, v, g1, g2, g3, g4, g5, g6⟩
        · exact .inl e
        · refine .inr ⟨k, v, g1, g2, ?_, g4, g5, g6⟩
          rw [get_set hr, if_neg (fun e => by
            subst e
            rw [hr] at g3
            cases g3
            have := (wat_two hj (p := fun z => valL s.ps z = 2) ⟨g5, g6⟩).2
            rw [ho0] at this
            cases this)]
          exact g3
    · rename_i x rest hs
      obtain ⟨s1, s2⟩ := seekM_none hs
      have hrow : RowI s.ps c { r with rest := [] } := by
        obtain ⟨pre, g1, g2⟩ := hI.suf
        refine ⟨⟨c, by simp, fun y hy => ?_⟩, hI.m0, hI.m1, hI.ne⟩
        rw [g1] at hy
        rcases List.mem_append.1 hy with hy | hy
        · exact g2 y hy
        · rcases s2 y hy with g | g
          · exact .inl g
          · exact .inr (or_wat hj (p := fun z => y = z) g)
      have hrows : ∀ k v d, k < m → (s.rows.set (t / 2) { r with rest := [] })[k]? = some v → cls[k]? = some d → RowI s.ps d v := fun k v d hk hv hd => by
        rw [get_set hr] at hv
        split at hv
        · rename_i e
          subst e
          cases hv
          rw [hc] at hd
          cases hd
          exact hrow
        · exact h.row k v d hk hv hd
      have hpends : ∀ u ∈ P, u / 2 < m ∧ ∀ v, (s.rows.set (t / 2) { r with rest := [] })[u / 2]? = some v → PendS s.ps v (u % 2) := fun u hu => by
        obtain ⟨g1, g2⟩ := h.pend u (List.mem_cons_of_mem _ hu)
        refine ⟨g1, fun v hv => ?_⟩
        rw [get_set hr, if_neg (hPne u hu)] at hv
        exact g2 v hv
      have hchs : ∀ y, valL s.ps y = 0 → ∃ cs, ChO (s.rows.set (t / 2) { r with rest := [] }) m (s.heads y) y cs := fun y hy => by
        obtain ⟨cs, hcs⟩ := hch y hy
        exact ⟨cs, hcs.rest hr (fun j => rfl) (fun j => rfl)⟩
      have hlen' : (s.rows.set (t / 2) { r with rest := [] }).length = cls.length := by rw [List.length_set]; exact h.len
      have hone : ∀ u ∈ P, sib u ∉ P := fun u hu e => h.one u (List.mem_cons_of_mem _ hu) (List.mem_cons_of_mem _ e)
      have hq2' : ∀ u ∈ s.q, u / 2 < m ∧ sib u ∉ P ∧ ∃ v, (s.rows.set (t / 2) { r with rest := [] })[u / 2]? = some v ∧ v.rest = [] ∧ valL s.ps (wat v (1 - u % 2)) = 2 ∧ mayU (wat v (u % 2)) = true := fun u hu => by
        obtain ⟨g1, g2, v, g3, g4, g5, g6⟩ := hq2 u hu
        refine ⟨g1, g2, ?_⟩
        rw [get_set hr]
        split
        · rename_i e
          rw [e, hr] at g3
          cases g3
          exact ⟨_, rfl, rfl, g5, g6⟩
        · exact ⟨v, g3, g4, g5, g6⟩
      have hcf' : s.conf = -1 ∨ ∃ (k : Nat) (v : URow), k < m ∧ s.conf = (k : Int) ∧ (s.rows.set (t / 2) { r with rest := [] })[k]? = some v ∧ v.rest = [] ∧ valL s.ps v.w0 = 2 ∧ valL s.ps v.w1 = 2 := by
        rcases h.cf with e | ⟨k, v, g1, g2, g3, g4, g5, g6⟩
        · exact .inl e
        · refine .inr ?_
          by_cases hkt : k = t / 2
          · subst hkt
            rw [hr] at g3
            cases g3
            exact ⟨t / 2, { r with rest := [] }, g1, g2, by rw [get_set hr, if_pos rfl], rfl, g5, g6⟩
          · exact ⟨k, v, g1, g2, by rw [get_set hr, if_neg hkt]; exact g3, g4, g5, g6⟩
      split
      · rename_i ho0
        refine ⟨hlen', h.ml, hrows, hpends, fun k v hk hv n1 n2 => ?_, hone, hchs, h.far, ?_, fun u hu => ?_, hcf', h.may, h.cons⟩
        · rw [get_set hr] at hv
          split at hv
          · rename_i e
            subst e
            cases hv
            refine .inr (.inr (.inl ⟨rfl, 1 - t % 2, by omega, ho0, ?_, ?_⟩))
            · rw [show 1 - (1 - t % 2) = t % 2 by omega]
              exact p1
            · show _ ∈ sib t :: s.q
              have : 2 * (t / 2) + (1 - t % 2) = sib t := by unfold sib; split <;> omega
              rw [this]; simp
          · rename_i e
            obtain ⟨n3, n4⟩ := two_k e n1 n2
            exact (h.stat k v hk hv n3 n4).grow rfl (fun u hu => List.mem_cons_of_mem _ hu) (fun a b => ⟨a, b⟩)
        · show ((sib t :: s.q).map (· / 2)).Nodup
          rw [List.map_cons, List.nodup_cons]
          refine ⟨fun e => ?_, h.q1⟩
          obtain ⟨u, hu, e2⟩ := List.mem_map.1 e
          rw [sib_half] at e2
          have := hqt u hu e2
          rw [ho0] at this
          cases this
        · rcases List.mem_cons.1 hu with rfl | hu
          · refine ⟨by rw [sib_half]; exact htm, by rw [sib_sib]; exact hnP, { r with rest := [] }, by rw [sib_half, get_set hr, if_pos rfl], rfl, ?_, ?_⟩
            · rw [sib_mod, show 1 - (1 - t % 2) = t % 2 by omega]
              exact p1
            · rw [sib_mod]
              exact valL_may (ps := s.ps) (by show valL s.ps (wat r (1 - t % 2)) ≠ 2; rw [ho0]; decide)
          · exact hq2' u hu
      · rename_i ho0
        have ho2 : valL s.ps (wat r (1 - t % 2)) = 2 := by
          rcases valL_cases s.ps (wat r (1 - t % 2)) with e | e | e
          · exact absurd e ho0
          · exact absurd e ho
          · exact e
        have h22 := two_wat hj (p := fun z => valL s.ps z = 2) p1 ho2
        obtain ⟨cf, hcf⟩ : ∃ cf, (if s.conf = -1 ∨ ((t / 2 : Nat) : Int) < s.conf then ((t / 2 : Nat) : Int) else s.conf) = cf := ⟨_, rfl⟩
        rw [hcf]
        have hle : cf ≠ -1 ∧ cf ≤ ((t / 2 : Nat) : Int) ∧ (s.conf ≠ -1 → cf ≤ s.conf) ∧ (cf = ((t / 2 : Nat) : Int) ∨ cf = s.conf) := by
          rw [← hcf]
          split
          · rename_i e
            refine ⟨by omega, Int.le_refl _, fun e2 => ?_, .inl rfl⟩
            rcases e with e | e
            · exact absurd e e2
            · omega
          · rename_i e
            have e3 : s.conf ≠ -1 := fun e' => e (.inl e')
            have e4 : ¬ ((t / 2 : Nat) : Int) < s.conf := fun e' => e (.inr e')
            exact ⟨e3, by omega, fun _ => Int.le_refl _, .inr rfl⟩
        refine ⟨hlen', h.ml, hrows, hpends, fun k v hk hv n1 n2 => ?_, hone, hchs, h.far, h.q1, hq2', ?_, h.may, h.cons⟩
        · rw [get_set hr] at hv
          split at hv
          · rename_i e
            subst e
            cases hv
            exact .inr (.inr (.inr ⟨rfl, h22.1, h22.2, hle.1, hle.2.1⟩))
          · rename_i e
            obtain ⟨n3, n4⟩ := two_k e n1 n2
            exact (h.stat k v hk hv n3 n4).grow rfl (fun _ h => h) (fun a b => ⟨hle.1, Int.le_trans (hle.2.2.1 a) b⟩)
        · rcases hle.2.2.2 with e | e
          · exact .inr ⟨t / 2, { r with rest := [] }, htm, e, by rw [get_set hr, if_pos rfl], rfl, h22.1, h22.2⟩
          · rcases hcf' with g | g
            · exact absurd (e.trans g) hle.1
            · obtain ⟨k, v, g1, g2, g3⟩ := g
              exact .inr ⟨k, v, g1, e.trans g2, g3⟩
end Go.Proofs.YtggighikemhnfaaDoor.Tm
