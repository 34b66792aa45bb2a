/- Units: what a run answers, in the document's words. -/
import Derived.Test.YtggighikemhnfaaDoorZClC
namespace Go.Proofs.YtggighikemhnfaaDoor.Tm
set_option linter.unusedVariables false
def mayU (x : Int) : Bool := decide (0 ≤ x) && decide (x ≤ 1048576)
theorem mayU_iff {x : Int} : mayU x = true ↔ 0 ≤ x ∧ x ≤ 1048576 := by unfold mayU; simp
/-- A literal's value by what was put: 2 what is left out. -/
def valL (ps : List Int) (x : Int) : Int := if mayU x = true then (if x ∈ ps then 1 else if negM x ∈ ps then 2 else 0) else 2
theorem valL_cases (ps : List Int) (x : Int) : valL ps x = 0 ∨ valL ps x = 1 ∨ valL ps x = 2 := by
  unfold valL
  split
  · split
    · exact .inr (.inl rfl)
    · split
      · exact .inr (.inr rfl)
      · exact .inl rfl
  · exact .inr (.inr rfl)
theorem valL_none (ps : List Int) : valL ps (-1) = 2 := rfl
theorem valL_may {ps : List Int} {x : Int} (h : valL ps x ≠ 2) : mayU x = true := by
  unfold valL at h
  split at h
  · assumption
  · exact absurd rfl h
structure URow where
  rest : List Int
  w0 : Int
  w1 : Int
  n0 : Int
  n1 : Int
structure USt where
  ps : List Int
  heads : Int → Int
  rows : List URow
  q : List Nat
  conf : Int
def wat (r : URow) (k : Nat) : Int := if k = 0 then r.w0 else r.w1
def nxt (r : URow) (k : Nat) : Int := if k = 0 then r.n0 else r.n1
def sib (slot : Nat) : Nat := if slot % 2 = 0 then slot + 1 else slot - 1
theorem sib_half (s : Nat) : sib s / 2 = s / 2 := by unfold sib; split <;> omega
theorem sib_mod (s : Nat) : sib s % 2 = 1 - s % 2 := by unfold sib; split <;> omega
theorem sib_sib (s : Nat) : sib (sib s) = s := by unfold sib; split <;> split <;> omega
theorem sib_ne (s : Nat) : sib s ≠ s := by unfold sib; split <;> omega
theorem sib_of {s t : Nat} (h : s / 2 = t / 2) (hn : s ≠ t) : t = sib s := by unfold sib; split <;> omega
def putW (r : URow) (k : Nat) (x n : Int) (rest : List Int) : URow := if k = 0 then ⟨rest, x, r.w1, n, r.n1⟩ else ⟨rest, r.w0, x, r.n0, n⟩
def seekM (ps : List Int) (o : Int) : List Int → Option Int × List Int
  | [] => (none, [])
  | x :: r => if x ≠ o ∧ valL ps x ≠ 2 then (some x, r) else seekM ps o r
def lookM (s : USt) (slot : Nat) : USt :=
  match s.rows[slot / 2]? with
  | none => s
  | some r =>
    if valL s.ps (wat r (1 - slot % 2)) = 1 then s else
    match seekM s.ps (wat r (1 - slot % 2)) r.rest with
    | (some x, rest) => { s with rows := s.rows.set (slot / 2) (putW r (slot % 2) x (s.heads x) rest), heads := fun y => if y = x then (slot : Int) + 1 else s.heads y }
    | (none, _) =>
      if valL s.ps (wat r (1 - slot % 2)) = 0 then { s with rows := s.rows.set (slot / 2) { r with rest := [] }, q := sib slot :: s.q }
      else { s with rows := s.rows.set (slot / 2) { r with rest := [] }, conf := if s.conf = -1 ∨ ((slot / 2 : Nat) : Int) < s.conf then ((slot / 2 : Nat) : Int) else s.conf }
theorem lookM_ps (s : USt) (slot : Nat) : (lookM s slot).ps = s.ps := by
  unfold lookM
  split
  · rfl
  · split
    · rfl
    · split
      · rfl
      · split <;> rfl
theorem seekM_some {ps : List Int} {o x : Int} : ∀ {l rest : List Int}, seekM ps o l = (some x, rest) → x ≠ o ∧ valL ps x ≠ 2 ∧ ∃ pre, l = pre ++ x :: rest ∧ ∀ y ∈ pre, valL ps y = 2 ∨ y = o
  | [], rest, h => by simp [seekM] at h
  | y :: r, rest, h => by
    unfold seekM at h
    split at h
    · rename_i hc
      cases h
      exact ⟨hc.1, hc.2, [], rfl, fun z hz => by cases hz⟩
    · rename_i hc
      obtain ⟨h1, h2, pre, h3, h4⟩ := seekM_some h
      refine ⟨h1, h2, y :: pre, by rw [h3]; rfl, fun z hz => ?_⟩
      rcases List.mem_cons.1 hz with rfl | hz
      · by_cases e : z = o
        · exact .inr e
        · exact .inl (Decidable.byContradiction fun h => hc ⟨e, h⟩)
      · exact h4 z hz
theorem seekM_none {ps : List Int} {o : Int} : ∀ {l rest : List Int}, seekM ps o l = (none, rest) → rest = [] ∧ ∀ y ∈ l, valL ps y = 2 ∨ y = o
  | [], rest, h => by
    simp [seekM] at h
    exact ⟨h, fun y hy => by cases hy⟩
  | y :: r, rest, h => by
    unfold seekM at h
    split at h
    · cases h
    · rename_i hc
      obtain ⟨h1, h2⟩ := seekM_none h
      refine ⟨h1, fun z hz => ?_⟩
      rcases List.mem_cons.1 hz with rfl | hz
      · by_cases e : z = o
        · exact .inr e
        · exact .inl (Decidable.byContradiction fun h => hc ⟨e, h⟩)
      · exact h2 z hz
/-- The slots that are reached from one. -/
def ChainL (rows : List URow) : Int → List Nat → Prop
  | n, [] => n = 0
  | n, t :: cs => n = (t : Int) + 1 ∧ ∃ r, rows[t / 2]? = some r ∧ ChainL rows (nxt r (t % 2)) cs
theorem ChainL.same {rows rows' : List URow} : ∀ {n : Int} {cs : List Nat}, ChainL rows n cs → (∀ t ∈ cs, ∀ r, rows[t / 2]? = some r → ∃ r', rows'[t / 2]? = some r' ∧ nxt r' (t % 2) = nxt r (t % 2)) → ChainL rows' n cs
  | n, [], h, _ => h
  | n, t :: cs, ⟨h1, r, h2, h3⟩, hk => by
    obtain ⟨r', h4, h5⟩ := hk t (by simp) r h2
    exact ⟨h1, r', h4, by rw [h5]; exact h3.same (fun u hu => hk u (by simp [hu]))⟩
/-- What a row keeps of its clause. -/
structure RowI (ps c : List Int) (r : URow) : Prop where
  suf : ∃ pre, c = pre ++ r.rest ∧ ∀ x ∈ pre, valL ps x = 2 ∨ x = r.w0 ∨ x = r.w1
  m0 : r.w0 = -1 ∨ (r.w0 ∈ c ∧ mayU r.w0 = true)
  m1 : r.w1 = -1 ∨ (r.w1 ∈ c ∧ mayU r.w1 = true)
  ne : r.w0 = r.w1 → r.w0 = -1
def Stat (s : USt) (k : Nat) (r : URow) : Prop :=
  (valL s.ps r.w0 = 1 ∨ valL s.ps r.w1 = 1) ∨ (valL s.ps r.w0 = 0 ∧ valL s.ps r.w1 = 0) ∨
  (r.rest = [] ∧ ∃ j, j < 2 ∧ valL s.ps (wat r j) = 0 ∧ valL s.ps (wat r (1 - j)) = 2 ∧ 2 * k + j ∈ s.q) ∨
  (r.rest = [] ∧ valL s.ps r.w0 = 2 ∧ valL s.ps r.w1 = 2 ∧ s.conf ≠ -1 ∧ s.conf ≤ (k : Int))
def PendS (ps : List Int) (r : URow) (j : Nat) : Prop :=
  valL ps (wat r j) = 2 ∧ (valL ps (wat r (1 - j)) = 2 → r.rest = [])
/-- What the state keeps, m rows being live, the slots of P not looked at yet. -/
structure Inv (cls : List (List Int)) (m : Nat) (P : List Nat) (s : USt) : Prop where
  len : s.rows.length = cls.length
  ml : m ≤ cls.length
  row : ∀ k r c, k < m → s.rows[k]? = some r → cls[k]? = some c → RowI s.ps c r
  pend : ∀ t ∈ P, t / 2 < m ∧ ∀ r, s.rows[t / 2]? = some r → PendS s.ps r (t % 2)
  stat : ∀ k r, k < m → s.rows[k]? = some r → 2 * k ∉ P → 2 * k + 1 ∉ P → Stat s k r
  one : ∀ t ∈ P, sib t ∉ P
  chain : ∀ x, valL s.ps x = 0 → ∃ cs, ChainL s.rows (s.heads x) cs ∧ cs.Nodup ∧ ∀ t, t ∈ cs ↔ (t / 2 < m ∧ ∃ r, s.rows[t / 2]? = some r ∧ wat r (t % 2) = x)
  far : ∀ x, mayU x = false → s.heads x = 0
  q1 : (s.q.map (· / 2)).Nodup
  q2 : ∀ t ∈ s.q, t / 2 < m ∧ sib t ∉ P ∧ ∃ r, s.rows[t / 2]? = some r ∧ r.rest = [] ∧ valL s.ps (wat r (1 - t % 2)) = 2 ∧ mayU (wat r (t % 2)) = true
  cf : s.conf = -1 ∨ ∃ (k : Nat) (r : URow), k < m ∧ s.conf = (k : Int) ∧ s.rows[k]? = some r ∧ r.rest = [] ∧ valL s.ps r.w0 = 2 ∧ valL s.ps r.w1 = 2
  may : ∀ x ∈ s.ps, mayU x = true
  cons : ∀ x ∈ s.ps, negM x ∉ s.ps
theorem wat_putW {r : URow} {k j : Nat} {x n : Int} {rest : List Int} (hk : k < 2) (hj : j < 2) : wat (putW r k x n rest) j = if j = k then x else wat r j := by
  unfold wat putW
  rcases (by omega : k = 0 ∨ k = 1) with rfl | rfl <;> rcases (by omega : j = 0 ∨ j = 1) with rfl | rfl <;> rfl
theorem nxt_putW {r : URow} {k j : Nat} {x n : Int} {rest : List Int} (hk : k < 2) (hj : j < 2) : nxt (putW r k x n rest) j = if j = k then n else nxt r j := by
  unfold nxt putW
  rcases (by omega : k = 0 ∨ k = 1) with rfl | rfl <;> rcases (by omega : j = 0 ∨ j = 1) with rfl | rfl <;> rfl
theorem rest_putW {r : URow} {k : Nat} {x n : Int} {rest : List Int} : (putW r k x n rest).rest = rest := by unfold putW; split <;> rfl
theorem wat_two {r : URow} {k : Nat} (hk : k < 2) {p : Int → Prop} (h : p r.w0 ∧ p r.w1) : p (wat r k) ∧ p (wat r (1 - k)) := by
  rcases (by omega : k = 0 ∨ k = 1) with rfl | rfl
  · exact h
  · exact ⟨h.2, h.1⟩
theorem two_wat {r : URow} {k : Nat} (hk : k < 2) {p : Int → Prop} (h : p (wat r k)) (h' : p (wat r (1 - k))) : p r.w0 ∧ p r.w1 := by
  rcases (by omega : k = 0 ∨ k = 1) with rfl | rfl
  · exact ⟨h, h'⟩
  · exact ⟨h', h⟩
theorem or_wat {r : URow} {k : Nat} (hk : k < 2) {p : Int → Prop} (h : p (wat r (1 - k))) : p r.w0 ∨ p r.w1 := by
  rcases (by omega : k = 0 ∨ k = 1) with rfl | rfl
  · exact .inr h
  · exact .inl h
theorem RowI.mem {ps c : List Int} {r : URow} (h : RowI ps c r) (k : Nat) : wat r k = -1 ∨ (wat r k ∈ c ∧ mayU (wat r k) = true) := by
  unfold wat
  split
  · exact h.m0
  · exact h.m1
theorem RowI.cover {ps c : List Int} {r : URow} (h : RowI ps c r) (hr : r.rest = []) : ∀ x ∈ c, valL ps x = 2 ∨ x = r.w0 ∨ x = r.w1 := by
  obtain ⟨pre, h1, h2⟩ := h.suf
  rw [hr, List.append_nil] at h1
  rw [h1]
  exact h2
theorem RowI.ne' {ps c : List Int} {r : URow} (h : RowI ps c r) {k : Nat} (hk : k < 2) (he : wat r k = wat r (1 - k)) : wat r k = -1 := by
  rcases (by omega : k = 0 ∨ k = 1) with rfl | rfl
  · exact h.ne he
  · have := h.ne he.symm
    exact he.trans this
end Go.Proofs.YtggighikemhnfaaDoor.Tm
namespace Go.Proofs.YtggighikemhnfaaDoor.Tm
set_option linter.unusedVariables false
theorem get_set {rows : List URow} {a k : Nat} {r r' : URow} (h : rows[a]? = some r) : (rows.set a r')[k]? = if k = a then some r' else rows[k]? := by
  have hlt := (List.getElem?_eq_some_iff.1 h).1
  rw [List.getElem?_set]
  split
  · rename_i e
    subst e
    simp
  · rename_i e
    rw [if_neg (fun e' => e e'.symm)]
/-- A chain of an open literal. -/
def ChO (rows : List URow) (m : Nat) (n x : Int) (cs : List Nat) : Prop :=
  ChainL rows n cs ∧ cs.Nodup ∧ ∀ t, t ∈ cs ↔ (t / 2 < m ∧ ∃ r, rows[t / 2]? = some r ∧ wat r (t % 2) = x)
theorem ChO.rest {rows : List URow} {m a : Nat} {n x : Int} {cs : List Nat} {r r' : URow} (h : ChO rows m n x cs) (hr : rows[a]? = some r) (hw : ∀ j, wat r' j = wat r j) (hn : ∀ j, nxt r' j = nxt r j) : ChO (rows.set a r') m n x cs := by
  refine ⟨h.1.same (fun t ht u hu => ?_), h.2.1, fun t => (h.2.2 t).trans ⟨fun ⟨h1, u, h2, h3⟩ => ⟨h1, ?_⟩, fun ⟨h1, u, h2, h3⟩ => ⟨h1, ?_⟩⟩⟩
  · rw [get_set hr]
    split
    · rename_i e
      rw [e, hr] at hu
      cases hu
      exact ⟨r', rfl, hn _⟩
    · exact ⟨u, hu, rfl⟩
  · rw [get_set hr]
    split
    · rename_i e
      rw [e, hr] at h2
      cases h2
      exact ⟨r', rfl, (hw _).trans h3⟩
    · exact ⟨u, h2, h3⟩
  · rw [get_set hr] at h2
    split at h2
    · rename_i e
      cases h2
      exact ⟨r, by rw [e]; exact hr, (hw _).symm.trans h3⟩
    · exact ⟨u, h2, h3⟩
theorem ChO.other {rows : List URow} {m a : Nat} {n x y nn : Int} {cs : List Nat} {r : URow} {rest : List Int} {j : Nat} (hj : j < 2) (h : ChO rows m n y cs) (hr : rows[a]? = some r) (h1 : wat r j ≠ y) (h2 : x ≠ y) : ChO (rows.set a (putW r j x nn rest)) m n y cs := by
  refine ⟨h.1.same (fun t ht u hu => ?_), h.2.1, fun t => (h.2.2 t).trans ⟨fun ⟨g1, u, g2, g3⟩ => ⟨g1, ?_⟩, fun ⟨g1, u, g2, g3⟩ => ⟨g1, ?_⟩⟩⟩
  · rw [get_set hr]
    split
    · rename_i e
      rw [e, hr] at hu
      cases hu
      obtain ⟨_, v, hv, hv2⟩ := (h.2.2 t).1 ht
      rw [e, hr] at hv
      cases hv
      refine ⟨_, rfl, ?_⟩
      rw [nxt_putW hj (Nat.mod_lt _ (by omega)), if_neg (fun e' => h1 (by rw [← e']; exact hv2))]
    · exact ⟨u, hu, rfl⟩
  · rw [get_set hr]
    split
    · rename_i e
      rw [e, hr] at g2
      cases g2
      refine ⟨_, rfl, ?_⟩
      rw [wat_putW hj (Nat.mod_lt _ (by omega)), if_neg (fun e' => h1 (by rw [← e']; exact g3))]
      exact g3
    · exact ⟨u, g2, g3⟩
  · rw [get_set hr] at g2
    split at g2
    · rename_i e
      cases g2
      rw [wat_putW hj (Nat.mod_lt _ (by omega))] at g3
      split at g3
      · exact absurd g3 h2
      · exact ⟨r, by rw [e]; exact hr, g3⟩
    · exact ⟨u, g2, g3⟩
theorem ChO.more {rows : List URow} {m : Nat} {n x : Int} {cs : List Nat} {r : URow} {rest : List Int} {t : Nat} (h : ChO rows m n x cs) (hr : rows[t / 2]? = some r) (h1 : wat r (t % 2) ≠ x) (ht : t / 2 < m) :
    ChO (rows.set (t / 2) (putW r (t % 2) x n rest)) m ((t : Int) + 1) x (t :: cs) := by
  have hj : t % 2 < 2 := Nat.mod_lt _ (by omega)
  have hn : t ∉ cs := fun e => by
    obtain ⟨_, v, hv, hv2⟩ := (h.2.2 t).1 e
    rw [hr] at hv
    cases hv
    exact h1 hv2
  refine ⟨⟨rfl, putW r (t % 2) x n rest, by rw [get_set hr, if_pos rfl], ?_⟩, List.nodup_cons.2 ⟨hn, h.2.1⟩, fun u => ?_⟩
  · rw [nxt_putW hj hj, if_pos rfl]
    refine h.1.same (fun u hu v hv => ?_)
    rw [get_set hr]
    split
    · rename_i e
      rw [e, hr] at hv
      cases hv
      refine ⟨_, rfl, ?_⟩
      rw [nxt_putW hj (Nat.mod_lt _ (by omega)), if_neg (fun e' => hn (by have : u = t := by omega
                                                                          rw [← this]; exact hu))]
    · exact ⟨v, hv, rfl⟩
  · rw [List.mem_cons, h.2.2 u]
    by_cases hut : u = t
    · subst hut
      exact ⟨fun _ => ⟨ht, _, by rw [get_set hr, if_pos rfl], by rw [wat_putW hj hj, if_pos rfl]⟩, fun _ => .inl rfl⟩
    · constructor
      · rintro (e | ⟨g1, v, g2, g3⟩)
        · exact absurd e hut
        · refine ⟨g1, ?_⟩
          rw [get_set hr]
          split
          · rename_i e
            rw [e, hr] at g2
            cases g2
            refine ⟨_, rfl, ?_⟩
            rw [wat_putW hj (Nat.mod_lt _ (by omega)), if_neg (fun e' => by omega)]
            exact g3
          · exact ⟨v, g2, g3⟩
      · rintro ⟨g1, v, g2, g3⟩
        refine .inr ⟨g1, ?_⟩
        rw [get_set hr] at g2
        split at g2
        · rename_i e
          cases g2
          rw [wat_putW hj (Nat.mod_lt _ (by omega)), if_neg (fun e' => by omega)] at g3
          exact ⟨r, by rw [e]; exact hr, g3⟩
        · exact ⟨v, g2, g3⟩
theorem two_k {k t : Nat} {P : List Nat} (h : k ≠ t / 2) (h1 : 2 * k ∉ P) (h2 : 2 * k + 1 ∉ P) : 2 * k ∉ t :: P ∧ 2 * k + 1 ∉ t :: P :=
  ⟨fun e => (List.mem_cons.1 e).elim (fun e => h (by omega)) h1, fun e => (List.mem_cons.1 e).elim (fun e => h (by omega)) h2⟩
theorem Stat.grow {s s' : USt} {k : Nat} {r : URow} (h : Stat s k r) (hp : s'.ps = s.ps) (hq : ∀ t ∈ s.q, t ∈ s'.q) (hc : s.conf ≠ -1 → s.conf ≤ (k : Int) → s'.conf ≠ -1 ∧ s'.conf ≤ (k : Int)) : Stat s' k r := by
  unfold Stat at h ⊢
  rw [hp]
  rcases h with h | h | ⟨h1, j, h2, h3, h4, h5⟩ | ⟨h1, h2, h3, h4, h5⟩
  · exact .inl h
  · exact .inr (.inl h)
  · exact .inr (.inr (.inl ⟨h1, j, h2, h3, h4, hq _ h5⟩))
  · exact .inr (.inr (.inr ⟨h1, h2, h3, hc h4 h5⟩))
set_option maxHeartbeats 1000000 in
theorem look_inv {cls : List (List Int)} {m t : Nat} {P : List Nat} {s : USt} (h : Inv cls m (t :: P) s) (hn : (t :: P).Nodup) : Inv cls m P (lookM s t) := by
  obtain ⟨hnP, hP⟩ := List.nodup_cons.1 hn
  obtain ⟨htm, hpd⟩ := h.pend t (by simp)
  have hlen : t / 2 < s.rows.length := by rw [h.len]; have := h.ml; omega
  obtain ⟨r, hr⟩ : ∃ r, s.rows[t / 2]? = some r := ⟨_, List.getElem?_eq_getElem hlen⟩
  obtain ⟨c, hc⟩ : ∃ c, cls[t / 2]? = some c := ⟨_, List.getElem?_eq_getElem (by have := h.ml; omega)⟩
  have hj : t % 2 < 2 := Nat.mod_lt _ (by omega)
  have hI := h.row _ _ _ htm hr hc
  obtain ⟨p1, p2⟩ := hpd r hr
  have hsib : sib t ∉ P := fun e => h.one t (by simp) (List.mem_cons_of_mem _ e)
  have hPne : ∀ u ∈ P, u / 2 ≠ t / 2 := fun u hu e => by
    by_cases hut : u = t
    · exact hnP (by rw [← hut]; exact hu)
    · exact hsib (by rw [← sib_of e.symm (fun e' => hut e'.symm)]; exact hu)
  have hq2 : ∀ u ∈ s.q, u / 2 < m ∧ sib u ∉ P ∧ ∃ r, s.rows[u / 2]? = some r ∧ r.rest = [] ∧ valL s.ps (wat r (1 - u % 2)) = 2 ∧ mayU (wat r (u % 2)) = true := fun u hu => by
    obtain ⟨g1, g2, g3⟩ := h.q2 u hu
    exact ⟨g1, fun e => g2 (List.mem_cons_of_mem _ e), g3⟩
  have hqt : ∀ u ∈ s.q, u / 2 = t / 2 → valL s.ps (wat r (1 - t % 2)) = 2 := fun u hu e => by
    by_cases hut : u = t
    · subst hut
      obtain ⟨_, _, v, g1, _, g2, _⟩ := h.q2 u hu
      rw [hr] at g1
      cases g1
      exact g2
    · obtain ⟨_, g, _⟩ := h.q2 u hu
      exact absurd (by rw [sib_of e hut]; simp) g
  have hch : ∀ x, valL s.ps x = 0 → ∃ cs, ChO s.rows m (s.heads x) x cs := h.chain
  unfold lookM
  rw [hr]
  dsimp only
  split
  · rename_i ho
    refine ⟨h.len, h.ml, h.row, fun u hu => h.pend u (List.mem_cons_of_mem _ hu), fun k v hk hv n1 n2 => ?_, fun u hu e => h.one u (List.mem_cons_of_mem _ hu) (List.mem_cons_of_mem _ e), h.chain, h.far, h.q1, hq2, h.cf, h.may, h.cons⟩
    by_cases hkt : k = t / 2
    · subst hkt
      rw [hr] at hv
      cases hv
      exact .inl (or_wat hj (p := fun z => valL s.ps z = 1) ho)
    · obtain ⟨n3, n4⟩ := two_k hkt n1 n2
      exact h.stat k v hk hv n3 n4
  · rename_i ho
    split
    · rename_i x rest hs
      obtain ⟨s1, s2, pre2, s3, s4⟩ := seekM_some hs
      have ho0 : valL s.ps (wat r (1 - t % 2)) = 0 := by
        rcases valL_cases s.ps (wat r (1 - t % 2)) with e | e | e
        · exact e
        · exact absurd e ho
        · rw [p2 e] at s3
          cases pre2 <;> cases s3
      have hxc : x ∈ c := by
        obtain ⟨pre, g1, _⟩ := hI.suf
        rw [g1, s3]; simp
      have hwj : wat r (t % 2) ≠ x := fun e => by rw [e] at p1; exact s2 p1
      refine ⟨by show (s.rows.set _ _).length = _; rw [List.length_set]; exact h.len, h.ml, fun k v d hk hv hd => ?_, fun u hu => ?_, fun k v hk hv n1 n2 => ?_, fun u hu e => h.one u (List.mem_cons_of_mem _ hu) (List.mem_cons_of_mem _ e), fun y hy => ?_, fun y hy => ?_, h.q1, fun u hu => ?_, ?_, h.may, h.cons⟩
      · rw [get_set hr] at hv
        split at hv
        · rename_i e
          subst e
          cases hv
          rw [hc] at hd
          cases hd
          obtain ⟨pre, g1, g2⟩ := hI.suf
          have hw : ∀ i, i < 2 → wat (putW r (t % 2) x (s.heads x) rest) i = if i = t % 2 then x else wat r i := fun i hi => wat_putW hj hi
          have key : ∀ y, (valL s.ps y = 2 ∨ y = x ∨ y = wat r (1 - t % 2)) → valL s.ps y = 2 ∨ y = (putW r (t % 2) x (s.heads x) rest).w0 ∨ y = (putW r (t % 2) x (s.heads x) rest).w1 := by
            intro y hy
            have w0 := hw 0 (by omega)
            have w1 := hw 1 (by omega)
            have e0 : wat (putW r (t % 2) x (s.heads x) rest) 0 = (putW r (t % 2) x (s.heads x) rest).w0 := rfl
            have e1 : wat (putW r (t % 2) x (s.heads x) rest) 1 = (putW r (t % 2) x (s.heads x) rest).w1 := rfl
            rw [← e0, ← e1, w0, w1]
            rcases (by omega : t % 2 = 0 ∨ t % 2 = 1) with e | e <;> rw [e] at hy ⊢ <;> rcases hy with hy | hy | hy
            · exact .inl hy
            · exact .inr (.inl hy)
            · exact .inr (.inr hy)
            · exact .inl hy
            · exact .inr (.inr hy)
            · exact .inr (.inl hy)
          have old : ∀ y, (y = r.w0 ∨ y = r.w1) → valL s.ps y = 2 ∨ y = x ∨ y = wat r (1 - t % 2) := by
            intro y hy
            rcases (by omega : t % 2 = 0 ∨ t % 2 = 1) with e | e <;> rw [e] at p1 ⊢ <;> rcases hy with hy | hy
            · exact .inl (by rw [hy]; exact p1)
            · exact .inr (.inr hy)
            · exact .inr (.inr hy)
            · exact .inl (by rw [hy]; exact p1)
          refine ⟨⟨pre ++ (pre2 ++ [x]), by rw [rest_putW, g1, s3]; simp, fun y hy => key y ?_⟩, ?_, ?_, fun e => ?_⟩
          · rcases List.mem_append.1 hy with hy | hy
            · rcases g2 y hy with g | g
              · exact .inl g
              · exact old y g
            · rcases List.mem_append.1 hy with hy | hy
              · rcases s4 y hy with g | g
                · exact .inl g
                · exact .inr (.inr g)
              · exact .inr (.inl (by simpa using hy))
          · show wat (putW r (t % 2) x (s.heads x) rest) 0 = -1 ∨ _
            show _ ∨ (wat (putW r (t % 2) x (s.heads x) rest) 0 ∈ _ ∧ mayU (wat (putW r (t % 2) x (s.heads x) rest) 0) = true)
            rw [hw 0 (by omega)]
            split
            · exact .inr ⟨hxc, valL_may s2⟩
            · exact hI.mem 0
          · show wat (putW r (t % 2) x (s.heads x) rest) 1 = -1 ∨ (wat (putW r (t % 2) x (s.heads x) rest) 1 ∈ _ ∧ mayU (wat (putW r (t % 2) x (s.heads x) rest) 1) = true)
            rw [hw 1 (by omega)]
            split
            · exact .inr ⟨hxc, valL_may s2⟩
            · exact hI.mem 1
          · exfalso
            have e' : wat (putW r (t % 2) x (s.heads x) rest) 0 = wat (putW r (t % 2) x (s.heads x) rest) 1 := e
            rw [hw 0 (by omega), hw 1 (by omega)] at e'
            rcases (by omega : t % 2 = 0 ∨ t % 2 = 1) with g | g <;> rw [g] at e' s1
            · exact s1 e'
            · exact s1 e'.symm
        · rename_i e
          exact h.row k v d hk hv hd
      · obtain ⟨g1, g2⟩ := h.pend u (List.mem_cons_of_mem _ hu)
        refine ⟨g1, fun v hv => ?_⟩
        rw [get_set hr, if_neg (hPne u hu)] at hv
        exact g2 v hv
      · rw [get_set hr] at hv
        split at hv
        · rename_i e
          cases hv
          have hx : valL s.ps (wat (putW r (t % 2) x (s.heads x) rest) (t % 2)) = valL s.ps x := by rw [wat_putW hj hj, if_pos rfl]
          have hy : valL s.ps (wat (putW r (t % 2) x (s.heads x) rest) (1 - t % 2)) = 0 := by rw [wat_putW hj (by omega), if_neg (by omega)]; exact ho0
          rcases valL_cases s.ps x with e0 | e0 | e0
          · exact .inr (.inl (two_wat hj (p := fun z => valL s.ps z = 0) (hx.trans e0) hy))
          · have hx1 := hx.trans e0
            refine .inl ?_
            have := or_wat (r := putW r (t % 2) x (s.heads x) rest) (k := 1 - t % 2) (by omega) (p := fun z => valL s.ps z = 1) (by rw [show 1 - (1 - t % 2) = t % 2 by omega]; exact hx1)
            exact this
          · exact absurd e0 s2
        · rename_i e
          obtain ⟨n3, n4⟩ := two_k e n1 n2
          exact (h.stat k v hk hv n3 n4).grow rfl (fun _ h => h) (fun a b => ⟨a, b⟩)
      · obtain ⟨cs, hcs⟩ := hch y hy
        show ∃ cs, ChO _ m (if y = x then (t : Int) + 1 else s.heads y) y cs
        by_cases hyx : y = x
        · subst hyx
          rw [if_pos rfl]
          exact ⟨t :: cs, hcs.more hr hwj htm⟩
        · rw [if_neg hyx]
          exact ⟨cs, hcs.other hj hr (fun e => by rw [e] at p1; rw [p1] at hy; cases hy) (fun e => hyx e.symm)⟩
      · show (if y = x then (t : Int) + 1 else s.heads y) = 0
        rw [if_neg (fun e => by subst e; rw [valL_may s2] at hy; cases hy)]
        exact h.far y hy
      · obtain ⟨g1, g2, v, g3, g4⟩ := hq2 u hu
        refine ⟨g1, g2, v, ?_, g4⟩
        rw [get_set hr, if_neg (fun e => by have := hqt u hu e; rw [ho0] at this; cases this)]
        exact g3
      · rcases h.cf with e | ⟨k, v, g1, g2, g3, g4, g5, g6⟩
        · exact .inl e
        · refine .inr ⟨k, v, g1, g2, ?_, g4, g5, g6⟩
          rw [get_set hr, if_neg (fun e => by
            subst e
            rw [hr] at g3
            cases g3
            have := (wat_two hj (p := fun z => valL s.ps z = 2) ⟨g5, g6⟩).2
            rw [ho0] at this
            cases this)]
          exact g3
    · rename_i x rest hs
      obtain ⟨s1, s2⟩ := seekM_none hs
      have hrow : RowI s.ps c { r with rest := [] } := by
        obtain ⟨pre, g1, g2⟩ := hI.suf
        refine ⟨⟨c, by simp, fun y hy => ?_⟩, hI.m0, hI.m1, hI.ne⟩
        rw [g1] at hy
        rcases List.mem_append.1 hy with hy | hy
        · exact g2 y hy
        · rcases s2 y hy with g | g
          · exact .inl g
          · exact .inr (or_wat hj (p := fun z => y = z) g)
      have hrows : ∀ k v d, k < m → (s.rows.set (t / 2) { r with rest := [] })[k]? = some v → cls[k]? = some d → RowI s.ps d v := fun k v d hk hv hd => by
        rw [get_set hr] at hv
        split at hv
        · rename_i e
          subst e
          cases hv
          rw [hc] at hd
          cases hd
          exact hrow
        · exact h.row k v d hk hv hd
      have hpends : ∀ u ∈ P, u / 2 < m ∧ ∀ v, (s.rows.set (t / 2) { r with rest := [] })[u / 2]? = some v → PendS s.ps v (u % 2) := fun u hu => by
        obtain ⟨g1, g2⟩ := h.pend u (List.mem_cons_of_mem _ hu)
        refine ⟨g1, fun v hv => ?_⟩
        rw [get_set hr, if_neg (hPne u hu)] at hv
        exact g2 v hv
      have hchs : ∀ y, valL s.ps y = 0 → ∃ cs, ChO (s.rows.set (t / 2) { r with rest := [] }) m (s.heads y) y cs := fun y hy => by
        obtain ⟨cs, hcs⟩ := hch y hy
        exact ⟨cs, hcs.rest hr (fun j => rfl) (fun j => rfl)⟩
      have hlen' : (s.rows.set (t / 2) { r with rest := [] }).length = cls.length := by rw [List.length_set]; exact h.len
      have hone : ∀ u ∈ P, sib u ∉ P := fun u hu e => h.one u (List.mem_cons_of_mem _ hu) (List.mem_cons_of_mem _ e)
      have hq2' : ∀ u ∈ s.q, u / 2 < m ∧ sib u ∉ P ∧ ∃ v, (s.rows.set (t / 2) { r with rest := [] })[u / 2]? = some v ∧ v.rest = [] ∧ valL s.ps (wat v (1 - u % 2)) = 2 ∧ mayU (wat v (u % 2)) = true := fun u hu => by
        obtain ⟨g1, g2, v, g3, g4, g5, g6⟩ := hq2 u hu
        refine ⟨g1, g2, ?_⟩
        rw [get_set hr]
        split
        · rename_i e
          rw [e, hr] at g3
          cases g3
          exact ⟨_, rfl, rfl, g5, g6⟩
        · exact ⟨v, g3, g4, g5, g6⟩
      have hcf' : s.conf = -1 ∨ ∃ (k : Nat) (v : URow), k < m ∧ s.conf = (k : Int) ∧ (s.rows.set (t / 2) { r with rest := [] })[k]? = some v ∧ v.rest = [] ∧ valL s.ps v.w0 = 2 ∧ valL s.ps v.w1 = 2 := by
        rcases h.cf with e | ⟨k, v, g1, g2, g3, g4, g5, g6⟩
        · exact .inl e
        · refine .inr ?_
          by_cases hkt : k = t / 2
          · subst hkt
            rw [hr] at g3
            cases g3
            exact ⟨t / 2, { r with rest := [] }, g1, g2, by rw [get_set hr, if_pos rfl], rfl, g5, g6⟩
          · exact ⟨k, v, g1, g2, by rw [get_set hr, if_neg hkt]; exact g3, g4, g5, g6⟩
      split
      · rename_i ho0
        refine ⟨hlen', h.ml, hrows, hpends, fun k v hk hv n1 n2 => ?_, hone, hchs, h.far, ?_, fun u hu => ?_, hcf', h.may, h.cons⟩
        · rw [get_set hr] at hv
          split at hv
          · rename_i e
            subst e
            cases hv
            refine .inr (.inr (.inl ⟨rfl, 1 - t % 2, by omega, ho0, ?_, ?_⟩))
            · rw [show 1 - (1 - t % 2) = t % 2 by omega]
              exact p1
            · show _ ∈ sib t :: s.q
              have : 2 * (t / 2) + (1 - t % 2) = sib t := by unfold sib; split <;> omega
              rw [this]; simp
          · rename_i e
            obtain ⟨n3, n4⟩ := two_k e n1 n2
            exact (h.stat k v hk hv n3 n4).grow rfl (fun u hu => List.mem_cons_of_mem _ hu) (fun a b => ⟨a, b⟩)
        · show ((sib t :: s.q).map (· / 2)).Nodup
          rw [List.map_cons, List.nodup_cons]
          refine ⟨fun e => ?_, h.q1⟩
          obtain ⟨u, hu, e2⟩ := List.mem_map.1 e
          rw [sib_half] at e2
          have := hqt u hu e2
          rw [ho0] at this
          cases this
        · rcases List.mem_cons.1 hu with rfl | hu
          · refine ⟨by rw [sib_half]; exact htm, by rw [sib_sib]; exact hnP, { r with rest := [] }, by rw [sib_half, get_set hr, if_pos rfl], rfl, ?_, ?_⟩
            · rw [sib_mod, show 1 - (1 - t % 2) = t % 2 by omega]
              exact p1
            · rw [sib_mod]
              exact valL_may (ps := s.ps) (by show valL s.ps (wat r (1 - t % 2)) ≠ 2; rw [ho0]; decide)
          · exact hq2' u hu
      · rename_i ho0
        have ho2 : valL s.ps (wat r (1 - t % 2)) = 2 := by
          rcases valL_cases s.ps (wat r (1 - t % 2)) with e | e | e
          · exact absurd e ho0
          · exact absurd e ho
          · exact e
        have h22 := two_wat hj (p := fun z => valL s.ps z = 2) p1 ho2
        obtain ⟨cf, hcf⟩ : ∃ cf, (if s.conf = -1 ∨ ((t / 2 : Nat) : Int) < s.conf then ((t / 2 : Nat) : Int) else s.conf) = cf := ⟨_, rfl⟩
        rw [hcf]
        have hle : cf ≠ -1 ∧ cf ≤ ((t / 2 : Nat) : Int) ∧ (s.conf ≠ -1 → cf ≤ s.conf) ∧ (cf = ((t / 2 : Nat) : Int) ∨ cf = s.conf) := by
          rw [← hcf]
          split
          · rename_i e
            refine ⟨by omega, Int.le_refl _, fun e2 => ?_, .inl rfl⟩
            rcases e with e | e
            · exact absurd e e2
            · omega
          · rename_i e
            have e3 : s.conf ≠ -1 := fun e' => e (.inl e')
            have e4 : ¬ ((t / 2 : Nat) : Int) < s.conf := fun e' => e (.inr e')
            exact ⟨e3, by omega, fun _ => Int.le_refl _, .inr rfl⟩
        refine ⟨hlen', h.ml, hrows, hpends, fun k v hk hv n1 n2 => ?_, hone, hchs, h.far, h.q1, hq2', ?_, h.may, h.cons⟩
        · rw [get_set hr] at hv
          split at hv
          · rename_i e
            subst e
            cases hv
            exact .inr (.inr (.inr ⟨rfl, h22.1, h22.2, hle.1, hle.2.1⟩))
          · rename_i e
            obtain ⟨n3, n4⟩ := two_k e n1 n2
            exact (h.stat k v hk hv n3 n4).grow rfl (fun _ h => h) (fun a b => ⟨hle.1, Int.le_trans (hle.2.2.1 a) b⟩)
        · rcases hle.2.2.2 with e | e
          · exact .inr ⟨t / 2, { r with rest := [] }, htm, e, by rw [get_set hr, if_pos rfl], rfl, h22.1, h22.2⟩
          · rcases hcf' with g | g
            · exact absurd (e.trans g) hle.1
            · obtain ⟨k, v, g1, g2, g3⟩ := g
              exact .inr ⟨k, v, g1, e.trans g2, g3⟩
end Go.Proofs.YtggighikemhnfaaDoor.Tm
namespace Go.Proofs.YtggighikemhnfaaDoor.Tm
set_option linter.unusedVariables false
theorem val_zero {ps : List Int} {x : Int} (h : valL ps x = 0) : mayU x = true ∧ x ∉ ps ∧ negM x ∉ ps := by
  have hm := valL_may (ps := ps) (x := x) (by rw [h]; decide)
  unfold valL at h
  rw [if_pos hm] at h
  split at h
  · cases h
  · split at h
    · cases h
    · exact ⟨hm, by assumption, by assumption⟩
theorem val_one {ps : List Int} {x : Int} (h : valL ps x = 1) : mayU x = true ∧ x ∈ ps := by
  have hm := valL_may (ps := ps) (x := x) (by rw [h]; decide)
  unfold valL at h
  rw [if_pos hm] at h
  split at h
  · exact ⟨hm, by assumption⟩
  · split at h <;> cases h
theorem val_mem {ps : List Int} {x : Int} (hm : mayU x = true) (h : x ∈ ps) : valL ps x = 1 := by unfold valL; rw [if_pos hm, if_pos h]
theorem val_neg {ps : List Int} {x : Int} (h : x ∉ ps) (h2 : negM x ∈ ps) : valL ps x = 2 := by
  unfold valL
  by_cases hm : mayU x = true
  · rw [if_pos hm, if_neg h, if_pos h2]
  · rw [if_neg hm]
theorem put_self {ps : List Int} {l : Int} (h : valL ps l = 0) : valL (ps ++ [l]) l = 1 := val_mem (val_zero h).1 (by simp)
theorem put_neg {ps : List Int} {l : Int} (h : valL ps l = 0) : valL (ps ++ [l]) (negM l) = 2 := by
  obtain ⟨_, h1, h2⟩ := val_zero h
  exact val_neg (fun e => (List.mem_append.1 e).elim h2 (fun e => negM_ne l (by simpa using e))) (by rw [negM_neg]; simp)
theorem put_other {ps : List Int} {l x : Int} (h1 : x ≠ l) (h2 : x ≠ negM l) : valL (ps ++ [l]) x = valL ps x := by
  have e1 : x ∈ ps ++ [l] ↔ x ∈ ps := by simp [h1]
  have e2 : negM x ∈ ps ++ [l] ↔ negM x ∈ ps := by
    have : negM x ≠ l := fun e => h2 (by rw [← e, negM_neg])
    simp [this]
  unfold valL
  simp only [e1, e2]
theorem val_negz {ps : List Int} {l : Int} (h : valL ps l = 0) (hm : mayU (negM l) = true) : valL ps (negM l) = 0 := by
  obtain ⟨_, h1, h2⟩ := val_zero h
  unfold valL
  rw [if_pos hm, if_neg h2, negM_neg, if_neg h1]
theorem put_keep {ps : List Int} {l x : Int} (h : valL ps l = 0) (hx : valL ps x ≠ 0) : valL (ps ++ [l]) x = valL ps x := by
  by_cases e : x = negM l
  · subst e
    by_cases hm : mayU (negM l) = true
    · exact absurd (val_negz h hm) hx
    · unfold valL
      rw [if_neg hm, if_neg hm]
  · exact put_other (fun e => hx (by rw [e]; exact h)) e
theorem put_two {ps : List Int} {l x : Int} (h : valL ps l = 0) (hx : valL ps x = 2) : valL (ps ++ [l]) x = 2 := (put_keep h (by rw [hx]; decide)).trans hx
theorem put_one {ps : List Int} {l x : Int} (h : valL ps l = 0) (hx : valL ps x = 1) : valL (ps ++ [l]) x = 1 := (put_keep h (by rw [hx]; decide)).trans hx
theorem put_back {ps : List Int} {l x : Int} (h : valL ps l = 0) (hx : valL (ps ++ [l]) x = 0) : valL ps x = 0 ∧ x ≠ l ∧ x ≠ negM l := by
  refine ⟨Decidable.byContradiction fun e => e ((put_keep h e).symm.trans hx), fun e => ?_, fun e => ?_⟩
  · rw [e, put_self h] at hx; cases hx
  · rw [e, put_neg h] at hx; cases hx
/-- What watches the Neg. -/
def ChN (cls : List (List Int)) (m : Nat) (s : USt) (l : Int) (cs : List Nat) : Prop :=
  ChainL s.rows (s.heads (negM l)) cs ∧ cs.Nodup ∧ ∀ t, t ∈ cs ↔ (t / 2 < m ∧ ∃ r, s.rows[t / 2]? = some r ∧ wat r (t % 2) = negM l)
theorem Inv.wat_may {cls : List (List Int)} {m : Nat} {P : List Nat} {s : USt} (h : Inv cls m P s) {k : Nat} {r : URow} (hk : k < m) (hr : s.rows[k]? = some r) (j : Nat) : wat r j = -1 ∨ mayU (wat r j) = true := by
  obtain ⟨c, hc⟩ : ∃ c, cls[k]? = some c := ⟨_, List.getElem?_eq_getElem (by have := h.ml; omega)⟩
  exact ((h.row _ _ _ hk hr hc).mem j).imp_right And.right
theorem Inv.chn {cls : List (List Int)} {m : Nat} {P : List Nat} {s : USt} (h : Inv cls m P s) {l : Int} (hl : valL s.ps l = 0) : ∃ cs, ChN cls m s l cs := by
  by_cases hm : mayU (negM l) = true
  · exact h.chain _ (val_negz hl hm)
  · refine ⟨[], h.far _ (by simpa using hm), List.nodup_nil, fun t => ⟨fun e => (by cases e), fun ⟨g1, r, g2, g3⟩ => ?_⟩⟩
    have hl0 := (mayU_iff.1 (val_zero hl).1).1
    have hn0 := negM_nonneg hl0
    rcases h.wat_may g1 g2 (t % 2) with e | e
    · rw [g3] at e; omega
    · rw [g3] at e; exact absurd e hm
theorem put_inv {cls : List (List Int)} {m : Nat} {s : USt} {l : Int} {cs q' : List Nat} (h : Inv cls m [] s) (hcf : s.conf = -1) (hl : valL s.ps l = 0) (hc : ChN cls m s l cs) (hq : q'.Sublist s.q)
    (hrem : ∀ t ∈ s.q, t ∉ q' → ∀ r, s.rows[t / 2]? = some r → wat r (t % 2) = l) : Inv cls m cs { s with ps := s.ps ++ [l], q := q' } := by
  have hl0 := (mayU_iff.1 (val_zero hl).1).1
  have hn0 := negM_nonneg hl0
  have hboth : ∀ k r, k < m → s.rows[k]? = some r → ∀ j, j < 2 → wat r j = negM l → wat r (1 - j) ≠ negM l := fun k r hk hr j hj e e2 => by
    obtain ⟨c, hcc⟩ : ∃ c, cls[k]? = some c := ⟨_, List.getElem?_eq_getElem (by have := h.ml; omega)⟩
    have := (h.row _ _ _ hk hr hcc).ne' hj (e.trans e2.symm)
    omega
  have hnP : ∀ k, 2 * k ∉ ([] : List Nat) := fun k e => by cases e
  refine ⟨h.len, h.ml, fun k r c hk hr hcc => ?_, fun t ht => ?_, fun k r hk hr n1 n2 => ?_, fun t ht e => ?_, fun x hx => ?_, h.far, ?_, fun t ht => ?_, .inl hcf, fun x hx => ?_, fun x hx e => ?_⟩
  · have hI := h.row k r c hk hr hcc
    obtain ⟨pre, g1, g2⟩ := hI.suf
    exact ⟨⟨pre, g1, fun x hx => (g2 x hx).imp_left (put_two hl)⟩, hI.m0, hI.m1, hI.ne⟩
  · obtain ⟨g1, r, g2, g3⟩ := (hc.2.2 t).1 ht
    refine ⟨g1, fun v hv => ?_⟩
    obtain rfl : v = r := Option.some.inj ((hv : s.rows[t / 2]? = some v).symm.trans g2)
    have hj : t % 2 < 2 := Nat.mod_lt _ (by omega)
    refine ⟨by rw [g3]; exact put_neg hl, fun e => ?_⟩
    have ho : wat v (1 - t % 2) ≠ negM l := hboth _ _ g1 g2 _ hj g3
    have ho2 : valL s.ps (wat v (1 - t % 2)) = 2 := by
      rcases valL_cases s.ps (wat v (1 - t % 2)) with e0 | e0 | e0
      · by_cases hwl : wat v (1 - t % 2) = l
        · have e1 : valL (s.ps ++ [l]) (wat v (1 - t % 2)) = 2 := e
          rw [hwl, put_self hl] at e1
          cases e1
        · have e1 : valL (s.ps ++ [l]) (wat v (1 - t % 2)) = 2 := e
          rw [put_other hwl ho, e0] at e1
          cases e1
      · have e1 : valL (s.ps ++ [l]) (wat v (1 - t % 2)) = 2 := e
        rw [put_one hl e0] at e1
        cases e1
      · exact e0
    have hmn : mayU (negM l) = true := by
      rcases h.wat_may g1 g2 (t % 2) with e | e
      · rw [g3] at e; omega
      · rw [g3] at e; exact e
    have hz := val_negz hl hmn
    rcases h.stat (t / 2) v g1 g2 (hnP _) (fun e => by cases e) with g | g | g | g
    · have : ∃ j, j < 2 ∧ valL s.ps (wat v j) = 1 := g.elim (fun g => ⟨0, by omega, g⟩) (fun g => ⟨1, by omega, g⟩)
      obtain ⟨j, hj2, hv1⟩ := this
      by_cases ej : j = t % 2
      · subst ej
        rw [g3, hz] at hv1; cases hv1
      · rw [show j = 1 - t % 2 by omega, ho2] at hv1; cases hv1
    · have := (wat_two hj (p := fun z => valL s.ps z = 0) g).2
      rw [ho2] at this; cases this
    · exact g.1
    · exact g.1
  · have nin : ∀ j, j < 2 → wat r j ≠ negM l := fun j hj e => by
      have : 2 * k + j ∈ cs := (hc.2.2 _).2 ⟨by omega, r, by rw [show (2 * k + j) / 2 = k by omega]; exact hr, by rw [show (2 * k + j) % 2 = j by omega]; exact e⟩
      rcases (by omega : j = 0 ∨ j = 1) with rfl | rfl
      · exact n1 this
      · exact n2 this
    have w0 : r.w0 ≠ negM l := nin 0 (by omega)
    have w1 : r.w1 ≠ negM l := nin 1 (by omega)
    have z0 : ∀ x, x ≠ negM l → valL s.ps x = 0 → x = l ∨ valL (s.ps ++ [l]) x = 0 := fun x h1 h2 => by
      by_cases e : x = l
      · exact .inl e
      · exact .inr ((put_other e h1).trans h2)
    rcases h.stat k r hk hr (hnP _) (fun e => by cases e) with g | g | ⟨g1, j, g2, g3, g4, g5⟩ | g
    · exact .inl (g.imp (put_one hl) (put_one hl))
    · rcases z0 _ w0 g.1 with e | e
      · exact .inl (.inl (by show valL (s.ps ++ [l]) r.w0 = 1; rw [e]; exact put_self hl))
      · rcases z0 _ w1 g.2 with e2 | e2
        · exact .inl (.inr (by show valL (s.ps ++ [l]) r.w1 = 1; rw [e2]; exact put_self hl))
        · exact .inr (.inl ⟨e, e2⟩)
    · rcases z0 _ (nin j g2) g3 with e | e
      · refine .inl ?_
        have := or_wat (r := r) (k := 1 - j) (by omega) (p := fun z => valL (s.ps ++ [l]) z = 1) (by rw [show 1 - (1 - j) = j by omega, e]; exact put_self hl)
        exact this
      · refine .inr (.inr (.inl ⟨g1, j, g2, e, put_two hl g4, Decidable.byContradiction fun hn => ?_⟩))
        have := hrem _ g5 hn r (by rw [show (2 * k + j) / 2 = k by omega]; exact hr)
        rw [show (2 * k + j) % 2 = j by omega] at this
        rw [this, put_self hl] at e; cases e
    · exact absurd hcf g.2.2.2.1
  · obtain ⟨g1, r, g2, g3⟩ := (hc.2.2 t).1 ht
    obtain ⟨_, r', g4, g5⟩ := (hc.2.2 _).1 e
    rw [sib_half, g2] at g4
    cases g4
    rw [sib_mod] at g5
    exact hboth _ _ g1 g2 _ (Nat.mod_lt _ (by omega)) g3 g5
  · exact h.chain x (put_back hl hx).1
  · exact (hq.map (· / 2)).nodup h.q1
  · obtain ⟨g1, _, r, g2, g3, g4, g5⟩ := h.q2 t (hq.subset ht)
    refine ⟨g1, fun e => ?_, r, g2, g3, put_two hl g4, g5⟩
    obtain ⟨_, r', g6, g7⟩ := (hc.2.2 _).1 e
    rw [sib_half, g2] at g6
    cases g6
    rw [sib_mod] at g7
    rw [g7] at g4
    have hmn : mayU (negM l) = true := by
      rcases h.wat_may g1 g2 (1 - t % 2) with e | e
      · rw [g7] at e; omega
      · rw [g7] at e; exact e
    rw [val_negz hl hmn] at g4; cases g4
  · rcases List.mem_append.1 hx with hx | hx
    · exact h.may x hx
    · rw [show x = l by simpa using hx]; exact (val_zero hl).1
  · obtain ⟨_, h1, h2⟩ := val_zero hl
    rcases List.mem_append.1 hx with hx | hx <;> rcases List.mem_append.1 e with e | e
    · exact h.cons x hx e
    · have : negM x = l := by simpa using e
      exact h2 (by rw [← this, negM_neg]; exact hx)
    · rw [show x = l by simpa using hx] at e
      exact h2 e
    · rw [show x = l by simpa using hx] at e
      exact negM_ne l (by simpa using e)
theorem fold_inv {cls : List (List Int)} {m : Nat} : ∀ {cs : List Nat} {s : USt}, Inv cls m cs s → cs.Nodup → Inv cls m [] (cs.foldl lookM s)
  | [], s, h, _ => h
  | t :: cs, s, h, hn => fold_inv (cs := cs) (s := lookM s t) (look_inv h hn) (List.nodup_cons.1 hn).2
theorem fold_ps : ∀ (cs : List Nat) (s : USt), (cs.foldl lookM s).ps = s.ps
  | [], s => rfl
  | t :: cs, s => by rw [List.foldl_cons, fold_ps cs, lookM_ps]
/-- A clause comes in: its first slot is looked at. -/
theorem start_inv {cls : List (List Int)} {k : Nat} {s : USt} {c : List Int} (h : Inv cls k [] s) (hc : cls[k]? = some c) : Inv cls (k + 1) [2 * k + 1] (lookM { s with rows := s.rows.set k ⟨c, -1, -1, 0, 0⟩ } (2 * k)) := by
  have hkl := (List.getElem?_eq_some_iff.1 hc).1
  have hlen : k < s.rows.length := by rw [h.len]; exact hkl
  obtain ⟨r0, hr0⟩ : ∃ r, s.rows[k]? = some r := ⟨_, List.getElem?_eq_getElem hlen⟩
  have e2 : 2 * k / 2 = k := by omega
  have e3 : 2 * k % 2 = 0 := by omega
  have e4 : (2 * k + 1) / 2 = k := by omega
  have e5 : (2 * k + 1) % 2 = 1 := by omega
  have hr : (s.rows.set k ⟨c, -1, -1, 0, 0⟩)[2 * k / 2]? = some (⟨c, -1, -1, 0, 0⟩ : URow) := by rw [e2, get_set hr0, if_pos rfl]
  have hold : ∀ (r' : URow) (j : Nat), j < k → ((s.rows.set k (⟨c, -1, -1, 0, 0⟩ : URow)).set (2 * k / 2) r')[j]? = s.rows[j]? := fun r' j hj => by
    rw [get_set hr, if_neg (by omega), get_set hr0, if_neg (by omega)]
  have hat : ∀ (r' : URow), ((s.rows.set k (⟨c, -1, -1, 0, 0⟩ : URow)).set (2 * k / 2) r')[k]? = some r' := fun r' => by
    rw [get_set hr, if_pos e2.symm]
  have hr2 : ∀ (r' : URow), ((s.rows.set k (⟨c, -1, -1, 0, 0⟩ : URow)).set (2 * k / 2) r')[2 * k / 2]? = some r' := fun r' => by
    rw [get_set hr, if_pos rfl]
  have hlen2 : ∀ (r' : URow), ((s.rows.set k (⟨c, -1, -1, 0, 0⟩ : URow)).set (2 * k / 2) r').length = cls.length := fun r' => by
    rw [List.length_set, List.length_set]; exact h.len
  have hkm : ∀ j, 2 * j ∉ [2 * k + 1] → 2 * j + 1 ∉ [2 * k + 1] → j ≠ k := fun j _ n2 e => n2 (by rw [e]; simp)
  have hone : ∀ t ∈ [2 * k + 1], sib t ∉ [2 * k + 1] := fun t ht e => by
    rw [show t = 2 * k + 1 by simpa using ht] at e
    have : sib (2 * k + 1) = 2 * k + 1 := by simpa using e
    exact sib_ne _ this
  have hq2 : ∀ (r' : URow) (q : List Nat), (∀ t ∈ q, t ∈ s.q) → ∀ t ∈ q, t / 2 < k + 1 ∧ sib t ∉ [2 * k + 1] ∧ ∃ r, ((s.rows.set k (⟨c, -1, -1, 0, 0⟩ : URow)).set (2 * k / 2) r')[t / 2]? = some r ∧ r.rest = [] ∧ valL s.ps (wat r (1 - t % 2)) = 2 ∧ mayU (wat r (t % 2)) = true := fun r' q hq t ht => by
    obtain ⟨g1, _, r, g2, g3⟩ := h.q2 t (hq t ht)
    refine ⟨by omega, fun e => ?_, r, by rw [hold r' _ g1]; exact g2, g3⟩
    have : sib t = 2 * k + 1 := by simpa using e
    have h2 := sib_half t
    omega
  -- chains of a literal that the new row does not watch
  have hch : ∀ (r' : URow) (n y : Int) (cs : List Nat), ChO s.rows k n y cs → (∀ j, j < 2 → wat r' j ≠ y) → ChO ((s.rows.set k (⟨c, -1, -1, 0, 0⟩ : URow)).set (2 * k / 2) r') (k + 1) n y cs := fun r' n y cs hcs hw => by
    refine ⟨hcs.1.same (fun t ht u hu => ⟨u, by rw [hold r' _ ((hcs.2.2 t).1 ht).1]; exact hu, rfl⟩), hcs.2.1, fun t => (hcs.2.2 t).trans ⟨fun ⟨g1, r, g2, g3⟩ => ⟨by omega, r, by rw [hold r' _ g1]; exact g2, g3⟩, fun ⟨g1, r, g2, g3⟩ => ?_⟩⟩
    by_cases ht : t / 2 = k
    · rw [ht, hat r'] at g2
      cases g2
      exact absurd g3 (hw _ (Nat.mod_lt _ (by omega)))
    · refine ⟨by omega, r, ?_, g3⟩
      rw [hold r' _ (by omega)] at g2
      exact g2
  have hno : ∀ y, valL s.ps y = 0 → y ≠ -1 := fun y hy e => by rw [e, valL_none] at hy; cases hy
  unfold lookM
  dsimp only
  rw [hr]
  dsimp only
  have hw1 : wat (⟨c, -1, -1, 0, 0⟩ : URow) (1 - 2 * k % 2) = -1 := by rw [e3]; rfl
  rw [hw1, valL_none, if_neg (by decide)]
  split
  · rename_i x rest hs
    obtain ⟨s1, s2, pre2, s3, s4⟩ := seekM_some hs
    have hxc : x ∈ c := by show x ∈ c; rw [show c = pre2 ++ x :: rest from s3]; simp
    have hp : putW (⟨c, -1, -1, 0, 0⟩ : URow) (2 * k % 2) x (s.heads x) rest = ⟨rest, x, -1, s.heads x, 0⟩ := by rw [e3]; rfl
    rw [hp]
    refine ⟨hlen2 _, hkl, fun j r d hj hrj hd => ?_, fun t ht => ?_, fun j r hj hrj n1 n2 => ?_, hone, fun y hy => ?_, fun y hy => ?_, h.q1, hq2 _ _ (fun _ h => h), ?_, h.may, h.cons⟩
    · by_cases ejk : j = k
      · subst ejk
        rw [hat] at hrj
        cases hrj
        rw [hc] at hd
        cases hd
        refine ⟨⟨pre2 ++ [x], by rw [show c = pre2 ++ x :: rest from s3]; simp, fun y hy => ?_⟩, .inr ⟨hxc, valL_may s2⟩, .inl rfl, fun e => absurd e s1⟩
        rcases List.mem_append.1 hy with hy | hy
        · rcases s4 y hy with g | g
          · exact .inl g
          · exact .inl (by rw [g]; rfl)
        · exact .inr (.inl (by simpa using hy))
      · rw [hold _ _ (by omega)] at hrj
        exact h.row j r d (by omega) hrj hd
    · rw [show t = 2 * k + 1 by simpa using ht, e4]
      refine ⟨by omega, fun v hv => ?_⟩
      have hv2 := (hat _).symm.trans hv
      cases hv2
      rw [e5]
      exact ⟨rfl, fun e => absurd e s2⟩
    · have ejk := hkm j n1 n2
      rw [hold _ _ (by omega)] at hrj
      exact (h.stat j r (by omega) hrj (by simp) (by simp)).grow rfl (fun _ h => h) (fun a b => ⟨a, b⟩)
    · obtain ⟨cs, hcs⟩ := h.chain y hy
      show ∃ cs, ChO _ (k + 1) (if y = x then ((2 * k : Nat) : Int) + 1 else s.heads y) y cs
      by_cases hyx : y = x
      · subst hyx
        rw [if_pos rfl]
        have hnk : 2 * k ∉ cs := fun e => by have := ((hcs.2.2 _).1 e).1; omega
        refine ⟨2 * k :: cs, ⟨rfl, ⟨rest, y, -1, s.heads y, 0⟩, hr2 _, ?_⟩, List.nodup_cons.2 ⟨hnk, hcs.2.1⟩, fun t => ?_⟩
        · rw [e3]
          exact hcs.1.same (fun t ht u hu => ⟨u, by rw [hold _ _ ((hcs.2.2 t).1 ht).1]; exact hu, rfl⟩)
        · rw [List.mem_cons, hcs.2.2 t]
          constructor
          · rintro (e | ⟨g1, r, g2, g3⟩)
            · subst e
              exact ⟨by omega, _, hr2 _, by rw [e3]; rfl⟩
            · exact ⟨by omega, r, by rw [hold _ _ g1]; exact g2, g3⟩
          · rintro ⟨g1, r, g2, g3⟩
            by_cases htk : t / 2 = k
            · rw [htk, hat] at g2
              cases g2
              by_cases ht0 : t % 2 = 0
              · exact .inl (by omega)
              · rw [show t % 2 = 1 by omega] at g3
                exact absurd g3.symm (hno y hy)
            · rw [hold _ _ (by omega)] at g2
              exact .inr ⟨by omega, r, g2, g3⟩
      · rw [if_neg hyx]
        refine ⟨cs, hch _ _ _ _ hcs (fun j hj => ?_)⟩
        rcases (by omega : j = 0 ∨ j = 1) with rfl | rfl
        · exact fun e => hyx e.symm
        · exact fun e => hno y hy e.symm
    · show (if y = x then ((2 * k : Nat) : Int) + 1 else s.heads y) = 0
      rw [if_neg (fun e => by subst e; rw [valL_may s2] at hy; cases hy)]
      exact h.far y hy
    · rcases h.cf with e | ⟨j, r, g1, g2, g3, g4⟩
      · exact .inl e
      · exact .inr ⟨j, r, by omega, g2, by rw [hold _ _ g1]; exact g3, g4⟩
  · rename_i x rest hs
    obtain ⟨s1, s2⟩ := seekM_none hs
    rw [if_neg (by decide), e2]
    obtain ⟨cf, hcf⟩ : ∃ cf, (if s.conf = -1 ∨ (k : Int) < s.conf then (k : Int) else s.conf) = cf := ⟨_, rfl⟩
    rw [hcf]
    have hle : cf ≠ -1 ∧ (s.conf ≠ -1 → cf ≤ s.conf) ∧ (cf = (k : Int) ∨ cf = s.conf) := by
      rw [← hcf]
      split
      · rename_i e
        refine ⟨by omega, fun e2 => ?_, .inl rfl⟩
        rcases e with e | e
        · exact absurd e e2
        · omega
      · rename_i e
        exact ⟨fun e' => e (.inl e'), fun _ => Int.le_refl _, .inr rfl⟩
    have hold' := fun r' j hj => (hold r' j hj)
    rw [e2] at hold hat hlen2 hch
    refine ⟨hlen2 _, hkl, fun j r d hj hrj hd => ?_, fun t ht => ?_, fun j r hj hrj n1 n2 => ?_, hone, fun y hy => ?_, h.far, h.q1, ?_, ?_, h.may, h.cons⟩
    · by_cases ejk : j = k
      · subst ejk
        rw [hat] at hrj
        cases hrj
        rw [hc] at hd
        cases hd
        exact ⟨⟨c, by simp, fun y hy => (s2 y hy).imp_right (fun e => .inl e)⟩, .inl rfl, .inl rfl, fun _ => rfl⟩
      · rw [hold _ _ (by omega)] at hrj
        exact h.row j r d (by omega) hrj hd
    · rw [show t = 2 * k + 1 by simpa using ht, e4]
      refine ⟨by omega, fun v hv => ?_⟩
      have hv2 := (hat _).symm.trans hv
      cases hv2
      rw [e5]
      exact ⟨rfl, fun _ => rfl⟩
    · have ejk := hkm j n1 n2
      rw [hold _ _ (by omega)] at hrj
      exact (h.stat j r (by omega) hrj (by simp) (by simp)).grow rfl (fun _ h => h) (fun a b => ⟨hle.1, Int.le_trans (hle.2.1 a) b⟩)
    · obtain ⟨cs, hcs⟩ := h.chain y hy
      refine ⟨cs, hch _ _ _ _ hcs (fun j hj => ?_)⟩
      rcases (by omega : j = 0 ∨ j = 1) with rfl | rfl <;> exact fun e => hno y hy e.symm
    · have := hq2 { rest := [], w0 := -1, w1 := -1, n0 := 0, n1 := 0 } s.q (fun _ h => h)
      rw [e2] at this
      exact this
    · rcases hle.2.2 with e | e
      · exact .inr ⟨k, _, by omega, e, hat _, rfl, rfl, rfl⟩
      · rcases h.cf with g | ⟨j, r, g1, g2, g3, g4⟩
        · exact absurd (e.trans g) hle.1
        · exact .inr ⟨j, r, by omega, e.trans g2, by rw [hold _ _ g1]; exact g3, g4⟩
end Go.Proofs.YtggighikemhnfaaDoor.Tm
namespace Go.Proofs.YtggighikemhnfaaDoor.Tm
set_option linter.unusedVariables false
def FalC (ps c : List Int) : Prop := ∀ x ∈ c, valL ps x = 2
def UniC (ps c : List Int) (y : Int) : Prop := y ∈ c ∧ valL ps y = 0 ∧ ∀ x ∈ c, valL ps x = 2 ∨ x = y
/-- The run from literals that were put to the answer. -/
inductive RunsD (cls : List (List Int)) : List Int → List Int → Int → Prop
  | conf {ps : List Int} {k : Nat} {c : List Int} : cls[k]? = some c → FalC ps c → (∀ (j : Nat) (d : List Int), j < k → cls[j]? = some d → ¬ FalC ps d) → RunsD cls ps ps (k : Int)
  | done {ps : List Int} : (∀ (j : Nat) (d : List Int), cls[j]? = some d → ¬ FalC ps d) → (∀ (j : Nat) (d : List Int), cls[j]? = some d → ∀ y, ¬ UniC ps d y) → RunsD cls ps ps (-1)
  | put {ps r : List Int} {e : Int} {k : Nat} {c : List Int} {y : Int} : (∀ (j : Nat) (d : List Int), cls[j]? = some d → ¬ FalC ps d) → cls[k]? = some c → UniC ps c y → (∀ (j : Nat) (d : List Int), j < k → cls[j]? = some d → ∀ z, ¬ UniC ps d z) → RunsD cls (ps ++ [y]) r e → RunsD cls ps r e
theorem UniC.eq {ps c : List Int} {y z : Int} (h : UniC ps c y) (k : UniC ps c z) : y = z := by
  rcases k.2.2 y h.1 with e | e
  · rw [h.2.1] at e; cases e
  · exact e
theorem RunsD.same {cls : List (List Int)} {ps r r' : List Int} {e e' : Int} (h : RunsD cls ps r e) : RunsD cls ps r' e' → r = r' ∧ e = e' := by
  induction h with
  | conf h1 h2 h3 =>
    rename_i ps k c
    intro g
    cases g with
    | conf g1 g2 g3 =>
      rename_i k' c'
      have : k = k' := by
        rcases Nat.lt_trichotomy k k' with l | l | l
        · exact absurd h2 (g3 _ _ l h1)
        · exact l
        · exact absurd g2 (h3 _ _ l g1)
      exact ⟨rfl, by rw [this]⟩
    | done g1 g2 => exact absurd h2 (g1 _ _ h1)
    | put g1 g2 g3 g4 g5 => exact absurd h2 (g1 _ _ h1)
  | done h1 h2 =>
    intro g
    cases g with
    | conf g1 g2 g3 => exact absurd g2 (h1 _ _ g1)
    | done g1 g2 => exact ⟨rfl, rfl⟩
    | put g1 g2 g3 g4 g5 => exact absurd g3 (h2 _ _ g2 _)
  | put h1 h2 h3 h4 h5 ih =>
    rename_i ps r e k c y
    intro g
    cases g with
    | conf g1 g2 g3 => exact absurd g2 (h1 _ _ g1)
    | done g1 g2 => exact absurd h3 (g2 _ _ h2 _)
    | put g1 g2 g3 g4 g5 =>
      rename_i k' c' y'
      have hk : k = k' := by
        rcases Nat.lt_trichotomy k k' with l | l | l
        · exact absurd h3 (g4 _ _ l h2 _)
        · exact l
        · exact absurd g3 (h4 _ _ l g2 _)
      subst hk
      rw [h2] at g2
      cases g2
      have hy := h3.eq g3
      subst hy
      exact ih g5
/-- What is given, put. -/
def giveM : List Int → List Int → List Int × Bool
  | ps, [] => (ps, true)
  | ps, x :: g => if mayU x = true then (if valL ps x = 0 then giveM (ps ++ [x]) g else if valL ps x = 2 then (ps, false) else giveM ps g) else giveM ps g
def RunRel (cls : List (List Int)) (given r : List Int) (e : Int) : Prop :=
  ((giveM [] given).2 = false ∧ r = (giveM [] given).1 ∧ e = -2) ∨ ((giveM [] given).2 = true ∧ RunsD cls (giveM [] given).1 r e)
theorem RunRel.same {cls : List (List Int)} {given r r' : List Int} {e e' : Int} (h : RunRel cls given r e) (k : RunRel cls given r' e') : r = r' ∧ e = e' := by
  rcases h with ⟨h1, h2, h3⟩ | ⟨h1, h2⟩ <;> rcases k with ⟨k1, k2, k3⟩ | ⟨k1, k2⟩
  · exact ⟨h2.trans k2.symm, h3.trans k3.symm⟩
  · rw [h1] at k1; cases k1
  · rw [h1] at k1; cases k1
  · exact h2.same k2
section
variable {cls : List (List Int)} {s : USt}
theorem Inv.get (h : Inv cls cls.length [] s) {k : Nat} {c : List Int} (hc : cls[k]? = some c) : ∃ r, s.rows[k]? = some r ∧ RowI s.ps c r ∧ Stat s k r := by
  have hk := (List.getElem?_eq_some_iff.1 hc).1
  obtain ⟨r, hr⟩ : ∃ r, s.rows[k]? = some r := ⟨_, List.getElem?_eq_getElem (by rw [h.len]; exact hk)⟩
  exact ⟨r, hr, h.row k r c hk hr hc, h.stat k r hk hr (by simp) (by simp)⟩
theorem RowI.in_c {ps c : List Int} {r : URow} (h : RowI ps c r) (j : Nat) (hv : valL ps (wat r j) ≠ 2) : wat r j ∈ c := by
  rcases h.mem j with e | e
  · rw [e] at hv; exact absurd rfl hv
  · exact e.1
theorem Inv.no_false (h : Inv cls cls.length [] s) {k : Nat} {c : List Int} (hc : cls[k]? = some c) (hcf : s.conf = -1 ∨ (k : Int) < s.conf) : ¬ FalC s.ps c := fun hF => by
  obtain ⟨r, hr, hI, hS⟩ := h.get hc
  have key : ∀ j, valL s.ps (wat r j) ≠ 2 → False := fun j hv => hv (hF _ (hI.in_c j hv))
  rcases hS with g | g | ⟨_, j, _, g, _⟩ | ⟨_, _, _, g1, g2⟩
  · rcases g with g | g
    · exact key 0 (by show valL s.ps r.w0 ≠ 2; rw [g]; decide)
    · exact key 1 (by show valL s.ps r.w1 ≠ 2; rw [g]; decide)
  · exact key 0 (by show valL s.ps r.w0 ≠ 2; rw [g.1]; decide)
  · exact key j (by rw [g]; decide)
  · rcases hcf with e | e
    · exact g1 e
    · omega
theorem Inv.unit (h : Inv cls cls.length [] s) (hcf : s.conf = -1) {k : Nat} {c : List Int} (hc : cls[k]? = some c) {y : Int} (hU : UniC s.ps c y) : ∃ t ∈ s.q, t / 2 = k := by
  obtain ⟨r, hr, hI, hS⟩ := h.get hc
  obtain ⟨h1, h2, h3⟩ := hU
  have key : ∀ j, valL s.ps (wat r j) ≠ 2 → wat r j = y := fun j hv => (h3 _ (hI.in_c j hv)).resolve_left hv
  rcases hS with g | g | ⟨_, j, hj, _, _, g⟩ | ⟨_, _, _, g1, g2⟩
  · exfalso
    rcases g with g | g
    · have := key 0 (by show valL s.ps r.w0 ≠ 2; rw [g]; decide)
      rw [← this] at h2
      rw [show wat r 0 = r.w0 from rfl, g] at h2; cases h2
    · have := key 1 (by show valL s.ps r.w1 ≠ 2; rw [g]; decide)
      rw [← this] at h2
      rw [show wat r 1 = r.w1 from rfl, g] at h2; cases h2
  · exfalso
    have a := key 0 (by show valL s.ps r.w0 ≠ 2; rw [g.1]; decide)
    have b := key 1 (by show valL s.ps r.w1 ≠ 2; rw [g.2]; decide)
    have := hI.ne (a.trans b.symm)
    rw [this, valL_none] at g
    cases g.1
  · exact ⟨_, g, by omega⟩
  · exact absurd hcf g1
/-- A slot of the queue. -/
theorem Inv.slot (h : Inv cls cls.length [] s) (hcf : s.conf = -1) {t : Nat} (ht : t ∈ s.q) : ∃ r c, s.rows[t / 2]? = some r ∧ cls[t / 2]? = some c ∧ mayU (wat r (t % 2)) = true ∧ (valL s.ps (wat r (t % 2)) = 0 ∧ UniC s.ps c (wat r (t % 2)) ∨ valL s.ps (wat r (t % 2)) = 1) := by
  obtain ⟨g1, _, r, g2, g3, g4, g5⟩ := h.q2 t ht
  obtain ⟨c, hc⟩ : ∃ c, cls[t / 2]? = some c := ⟨_, List.getElem?_eq_getElem g1⟩
  have hI := h.row _ r c g1 g2 hc
  have hj : t % 2 < 2 := Nat.mod_lt _ (by omega)
  refine ⟨r, c, g2, hc, g5, ?_⟩
  rcases valL_cases s.ps (wat r (t % 2)) with e | e | e
  · refine .inl ⟨e, hI.in_c _ (by rw [e]; decide), e, fun x hx => ?_⟩
    rcases hI.cover g3 x hx with g | g | g
    · exact .inl g
    · rcases (by omega : t % 2 = 0 ∨ t % 2 = 1) with e0 | e0 <;> rw [e0] at g4 ⊢
      · exact .inr g
      · exact .inl (by rw [g]; exact g4)
    · rcases (by omega : t % 2 = 0 ∨ t % 2 = 1) with e0 | e0 <;> rw [e0] at g4 ⊢
      · exact .inl (by rw [g]; exact g4)
      · exact .inr g
  · exact .inr e
  · exfalso
    have h22 := two_wat hj (p := fun z => valL s.ps z = 2) e g4
    rcases h.stat _ r g1 g2 (by simp) (by simp) with g | g | ⟨_, j, hj2, g, _⟩ | g
    · rcases g with g | g
      · rw [h22.1] at g; cases g
      · rw [h22.2] at g; cases g
    · rw [h22.1] at g; cases g.1
    · have := (wat_two hj2 (p := fun z => valL s.ps z = 2) h22).1
      rw [this] at g; cases g
    · exact g.2.2.2.1 hcf
theorem Inv.done_conf (h : Inv cls cls.length [] s) (hcf : s.conf ≠ -1) : RunsD cls s.ps s.ps s.conf := by
  rcases h.cf with e | ⟨k, r, g1, g2, g3, g4, g5, g6⟩
  · exact absurd e hcf
  · obtain ⟨c, hc⟩ : ∃ c, cls[k]? = some c := ⟨_, List.getElem?_eq_getElem g1⟩
    have hI := h.row _ r c g1 g3 hc
    have := RunsD.conf (ps := s.ps) hc (fun x hx => by
      rcases hI.cover g4 x hx with g | g | g
      · exact g
      · rw [g]; exact g5
      · rw [g]; exact g6) (fun j d hj hd => h.no_false hd (.inr (by omega)))
    rw [g2]
    exact this
theorem Inv.done_none (h : Inv cls cls.length [] s) (hcf : s.conf = -1) (hq : s.q = []) : RunsD cls s.ps s.ps (-1) :=
  .done (fun j d hd => h.no_false hd (.inl hcf)) (fun j d hd y hU => by
    obtain ⟨t, ht, _⟩ := h.unit hcf hd hU
    rw [hq] at ht
    cases ht)
theorem Inv.step (h : Inv cls cls.length [] s) (hcf : s.conf = -1) {t : Nat} (ht : t ∈ s.q) (hmin : ∀ u ∈ s.q, t ≤ u) {r : URow} (hr : s.rows[t / 2]? = some r) (hv : valL s.ps (wat r (t % 2)) = 0) {rs : List Int} {e : Int} (hR : RunsD cls (s.ps ++ [wat r (t % 2)]) rs e) : RunsD cls s.ps rs e := by
  obtain ⟨r', c, g1, g2, g3, g4⟩ := h.slot hcf ht
  rw [hr] at g1
  cases g1
  rcases g4 with g4 | g4
  · refine .put (fun j d hd => h.no_false hd (.inl hcf)) g2 g4.2 (fun j d hj hd z hU => ?_) hR
    obtain ⟨u, hu, e⟩ := h.unit hcf hd hU
    have := hmin u hu
    omega
  · rw [hv] at g4; cases g4
theorem Inv.drop (h : Inv cls cls.length [] s) {t : Nat} {r : URow} (hr : s.rows[t / 2]? = some r) (hv : valL s.ps (wat r (t % 2)) = 1) : Inv cls cls.length [] { s with q := s.q.erase t } := by
  refine ⟨h.len, h.ml, h.row, fun u hu => (by cases hu), fun k v hk hkv n1 n2 => ?_, fun u hu => (by cases hu), h.chain, h.far, (List.erase_sublist.map (· / 2)).nodup h.q1, fun u hu => h.q2 u (List.mem_of_mem_erase hu), h.cf, h.may, h.cons⟩
  rcases h.stat k v hk hkv n1 n2 with g | g | ⟨g1, j, g2, g3, g4, g5⟩ | g
  · exact .inl g
  · exact .inr (.inl g)
  · refine .inr (.inr (.inl ⟨g1, j, g2, g3, g4, (List.mem_erase_of_ne (fun e => ?_)).2 g5⟩))
    rw [← e, show (2 * k + j) / 2 = k by omega, hkv] at hr
    cases hr
    rw [← e, show (2 * k + j) % 2 = j by omega, g3] at hv
    cases hv
  · exact .inr (.inr (.inr g))
end
theorem nodup_erase {l : List Nat} {t u : Nat} (hn : (l.map (· / 2)).Nodup) (hu : u ∈ l) (h : u ∉ l.erase t) : u = t := by
  exact Decidable.byContradiction fun e => h ((List.mem_erase_of_ne e).2 hu)
/-- How many literals of the clauses are open. -/
def opens (cls : List (List Int)) (ps : List Int) : Nat := (cls.flatten.filter (fun x => decide (valL ps x = 0))).length
theorem filter_lt {l : List Int} {p q : Int → Bool} (h : ∀ x, q x = true → p x = true) {y : Int} (hy : y ∈ l) (h1 : p y = true) (h2 : q y = false) : (l.filter q).length < (l.filter p).length := by
  have hle : ∀ l : List Int, (l.filter q).length ≤ (l.filter p).length := fun l => by
    induction l with
    | nil => exact Nat.le_refl _
    | cons x r ih =>
      rw [List.filter_cons, List.filter_cons]
      by_cases hq : q x = true
      · rw [if_pos hq, if_pos (h x hq)]; simp; exact ih
      · rw [if_neg hq]
        split
        · simp; omega
        · exact ih
  induction l with
  | nil => cases hy
  | cons x r ih =>
    rw [List.filter_cons, List.filter_cons]
    rcases List.mem_cons.1 hy with e | e
    · subst e
      rw [if_pos h1, if_neg (by rw [h2]; decide)]
      have := hle r
      simp; omega
    · have := ih e
      by_cases hq : q x = true
      · rw [if_pos hq, if_pos (h x hq)]; simp; exact this
      · rw [if_neg hq]
        split
        · simp; omega
        · exact this
theorem opens_lt {cls : List (List Int)} {ps : List Int} {k : Nat} {c : List Int} {y : Int} (hc : cls[k]? = some c) (hy : y ∈ c) (hv : valL ps y = 0) : opens cls (ps ++ [y]) < opens cls ps := by
  refine filter_lt (fun x hx => ?_) (List.mem_flatten.2 ⟨c, List.mem_of_getElem? hc, hy⟩) (decide_eq_true hv) (decide_eq_false (by rw [put_self hv]; decide))
  exact decide_eq_true (put_back hv (of_decide_eq_true hx)).1
end Go.Proofs.YtggighikemhnfaaDoor.Tm
