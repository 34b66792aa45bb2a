/- Units: the plain run with two watched literals, and what it keeps. -/
import Derived.Test.YtggighikemhnfaaDoorClB
namespace Go.Proofs.YtggighikemhnfaaDoor.Tm
set_option linter.unusedVariables false
def mayU (x : Int) : Bool := decide (0 ≤ x) && decide (x ≤ 1048576)
theorem mayU_iff {x : Int} : mayU x = true ↔ 0 ≤ x ∧ x ≤ 1048576 := by unfold mayU; simp
/-- A literal's value by what was put: 2 what is left out. -/
def valL (ps : List Int) (x : Int) : Int := if mayU x = true then (if x ∈ ps then 1 else if negM x ∈ ps then 2 else 0) else 2
theorem valL_cases (ps : List Int) (x : Int) : valL ps x = 0 ∨ valL ps x = 1 ∨ valL ps x = 2 := by
  unfold valL
  split
  · split
    · exact .inr (.inl rfl)
    · split
      · exact .inr (.inr rfl)
      · exact .inl rfl
  · exact .inr (.inr rfl)
theorem valL_none (ps : List Int) : valL ps (-1) = 2 := rfl
theorem valL_may {ps : List Int} {x : Int} (h : valL ps x ≠ 2) : mayU x = true := by
  unfold valL at h
  split at h
  · assumption
  · exact absurd rfl h
structure URow where
  rest : List Int
  w0 : Int
  w1 : Int
  n0 : Int
  n1 : Int
structure USt where
  ps : List Int
  heads : Int → Int
  rows : List URow
  q : List Nat
  conf : Int
def wat (r : URow) (k : Nat) : Int := if k = 0 then r.w0 else r.w1
def nxt (r : URow) (k : Nat) : Int := if k = 0 then r.n0 else r.n1
def sib (slot : Nat) : Nat := if slot % 2 = 0 then slot + 1 else slot - 1
theorem sib_half (s : Nat) : sib s / 2 = s / 2 := by unfold sib; split <;> omega
theorem sib_mod (s : Nat) : sib s % 2 = 1 - s % 2 := by unfold sib; split <;> omega
theorem sib_sib (s : Nat) : sib (sib s) = s := by unfold sib; split <;> split <;> omega
theorem sib_ne (s : Nat) : sib s ≠ s := by unfold sib; split <;> omega
theorem sib_of {s t : Nat} (h : s / 2 = t / 2) (hn : s ≠ t) : t = sib s := by unfold sib; split <;> omega
def putW (r : URow) (k : Nat) (x n : Int) (rest : List Int) : URow := if k = 0 then ⟨rest, x, r.w1, n, r.n1⟩ else ⟨rest, r.w0, x, r.n0, n⟩
def seekM (ps : List Int) (o : Int) : List Int → Option Int × List Int
  | [] => (none, [])
  | x :: r => if x ≠ o ∧ valL ps x ≠ 2 then (some x, r) else seekM ps o r
def lookM (s : USt) (slot : Nat) : USt :=
  match s.rows[slot / 2]? with
  | none => s
  | some r =>
    if valL s.ps (wat r (1 - slot % 2)) = 1 then s else
    match seekM s.ps (wat r (1 - slot % 2)) r.rest with
    | (some x, rest) => { s with rows := s.rows.set (slot / 2) (putW r (slot % 2) x (s.heads x) rest), heads := fun y => if y = x then (slot : Int) + 1 else s.heads y }
    | (none, _) =>
      if valL s.ps (wat r (1 - slot % 2)) = 0 then { s with rows := s.rows.set (slot / 2) { r with rest := [] }, q := sib slot :: s.q }
      else { s with rows := s.rows.set (slot / 2) { r with rest := [] }, conf := if s.conf = -1 ∨ ((slot / 2 : Nat) : Int) < s.conf then ((slot / 2 : Nat) : Int) else s.conf }
theorem lookM_ps (s : USt) (slot : Nat) : (lookM s slot).ps = s.ps := by
  unfold lookM
  split
  · rfl
  · split
    · rfl
    · split
      · rfl
      · split <;> rfl
theorem seekM_some {ps : List Int} {o x : Int} : ∀ {l rest : List Int}, seekM ps o l = (some x, rest) → x ≠ o ∧ valL ps x ≠ 2 ∧ ∃ pre, l = pre ++ x :: rest ∧ ∀ y ∈ pre, valL ps y = 2 ∨ y = o
  | [], rest, h => by simp [seekM] at h
  | y :: r, rest, h => by
    unfold seekM at h
    split at h
    · rename_i hc
      cases h
      exact ⟨hc.1, hc.2, [], rfl, fun z hz => by cases hz⟩
    · rename_i hc
      obtain ⟨h1, h2, pre, h3, h4⟩ := seekM_some h
      refine ⟨h1, h2, y :: pre, by rw [h3]; rfl, fun z hz => ?_⟩
      rcases List.mem_cons.1 hz with rfl | hz
      · by_cases e : z = o
        · exact .inr e
        · exact .inl (Decidable.byContradiction fun h => hc ⟨e, h⟩)
      · exact h4 z hz
theorem seekM_none {ps : List Int} {o : Int} : ∀ {l rest : List Int}, seekM ps o l = (none, rest) → rest = [] ∧ ∀ y ∈ l, valL ps y = 2 ∨ y = o
  | [], rest, h => by
    simp [seekM] at h
    exact ⟨h, fun y hy => by cases hy⟩
  | y :: r, rest, h => by
    unfold seekM at h
    split at h
    · cases h
    · rename_i hc
      obtain ⟨h1, h2⟩ := seekM_none h
      refine ⟨h1, fun z hz => ?_⟩
      rcases List.mem_cons.1 hz with rfl | hz
      · by_cases e : z = o
        · exact .inr e
        · exact .inl (Decidable.byContradiction fun h => hc ⟨e, h⟩)
      · exact h2 z hz
/-- The slots that are reached from one. -/
def ChainL (rows : List URow) : Int → List Nat → Prop
  | n, [] => n = 0
  | n, t :: cs => n = (t : Int) + 1 ∧ ∃ r, rows[t / 2]? = some r ∧ ChainL rows (nxt r (t % 2)) cs
theorem ChainL.same {rows rows' : List URow} : ∀ {n : Int} {cs : List Nat}, ChainL rows n cs → (∀ t ∈ cs, ∀ r, rows[t / 2]? = some r → ∃ r', rows'[t / 2]? = some r' ∧ nxt r' (t % 2) = nxt r (t % 2)) → ChainL rows' n cs
  | n, [], h, _ => h
  | n, t :: cs, ⟨h1, r, h2, h3⟩, hk => by
    obtain ⟨r', h4, h5⟩ := hk t (by simp) r h2
    exact ⟨h1, r', h4, by rw [h5]; exact h3.same (fun u hu => hk u (by simp [hu]))⟩
/-- What a row keeps of its clause. -/
structure RowI (ps c : List Int) (r : URow) : Prop where
  suf : ∃ pre, c = pre ++ r.rest ∧ ∀ x ∈ pre, valL ps x = 2 ∨ x = r.w0 ∨ x = r.w1
  m0 : r.w0 = -1 ∨ (r.w0 ∈ c ∧ mayU r.w0 = true)
  m1 : r.w1 = -1 ∨ (r.w1 ∈ c ∧ mayU r.w1 = true)
  ne : r.w0 = r.w1 → r.w0 = -1
def Stat (s : USt) (k : Nat) (r : URow) : Prop :=
  (valL s.ps r.w0 = 1 ∨ valL s.ps r.w1 = 1) ∨ (valL s.ps r.w0 = 0 ∧ valL s.ps r.w1 = 0) ∨
  (r.rest = [] ∧ ∃ j, j < 2 ∧ valL s.ps (wat r j) = 0 ∧ valL s.ps (wat r (1 - j)) = 2 ∧ 2 * k + j ∈ s.q) ∨
  (r.rest = [] ∧ valL s.ps r.w0 = 2 ∧ valL s.ps r.w1 = 2 ∧ s.conf ≠ -1 ∧ s.conf ≤ (k : Int))
def PendS (ps : List Int) (r : URow) (j : Nat) : Prop :=
  valL ps (wat r j) = 2 ∧ (valL ps (wat r (1 - j)) = 2 → r.rest = [])
/-- What the state keeps, m rows being live, the slots of P not looked at yet. -/
structure Inv (cls : List (List Int)) (m : Nat) (P : List Nat) (s : USt) : Prop where
  len : s.rows.length = cls.length
  ml : m ≤ cls.length
  row : ∀ k r c, k < m → s.rows[k]? = some r → cls[k]? = some c → RowI s.ps c r
  pend : ∀ t ∈ P, t / 2 < m ∧ ∀ r, s.rows[t / 2]? = some r → PendS s.ps r (t % 2)
  stat : ∀ k r, k < m → s.rows[k]? = some r → 2 * k ∉ P → 2 * k + 1 ∉ P → Stat s k r
  one : ∀ t ∈ P, sib t ∉ P
  chain : ∀ x, valL s.ps x = 0 → ∃ cs, ChainL s.rows (s.heads x) cs ∧ cs.Nodup ∧ ∀ t, t ∈ cs ↔ (t / 2 < m ∧ ∃ r, s.rows[t / 2]? = some r ∧ wat r (t % 2) = x)
  far : ∀ x, mayU x = false → s.heads x = 0
  q1 : (s.q.map (· / 2)).Nodup
  q2 : ∀ t ∈ s.q, t / 2 < m ∧ sib t ∉ P ∧ ∃ r, s.rows[t / 2]? = some r ∧ r.rest = [] ∧ valL s.ps (wat r (1 - t % 2)) = 2 ∧ mayU (wat r (t % 2)) = true
  cf : s.conf = -1 ∨ ∃ (k : Nat) (r : URow), k < m ∧ s.conf = (k : Int) ∧ s.rows[k]? = some r ∧ r.rest = [] ∧ valL s.ps r.w0 = 2 ∧ valL s.ps r.w1 = 2
  may : ∀ x ∈ s.ps, mayU x = true
  cons : ∀ x ∈ s.ps, negM x ∉ s.ps
theorem wat_putW {r : URow} {k j : Nat} {x n : Int} {rest : List Int} (hk : k < 2) (hj : j < 2) : wat (putW r k x n rest) j = if j = k then x else wat r j := by
  unfold wat putW
  rcases (by omega : k = 0 ∨ k = 1) with rfl | rfl <;> rcases (by omega : j = 0 ∨ j = 1) with rfl | rfl <;> rfl
theorem nxt_putW {r : URow} {k j : Nat} {x n : Int} {rest : List Int} (hk : k < 2) (hj : j < 2) : nxt (putW r k x n rest) j = if j = k then n else nxt r j := by
  unfold nxt putW
  rcases (by omega : k = 0 ∨ k = 1) with rfl | rfl <;> rcases (by omega : j = 0 ∨ j = 1) with rfl | rfl <;> rfl
theorem rest_putW {r : URow} {k : Nat} {x n : Int} {rest : List Int} : (putW r k x n rest).rest = rest := by unfold putW; split <;> rfl
theorem wat_two {r : URow} {k : Nat} (hk : k < 2) {p : Int → Prop} (h : p r.w0 ∧ p r.w1) : p (wat r k) ∧ p (wat r (1 - k)) := by
  rcases (by omega : k = 0 ∨ k = 1) with rfl | rfl
  · exact h
  · exact ⟨h.2, h.1⟩
theorem two_wat {r : URow} {k : Nat} (hk : k < 2) {p : Int → Prop} (h : p (wat r k)) (h' : p (wat r (1 - k))) : p r.w0 ∧ p r.w1 := by
  rcases (by omega : k = 0 ∨ k = 1) with rfl | rfl
  · exact ⟨h, h'⟩
  · exact ⟨h', h⟩
theorem or_wat {r : URow} {k : Nat} (hk : k < 2) {p : Int → Prop} (h : p (wat r (1 - k))) : p r.w0 ∨ p r.w1 := by
  rcases (by omega : k = 0 ∨ k = 1) with rfl | rfl
  · exact .inr h
  · exact .inl h
theorem RowI.mem {ps c : List Int} {r : URow} (h : RowI ps c r) (k : Nat) : wat r k = -1 ∨ (wat r k ∈ c ∧ mayU (wat r k) = true) := by
  unfold wat
  split
  · exact h.m0
  · exact h.m1
theorem RowI.cover {ps c : List Int} {r : URow} (h : RowI ps c r) (hr : r.rest = []) : ∀ x ∈ c, valL ps x = 2 ∨ x = r.w0 ∨ x = r.w1 := by
  obtain ⟨pre, h1, h2⟩ := h.suf
  rw [hr, List.append_nil] at h1
  rw [h1]
  exact h2
theorem RowI.ne' {ps c : List Int} {r : URow} (h : RowI ps c r) {k : Nat} (hk : k < 2) (he : wat r k = wat r (1 - k)) : wat r k = -1 := by
  rcases (by omega : k = 0 ∨ k = 1) with rfl | rfl
  · exact h.ne he
  · have := h.ne he.symm
    exact he.trans this
end Go.Proofs.YtggighikemhnfaaDoor.Tm
