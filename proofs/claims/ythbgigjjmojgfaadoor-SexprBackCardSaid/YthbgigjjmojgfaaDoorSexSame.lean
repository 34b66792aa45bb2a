/- Whether two expressions are the same: the function Same of package sexpr. -/
import Derived.Test.YthbgigjjmojgfaaDoorSexMay
namespace Go.Proofs.YthbgigjjmojgfaaDoor
open Go.RowKit Go.Shelf
attribute [local go_sem] Oper.semAt_some
def evr (_ : Int) : Bool := true
theorem evr_kids (t : Tree) : ownL evr t = t.kids := by cases t; rfl
theorem whatever_evr (k : Int) (s : ByteArray) (a : Option Addr) (n c : Nat) (W : World) :
    Calls Tryd.prog 37 #[.agg #[.int .i8 k, .string s, .slice a n c]] W fun e w' => e = .returned (if evr k = true then .slice a n c else .slice none 0 0) ∧ Below W.heap.size W w' := whatever_any k s a n c W
/-- What is still to come of the first one: its rows, the outermost first. -/
def remL (d : Nat) : List (List Tree) → List (Nat × Tree)
  | [] => []
  | l :: ls => remL (d + 1) ls ++ preL evr d l
theorem remL_nil {d : Nat} {ra : List (List Tree)} (h : remL d ra = []) : ∀ l ∈ ra, l = [] := by
  induction ra generalizing d with
  | nil => simp
  | cons l r ih =>
    simp only [remL, List.append_eq_nil_iff] at h
    intro q hq
    rcases List.mem_cons.1 hq with rfl | hq
    · cases q with
      | nil => rfl
      | cons t q => rw [preL, preT_eq] at h; simp at h
    · exact ih h.1 q hq
theorem remL_empty {d : Nat} {ra : List (List Tree)} (h : ∀ l ∈ ra, l = []) : remL d ra = [] := by
  induction ra generalizing d with
  | nil => rfl
  | cons l r ih =>
    simp only [remL]
    rw [ih (fun q hq => h q (by simp [hq])), h l (by simp)]
    rfl
theorem remL_append (d : Nat) (ra rb : List (List Tree)) : remL d (ra ++ rb) = remL (d + ra.length) rb ++ remL d ra := by
  induction ra generalizing d with
  | nil => simp [remL]
  | cons l r ih =>
    simp only [List.cons_append, remL, ih, List.length_cons, List.append_assoc]
    congr 2
    omega
/-- The next one is the last row's that is not empty. -/
theorem remL_next {d k : Nat} {y : Tree} {ra : List (List Tree)} {more : List (Nat × Tree)} (h : remL d ra = (k, y) :: more) :
    ∃ pre l tail, ra = pre ++ [y :: l] ++ tail ∧ k = d + pre.length ∧ (∀ q ∈ tail, q = []) ∧ more = remL d (pre ++ [l] ++ [y.kids]) := by
  induction ra generalizing d more with
  | nil => simp [remL] at h
  | cons l r ih =>
    simp only [remL] at h
    by_cases he : remL (d + 1) r = []
    · rw [he, List.nil_append] at h
      cases l with
      | nil => simp [preL] at h
      | cons t l =>
        simp only [preL, preT_eq, List.cons_append, List.cons.injEq, Prod.mk.injEq] at h
        obtain ⟨⟨rfl, rfl⟩, rfl⟩ := h
        refine ⟨[], l, r, rfl, by simp, remL_nil he, ?_⟩
        simp [remL, evr_kids]
    · obtain ⟨p, rest, hp⟩ : ∃ p rest, remL (d + 1) r = p :: rest := by
        cases hr : remL (d + 1) r with
        | nil => exact absurd hr he
        | cons p rest => exact ⟨p, rest, rfl⟩
      rw [hp] at h
      simp only [List.cons_append, List.cons.injEq] at h
      obtain ⟨rfl, rfl⟩ := h
      obtain ⟨pre, l', tail, h1, h2, h3, h4⟩ := ih hp
      refine ⟨l :: pre, l', tail, by rw [h1]; rfl, by simp; omega, h3, ?_⟩
      rw [h4]
      simp [remL]
/-- Rows of the second one that are as long. -/
def Like (ra rb : List (List Tree)) : Prop := ra.map List.length = rb.map List.length
theorem like_split {pre tail : List (List Tree)} {y : Tree} {l : List Tree} {rb : List (List Tree)} (h : Like (pre ++ [y :: l] ++ tail) rb) (ht : ∀ q ∈ tail, q = []) :
    ∃ preb y' l' tailb, rb = preb ++ [y' :: l'] ++ tailb ∧ preb.length = pre.length ∧ Like pre preb ∧ l'.length = l.length ∧ tailb = tail ∧ rb.length = (pre ++ [y :: l] ++ tail).length := by
  unfold Like at h
  have hlen : rb.length = (pre ++ [y :: l] ++ tail).length := by have := congrArg List.length h; simpa using this.symm
  have hk : pre.length < rb.length := by rw [hlen]; simp
  have hd : rb = rb.take pre.length ++ rb[pre.length] :: rb.drop (pre.length + 1) := by
    rw [← List.drop_eq_getElem_cons hk, List.take_append_drop]
  have h1 : pre.map List.length = (rb.take pre.length).map List.length := by
    have := congrArg (List.take pre.length) h
    rw [List.append_assoc, List.map_append, List.take_left' (by simp)] at this
    rw [this, List.map_take]
  have h2 : rb[pre.length].length = l.length + 1 := by
    have := congrArg (fun x => x[pre.length]?) h
    simp only [List.append_assoc, List.map_append, List.getElem?_map] at this
    rw [List.getElem?_append_right (by simp)] at this
    simp [hk] at this
    omega
  have h3 : (rb.drop (pre.length + 1)).map List.length = tail.map List.length := by
    have := congrArg (List.drop (pre.length + 1)) h
    rw [List.map_append, List.drop_left' (by simp)] at this
    rw [this, List.map_drop]
  have h4 : rb.drop (pre.length + 1) = tail := by
    apply List.ext_getElem?
    intro i
    have h5 := congrArg (fun x => x[i]?) h3
    simp only [List.getElem?_map] at h5
    cases ha : tail[i]? with
    | none => rw [ha] at h5; simpa using h5
    | some q =>
      have hq := ht q (List.mem_of_getElem? ha)
      subst hq
      rw [ha] at h5
      cases hb : (rb.drop (pre.length + 1))[i]? with
      | none => rw [hb] at h5; simp at h5
      | some q' => rw [hb] at h5; simp at h5; rw [h5]
  obtain ⟨y', l', hyl⟩ : ∃ y' l', rb[pre.length] = y' :: l' := by
    cases hr : rb[pre.length] with
    | nil => rw [hr] at h2; simp at h2
    | cons y' l' => exact ⟨y', l', rfl⟩
  refine ⟨rb.take pre.length, y', l', rb.drop (pre.length + 1), by rw [← hyl]; simp, by simp; omega, h1, ?_, h4, hlen⟩
  rw [hyl] at h2; simpa using h2
theorem like_step {pre preb : List (List Tree)} {l l' : List Tree} {y y' : Tree} (h : Like pre preb) (hl : l'.length = l.length) (hk : y.kids.length = y'.kids.length) : Like (pre ++ [l] ++ [y.kids]) (preb ++ [l'] ++ [y'.kids]) := by
  unfold Like at *
  simp [h, hl, hk]
theorem eq_step {pre preb tail : List (List Tree)} {l l' : List Tree} {y y' : Tree} (hp : preb.length = pre.length) (hk : y.kind = y'.kind) (ht : y.text = y'.text) :
    pre ++ [y :: l] ++ tail = preb ++ [y' :: l'] ++ tail ↔ pre ++ [l] ++ [y.kids] = preb ++ [l'] ++ [y'.kids] := by
  have hy : y = y' ↔ y.kids = y'.kids := by
    constructor
    · intro h; rw [h]
    · intro h
      cases y; cases y'
      simp only [Tree.kind, Tree.text, Tree.kids] at *
      subst hk; subst ht; subst h; rfl
  constructor
  · intro h
    rw [List.append_assoc, List.append_assoc] at h
    obtain ⟨h1, h2⟩ := List.append_inj h hp.symm
    simp only [List.cons_append, List.nil_append, List.cons.injEq] at h2
    obtain ⟨⟨h3, h4⟩, _⟩ := h2
    rw [h1, h4, hy.1 h3]
  · intro h
    rw [List.append_assoc, List.append_assoc] at h
    obtain ⟨h1, h2⟩ := List.append_inj h hp.symm
    simp only [List.cons_append, List.nil_append, List.cons.injEq, and_true] at h2
    rw [h1, h2.1, hy.2 h2.2]
/-- The rows that are the same all along are empty, or unlike rows are not. -/
theorem like_end {ra rb : List (List Tree)} (h : Like ra rb) (he : ∀ l ∈ ra, l = []) : ra = rb := by
  unfold Like at h
  induction ra generalizing rb with
  | nil => cases rb with | nil => rfl | cons _ _ => simp at h
  | cons l r ih =>
    cases rb with
    | nil => simp at h
    | cons l' r' =>
      simp only [List.map_cons, List.cons.injEq] at h
      have hl := he l (by simp)
      subst hl
      have hl' : l' = [] := List.eq_nil_of_length_eq_zero (by simpa using h.1.symm)
      rw [hl', ih h.2 (fun q hq => he q (by simp [hq]))]
mutual
/-- What is within has an expression around it. -/
theorem preT_up (own : Int → Bool) : ∀ (t : Tree) (d : Nat) (x : Nat × Tree), x ∈ preT own d t → x.1 = d ∨ ∃ z ∈ preT own d t, z.1 + 1 = x.1 ∧ ownL own z.2 ≠ []
  | .node k s l, d, x, hx => by
    rw [preT_eq] at hx
    rcases List.mem_cons.1 hx with rfl | hx
    · exact .inl rfl
    · have hne : ownL own (.node k s l) ≠ [] := fun e => by rw [e] at hx; simp [preL] at hx
      have hl : ownL own (.node k s l) = l := by
        simp only [ownL] at hne ⊢
        split
        · rfl
        · rename_i hn; rw [if_neg hn] at hne; exact absurd rfl hne
      rw [hl] at hx
      rcases preL_up own l (d + 1) x hx with h | ⟨z, hz, h1, h2⟩
      · exact .inr ⟨(d, .node k s l), by rw [preT_eq]; exact List.mem_cons_self, by simp [h], hne⟩
      · exact .inr ⟨z, by rw [preT_eq, hl]; exact List.mem_cons_of_mem _ hz, h1, h2⟩
theorem preL_up (own : Int → Bool) : ∀ (l : List Tree) (d : Nat) (x : Nat × Tree), x ∈ preL own d l → x.1 = d ∨ ∃ z ∈ preL own d l, z.1 + 1 = x.1 ∧ ownL own z.2 ≠ []
  | [], _, _, hx => by simp [preL] at hx
  | t :: r, d, x, hx => by
    simp only [preL, List.mem_append] at hx ⊢
    rcases hx with hx | hx
    · rcases preT_up own t d x hx with h | ⟨z, hz, h⟩
      · exact .inl h
      · exact .inr ⟨z, .inl hz, h⟩
    · rcases preL_up own r d x hx with h | ⟨z, hz, h⟩
      · exact .inl h
      · exact .inr ⟨z, .inr hz, h⟩
end
theorem dep_all {t : Tree} {n : Nat} (h : ∀ x ∈ preT evr 0 t, x.2.kids ≠ [] → x.1 < n) : ∀ x ∈ preT evr 0 t, x.1 ≤ n := by
  intro x hx
  rcases preT_up evr t 0 x hx with h0 | ⟨z, hz, h1, h2⟩
  · omega
  · rw [evr_kids] at h2
    have := h z hz h2
    omega
end Go.Proofs.YthbgigjjmojgfaaDoor
