/- Plain facts: differences turned about, tables in order. -/
import Derived.Test.YtgjidlfemfomcaaDoorOfK
namespace Go.Proofs.YtgjidlfemfomcaaDoor
open Go.RowKit
set_option linter.unusedVariables false
theorem addE_ok {a b : Int} (h : addE a b = 0) : addOk a b = true := by
  unfold addE at h
  split at h
  · assumption
  · cases h
theorem subE_ok {a b : Int} (h : subE a b = 0) : addOk a (-b) = true := by
  unfold subE at h
  split at h
  · assumption
  · cases h
theorem addV_ok {a b : Int} (h : addOk a b = true) : addV a b = a + b := if_pos h
theorem addE_z {a b : Int} (h : addOk a b = true) : addE a b = 0 := if_pos h
theorem subV_ok {a b : Int} (h : addOk a (-b) = true) : subV a b = a - b := if_pos h
theorem stepA_z {s : Int × Int} {b : Int} (h : (stepA s b).2 = 0) : s.2 = 0 ∧ addOk s.1 b = true ∧ (stepA s b).1 = s.1 + b := by
  by_cases h0 : s.2 = 0
  · unfold stepA at h ⊢
    rw [if_pos h0] at h ⊢
    have := addE_ok h
    exact ⟨h0, this, addV_ok this⟩
  · rw [stepA_err h0] at h; exact absurd h h0
theorem stepS_z {s : Int × Int} {b : Int} (h : (stepS s b).2 = 0) : s.2 = 0 ∧ addOk s.1 (-b) = true ∧ (stepS s b).1 = s.1 - b := by
  by_cases h0 : s.2 = 0
  · unfold stepS at h ⊢
    rw [if_pos h0] at h ⊢
    have := subE_ok h
    exact ⟨h0, this, subV_ok this⟩
  · rw [stepS_err h0] at h; exact absurd h h0
structure DiffOk (l : List NodeA) (a b c : Int) : Prop where
  may : mayT l = true
  oa : (ofP l a).2.2 = 0
  ob : (ofP l b).2.2 = 0
  x : (diffP l a b c).1 = (ofP l a).1
  y : (diffP l a b c).2.1 = (ofP l b).1
  d : (diffP l a b c).2.2.1 = c - (ofP l a).2.1 + (ofP l b).2.1
  mc : -4611686018427387904 ≤ c ∧ c ≤ 4611686018427387904
  ma : -4611686018427387904 ≤ (ofP l a).2.1 ∧ (ofP l a).2.1 ≤ 4611686018427387904
  mb : -4611686018427387904 ≤ (ofP l b).2.1 ∧ (ofP l b).2.1 ≤ 4611686018427387904
  md : -4611686018427387904 ≤ c - (ofP l a).2.1 + (ofP l b).2.1 ∧ c - (ofP l a).2.1 + (ofP l b).2.1 ≤ 4611686018427387904
theorem diff_ok {l : List NodeA} {a b c : Int} (h : (diffP l a b c).2.2.2 = 0) : DiffOk l a b c := by
  obtain ⟨h1, h2, h3⟩ := diffP_may h
  have hm := OfP_may h1
  have he := OfP_eq (id := a) hm
  have h4 := stepA_z h2
  have h5 := stepS_z h4.1
  have h6 := addOk_true.1 h5.2.1
  have h7 := addOk_true.1 h4.2.1
  rw [he] at h1 h4 h5 h6 h7
  rw [h5.2.2] at h7
  have h8 : (diffS l a b c).1 = c - (ofP l a).2.1 + (ofP l b).2.1 := by
    have e := h4.2.2
    rw [h5.2.2] at e
    unfold diffS
    rw [he]
    exact e
  refine ⟨hm, h1, h3, ?_, ?_, ?_, h6.1, by omega, h7.2.1, h7.2.2⟩
  · unfold diffP; rw [if_pos (by rw [he]; exact h1), if_pos h2, he]
  · unfold diffP; rw [if_pos (by rw [he]; exact h1), if_pos h2]
  · unfold diffP; rw [if_pos (by rw [he]; exact h1), if_pos h2]; exact h8
/-- What the law OffsetTurns says, plainly. -/
theorem turns_ok {l : List NodeA} {a b c : Int} (h : (diffP l a b c).2.2.2 = 0) (h' : (diffP l b a (-c - 1)).2.2.2 = 0) : (diffP l a b c).1 = (diffP l b a (-c - 1)).2.1 ∧ (diffP l a b c).2.1 = (diffP l b a (-c - 1)).1 ∧ (diffP l a b c).2.2.1 + (diffP l b a (-c - 1)).2.2.1 = -1 ∧ (-4611686018427387904 ≤ (diffP l a b c).2.2.1 ∧ (diffP l a b c).2.2.1 ≤ 4611686018427387904) ∧ (-4611686018427387904 ≤ (diffP l b a (-c - 1)).2.2.1 ∧ (diffP l b a (-c - 1)).2.2.1 ≤ 4611686018427387904) := by
  have h1 := diff_ok h
  have h2 := diff_ok h'
  have e1 := h1.d
  have e2 := h2.d
  have b1 := h1.md
  have b2 := h2.md
  refine ⟨h1.x.trans h2.y.symm, h1.y.trans h2.x.symm, by omega, by omega, by omega⟩
/-! Tables in order. -/
theorem ord_may {l : List NodeA} (h : ordB l = true) : mayT l = true := by unfold ordB at h; rw [Bool.and_eq_true] at h; exact h.1
theorem ord_good {l : List NodeA} (h : ordB l = true) {k : Nat} {n : NodeA} (hn : l[k]? = some n) (ho : n.op = 11) : ¬ n.num = 0 ∧ ¬ opAt l n = 11 ∧ ¬ opAt l n = 10 := by
  unfold ordB at h
  rw [Bool.and_eq_true, Bool.not_eq_true'] at h
  have hb : ¬ badN l n = true := fun e => by have := any_mem hn e; rw [h.2] at this; cases this
  exact ⟨fun e => hb (bad_num ho e), fun e => hb (bad_add ho e), fun e => hb (bad_lit ho e)⟩
theorem may_in {n : Int} (h : mayB n = true) : -4611686018427387904 ≤ n ∧ n ≤ 4611686018427387904 := mayB_true.1 h
theorem step0 {n : Int} (h : mayB n = true) : stepA (0, 0) n = (n, 0) := by
  have h1 := may_in h
  have : addOk 0 n = true := addOk_true.2 ⟨by omega, h1, by omega⟩
  show (addV 0 n, addE 0 n) = _
  rw [addV_ok this, addE_z this, Int.zero_add]
/-- In a table in order, at a place: what the base and the offset are. -/
theorem ord_root {l : List NodeA} (h : ordB l = true) {k : Nat} {n : NodeA} (hn : l[k]? = some n) :
    (n.op = 10 ∧ rootA l k = (1, (n.num, 0))) ∨ (n.op = 11 ∧ rootA l k = (n.a0.toNat, (n.num, 0))) ∨ (¬ n.op = 10 ∧ ¬ n.op = 11 ∧ rootA l k = (k, (0, 0))) := by
  have hok := (mayT_ok (ord_may h)).2
  have hs := (ok_at hok hn).1
  by_cases h0 : n.op = 10
  · refine .inl ⟨h0, ?_⟩
    unfold rootA
    rw [rootP_num hn h0, step0 (stands_num hs h0).1]
  by_cases h1 : n.op = 11
  · refine .inr (.inl ⟨h1, ?_⟩)
    obtain ⟨p0, p1, p2, _⟩ := stands_add hs h1
    have hkl := (List.getElem?_eq_some_iff.1 hn).1
    obtain ⟨y, hy⟩ : ∃ y, l[n.a0.toNat]? = some y := ⟨_, List.getElem?_eq_getElem (by omega)⟩
    have hg := ord_good h hn h1
    have hop : opAt l n = y.op := by unfold opAt; rw [List.getD_eq_getElem?_getD, hy]; rfl
    rw [hop] at hg
    unfold rootA
    rw [rootP_add hn h1, step0 p2]
    cases k with
    | zero => omega
    | succ k => exact rootP_end hy hg.2.2 hg.2.1
  · refine .inr (.inr ⟨h0, h1, ?_⟩)
    unfold rootA
    exact rootP_end hn h0 h1
theorem ofP_node {l : List NodeA} {id : Int} (h : (ofP l id).2.2 = 0) : ∃ (k : Nat) (n : NodeA), id = k ∧ l[k]? = some n ∧ n.sort = 1 ∧ (rootA l k).2.2 = 0 ∧ ofP l id = (((rootA l k).1 : Int), (rootA l k).2.1, 0) := by
  have hin := ofP_in h
  obtain ⟨k, rfl⟩ : ∃ k : Nat, id = k := ⟨id.toNat, by omega⟩
  obtain ⟨n, hn⟩ : ∃ n, l[k]? = some n := ⟨_, List.getElem?_eq_getElem (by omega)⟩
  by_cases hs : n.sort = 1
  · by_cases he : (rootA l k).2.2 = 0
    · exact ⟨k, n, rfl, hn, hs, he, ofP_ok hn hs he⟩
    · rw [ofP_err hn hs he] at h; exact absurd h he
  · rw [ofP_sort hn hs] at h; cases h
theorem one_zero {l : List NodeA} (h : mayT l = true) : l[1]? = some zeroN := by
  have h1 := congrArg (fun z : List NodeA => z[1]?) (mayT_ok h).1
  simp only [List.getElem?_take] at h1
  rw [if_pos (by omega)] at h1
  exact h1
/-- What the law OffsetOnce says, plainly. -/
theorem once_ok {l : List NodeA} (h : ordB l = true) {a b : Int} (ha : (ofP l a).2.2 = 0) (hb : (ofP l b).2.2 = 0) (h1 : (ofP l a).1 = (ofP l b).1) (h2 : (ofP l a).2.1 = (ofP l b).2.1) : a = b := by
  have hm := ord_may h
  have hok := (mayT_ok hm).2
  obtain ⟨k, n, rfl, hn, hs, he, e1⟩ := ofP_node ha
  obtain ⟨j, y, rfl, hy, hs', he', e2⟩ := ofP_node hb
  rw [e1, e2] at h1 h2
  simp only at h1 h2
  have hst := (ok_at hok hn).1
  have hst' := (ok_at hok hy).1
  have hsame : n = y → (k : Int) = j := fun e => by
    subst e
    have := fndN_uni hok hn
    rw [fndN_uni hok hy] at this
    omega
  have hz := one_zero hm
  rcases ord_root h hn with ⟨o, r⟩ | ⟨o, r⟩ | ⟨o, o1, r⟩
  · obtain ⟨_, n1, n2, n3, n4, n5⟩ := stands_num hst o
    rcases ord_root h hy with ⟨p, r'⟩ | ⟨p, r'⟩ | ⟨p, p1, r'⟩
    · obtain ⟨_, y1, y2, y3, y4, y5⟩ := stands_num hst' p
      rw [r, r'] at h2
      exact hsame (NodeA.same (o.trans p.symm) (by omega) (by omega) (by omega) (by omega) (by omega) (by omega) h2)
    · rw [r, r'] at h1
      have hg := (ord_good h hy p).2.2
      have e : y.a0.toNat = 1 := by simp only at h1; omega
      have : opAt l y = 10 := by unfold opAt; rw [e, List.getD_eq_getElem?_getD, hz]; rfl
      exact absurd this hg
    · rw [r, r'] at h1
      have e : j = 1 := by simp only at h1; omega
      rw [e, hz] at hy
      cases hy
      exact absurd rfl p
  · obtain ⟨a0, a1, a2, n1, n3, n4, n5⟩ := stands_add hst o
    rcases ord_root h hy with ⟨p, r'⟩ | ⟨p, r'⟩ | ⟨p, p1, r'⟩
    · rw [r, r'] at h1
      have hg := (ord_good h hn o).2.2
      have e : n.a0.toNat = 1 := by simp only at h1; omega
      have : opAt l n = 10 := by unfold opAt; rw [e, List.getD_eq_getElem?_getD, hz]; rfl
      exact absurd this hg
    · obtain ⟨b0, b1, b2, y1, y3, y4, y5⟩ := stands_add hst' p
      rw [r, r'] at h1 h2
      exact hsame (NodeA.same (o.trans p.symm) (by omega) (by simp only at h1; omega) (by omega) (by omega) (by omega) (by omega) h2)
    · rw [r, r'] at h2
      exact absurd h2 (ord_good h hn o).1
  · rcases ord_root h hy with ⟨p, r'⟩ | ⟨p, r'⟩ | ⟨p, p1, r'⟩
    · rw [r, r'] at h1
      have e : k = 1 := by simp only at h1; omega
      rw [e, hz] at hn
      cases hn
      exact absurd rfl o
    · rw [r, r'] at h2
      exact absurd h2.symm (ord_good h hy p).1
    · rw [r, r'] at h1
      exact h1
end Go.Proofs.YtgjidlfemfomcaaDoor
