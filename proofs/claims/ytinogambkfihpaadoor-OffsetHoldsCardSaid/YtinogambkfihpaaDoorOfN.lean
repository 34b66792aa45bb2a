/- Plain facts: what was put is of that base and that offset; tables in order stay so. -/
import Derived.Test.YtinogambkfihpaaDoorOfK
namespace Go.Proofs.YtinogambkfihpaaDoor.Tm
open Go.RowKit
set_option linter.unusedVariables false
theorem addE_ok {a b : Int} (h : addE a b = 0) : addOk a b = true := by
  unfold addE at h
  split at h
  · assumption
  · cases h
theorem subE_ok {a b : Int} (h : subE a b = 0) : addOk a (-b) = true := by
  unfold subE at h
  split at h
  · assumption
  · cases h
theorem addV_ok {a b : Int} (h : addOk a b = true) : addV a b = a + b := if_pos h
theorem addE_z {a b : Int} (h : addOk a b = true) : addE a b = 0 := if_pos h
theorem subV_ok {a b : Int} (h : addOk a (-b) = true) : subV a b = a - b := if_pos h
theorem stepA_z {s : Int × Int} {b : Int} (h : (stepA s b).2 = 0) : s.2 = 0 ∧ addOk s.1 b = true ∧ (stepA s b).1 = s.1 + b := by
  by_cases h0 : s.2 = 0
  · unfold stepA at h ⊢
    rw [if_pos h0] at h ⊢
    have := addE_ok h
    exact ⟨h0, this, addV_ok this⟩
  · rw [stepA_err h0] at h; exact absurd h h0
theorem stepS_z {s : Int × Int} {b : Int} (h : (stepS s b).2 = 0) : s.2 = 0 ∧ addOk s.1 (-b) = true ∧ (stepS s b).1 = s.1 - b := by
  by_cases h0 : s.2 = 0
  · unfold stepS at h ⊢
    rw [if_pos h0] at h ⊢
    have := subE_ok h
    exact ⟨h0, this, subV_ok this⟩
  · rw [stepS_err h0] at h; exact absurd h h0
structure DiffOk (l : List NodeA) (a b c : Int) : Prop where
  may : mayT l = true
  oa : (ofP l a).2.2 = 0
  ob : (ofP l b).2.2 = 0
  x : (diffP l a b c).1 = (ofP l a).1
  y : (diffP l a b c).2.1 = (ofP l b).1
  d : (diffP l a b c).2.2.1 = c - (ofP l a).2.1 + (ofP l b).2.1
  mc : -4611686018427387904 ≤ c ∧ c ≤ 4611686018427387904
  ma : -4611686018427387904 ≤ (ofP l a).2.1 ∧ (ofP l a).2.1 ≤ 4611686018427387904
  mb : -4611686018427387904 ≤ (ofP l b).2.1 ∧ (ofP l b).2.1 ≤ 4611686018427387904
  md : -4611686018427387904 ≤ c - (ofP l a).2.1 + (ofP l b).2.1 ∧ c - (ofP l a).2.1 + (ofP l b).2.1 ≤ 4611686018427387904
theorem diff_ok {l : List NodeA} {a b c : Int} (h : (diffP l a b c).2.2.2 = 0) : DiffOk l a b c := by
  obtain ⟨h1, h2, h3⟩ := diffP_may h
  have hm := OfP_may h1
  have he := OfP_eq (id := a) hm
  have h4 := stepA_z h2
  have h5 := stepS_z h4.1
  have h6 := addOk_true.1 h5.2.1
  have h7 := addOk_true.1 h4.2.1
  rw [he] at h1 h4 h5 h6 h7
  rw [h5.2.2] at h7
  have h8 : (diffS l a b c).1 = c - (ofP l a).2.1 + (ofP l b).2.1 := by
    have e := h4.2.2
    rw [h5.2.2] at e
    unfold diffS
    rw [he]
    exact e
  refine ⟨hm, h1, h3, ?_, ?_, ?_, h6.1, by omega, h7.2.1, h7.2.2⟩
  · unfold diffP; rw [if_pos (by rw [he]; exact h1), if_pos h2, he]
  · unfold diffP; rw [if_pos (by rw [he]; exact h1), if_pos h2]
  · unfold diffP; rw [if_pos (by rw [he]; exact h1), if_pos h2]; exact h8
/-- What the law OffsetTurns says, plainly. -/
theorem turns_ok {l : List NodeA} {a b c : Int} (h : (diffP l a b c).2.2.2 = 0) (h' : (diffP l b a (-c - 1)).2.2.2 = 0) : (diffP l a b c).1 = (diffP l b a (-c - 1)).2.1 ∧ (diffP l a b c).2.1 = (diffP l b a (-c - 1)).1 ∧ (diffP l a b c).2.2.1 + (diffP l b a (-c - 1)).2.2.1 = -1 ∧ (-4611686018427387904 ≤ (diffP l a b c).2.2.1 ∧ (diffP l a b c).2.2.1 ≤ 4611686018427387904) ∧ (-4611686018427387904 ≤ (diffP l b a (-c - 1)).2.2.1 ∧ (diffP l b a (-c - 1)).2.2.1 ≤ 4611686018427387904) := by
  have h1 := diff_ok h
  have h2 := diff_ok h'
  have e1 := h1.d
  have e2 := h2.d
  have b1 := h1.md
  have b2 := h2.md
  refine ⟨h1.x.trans h2.y.symm, h1.y.trans h2.x.symm, by omega, by omega, by omega⟩
/-! Tables in order. -/
theorem ord_may {l : List NodeA} (h : ordB l = true) : mayT l = true := by unfold ordB at h; rw [Bool.and_eq_true] at h; exact h.1
theorem ord_good {l : List NodeA} (h : ordB l = true) {k : Nat} {n : NodeA} (hn : l[k]? = some n) (ho : n.op = 11) : ¬ n.num = 0 ∧ ¬ opAt l n = 11 ∧ ¬ opAt l n = 10 := by
  unfold ordB at h
  rw [Bool.and_eq_true, Bool.not_eq_true'] at h
  have hb : ¬ badN l n = true := fun e => by have := any_mem hn e; rw [h.2] at this; cases this
  exact ⟨fun e => hb (bad_num ho e), fun e => hb (bad_add ho e), fun e => hb (bad_lit ho e)⟩
theorem may_in {n : Int} (h : mayB n = true) : -4611686018427387904 ≤ n ∧ n ≤ 4611686018427387904 := mayB_true.1 h
theorem step0 {n : Int} (h : mayB n = true) : stepA (0, 0) n = (n, 0) := by
  have h1 := may_in h
  have : addOk 0 n = true := addOk_true.2 ⟨by omega, h1, by omega⟩
  show (addV 0 n, addE 0 n) = _
  rw [addV_ok this, addE_z this, Int.zero_add]
/-- In a table in order, at a place: what the base and the offset are. -/
theorem ord_root {l : List NodeA} (h : ordB l = true) {k : Nat} {n : NodeA} (hn : l[k]? = some n) :
    (n.op = 10 ∧ rootA l k = (1, (n.num, 0))) ∨ (n.op = 11 ∧ rootA l k = (n.a0.toNat, (n.num, 0))) ∨ (¬ n.op = 10 ∧ ¬ n.op = 11 ∧ rootA l k = (k, (0, 0))) := by
  have hok := (mayT_ok (ord_may h)).2
  have hs := (ok_at hok hn).1
  by_cases h0 : n.op = 10
  · refine .inl ⟨h0, ?_⟩
    unfold rootA
    rw [rootP_num hn h0, step0 (stands_num hs h0).1]
  by_cases h1 : n.op = 11
  · refine .inr (.inl ⟨h1, ?_⟩)
    obtain ⟨p0, p1, p2, _⟩ := stands_add hs h1
    have hkl := (List.getElem?_eq_some_iff.1 hn).1
    obtain ⟨y, hy⟩ : ∃ y, l[n.a0.toNat]? = some y := ⟨_, List.getElem?_eq_getElem (by omega)⟩
    have hg := ord_good h hn h1
    have hop : opAt l n = y.op := by unfold opAt; rw [List.getD_eq_getElem?_getD, hy]; rfl
    rw [hop] at hg
    unfold rootA
    rw [rootP_add hn h1, step0 p2]
    cases k with
    | zero => omega
    | succ k => exact rootP_end hy hg.2.2 hg.2.1
  · refine .inr (.inr ⟨h0, h1, ?_⟩)
    unfold rootA
    exact rootP_end hn h0 h1
theorem ofP_node {l : List NodeA} {id : Int} (h : (ofP l id).2.2 = 0) : ∃ (k : Nat) (n : NodeA), id = k ∧ l[k]? = some n ∧ n.sort = 1 ∧ (rootA l k).2.2 = 0 ∧ ofP l id = (((rootA l k).1 : Int), (rootA l k).2.1, 0) := by
  have hin := ofP_in h
  obtain ⟨k, rfl⟩ : ∃ k : Nat, id = k := ⟨id.toNat, by omega⟩
  obtain ⟨n, hn⟩ : ∃ n, l[k]? = some n := ⟨_, List.getElem?_eq_getElem (by omega)⟩
  by_cases hs : n.sort = 1
  · by_cases he : (rootA l k).2.2 = 0
    · exact ⟨k, n, rfl, hn, hs, he, ofP_ok hn hs he⟩
    · rw [ofP_err hn hs he] at h; exact absurd h he
  · rw [ofP_sort hn hs] at h; cases h
theorem one_zero {l : List NodeA} (h : mayT l = true) : l[1]? = some zeroN := by
  have h1 := congrArg (fun z : List NodeA => z[1]?) (mayT_ok h).1
  simp only [List.getElem?_take] at h1
  rw [if_pos (by omega)] at h1
  exact h1
/-- What the law OffsetOnce says, plainly. -/
theorem once_ok {l : List NodeA} (h : ordB l = true) {a b : Int} (ha : (ofP l a).2.2 = 0) (hb : (ofP l b).2.2 = 0) (h1 : (ofP l a).1 = (ofP l b).1) (h2 : (ofP l a).2.1 = (ofP l b).2.1) : a = b := by
  have hm := ord_may h
  have hok := (mayT_ok hm).2
  obtain ⟨k, n, rfl, hn, hs, he, e1⟩ := ofP_node ha
  obtain ⟨j, y, rfl, hy, hs', he', e2⟩ := ofP_node hb
  rw [e1, e2] at h1 h2
  simp only at h1 h2
  have hst := (ok_at hok hn).1
  have hst' := (ok_at hok hy).1
  have hsame : n = y → (k : Int) = j := fun e => by
    subst e
    have := fndN_uni hok hn
    rw [fndN_uni hok hy] at this
    omega
  have hz := one_zero hm
  rcases ord_root h hn with ⟨o, r⟩ | ⟨o, r⟩ | ⟨o, o1, r⟩
  · obtain ⟨_, n1, n2, n3, n4, n5⟩ := stands_num hst o
    rcases ord_root h hy with ⟨p, r'⟩ | ⟨p, r'⟩ | ⟨p, p1, r'⟩
    · obtain ⟨_, y1, y2, y3, y4, y5⟩ := stands_num hst' p
      rw [r, r'] at h2
      exact hsame (NodeA.same (o.trans p.symm) (by omega) (by omega) (by omega) (by omega) (by omega) (by omega) h2)
    · rw [r, r'] at h1
      have hg := (ord_good h hy p).2.2
      have e : y.a0.toNat = 1 := by simp only at h1; omega
      have : opAt l y = 10 := by unfold opAt; rw [e, List.getD_eq_getElem?_getD, hz]; rfl
      exact absurd this hg
    · rw [r, r'] at h1
      have e : j = 1 := by simp only at h1; omega
      rw [e, hz] at hy
      cases hy
      exact absurd rfl p
  · obtain ⟨a0, a1, a2, n1, n3, n4, n5⟩ := stands_add hst o
    rcases ord_root h hy with ⟨p, r'⟩ | ⟨p, r'⟩ | ⟨p, p1, r'⟩
    · rw [r, r'] at h1
      have hg := (ord_good h hn o).2.2
      have e : n.a0.toNat = 1 := by simp only at h1; omega
      have : opAt l n = 10 := by unfold opAt; rw [e, List.getD_eq_getElem?_getD, hz]; rfl
      exact absurd this hg
    · obtain ⟨b0, b1, b2, y1, y3, y4, y5⟩ := stands_add hst' p
      rw [r, r'] at h1 h2
      exact hsame (NodeA.same (o.trans p.symm) (by omega) (by simp only at h1; omega) (by omega) (by omega) (by omega) (by omega) h2)
    · rw [r, r'] at h2
      exact absurd h2 (ord_good h hn o).1
  · rcases ord_root h hy with ⟨p, r'⟩ | ⟨p, r'⟩ | ⟨p, p1, r'⟩
    · rw [r, r'] at h1
      have e : k = 1 := by simp only at h1; omega
      rw [e, hz] at hn
      cases hn
      exact absurd rfl o
    · rw [r, r'] at h2
      exact absurd h2.symm (ord_good h hy p).1
    · rw [r, r'] at h1
      exact h1
end Go.Proofs.YtinogambkfihpaaDoor.Tm
namespace Go.Proofs.YtinogambkfihpaaDoor.Tm
open Go.RowKit
set_option linter.unusedVariables false
/-- A table that was put into. -/
structure Ext (l : List NodeA) (N : NodeA) (L : List NodeA) (k : Nat) : Prop where
  may : mayT L = true
  at_ : L[k]? = some N
  or_ : L = l ∨ L = l ++ [N]
  st : standsB N l.length = true
theorem Ext.pre {l L : List NodeA} {N : NodeA} {k j : Nat} (h : Ext l N L k) (hj : j < l.length) : L[j]? = l[j]? := by
  rcases h.or_ with e | e
  · rw [e]
  · rw [e, List.getElem?_append_left hj]
theorem Ext.le {l L : List NodeA} {N : NodeA} {k : Nat} (h : Ext l N L k) : l.length ≤ L.length ∧ L.length ≤ l.length + 1 := by
  rcases h.or_ with e | e <;> rw [e] <;> simp
theorem put_ext {l : List NodeA} {N : NodeA} {most : Int} (h : (putF l N most).2.2 = 0) : ∃ k : Nat, (putF l N most).2.1 = k ∧ Ext l N (putF l N most).1 k := by
  by_cases h1 : mayT l = true ∧ standsB N l.length = true
  · by_cases h2 : N ∈ l
    · have e : putF l N most = (l, (fndN l N : Int), 0) := by unfold putF; rw [if_pos h1, if_pos h2]
      rw [e]
      exact ⟨fndN l N, rfl, h1.1, fndN_get h2, .inl rfl, h1.2⟩
    · by_cases h3 : most ≤ (l.length : Int)
      · unfold putF at h; rw [if_pos h1, if_neg h2, if_pos h3] at h; cases h
      · have e : putF l N most = (l ++ [N], (l.length : Int), 0) := by unfold putF; rw [if_pos h1, if_neg h2, if_neg h3]
        rw [e]
        exact ⟨l.length, rfl, mayT_snoc h1.1 h1.2 h2, by simp, .inr rfl, h1.2⟩
  · unfold putF at h; rw [if_neg h1] at h; cases h
theorem root_pre {l L : List NodeA} (hok : okFrom [] l = true) (hp : ∀ j, j < l.length → L[j]? = l[j]?) : ∀ (f k : Nat) (s : Int × Int), k < l.length → rootP L f k s = rootP l f k s
  | 0, k, s, h => rfl
  | f + 1, k, s, h => by
    obtain ⟨n, hn⟩ : ∃ n, l[k]? = some n := ⟨_, List.getElem?_eq_getElem h⟩
    have hn' := (hp k h).trans hn
    by_cases h0 : n.op = 10
    · rw [rootP_num hn h0, rootP_num hn' h0]
    by_cases h1 : n.op = 11
    · rw [rootP_add hn h1, rootP_add hn' h1]
      have := stands_add (ok_at hok hn).1 h1
      exact root_pre hok hp f _ _ (by omega)
    · rw [rootP_end hn h0 h1, rootP_end hn' h0 h1]
theorem ofP_pre {l L : List NodeA} (hok : okFrom [] l = true) (hp : ∀ j, j < l.length → L[j]? = l[j]?) (hle : l.length ≤ L.length) {id : Int} (h : (ofP l id).2.2 = 0) : ofP L id = ofP l id := by
  obtain ⟨k, n, rfl, hn, hs, he, e⟩ := ofP_node h
  have hlt := (List.getElem?_eq_some_iff.1 hn).1
  have hr : rootA L k = rootA l k := root_pre hok hp _ _ _ hlt
  rw [e, ofP_ok ((hp k hlt).trans hn) hs (by rw [hr]; exact he), hr]
theorem opAt_pre {l L : List NodeA} (hok : okFrom [] l = true) (hp : ∀ j, j < l.length → L[j]? = l[j]?) {k : Nat} {n : NodeA} (hn : l[k]? = some n) (ho : n.op = 11) : opAt L n = opAt l n := by
  have h1 := stands_add (ok_at hok hn).1 ho
  have h2 := (List.getElem?_eq_some_iff.1 hn).1
  unfold opAt
  rw [List.getD_eq_getElem?_getD, List.getD_eq_getElem?_getD, hp _ (by omega)]
theorem ord_ext {l L : List NodeA} {N : NodeA} {k : Nat} (h : ordB l = true) (he : Ext l N L k) (hN : N.op = 11 → ¬ N.num = 0 ∧ ¬ opAt L N = 11 ∧ ¬ opAt L N = 10) : ordB L = true := by
  have hok := (mayT_ok (ord_may h)).2
  unfold ordB
  rw [he.may, Bool.true_and, Bool.not_eq_true']
  cases hany : L.any (badN L) with
  | false => rfl
  | true =>
    exfalso
    obtain ⟨x, hx, hb⟩ := List.any_eq_true.1 hany
    have hcase : x ∈ l ∨ x = N := by
      rcases he.or_ with e | e
      · rw [e] at hx; exact .inl hx
      · rw [e] at hx; simpa using hx
    have ho : x.op = 11 := by
      by_cases ho : x.op = 11
      · exact ho
      · rw [bad_no ho] at hb; cases hb
    rcases hcase with hc | rfl
    · obtain ⟨j, hj⟩ := List.getElem?_of_mem hc
      have hg := ord_good h hj ho
      rw [← opAt_pre hok (fun i hi => he.pre hi) hj ho] at hg
      rw [bad_not hg.1 hg.2.1 hg.2.2] at hb
      cases hb
    · have hg := hN ho
      rw [bad_not hg.1 hg.2.1 hg.2.2] at hb
      cases hb
/-- A base and an offset, put. -/
theorem put_root {l L : List NodeA} {B k : Nat} {s : Int} (h : ordB l = true) (h0 : (ofP l B).2.2 = 0) (h1 : (ofP l B).1 = B) (hs : mayB s = true) (he : Ext l (nodeP l B s) L k) : ofP L k = ((B : Int), s, 0) ∧ ordB L = true := by
  have hok := (mayT_ok (ord_may h)).2
  obtain ⟨B', n, hB, hn, hso, her, e⟩ := ofP_node h0
  obtain rfl : B = B' := by omega
  have hlt := (List.getElem?_eq_some_iff.1 hn).1
  have hroot : (rootA l B).1 = B := by rw [e] at h1; simp only at h1; omega
  have hat := he.at_
  by_cases hB1 : B = 1
  · subst hB1
    have hN : nodeP l 1 s = ⟨10, 0, 0, 0, 0, 1, 0, s⟩ := if_pos rfl
    rw [hN] at hat he
    have hr : rootA L k = (1, (s, 0)) := by unfold rootA; rw [rootP_num hat rfl]; show (1, stepA (0, 0) s) = _; rw [step0 hs]
    refine ⟨?_, ord_ext h he (fun ho => absurd ho (by show ¬ (10 : Int) = 11; omega))⟩
    rw [ofP_ok hat rfl (by rw [hr]), hr]
  have hop : ¬ n.op = 10 ∧ ¬ n.op = 11 := by
    rcases ord_root h hn with ⟨o, r⟩ | ⟨o, r⟩ | ⟨o, o1, r⟩
    · rw [r] at hroot; exact absurd hroot.symm hB1
    · rw [r] at hroot
      have := stands_add (ok_at hok hn).1 o
      simp only at hroot
      omega
    · exact ⟨o, o1⟩
  by_cases hz : s = 0
  · subst hz
    have hN : nodeP l B 0 = n := by unfold nodeP; rw [if_neg hB1, if_pos rfl, List.getD_eq_getElem?_getD, hn]; rfl
    rw [hN] at hat he
    have hokL := (mayT_ok he.may).2
    have hk : k = B := by
      rw [← fndN_uni hokL hat, fndN_uni hokL ((he.pre hlt).trans hn)]
    subst hk
    have hr : rootA L k = (k, (0, 0)) := by unfold rootA; exact rootP_end hat hop.1 hop.2
    refine ⟨?_, ord_ext h he (fun ho => absurd ho hop.2)⟩
    rw [ofP_ok hat hso (by rw [hr]), hr]
  have hN : nodeP l B s = ⟨11, 1, B, 0, 0, 1, 0, s⟩ := by unfold nodeP; rw [if_neg hB1, if_neg hz]
  rw [hN] at hat he
  have hLB := (he.pre hlt).trans hn
  have hst := stands_add (ok_at (mayT_ok he.may).2 hat).1 rfl
  have hBk : B < k := by have := hst.2.1; simp only at this; omega
  have hr : rootA L k = (B, (s, 0)) := by
    unfold rootA
    rw [rootP_add hat rfl]
    show rootP L k (Int.toNat (B : Int)) (stepA (0, 0) s) = _
    rw [step0 hs, Int.toNat_natCast]
    cases k with
    | zero => omega
    | succ k => exact rootP_end hLB hop.1 hop.2
  refine ⟨?_, ord_ext h he (fun _ => ⟨hz, ?_⟩)⟩
  · rw [ofP_ok hat rfl (by rw [hr]), hr]
  · have : opAt L ⟨11, 1, B, 0, 0, 1, 0, s⟩ = n.op := by
      unfold opAt
      show (L.getD (Int.toNat (B : Int)) trueN).op = _
      rw [Int.toNat_natCast, List.getD_eq_getElem?_getD, hLB]; rfl
    rw [this]
    exact ⟨hop.2, hop.1⟩
theorem putP_ok {l : List NodeA} {b s most : Int} (h : (putP l b s most).2.2 = 0) : ∃ B : Nat, b = B ∧ (ofP l B).2.2 = 0 ∧ (ofP l B).1 = B ∧ mayB s = true ∧ putP l b s most = putF l (nodeP l B s) most := by
  unfold putP at h ⊢
  by_cases h1 : (ofP l b).2.2 = 0
  · rw [if_pos h1] at h ⊢
    by_cases h2 : (ofP l b).1 = b
    · rw [if_pos h2] at h ⊢
      by_cases h3 : mayB s = true
      · rw [if_pos h3] at h ⊢
        have hin := ofP_in h1
        obtain ⟨B, rfl⟩ : ∃ B : Nat, b = B := ⟨b.toNat, by omega⟩
        exact ⟨B, rfl, h1, h2, h3, by rw [Int.toNat_natCast]⟩
      · rw [if_neg h3] at h; cases h
    · rw [if_neg h2] at h; cases h
  · rw [if_neg h1] at h; exact absurd h h1
/-- What Add answers of a table in order, if it answers. -/
structure AddOk (l : List NodeA) (a m : Int) (r : List NodeA × Int × Int) : Prop where
  ok : (ofP l a).2.2 = 0
  sum : addOk (ofP l a).2.1 m = true
  of_ : ofP r.1 r.2.1 = ((ofP l a).1, (ofP l a).2.1 + m, 0)
  ord : ordB r.1 = true
  may : mayT r.1 = true
  pre : ofP r.1 a = ofP l a
  le : r.1.length ≤ l.length + 1
  put : r = putP l (ofP l a).1 ((ofP l a).2.1 + m) 1000
theorem add_ok {l : List NodeA} (h : ordB l = true) {a m : Int} {r : List NodeA × Int × Int} (hr : addP l a m 1000 = r) (h0 : r.2.2 = 0) : AddOk l a m r := by
  have hm := ord_may h
  have hok := (mayT_ok hm).2
  have he := OfP_eq (id := a) hm
  subst hr
  have hs : (addS l a m).2 = 0 := by
    by_cases hs : (addS l a m).2 = 0
    · exact hs
    · unfold addP at h0; rw [if_neg hs] at h0; exact absurd h0 hs
  have e : addP l a m 1000 = putP l (OfP l a).1 (addS l a m).1 1000 := by unfold addP; rw [if_pos hs]
  rw [e] at h0 ⊢
  have h1 := stepA_z hs
  rw [he] at h1 h0 ⊢
  have e2 : (addS l a m).1 = (ofP l a).2.1 + m := by unfold addS; rw [he]; exact h1.2.2
  rw [e2] at h0 ⊢
  obtain ⟨B, hB, hb0, hb1, hms, e3⟩ := putP_ok h0
  have h0' := h0
  rw [e3] at h0
  obtain ⟨k, hk, hx⟩ := put_ext h0
  have hroot := put_root h hb0 hb1 hms hx
  have hle := hx.le
  refine ⟨h1.1, h1.2.1, ?_, ?_, ?_, ?_, ?_, rfl⟩
  · rw [e3, hk, hroot.1, hB]
  · rw [e3]; exact hroot.2
  · rw [e3]; exact hx.may
  · rw [e3]; exact ofP_pre hok (fun i hi => hx.pre hi) hle.1 h1.1
  · rw [e3]; exact hle.2
/-- Two sums are one. -/
theorem add_two {l : List NodeA} {a m n : Int} {u v : List NodeA × Int × Int} (hu : AddOk l a m u) (hv : AddOk u.1 u.2.1 n v) (hs : addOk m n = true) : addP u.1 a (m + n) 1000 = v := by
  have h1 := addOk_true.1 hu.sum
  have h2 := addOk_true.1 hs
  have e1 := hv.of_
  have h3 := addOk_true.1 hv.sum
  have h4 := hv.put
  rw [hu.of_] at h3 h4
  simp only at h3 h4
  have he := OfP_eq (id := a) hu.may
  have hk : addOk (ofP l a).2.1 (m + n) = true := addOk_true.2 ⟨h1.1, h2.2.2, by omega, by omega⟩
  have hS : addS u.1 a (m + n) = ((ofP l a).2.1 + (m + n), 0) := by
    unfold addS
    rw [he, hu.pre, hu.ok]
    show (addV _ _, addE _ _) = _
    rw [addV_ok hk, addE_z hk]
  unfold addP
  rw [hS, if_pos rfl, he, hu.pre, h4]
  show putP _ _ ((ofP l a).2.1 + (m + n)) _ = _
  rw [← Int.add_assoc]
/-- Differences keep a table in order. -/
theorem le_ord {l : List NodeA} (h : ordB l = true) {a b c : Int} (h0 : (leP l a b c 1000).2.2.2 = 0) : ordB (leP l a b c 1000).1 = true ∧ (leP l a b c 1000).1.length ≤ l.length + 1 := by
  have hd : (diffP l a b c).2.2.2 = 0 := by
    by_cases hd : (diffP l a b c).2.2.2 = 0
    · exact hd
    · unfold leP at h0; rw [if_neg hd] at h0; exact absurd h0 hd
  unfold leP at h0 ⊢
  rw [if_pos hd] at h0 ⊢
  simp only at h0 ⊢
  obtain ⟨k, _, hx⟩ := put_ext h0
  refine ⟨ord_ext h hx (fun ho => ?_), hx.le.2⟩
  exfalso
  unfold compN at ho
  split at ho
  · split at ho
    · exact absurd ho (by decide)
    · simp at ho
  · simp at ho
end Go.Proofs.YtinogambkfihpaaDoor.Tm
