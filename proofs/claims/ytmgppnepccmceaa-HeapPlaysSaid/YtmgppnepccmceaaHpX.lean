/- Puts and bumps in any order; rows of acts of one's own. -/
import Derived.Test.YtmgppnepccmceaaHpW
import Derived.Laws.OwnMore
import Derived.Maps.AppendAt
import Derived.Deep.OwnRows
namespace Go.Proofs.Ytmgppnepccmceaa
open Go.RowKit
set_option linter.unusedVariables false
/-- Known from without as one. -/
def Eqv (s r : St) : Prop := s.A = r.A ∧ ∀ z, z ∈ s.S ↔ z ∈ r.S
theorem Eqv.refl (s : St) : Eqv s s := ⟨rfl, fun _ => Iff.rfl⟩
theorem Eqv.symm {s r : St} (h : Eqv s r) : Eqv r s := ⟨h.1.symm, fun z => (h.2 z).symm⟩
theorem Eqv.trans {s r q : St} (h : Eqv s r) (k : Eqv r q) : Eqv s q := ⟨h.1.trans k.1, fun z => (h.2 z).trans (k.2 z)⟩
theorem putS_A (s : St) (x : Int) : (putS s x).A = s.A := by unfold putS; split <;> rfl
theorem putS_mem (s : St) (x : Int) (z : Nat) : z ∈ (putS s x).S ↔ z ∈ s.S ∨ (0 ≤ x ∧ x < s.A.length ∧ z = x.toNat) := by
  unfold putS
  by_cases h : 0 ≤ x ∧ x < s.A.length ∧ x.toNat ∉ s.S
  · rw [if_pos h]
    show z ∈ s.S ++ [x.toNat] ↔ _
    rw [List.mem_append, List.mem_singleton]
    exact ⟨fun e => e.imp id (fun e => ⟨h.1, h.2.1, e⟩), fun e => e.imp id (fun e => e.2.2)⟩
  · rw [if_neg h]
    refine ⟨fun e => .inl e, fun e => e.elim id (fun e => ?_)⟩
    rw [e.2.2]
    exact Classical.byContradiction fun hc => h ⟨e.1, e.2.1, hc⟩
theorem bumpS_S (s : St) (x b : Int) : (bumpS s x b).S = s.S := by unfold bumpS; split <;> rfl
theorem bumpS_get (s : St) (x b : Int) (y : Nat) : (bumpS s x b).A.getD y 0 = if 0 ≤ x ∧ x < s.A.length ∧ 0 ≤ b ∧ b ≤ 1099511627776 ∧ y = x.toNat then min (s.A.getD y 0 + b) 1099511627776 else s.A.getD y 0 := by
  unfold bumpS
  by_cases h : 0 ≤ x ∧ x < s.A.length ∧ 0 ≤ b ∧ b ≤ 1099511627776
  · rw [if_pos h]
    show (s.A.set x.toNat _).getD y 0 = _
    rw [getD_set (by omega)]
    by_cases e : y = x.toNat
    · rw [if_pos e, if_pos ⟨h.1, h.2.1, h.2.2.1, h.2.2.2, e⟩, e]
    · rw [if_neg e, if_neg (fun e' => e e'.2.2.2.2)]
  · rw [if_neg h, if_neg (fun e => h ⟨e.1, e.2.1, e.2.2.1, e.2.2.2.1⟩)]
theorem list_getD {A B : List Int} (hl : A.length = B.length) (h : ∀ y, A.getD y 0 = B.getD y 0) : A = B := by
  apply List.ext_getElem hl
  intro i h1 h2
  have := h i
  rw [List.getD_eq_getElem?_getD, List.getD_eq_getElem?_getD, List.getElem?_eq_getElem h1, List.getElem?_eq_getElem h2] at this
  exact this
/-- A put, or a bump. -/
def isPB (x : ActA) : Bool := x.do_ == 0 || x.do_ == 2
theorem isPB_or {x : ActA} (h : isPB x = true) : x.do_ = 0 ∨ x.do_ = 2 := by
  unfold isPB at h
  simpa using h
theorem step_put {s : St} {x : ActA} (h : x.do_ = 0) : stepS s x = putS s x.node := by unfold stepS; rw [if_pos h]
theorem step_bump {s : St} {x : ActA} (h : x.do_ = 2) : stepS s x = bumpS s x.node x.by_ := by
  unfold stepS
  rw [if_neg (by omega), if_neg (by omega), if_pos h]
theorem step_eqv {s r : St} (h : Eqv s r) {x : ActA} (hx : isPB x = true) : Eqv (stepS s x) (stepS r x) := by
  rcases isPB_or hx with e | e
  · rw [step_put e, step_put e]
    exact ⟨by rw [putS_A, putS_A]; exact h.1, fun z => by rw [putS_mem, putS_mem, h.1, h.2 z]⟩
  · rw [step_bump e, step_bump e]
    refine ⟨list_getD (by rw [bumpS_len, bumpS_len, h.1]) (fun y => by rw [bumpS_get, bumpS_get, h.1]), fun z => by rw [bumpS_S, bumpS_S]; exact h.2 z⟩
theorem step_comm (s : St) {x y : ActA} (hx : isPB x = true) (hy : isPB y = true) : Eqv (stepS (stepS s x) y) (stepS (stepS s y) x) := by
  rcases isPB_or hx with e | e <;> rcases isPB_or hy with f | f
  · rw [step_put f, step_put e, step_put e, step_put f]
    refine ⟨by rw [putS_A, putS_A, putS_A, putS_A], fun z => ?_⟩
    rw [putS_mem, putS_mem, putS_mem, putS_mem, putS_A, putS_A]
    constructor
    · rintro ((h | h) | h)
      · exact .inl (.inl h)
      · exact .inr h
      · exact .inl (.inr h)
    · rintro ((h | h) | h)
      · exact .inl (.inl h)
      · exact .inr h
      · exact .inl (.inr h)
  · rw [step_bump f, step_put e, step_put e, step_bump f]
    refine ⟨list_getD (by rw [bumpS_len, putS_A, putS_A, bumpS_len]) (fun z => by rw [bumpS_get, putS_A, putS_A, bumpS_get]), fun z => by rw [bumpS_S, putS_mem, putS_mem, bumpS_S, bumpS_len]⟩
  · rw [step_put f, step_bump e, step_bump e, step_put f]
    refine ⟨list_getD (by rw [bumpS_len, putS_A, putS_A, bumpS_len]) (fun z => by rw [bumpS_get, putS_A, putS_A, bumpS_get]), fun z => by rw [bumpS_S, putS_mem, putS_mem, bumpS_S, bumpS_len]⟩
  · rw [step_bump f, step_bump e, step_bump e, step_bump f]
    refine ⟨list_getD (by rw [bumpS_len, bumpS_len, bumpS_len, bumpS_len]) (fun z => ?_), fun z => by rw [bumpS_S, bumpS_S, bumpS_S, bumpS_S]⟩
    rw [bumpS_get, bumpS_get, bumpS_get, bumpS_get, bumpS_len, bumpS_len]
    obtain ⟨a, ha⟩ : ∃ a, s.A.getD z 0 = a := ⟨_, rfl⟩
    rw [ha]
    by_cases c1 : 0 ≤ x.node ∧ x.node < s.A.length ∧ 0 ≤ x.by_ ∧ x.by_ ≤ 1099511627776 ∧ z = x.node.toNat
    · by_cases c2 : 0 ≤ y.node ∧ y.node < s.A.length ∧ 0 ≤ y.by_ ∧ y.by_ ≤ 1099511627776 ∧ z = y.node.toNat
      · simp only [if_pos c1, if_pos c2]; omega
      · simp only [if_pos c1, if_neg c2]
    · by_cases c2 : 0 ≤ y.node ∧ y.node < s.A.length ∧ 0 ≤ y.by_ ∧ y.by_ ≤ 1099511627776 ∧ z = y.node.toNat
      · simp only [if_neg c1, if_pos c2]
      · simp only [if_neg c1, if_neg c2]
theorem run_eqv : ∀ (F : List ActA) {s r : St}, Eqv s r → (∀ x ∈ F, isPB x = true) → Eqv (runS s F) (runS r F)
  | [], _, _, h, _ => h
  | x :: F, _, _, h, hF => run_eqv F (step_eqv h (hF x (by simp))) (fun y hy => hF y (by simp [hy]))
theorem run_step_comm : ∀ (F : List ActA) (s : St) {x : ActA}, isPB x = true → (∀ y ∈ F, isPB y = true) → Eqv (stepS (runS s F) x) (runS (stepS s x) F)
  | [], s, x, _, _ => Eqv.refl _
  | y :: F, s, x, hx, hF => (run_step_comm F (stepS s y) hx (fun z hz => hF z (by simp [hz]))).trans (run_eqv F (step_comm s (hF y (by simp)) hx) (fun z hz => hF z (by simp [hz])))
theorem run_rev : ∀ (F : List ActA) (s : St), (∀ y ∈ F, isPB y = true) → Eqv (runS s F.reverse) (runS s F)
  | [], s, _ => Eqv.refl _
  | x :: F, s, hF => by
    have e : runS s (x :: F).reverse = stepS (runS s F.reverse) x := by
      unfold runS
      rw [List.reverse_cons, List.foldl_append]
      rfl
    rw [e]
    exact (step_eqv (run_rev F s (fun y hy => hF y (by simp [hy]))) (hF x (by simp))).trans (run_step_comm F s (hF x (by simp)) (fun y hy => hF y (by simp [hy])))
theorem sorted_eq {A : List Int} : ∀ (M N : List Nat), M.Pairwise (fun x y => keyA A x < keyA A y) → N.Pairwise (fun x y => keyA A x < keyA A y) → (∀ z, z ∈ M ↔ z ∈ N) → M = N
  | [], [], _, _, _ => rfl
  | [], y :: N, _, _, h => absurd ((h y).2 (by simp)) (by simp)
  | x :: M, [], _, _, h => absurd ((h x).1 (by simp)) (by simp)
  | x :: M, y :: N, hM, hN, h => by
    obtain ⟨m1, m2⟩ := List.pairwise_cons.1 hM
    obtain ⟨n1, n2⟩ := List.pairwise_cons.1 hN
    have hxy : x = y := by
      rcases List.mem_cons.1 ((h x).1 (by simp)) with e | e
      · exact e
      · rcases List.mem_cons.1 ((h y).2 (by simp)) with e' | e'
        · exact e'.symm
        · have := n1 x e
          have := m1 y e'
          omega
    subst hxy
    rw [sorted_eq M N m2 n2 (fun z => ⟨fun hz => ?_, fun hz => ?_⟩)]
    · rcases List.mem_cons.1 ((h z).1 (by simp [hz])) with e | e
      · subst e
        have := m1 z hz
        omega
      · exact e
    · rcases List.mem_cons.1 ((h z).2 (by simp [hz])) with e | e
      · subst e
        have := n1 z hz
        omega
      · exact e
theorem len_eqv {S T : List Nat} (hS : S.Nodup) (hT : T.Nodup) (h : ∀ z, z ∈ S ↔ z ∈ T) : S.length = T.length := ((List.perm_ext_iff_of_nodup hS hT).2 h).length_eq
/-- A row of acts of one's own. -/
def ActsO (w : World) (base : Nat) (xs : List ActA) (v : Value) : Prop := w.ownsRow base 29 3 v xs.length (xs.flatMap actC)
theorem own_lt {w : World} {base size n : Nat} {E : TypeId} {v : Value} {L : List Value} (h : w.ownsRow base E size v n L) {g : Nat} (hg : v.ownBlock = some g) : base ≤ g ∧ g < w.heap.size := by
  rcases h.2 with ⟨rfl, _⟩ | ⟨g', cap, cur, rfl, h1, h2, _⟩
  · cases hg
  · obtain rfl : g' = g := by simpa [Value.ownBlock] using hg
    exact ⟨h1, (Array.getElem?_eq_some_iff.1 h2).1⟩
theorem own_move {w w' : World} {base size n : Nat} {E : TypeId} {v : Value} {L : List Value} (h : w.ownsRow base E size v n L) (hk : ∀ g, v.ownBlock = some g → w'.heap[g]? = w.heap[g]?) : w'.ownsRow base E size v n L := by
  refine ⟨h.1, ?_⟩
  rcases h.2 with h1 | ⟨g, cap, cur, e, h1, h2, h3⟩
  · exact .inl h1
  · exact .inr ⟨g, cap, cur, e, h1, (hk g (by rw [e]; rfl)).trans h2, h3⟩
theorem own_base {w : World} {base base' size n : Nat} {E : TypeId} {v : Value} {L : List Value} (h : w.ownsRow base E size v n L) (hb : base' ≤ base) : w.ownsRow base' E size v n L := by
  refine ⟨h.1, ?_⟩
  rcases h.2 with h1 | ⟨g, cap, cur, e, h1, h2, h3⟩
  · exact .inl h1
  · exact .inr ⟨g, cap, cur, e, by omega, h2, h3⟩
theorem ActsO.rows {w : World} {base : Nat} {xs : List ActA} {v : Value} (h : ActsO w base xs v) : ∃ a c, v = .slice a xs.length c ∧ ActsR w xs a c := by
  rcases h.2 with ⟨rfl, h0⟩ | ⟨g, cap, cur, rfl, h1, h2, h3, h4, h5, h6⟩
  · have hx : xs = [] := List.eq_nil_of_length_eq_zero h0
    subst hx
    exact ⟨none, 0, rfl, Nat.le_refl _, Nat.zero_le _, fun h0 => absurd h0 (by simp)⟩
  · have hlt := (Array.getElem?_eq_some_iff.1 h2).1
    refine ⟨_, cap, rfl, h3, h4, fun _ => ⟨g, 0, rfl, hlt, fun i u hu => ?_⟩⟩
    rw [Nat.zero_add, cell_of_row w g i _ _ _ h2]
    rw [← h6, List.getElem?_take] at hu
    split at hu
    · rw [← Array.getElem?_toList]
      exact hu
    · cases hu
theorem info_act : (Try.prog.info? 29).map (fun i => (i.zero, i.size, i.bytes)) = some (some (.agg #[.int .i64 0, .int .i64 0, .int .i64 0]), 3, 24) := by kernel_rfl
theorem flat_len (xs : List ActA) : (xs.flatMap actC).length = xs.length * 3 := len_flat (n := 3) (fun _ => rfl) xs
theorem run_appA (w : World) (base : Nat) (v : Value) (xs ys : List ActA) (b : Option Addr) (d : Nat) (hown : ActsO w base xs v) (hI : ActsR w ys b d) (hb : base ≤ w.heap.size) (hl : xs.length + ys.length ≤ 6000) :
    ∃ v' w', (Builtin.append_ #[22, 22] 22 #[v, .slice b ys.length d]).run Try.prog w = .ok v' w' ∧ ActsO w' base (xs ++ ys) v' ∧ w.grownBy w' v.ownBlock ∧ (v'.ownBlock = v.ownBlock ∨ v'.ownBlock = some w.heap.size) := by
  obtain ⟨i0, hi_, hz0, hz1, hz2⟩ := info_parts info_act
  cases b with
  | none =>
    have h0 : ys = [] := by
      cases ys with
      | nil => rfl
      | cons y r =>
        obtain ⟨g, o, e, _⟩ := hI.tat (by rw [flat_len]; simp)
        cases e
    subst h0
    refine ⟨v, w, ?_, by rw [List.append_nil]; exact hown, ⟨rfl, rfl, rfl, Nat.le_refl _, fun _ _ _ => rfl⟩, .inl rfl⟩
    rcases hown.2 with ⟨rfl, h⟩ | ⟨g, cap, cur, rfl, _, _, hc, _, _, _⟩
    · simp [Builtin.append_, run_underlying Try.underlying22, sizeOf, typeInfo, hi_, Builtin.lenOf, Builtin.firstCells]
    · simp [Builtin.append_, run_underlying Try.underlying22, sizeOf, typeInfo, hi_, Builtin.lenOf, Builtin.firstCells, loadCells, hc, storeCells]
  | some ad =>
    have hnews : ∀ j u, (ys.flatMap actC)[j]? = some u → w.cell? (ad.add j) = some u := fun j u hu => by
      have hlt := (List.getElem?_eq_some_iff.1 hu).1
      obtain ⟨g, o, e, _, hc⟩ := hI.tat (by omega)
      cases e
      have := hc j u hu
      rw [Addr.add_lit]; exact this
    obtain ⟨v', w', hr, h2, h3, _, h5⟩ := run_append_own_at (P := Try.prog) w base 22 22 29 i0 _ 3 24 Try.underlying22 hi_ hz0 hz1 hz2 rfl (by decide) v xs.length (xs.flatMap actC) hown ad ys.length d (ys.flatMap actC) (flat_len ys) hnews (fun u hu => by obtain ⟨y, _, hy⟩ := List.mem_flatMap.1 hu; simp [actC] at hy; rcases hy with rfl | rfl | rfl <;> rfl) (by simp only [maxLen]; omega) (by omega) hb
    refine ⟨v', w', hr, ?_, h3, h5⟩
    unfold ActsO
    rw [List.length_append, List.flatMap_append]
    exact h2
theorem wpList_appA {w : World} {ops : Array Oper} {rest : List Oper} {o : Oper} {a : Act} {Q : Exit → Act → World → Prop} (hgd : o.guard = none) (s x : Operand) (ho : o.op = .call { callee := .builtin .append, args := #[s, x], argTypes := #[22, 22] }) (hty : o.type = 22)
    (base : Nat) (v : Value) (xs ys : List ActA) (b : Option Addr) (d : Nat) (hs : a.eval s = v) (hx : a.eval x = .slice b ys.length d) (hown : ActsO w base xs v) (hI : ActsR w ys b d) (hb : base ≤ w.heap.size) (hl : xs.length + ys.length ≤ 6000)
    (h : ∀ v' w', ActsO w' base (xs ++ ys) v' → w.grownBy w' v.ownBlock → (v'.ownBlock = v.ownBlock ∨ v'.ownBlock = some w.heap.size) → wpList Try.prog ops Q rest (a.put o.dst v') w') : wpList Try.prog ops Q (o :: rest) a w := by
  obtain ⟨v', w', hr, h2, h3, h4⟩ := run_appA w base v xs ys b d hown hI hb hl
  refine wpList_plain hgd fun _ hK => ?_
  unfold Oper.wp execOp
  simp only [ho, hty, resolve, invoke, builtin, Sem.run_bind, Sem.run_pure, Result.andThen_ok, List.map_toArray, List.map_cons, List.map_nil, hs, hx, hr]
  exact hK _ _ (h v' w' h2 h3 h4)
/-- One act in a row of its own. -/
theorem one_own (w : World) (x : ActA) : ActsO (w.alloc (.cells #[.int .i64 x.do_, .int .i64 x.node, .int .i64 x.by_] 29)) w.heap.size [x] (.slice (some ⟨w.heap.size, 0, none⟩) 1 1) :=
  ⟨rfl, .inr ⟨w.heap.size, 1, #[.int .i64 x.do_, .int .i64 x.node, .int .i64 x.by_], rfl, Nat.le_refl _, heap_alloc_new w _, Nat.le_refl _, by decide, rfl, rfl⟩⟩
theorem one_rows (w : World) (x : ActA) : ActsR (w.alloc (.cells #[.int .i64 x.do_, .int .i64 x.node, .int .i64 x.by_] 29)) [x] (some ⟨w.heap.size, 0, none⟩) 1 := by
  obtain ⟨a, c, e, h⟩ := (one_own w x).rows
  cases e
  exact h
theorem own_alloc {w : World} {base size n : Nat} {E : TypeId} {v : Value} {L : List Value} (h : w.ownsRow base E size v n L) (o : Obj) : (w.alloc o).ownsRow base E size v n L := own_move h (fun g hg => Below.heap_alloc _ _ _ (own_lt h hg).2)
end Go.Proofs.Ytmgppnepccmceaa
