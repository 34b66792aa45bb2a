/- The function All of package lex answers a text's tokens, and where the first that is none begins. -/
import Derived.Test.YtdpogjkfmncnlaaDoorLexSeq
import Derived.Deep.AppendLies
namespace Go.Proofs.YtdpogjkfmncnlaaDoor
open Go.RowKit Go.Shelf
attribute [local go_sem] Oper.semAt_some
theorem tokens_any (s : ByteArray) (w : World) :
    Calls Tryd.prog 14 #[.string s] w fun e w' => e = .returned (.func (.func 20) #[] #[.pointer (some ⟨w.heap.size, 0, none⟩)]) ∧ w.alloc (.cells #[.string s] 9) = w' := by
  go_enter Tryd.func14, Tryd.ntmps14
  go_wp2
  go_ret
  exact ⟨rfl, rfl⟩
/-- The cells of a row of tokens. -/
def tokCells (ts : List Tok) : List Value := ts.flatMap (fun t => (tokC t).toList)
theorem tokCells_length (ts : List Tok) : (tokCells ts).length = ts.length * 4 := by
  unfold tokCells
  induction ts with
  | nil => rfl
  | cons t r ih => simp only [List.flatMap_cons, List.length_append, ih, List.length_cons]; simp [tokC]; omega
theorem tokCells_snoc (ts : List Tok) (t : Tok) : tokCells (ts ++ [t]) = tokCells ts ++ (tokC t).toList := by simp [tokCells]
/-- What All leaves: the slice A of cap places reads as the tokens ts. -/
def AllPost (s : ByteArray) (w : World) (e : Ending) (w' : World) : Prop :=
  ∃ v : Value, e = .returned (.tuple #[v, .int .i64 (allL s.data.toList 0).2.1, .int .i64 (allL s.data.toList 0).2.2]) ∧
    w'.ownsRow w.heap.size 29 4 v (allL s.data.toList 0).1.length (tokCells (allL s.data.toList 0).1) ∧ Below w.heap.size w w'
theorem infoTok : (Tryd.prog.info? 29).map (fun i => (i.zero, i.size, i.bytes)) = some (some (.agg #[.int .i8 0, .string ⟨#[]⟩, .int .i64 0, .int .i64 0]), 4, 40) := by kernel_rfl
theorem allL_len {l : List UInt8} : ∀ (m k : Nat), l.length - k ≤ m → k ≤ l.length → ((allL l k).2.2 = 0 → (allL l k).2.1 = l.length) ∧ (allL l k).1.length ≤ l.length - k := by
  intro m
  induction m with
  | zero =>
    intro k hm hk
    cases hok : (nextL l k).ok with
    | true => have := nextL_stop hk hok; omega
    | false =>
      by_cases he : (nextL l k).err = 0
      · rw [allL_end hk hok he]; simp
      · rw [allL_bad hk hok he]; simp [he]
  | succ m ih =>
    intro k hm hk
    cases hok : (nextL l k).ok with
    | true =>
      have hst := nextL_stop hk hok
      have := ih (nextL l k).tok.stop (by omega) hst.2.1
      rw [allL_ok hk hok]
      refine ⟨this.1, ?_⟩
      simp only [List.length_cons]; omega
    | false =>
      by_cases he : (nextL l k).err = 0
      · rw [allL_end hk hok he]; simp
      · rw [allL_bad hk hok he]; simp [he]
theorem seqL_length (l : List UInt8) : (seqL l 0).length ≤ l.length + 1 := by
  have := (allL_len (l := l) l.length 0 (by omega) (Nat.zero_le _)).2
  unfold seqL
  rw [List.length_append, List.length_map]
  split <;> simp <;> omega
theorem seqL_zero {l : List UInt8} (h : ∀ y ∈ seqL l 0, y.2 = 0) : (allL l 0).1 = (seqL l 0).map (·.1) ∧ (allL l 0).2.1 = l.length ∧ (allL l 0).2.2 = 0 := by
  have he : (allL l 0).2.2 = 0 := by
    by_cases he : (allL l 0).2.2 = 0
    · exact he
    · unfold seqL at h
      rw [if_neg he] at h
      have := h (⟨0, [], (allL l 0).2.1, 0⟩, (allL l 0).2.2) (by simp)
      exact absurd this he
  refine ⟨?_, (allL_len l.length 0 (by omega) (Nat.zero_le _)).1 he, he⟩
  unfold seqL
  rw [if_pos he]
  simp [Function.comp_def]
theorem split_zero {ts : List Tok} {z x : Tok × Nat} {pre suf : List (Tok × Nat)} (h : ts.map (fun t => (t, 0)) ++ [z] = pre ++ x :: suf) (hp : ∀ y ∈ pre, y.2 = 0) (hx : x.2 ≠ 0) : ts = pre.map (·.1) ∧ z = x := by
  induction ts generalizing pre with
  | nil =>
    cases pre with
    | nil => simp at h; exact ⟨rfl, h.1⟩
    | cons a r => simp at h
  | cons t r ih =>
    cases pre with
    | nil =>
      simp at h
      obtain ⟨h1, _⟩ := h
      subst h1
      exact absurd rfl hx
    | cons a q =>
      simp only [List.map_cons, List.cons_append, List.cons.injEq] at h
      obtain ⟨h1, h2⟩ := h
      obtain ⟨h3, h4⟩ := ih h2 (fun y hy => hp y (by simp [hy]))
      subst h1
      exact ⟨by simp [h3], h4⟩
theorem seqL_one {l : List UInt8} {pre suf : List (Tok × Nat)} {x : Tok × Nat} (h : seqL l 0 = pre ++ x :: suf) (hp : ∀ y ∈ pre, y.2 = 0) (hx : x.2 ≠ 0) : (allL l 0).1 = pre.map (·.1) ∧ (allL l 0).2.1 = x.1.pos ∧ (allL l 0).2.2 = x.2 := by
  unfold seqL at h
  by_cases he : (allL l 0).2.2 = 0
  · rw [if_pos he, List.append_nil] at h
    have : x ∈ (allL l 0).1.map (fun t => (t, 0)) := by rw [h]; simp
    simp at this
    obtain ⟨t, _, rfl⟩ := this
    exact absurd rfl hx
  · rw [if_neg he] at h
    obtain ⟨h1, h2⟩ := split_zero h hp hx
    subst h2
    exact ⟨h1, rfl, rfl⟩
/-- Between two rounds. -/
def AllI (w : World) (T : Nat) (pre : List (Tok × Nat)) (W : World) : Prop :=
  (∀ y ∈ pre, y.2 = 0) ∧ ∃ v, Boxed W w.heap.size 23 v ∧ Boxed W (w.heap.size + 1) 3 (.int .i64 0) ∧ Boxed W (w.heap.size + 1 + 1) 24 (.int .i64 0) ∧
    W.ownsRow (T + 1) 29 4 v pre.length (tokCells (pre.map (·.1))) ∧ Below w.heap.size w W
/-- Where a round has left by a return. -/
def AllX (w : World) (T : Nat) (c : Code) (ys : List (Tok × Nat)) (W : World) : Prop :=
  c = .ret ∧ ∃ pre x, ys = pre ++ [x] ∧ (∀ y ∈ pre, y.2 = 0) ∧ x.2 ≠ 0 ∧ ∃ v, Boxed W w.heap.size 23 v ∧ Boxed W (w.heap.size + 1) 3 (.int .i64 x.1.pos) ∧ Boxed W (w.heap.size + 1 + 1) 24 (.int .i64 x.2) ∧
    W.ownsRow (T + 1) 29 4 v pre.length (tokCells (pre.map (·.1))) ∧ Below w.heap.size w W
/-- Behind the assignment to the loop's variables. -/
def AllA (s : ByteArray) (w : World) (T : Nat) (x : Tok × Nat) (a : Act) (W : World) : Prop :=
  ∃ Bx, T < Bx ∧ W.heap[Bx]? = some (.cells (tokC x.1) 29 (0, 0)) ∧ a = { tmps := #[.string s, undef, .pointer (some ⟨w.heap.size, 0, none⟩), .pointer (some ⟨w.heap.size + 1, 0, none⟩), .pointer (some ⟨w.heap.size + 1 + 1, 0, none⟩),
    .pointer (some ⟨Bx, 0, none⟩), .int .i64 x.2, .string s, .func (.func 20) #[] #[.pointer (some ⟨w.heap.size + 1 + 1 + 1, 0, none⟩)], tokV x.1, .int .i64 x.2, undef, undef, undef, undef, undef, undef, undef, undef, undef, undef, undef, undef, undef], defers := [] }
theorem ownsRow_T {A B : World} {D T r : Nat} {e : TypeId} {size k : Nat} {v : Value} {xs : List Value} (h : A.ownsRow (T + 1) e size v k xs) (hg : A.grownBy B (some r)) (hr : r = T ∨ (D ≤ r ∧ ∃ o : Obj, A.heap[r]? = some o ∧ o.isCells = false)) : B.ownsRow (T + 1) e size v k xs := by
  refine h.kept hg ?_
  rcases h.2 with ⟨rfl, _⟩ | ⟨g, cap, cur, rfl, hb, hgb, _⟩
  · exact .inl rfl
  · refine .inr fun e' => ?_
    have hgr : g = r := by simpa [Value.ownBlock] using e'
    subst hgr
    rcases hr with rfl | ⟨_, o, ho, hc⟩
    · omega
    · rw [hgb] at ho; cases ho; cases hc
theorem boxed_T {A B : World} {D T r b : Nat} {t : TypeId} {v : Value} (h : Boxed A b t v) (hg : A.grownBy B (some r)) (hr : r = T ∨ (D ≤ r ∧ ∃ o : Obj, A.heap[r]? = some o ∧ o.isCells = false)) (hT : D ≤ T) (hb : b < D) : Boxed B b t v :=
  h.kept hg (fun e => by
    have : b = r := by simpa using e
    rcases hr with rfl | ⟨h1, _⟩ <;> omega)
theorem below_T {w A B : World} {D T r n₀ : Nat} (h : Below n₀ w A) (hg : A.grownBy B (some r)) (hr : r = T ∨ (D ≤ r ∧ ∃ o : Obj, A.heap[r]? = some o ∧ o.isCells = false)) (hT : D ≤ T) (hD : n₀ ≤ D) (hn : n₀ ≤ A.heap.size) : Below n₀ w B :=
  h.trans ((Below.refl n₀ A).grown hg hn (fun k e => by
    have : r = k := by simpa using e
    rcases hr with rfl | ⟨h1, _⟩ <;> omega))
theorem AllI_own (w : World) (D T : Nat) (hD : w.heap.size + 4 ≤ D) (hT : D ≤ T) : OwnT D T (AllI w T) := by
  rintro pre A B r ⟨hz, v, h1, h2, h3, h4, h5⟩ hg hr
  exact ⟨hz, v, boxed_T h1 hg hr hT (by omega), boxed_T h2 hg hr hT (by omega), boxed_T h3 hg hr hT (by omega), ownsRow_T h4 hg hr, below_T h5 hg hr hT (by omega) h5.size⟩
theorem AllX_own (w : World) (D T : Nat) (c : Code) (hD : w.heap.size + 4 ≤ D) (hT : D ≤ T) : OwnT D T (AllX w T c) := by
  rintro pre A B r ⟨hc, p, x, hp, hz, hx, v, h1, h2, h3, h4, h5⟩ hg hr
  exact ⟨hc, p, x, hp, hz, hx, v, boxed_T h1 hg hr hT (by omega), boxed_T h2 hg hr hT (by omega), boxed_T h3 hg hr hT (by omega), ownsRow_T h4 hg hr, below_T h5 hg hr hT (by omega) h5.size⟩
theorem AllA_own (s : ByteArray) (w : World) (D T : Nat) (x : Tok × Nat) (a : Act) : OwnT D T (fun (_ : Unit) W => AllA s w T x a W) := by
  rintro _ A B r ⟨Bx, hB, hb, ha⟩ hg hr
  refine ⟨Bx, hB, (hg.block Bx (Array.getElem?_eq_some_iff.1 hb).1 (fun e => ?_)).trans hb, ha⟩
  have : Bx = r := by simpa using e
  subst this
  rcases hr with rfl | ⟨_, o, ho, hc⟩
  · omega
  · rw [hb] at ho; cases ho; cases hc
theorem own_ge {W : World} {base : Nat} {e : TypeId} {size k g : Nat} {v : Value} {xs : List Value} (h : W.ownsRow base e size v k xs) (hg : v.ownBlock = some g) : base ≤ g := by
  rcases h.2 with ⟨rfl, _⟩ | ⟨g', cap, cur, rfl, hb, _⟩
  · simp [Value.ownBlock] at hg
  · have : g' = g := by simpa [Value.ownBlock] using hg
    omega
theorem own_form {W : World} {base : Nat} {e : TypeId} {size k : Nat} {v : Value} {xs : List Value} (h : W.ownsRow base e size v k xs) : ∃ A n c, v = .slice A n c := by
  rcases h.2 with ⟨rfl, _⟩ | ⟨g', cap, cur, rfl, hb, _⟩
  · exact ⟨_, _, _, rfl⟩
  · exact ⟨_, _, _, rfl⟩
theorem own_set {W : World} {T b : Nat} {e : TypeId} {size k : Nat} {v : Value} {xs : List Value} (h : W.ownsRow (T + 1) e size v k xs) (hb : b ≤ T) (u : Value) : (W.setCell ⟨b, 0, none⟩ u).ownsRow (T + 1) e size v k xs :=
  h.kept (grownBy_setCell' W b u) (.inr (fun e' => by have := own_ge h e'; omega))
theorem boxed_drew {W : World} {b : Nat} {t : TypeId} {v : Value} (h : Boxed W b t v) : Boxed W.drew b t v := h
theorem own_drew {W : World} {base : Nat} {e : TypeId} {size k : Nat} {v : Value} {xs : List Value} (h : W.ownsRow base e size v k xs) : W.drew.ownsRow base e size v k xs := h
/-- Three stores into three boxes, in whatever order. -/
theorem three_boxes {W : World} {n₀ T B : Nat} {t0 t1 t2 : TypeId} {u0 u1 u2 v0 v1 v2 : Value} {e : TypeId} {size k : Nat} {v : Value} {xs : List Value} {w : World} (hn : n₀ ≤ B) (hT : B + 1 + 1 ≤ T)
    (h1 : Boxed W B t0 u0) (h2 : Boxed W (B + 1) t1 u1) (h3 : Boxed W (B + 1 + 1) t2 u2) (h4 : W.ownsRow (T + 1) e size v k xs) (h5 : Below n₀ w W) (i j l : Nat) (x y z : Value)
    (ho : (i = B ∧ x = v0 ∧ ((j = B + 1 ∧ y = v1 ∧ l = B + 1 + 1 ∧ z = v2) ∨ (j = B + 1 + 1 ∧ y = v2 ∧ l = B + 1 ∧ z = v1))) ∨ (i = B + 1 ∧ x = v1 ∧ ((j = B ∧ y = v0 ∧ l = B + 1 + 1 ∧ z = v2) ∨ (j = B + 1 + 1 ∧ y = v2 ∧ l = B ∧ z = v0))) ∨
      (i = B + 1 + 1 ∧ x = v2 ∧ ((j = B ∧ y = v0 ∧ l = B + 1 ∧ z = v1) ∨ (j = B + 1 ∧ y = v1 ∧ l = B ∧ z = v0)))) :
    KeepsOthers W ((((W.setCell ⟨i, 0, none⟩ x).setCell ⟨j, 0, none⟩ y).setCell ⟨l, 0, none⟩ z).drew) ∧ Boxed ((((W.setCell ⟨i, 0, none⟩ x).setCell ⟨j, 0, none⟩ y).setCell ⟨l, 0, none⟩ z).drew) B t0 v0 ∧
      Boxed ((((W.setCell ⟨i, 0, none⟩ x).setCell ⟨j, 0, none⟩ y).setCell ⟨l, 0, none⟩ z).drew) (B + 1) t1 v1 ∧ Boxed ((((W.setCell ⟨i, 0, none⟩ x).setCell ⟨j, 0, none⟩ y).setCell ⟨l, 0, none⟩ z).drew) (B + 1 + 1) t2 v2 ∧
      ((((W.setCell ⟨i, 0, none⟩ x).setCell ⟨j, 0, none⟩ y).setCell ⟨l, 0, none⟩ z).drew).ownsRow (T + 1) e size v k xs ∧ Below n₀ w ((((W.setCell ⟨i, 0, none⟩ x).setCell ⟨j, 0, none⟩ y).setCell ⟨l, 0, none⟩ z).drew) := by
  have hlow : n₀ ≤ i ∧ n₀ ≤ j ∧ n₀ ≤ l ∧ i ≤ T ∧ j ≤ T ∧ l ≤ T := by omega
  refine ⟨(((KeepsOthers.setCell _ _ _).trans (KeepsOthers.setCell _ _ _)).trans (KeepsOthers.setCell _ _ _)).trans (KeepsOthers.drew _), ?_, ?_, ?_,
    own_drew (own_set (own_set (own_set h4 (by omega) _) (by omega) _) (by omega) _), (((h5.setCell (p := ⟨i, 0, none⟩) (by simp; omega) _).setCell (p := ⟨j, 0, none⟩) (by simp; omega) _).setCell (p := ⟨l, 0, none⟩) (by simp; omega) _).drew⟩
  · refine boxed_drew ?_
    rcases ho with ⟨rfl, rfl, ⟨rfl, rfl, rfl, rfl⟩ | ⟨rfl, rfl, rfl, rfl⟩⟩ | ⟨rfl, rfl, ⟨rfl, rfl, rfl, rfl⟩ | ⟨rfl, rfl, rfl, rfl⟩⟩ | ⟨rfl, rfl, ⟨rfl, rfl, rfl, rfl⟩ | ⟨rfl, rfl, rfl, rfl⟩⟩
    · exact ((h1.set _).other (by omega) _).other (by omega) _
    · exact ((h1.set _).other (by omega) _).other (by omega) _
    · exact ((h1.other (by omega) _).set _).other (by omega) _
    · exact ((h1.other (by omega) _).other (by omega) _).set _
    · exact ((h1.other (by omega) _).set _).other (by omega) _
    · exact ((h1.other (by omega) _).other (by omega) _).set _
  · refine boxed_drew ?_
    rcases ho with ⟨rfl, rfl, ⟨rfl, rfl, rfl, rfl⟩ | ⟨rfl, rfl, rfl, rfl⟩⟩ | ⟨rfl, rfl, ⟨rfl, rfl, rfl, rfl⟩ | ⟨rfl, rfl, rfl, rfl⟩⟩ | ⟨rfl, rfl, ⟨rfl, rfl, rfl, rfl⟩ | ⟨rfl, rfl, rfl, rfl⟩⟩
    · exact ((h2.other (by omega) _).set _).other (by omega) _
    · exact ((h2.other (by omega) _).other (by omega) _).set _
    · exact ((h2.set _).other (by omega) _).other (by omega) _
    · exact ((h2.set _).other (by omega) _).other (by omega) _
    · exact ((h2.other (by omega) _).other (by omega) _).set _
    · exact ((h2.other (by omega) _).set _).other (by omega) _
  · refine boxed_drew ?_
    rcases ho with ⟨rfl, rfl, ⟨rfl, rfl, rfl, rfl⟩ | ⟨rfl, rfl, rfl, rfl⟩⟩ | ⟨rfl, rfl, ⟨rfl, rfl, rfl, rfl⟩ | ⟨rfl, rfl, rfl, rfl⟩⟩ | ⟨rfl, rfl, ⟨rfl, rfl, rfl, rfl⟩ | ⟨rfl, rfl, rfl, rfl⟩⟩
    · exact ((h3.other (by omega) _).other (by omega) _).set _
    · exact ((h3.other (by omega) _).set _).other (by omega) _
    · exact ((h3.other (by omega) _).other (by omega) _).set _
    · exact ((h3.other (by omega) _).set _).other (by omega) _
    · exact ((h3.set _).other (by omega) _).other (by omega) _
    · exact ((h3.set _).other (by omega) _).other (by omega) _
theorem three_boxes_plain {W : World} {n₀ T B : Nat} {t0 t1 t2 : TypeId} {u0 u1 u2 v0 v1 v2 : Value} {e : TypeId} {size k : Nat} {v : Value} {xs : List Value} {w : World} (hn : n₀ ≤ B) (hT : B + 1 + 1 ≤ T)
    (h1 : Boxed W B t0 u0) (h2 : Boxed W (B + 1) t1 u1) (h3 : Boxed W (B + 1 + 1) t2 u2) (h4 : W.ownsRow (T + 1) e size v k xs) (h5 : Below n₀ w W) (i j l : Nat) (x y z : Value)
    (ho : (i = B ∧ x = v0 ∧ ((j = B + 1 ∧ y = v1 ∧ l = B + 1 + 1 ∧ z = v2) ∨ (j = B + 1 + 1 ∧ y = v2 ∧ l = B + 1 ∧ z = v1))) ∨ (i = B + 1 ∧ x = v1 ∧ ((j = B ∧ y = v0 ∧ l = B + 1 + 1 ∧ z = v2) ∨ (j = B + 1 + 1 ∧ y = v2 ∧ l = B ∧ z = v0))) ∨
      (i = B + 1 + 1 ∧ x = v2 ∧ ((j = B ∧ y = v0 ∧ l = B + 1 ∧ z = v1) ∨ (j = B + 1 ∧ y = v1 ∧ l = B ∧ z = v0)))) :
    KeepsOthers W ((((W.setCell ⟨i, 0, none⟩ x).setCell ⟨j, 0, none⟩ y).setCell ⟨l, 0, none⟩ z)) ∧ Boxed ((((W.setCell ⟨i, 0, none⟩ x).setCell ⟨j, 0, none⟩ y).setCell ⟨l, 0, none⟩ z)) B t0 v0 ∧
      Boxed ((((W.setCell ⟨i, 0, none⟩ x).setCell ⟨j, 0, none⟩ y).setCell ⟨l, 0, none⟩ z)) (B + 1) t1 v1 ∧ Boxed ((((W.setCell ⟨i, 0, none⟩ x).setCell ⟨j, 0, none⟩ y).setCell ⟨l, 0, none⟩ z)) (B + 1 + 1) t2 v2 ∧
      ((((W.setCell ⟨i, 0, none⟩ x).setCell ⟨j, 0, none⟩ y).setCell ⟨l, 0, none⟩ z)).ownsRow (T + 1) e size v k xs ∧ Below n₀ w ((((W.setCell ⟨i, 0, none⟩ x).setCell ⟨j, 0, none⟩ y).setCell ⟨l, 0, none⟩ z)) := by
  obtain ⟨k0, k1, k2, k3, k4, k5⟩ := three_boxes hn hT h1 h2 h3 h4 h5 i j l x y z ho
  exact ⟨⟨k0.size, k0.same⟩, k1, k2, k3, k4, ⟨k5.os, k5.tape, k5.output, k5.size, k5.block⟩⟩
theorem stop_post {w W : World} {T D : Nat} {keep : Nat → Prop} {pre : List (Tok × Nat)} {p : Tok × Nat} {v : Value} {a : Act} {i j l : Nat} {x y z : Value} (hT : w.heap.size + 1 + 1 ≤ T) (hz : ∀ y ∈ pre, y.2 = 0) (he : ¬ p.2 = 0)
    (h1 : Boxed W w.heap.size 23 v) (h2 : Boxed W (w.heap.size + 1) 3 (.int .i64 0)) (h3 : Boxed W (w.heap.size + 1 + 1) 24 (.int .i64 0)) (h4 : W.ownsRow (T + 1) 29 4 v pre.length (tokCells (pre.map (·.1)))) (h5 : Below w.heap.size w W)
    (ho : (i = w.heap.size ∧ x = v ∧ ((j = w.heap.size + 1 ∧ y = .int .i64 p.1.pos ∧ l = w.heap.size + 1 + 1 ∧ z = .int .i64 p.2) ∨ (j = w.heap.size + 1 + 1 ∧ y = .int .i64 p.2 ∧ l = w.heap.size + 1 ∧ z = .int .i64 p.1.pos))) ∨
      (i = w.heap.size + 1 ∧ x = .int .i64 p.1.pos ∧ ((j = w.heap.size ∧ y = v ∧ l = w.heap.size + 1 + 1 ∧ z = .int .i64 p.2) ∨ (j = w.heap.size + 1 + 1 ∧ y = .int .i64 p.2 ∧ l = w.heap.size ∧ z = v))) ∨
      (i = w.heap.size + 1 + 1 ∧ x = .int .i64 p.2 ∧ ((j = w.heap.size ∧ y = v ∧ l = w.heap.size + 1 ∧ z = .int .i64 p.1.pos) ∨ (j = w.heap.size + 1 ∧ y = .int .i64 p.1.pos ∧ l = w.heap.size ∧ z = v)))) :
    postT D keep T (AllI w) (AllX w) (pre ++ [p]) W .ret a (((W.setCell ⟨i, 0, none⟩ x).setCell ⟨j, 0, none⟩ y).setCell ⟨l, 0, none⟩ z).drew := by
  obtain ⟨k0, k1, k2, k3, k4, k5⟩ := three_boxes (Nat.le_refl _) hT h1 h2 h3 h4 h5 i j l x y z ho
  exact ⟨k0.from _, rfl, pre, p, rfl, hz, he, v, k1, k2, k3, k4, k5⟩
theorem own_base {W : World} {base base' : Nat} {e : TypeId} {size k : Nat} {v : Value} {xs : List Value} (h : W.ownsRow base e size v k xs) (hb : base' ≤ base) : W.ownsRow base' e size v k xs := by
  refine ⟨h.1, ?_⟩
  rcases h.2 with h2 | ⟨g, cap, cur, rfl, h3, h4⟩
  · exact .inl h2
  · exact .inr ⟨g, cap, cur, rfl, Nat.le_trans hb h3, h4⟩
/-- At the return, behind the end of the loop: what the results' cells hold, and what All leaves. -/
theorem all_end {s : ByteArray} {w W : World} {T D : Nat} {v : Value} {ts : List Tok} {p e : Nat} (hD : w.heap.size + 4 ≤ D) (hT : w.heap.size + 4 ≤ T) (hK : W.heap[D]? = some (.deferred (some [])))
    (h1 : Boxed W w.heap.size 23 v) (h2 : Boxed W (w.heap.size + 1) 3 (.int .i64 p)) (h3 : Boxed W (w.heap.size + 1 + 1) 24 (.int .i64 e)) (h4 : W.ownsRow (T + 1) 29 4 v ts.length (tokCells ts)) (h5 : Below w.heap.size w W)
    (ha : allL s.data.toList 0 = (ts, p, e)) :
    (W.putObj D (.deferred none)).cell? ⟨w.heap.size, 0, none⟩ = some v ∧ (W.putObj D (.deferred none)).cell? ⟨w.heap.size + 1, 0, none⟩ = some (.int .i64 p) ∧ (W.putObj D (.deferred none)).cell? ⟨w.heap.size + 1 + 1, 0, none⟩ = some (.int .i64 e) ∧
      AllPost s w (.returned (.tuple #[v, .int .i64 p, .int .i64 e])) (W.putObj D (.deferred none)) := by
  have hg := grownBy_putObj' W D (.deferred none)
  refine ⟨(h1.kept hg (fun e => by cases e; omega)).cell, (h2.kept hg (fun e => by cases e; omega)).cell, (h3.kept hg (fun e => by cases e; omega)).cell, v, ?_, ?_, ?_⟩
  · rw [ha]
  · rw [ha]; exact own_base (ownsRow_putObj h4 _ hK rfl) (by omega)
  · exact h5.trans (belowK_b (w := w) (Nat.le_refl _) W D _ _ (by omega) hK rfl rfl)
/-- A round that appends to the slice in box B: all that it owes. -/
theorem appended_T {W w1 : World} {T B n₀ : Nat} {keep : Nat → Prop} {tS tE : TypeId} {size k m : Nat} {v v' : Value} {xs ys : List Value} {tmp : Obj} (hv : Boxed W B tS v) (hte : tS ≠ tE) (hrow : W.ownsRow (T + 1) tE size v k xs) (hT : T < W.heap.size)
    (hBT : B < T) (hkeep : ∀ b, keep b → b ≠ B ∧ b < T) (hn : n₀ ≤ B) (hown' : w1.ownsRow (T + 1) tE size v' m ys) (hgrow : (W.alloc tmp).grownBy w1 v.ownBlock) :
    Boxed w1 B tS v ∧ Boxed (w1.setCell ⟨B, 0, none⟩ v') B tS v' ∧ (w1.setCell ⟨B, 0, none⟩ v').ownsRow (T + 1) tE size v' m ys ∧ KeepsOthers W (w1.setCell ⟨B, 0, none⟩ v') ∧ KeepsT keep T W (w1.setCell ⟨B, 0, none⟩ v') ∧ Below n₀ W (w1.setCell ⟨B, 0, none⟩ v') ∧
      ∀ b t u, b < T → b ≠ B → Boxed W b t u → Boxed (w1.setCell ⟨B, 0, none⟩ v') b t u := by
  have hold : ∀ b, b ≤ T → b ≠ B → (w1.setCell ⟨B, 0, none⟩ v').heap[b]? = W.heap[b]? := fun b hb hne =>
    (Below.heap_setCell _ _ _ b hne).trans ((hgrow.block b (by simp; omega) (fun e => by have := own_ge hrow e.symm; omega)).trans (Below.heap_alloc _ _ _ (by omega)))
  have hv1 : Boxed w1 B tS v := (hv.alloc tmp).kept hgrow (hv.not_row hte hrow)
  have hsz : W.heap.size ≤ (w1.setCell ⟨B, 0, none⟩ v').heap.size := by have := hgrow.size; simp [World.setCell] at this ⊢; omega
  refine ⟨hv1, hv1.set v', hown'.kept (grownBy_setCell' w1 B v') (.inr (hv1.not_row hte hown').symm), ?_, ⟨hsz, fun b hb => ?_⟩, ?_, fun b t u hb hne hbx => (hold b (by omega) hne).trans hbx⟩
  · refine ((KeepsOthers.alloc W tmp).trans (KeepsOthers.of_grownBy hgrow fun j o ej hj => ?_)).trans (KeepsOthers.setCell _ _ _)
    rcases (hrow.alloc tmp).2 with ⟨rfl, _⟩ | ⟨g, cap, cur, rfl, _, hgb, _⟩
    · simp [Value.ownBlock] at ej
    · obtain rfl : g = j := by simpa [Value.ownBlock] using ej
      rw [hgb] at hj; cases hj; rfl
  · rcases hb with rfl | hb
    · exact hold _ (Nat.le_refl _) (by omega)
    · have := hkeep b hb; exact hold b (by omega) this.1
  · refine (((Below.refl n₀ W).alloc (by omega) tmp).grown hgrow (by simp; omega) fun j ej => ?_).setCell (p := ⟨B, 0, none⟩) hn v'
    have := own_ge hrow ej
    omega
set_option maxRecDepth 100000 in
set_option maxHeartbeats 4000000 in
theorem All_in (s : ByteArray) (w : World) (hG : Globs w) (hs : s.size ≤ 1000000) :
    CallsIn Fence.wide 8 Tryd.prog 8 #[.string s] w (AllPost s w) := by
  have HL : Hid (s.data.toList.length = s.size) := by show _ = _; simp
  have HG := Lib.hid hG
  clear hG
  refine callsIn_of_wp_marks Tryd.func8 rfl trivial ?_ rfl
  simp only [Tryd.ntmps8, List.size_toArray, List.length_cons, List.length_nil, Nat.reduceAdd, Nat.reduceSub, Array.replicate_succ, Array.replicate_zero, List.push_toArray, List.append_toArray, List.nil_append, List.cons_append]
  have hd : 1 ≤ 8 := by omega
  gi_wp2_with (refine ⟨trivial, ?_⟩; gi_at_call 14; refine (callsIn_wide.2 (tokens_any s _)).mono ?_; rintro e w' ⟨rfl, rfl⟩)
  have hb4 : Below w.heap.size w ((((w.alloc (.cells #[.slice none 0 0] 23)).alloc (.cells #[.int .i64 0] 3)).alloc (.cells #[.int .i64 0] 24)).alloc (.cells #[.string s] 9)) :=
    ((((Below.refl _ w).alloc (Nat.le_refl _) _).alloc (by simp) _).alloc (by simp; omega) _).alloc (by simp; omega) _
  have b0 : Boxed ((((w.alloc (.cells #[.slice none 0 0] 23)).alloc (.cells #[.int .i64 0] 3)).alloc (.cells #[.int .i64 0] 24)).alloc (.cells #[.string s] 9)) w.heap.size 23 (.slice none 0 0) := (((Boxed.new w _ _).alloc _).alloc _).alloc _
  have b1 := (((Boxed.new (w.alloc (.cells #[.slice none 0 0] 23)) 3 (.int .i64 0)).alloc (.cells #[.int .i64 0] 24)).alloc (.cells #[.string s] 9))
  have b2 := ((Boxed.new ((w.alloc (.cells #[.slice none 0 0] 23)).alloc (.cells #[.int .i64 0] 3)) 24 (.int .i64 0)).alloc (.cells #[.string s] 9))
  have b3 := Boxed.new (((w.alloc (.cells #[.slice none 0 0] 23)).alloc (.cells #[.int .i64 0] 3)).alloc (.cells #[.int .i64 0] 24)) 9 (.string s)
  simp only [World.size_alloc] at b1 b2 b3
  obtain ⟨w4, hw4⟩ : ∃ w4, ((((w.alloc (.cells #[.slice none 0 0] 23)).alloc (.cells #[.int .i64 0] 3)).alloc (.cells #[.int .i64 0] 24)).alloc (.cells #[.string s] 9)) = w4 := ⟨_, rfl⟩
  have hsz : w.heap.size + 4 ≤ w4.heap.size := by rw [← hw4]; simp
  rw [hw4] at hb4 b0 b1 b2 b3 ⊢
  have HG4 := Lib.hid (HG.out.below hb4)
  have h04 := HG.out.four
  have hkeep : ∀ b, keepG (w.heap.size + 1 + 1 + 1) b → b < w4.heap.size := by
    rintro b (rfl | rfl | rfl | rfl | rfl)
    · omega
    · exact HG4.out.white.1
    · exact HG4.out.signs.1
    · exact HG4.out.digits.1
    · exact HG4.out.bars.1
  refine wpIn_rangeFunc_T rfl hd (gf := 20) (lb := #[.pointer (some ⟨w.heap.size + 1 + 1 + 1, 0, none⟩)]) rfl trivial (enters_of Tryd.func20 (by kernel_rfl) rfl)
    (encs := encE) (xs := seqL s.data.toList 0) (keep := keepG (w.heap.size + 1 + 1 + 1))
    (fun W hW => tokens1_in _ (by omega) s _ W (HG4.out.below hW) (by omega) ((hW.block _ b3.lt).trans b3)) hkeep (fun _ => rfl)
    (AllI w) (AllX w) (fun T hT => AllI_own w _ T hsz hT) (fun T c hT => AllX_own w _ T c hsz hT) ?_ (AllA s w) (fun T x a' _ => AllA_own s w _ T x a') ?assign ?body ?done ?stop
  · intro T B hT hTB hB
    exact ⟨by simp, .slice none 0 0, (hB.block _ b0.lt).trans b0, (hB.block _ b1.lt).trans b1, (hB.block _ b2.lt).trans b2, World.ownsRow_nil _ _ _ _, hb4.trans (hB.mono hb4.size)⟩
  case assign =>
    rintro l T pre x W K hT hTW hi hK
    simp only [encE, tokV]
    gi_wp2
    have hgr : W.grownBy (W.alloc (.cells (tokC x.1) 29)) (some W.heap.size) := World.grownBy_alloc W _ _
    refine hK _ _ ((KeepsOthers.alloc _ _).from _) ⟨by simp, fun b hb => Below.heap_alloc _ _ _ ?_⟩ ?_ ⟨W.heap.size, by omega, heap_alloc_new W _, rfl⟩
    · rcases hb with rfl | hb
      · exact hTW
      · have := hkeep b hb; omega
    · obtain ⟨hz, v, h1, h2, h3, h4, h5⟩ := hi
      exact ⟨hz, v, h1.alloc _, h2.alloc _, h3.alloc _, h4.alloc _, h5.alloc h5.size _⟩
  case body =>
    rintro l T pre suf x a' W hT hTW hx ⟨hz, v, h1, h2, h3, h4, h5⟩ ⟨Bx, hBx, hblk, rfl⟩
    have c0 := cell_of_row _ _ 0 _ _ _ hblk
    have c1 := cell_of_row _ _ 1 _ _ _ hblk
    have c2 := cell_of_row _ _ 2 _ _ _ hblk
    have c3 := cell_of_row _ _ 3 _ _ _ hblk
    simp only [tokC, List.getElem?_toArray, List.getElem?_cons_zero, List.getElem?_cons_succ] at c0 c1 c2 c3
    obtain ⟨vA, vn, vc, rfl⟩ := own_form h4
    have k0 := h1.cell
    have f0 := h1.frozen
    have k1 := h2.cell
    have f1 := h2.frozen
    have k2 := h3.cell
    have f2 := h3.frozen
    have hmx : Tryd.prog.follows .mixedOrders = true := by kernel_rfl
    have hd2 : 1 ≤ 8 - 1 - 1 := by omega
    by_cases he : x.2 = 0
    · have hne := ne_false (x := (x.2 : Int)) (y := 0) (by omega)
      have HE := Lib.hid he
      have HX := Lib.hid hx
      have HZ := Lib.hid hz
      clear he hx hz
      obtain ⟨i0, hi, hz0, hz1, hz2⟩ := info_parts infoTok
      have hlen : pre.length + 1 ≤ 1000001 := by
        have := seqL_length s.data.toList
        rw [HX.out, HL.out] at this
        simp at this
        omega
      have hrow := Lib.hid h4
      clear h4
      gi_wp2_with (gi_at_builtin; refine wpListIn_append_own _ rfl _ _ 23 rfl (T + 1) 29 i0 _ 4 40 Tryd.underlying23 hi hz0 hz1 hz2 rfl (by decide) _ pre.length _ rfl (hrow.out.alloc _) ⟨W.heap.size, 0, none⟩ 1 1 (tokC x.1).toList rfl rfl ?_ ?_ ?_ ?_ ?_ ?_)
      · exact World.news_of_block (cs := tokC x.1) (t := 29) (fr := (0, 0)) (heap_alloc_new W _)
      · simp [tokC, Value.oneCell']
      · unfold maxLen; omega
      · omega
      · simp; omega
      · intro v' w5 hown' hgrow _
        obtain ⟨g', cap', rfl⟩ := ownsRow_succ hown'
        obtain ⟨hv1, hv2, hr2, hk2, hkt, hb2, hoth⟩ := appended_T (keep := keepG (w.heap.size + 1 + 1 + 1)) (n₀ := w.heap.size) h1 (by decide) hrow.out hTW (by omega)
          (by rintro b (rfl | rfl | rfl | rfl | rfl) <;> omega) (Nat.le_refl _) hown' hgrow
        have hc1 := hv1.cell
        have hf1 := hv1.frozen
        have HV := Lib.hid (And.intro hv2 (And.intro hr2 (And.intro hk2 (And.intro hkt (And.intro hb2 hoth)))))
        clear hv2 hr2 hk2 hkt hb2 hoth hown' hgrow
        gi_wp2
        obtain ⟨hv2, hr2, hk2, hkt, hb2, hoth⟩ := HV.out
        refine ⟨hk2.from _, hkt, ?_, _, hv2, hoth _ _ _ (by omega) (by omega) h2, hoth _ _ _ (by omega) (by omega) h3, ?_, h5.trans hb2⟩
        · intro y hy
          rcases List.mem_append.1 hy with hy | hy
          · exact HZ.out y hy
          · simp at hy; subst hy; exact HE.out
        · rw [List.map_append, List.map_singleton, tokCells_snoc, List.length_append, List.length_singleton]; exact hr2
    · have hne := ne_true (x := (x.2 : Int)) (y := 0) (by omega)
      have HE := Lib.hid he
      have HX := Lib.hid hx
      have HZ := Lib.hid hz
      clear he hx hz
      gi_wp2
      gi_region_with_o (fail)
      all_goals gi_wp2
      all_goals
        refine stop_post (by omega) HZ.out HE.out h1 h2 h3 h4 h5 ?_
        first
        | exact .inl ⟨rfl, rfl, .inl ⟨rfl, rfl, rfl, rfl⟩⟩
        | exact .inl ⟨rfl, rfl, .inr ⟨rfl, rfl, rfl, rfl⟩⟩
        | exact .inr (.inl ⟨rfl, rfl, .inl ⟨rfl, rfl, rfl, rfl⟩⟩)
        | exact .inr (.inl ⟨rfl, rfl, .inr ⟨rfl, rfl, rfl, rfl⟩⟩)
        | exact .inr (.inr ⟨rfl, rfl, .inl ⟨rfl, rfl, rfl, rfl⟩⟩)
        | exact .inr (.inr ⟨rfl, rfl, .inr ⟨rfl, rfl, rfl, rfl⟩⟩)
  case done =>
    rintro D T W hD hT ⟨hz, v, h1, h2, h3, h4, h5⟩ hK
    obtain ⟨r1, r2, r3⟩ := seqL_zero hz
    obtain ⟨vA, vn, vc, rfl⟩ := own_form h4
    have k0 := h1.cell
    have f0 := h1.frozen
    have k1 := h2.cell
    have f1 := h2.frozen
    have k2 := h3.cell
    have f2 := h3.frozen
    have ha : allL s.data.toList 0 = ((seqL s.data.toList 0).map (·.1), s.size, 0) := by
      rw [← r1]
      exact Prod.ext rfl (Prod.ext (r2.trans HL.out) r3)
    have h4' : W.ownsRow (T + 1) 29 4 (.slice vA vn vc) ((seqL s.data.toList 0).map (·.1)).length (tokCells ((seqL s.data.toList 0).map (·.1))) := by rw [List.length_map]; exact h4
    obtain ⟨m0, m1, m2, m3, m4, m5⟩ := three_boxes_plain (v0 := .slice vA vn vc) (v1 := .int .i64 s.size) (v2 := .int .i64 0) (Nat.le_refl _) (by omega) h1 h2 h3 h4' h5 _ _ _ _ _ _ (.inl ⟨rfl, rfl, .inl ⟨rfl, rfl, rfl, rfl⟩⟩)
    have hK2 := m0.same D _ hK rfl
    obtain ⟨q0, q1, q2, q3⟩ := all_end (s := s) (by omega) (by omega) hK2 m1 m2 m3 m4 m5 ha
    have HQ := Lib.hid (And.intro q0 (And.intro q1 (And.intro q2 q3)))
    have HK2 := Lib.hid hK2
    clear r1 r2 r3 ha h4' m0 m1 m2 m3 m4 m5 hK2 q0 q1 q2 q3
    gi_wp2
    obtain ⟨q0, q1, q2, q3⟩ := HQ.out
    refine ⟨by simp, .inl ⟨_, _, rfl, run_takeDeferred HK2.out, ?_⟩⟩
    refine ⟨.tuple #[.slice vA vn vc, .int .i64 s.size, .int .i64 0], ?_, q3⟩
    simp only [Int.natCast_zero] at q2
    simp [results, Tryd.results8, go_sem, q0, q1, q2]
  case stop =>
    rintro D T c pre suf x W hD hT hx ⟨rfl, pre', x', hp, hz, he, v, h1, h2, h3, h4, h5⟩ hK
    obtain ⟨rfl, hxx⟩ := List.append_inj hp (by have := congrArg List.length hp; simp at this; exact this)
    obtain rfl : x = x' := by simpa using hxx
    obtain ⟨r1, r2, r3⟩ := seqL_one hx hz he
    have ha : allL s.data.toList 0 = (pre.map (·.1), x.1.pos, x.2) := by
      rw [← r1]
      exact Prod.ext rfl (Prod.ext r2 r3)
    have h4' : W.ownsRow (T + 1) 29 4 v (pre.map (·.1)).length (tokCells (pre.map (·.1))) := by rw [List.length_map]; exact h4
    obtain ⟨q0, q1, q2, q3⟩ := all_end (s := s) (by omega) (by omega) hK h1 h2 h3 h4' h5 ha
    have HQ := Lib.hid (And.intro q0 (And.intro q1 (And.intro q2 q3)))
    have HK2 := Lib.hid hK
    clear r1 r2 r3 ha h4' q0 q1 q2 q3 hp hxx
    gi_wp2
    obtain ⟨q0, q1, q2, q3⟩ := HQ.out
    refine ⟨by simp, .inl ⟨_, _, rfl, run_takeDeferred HK2.out, ?_⟩⟩
    refine ⟨.tuple #[v, .int .i64 x.1.pos, .int .i64 x.2], ?_, q3⟩
    simp [results, Tryd.results8, go_sem, q0, q1, q2]
theorem All_any (s : ByteArray) (w : World) (hG : Globs w) (hs : s.size ≤ 1000000) : Calls Tryd.prog 8 #[.string s] w (AllPost s w) := callsIn_wide.1 (All_in s w hG hs)
end Go.Proofs.YtdpogjkfmncnlaaDoor
