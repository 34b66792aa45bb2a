/- How deep a row of expressions is; what All has put together, handed on. -/
import Derived.Test.YtodonngnigbpaaaGreatDoorSexHt
import Derived.Test.YtodonngnigbpaaaGreatDoorSexMay
namespace Go.Proofs.YtodonngnigbpaaaGreatDoor
open Go.RowKit
set_option linter.unusedVariables false
/-- An answer of All. -/
structure AllR where
  ts : List Tree
  stop : Nat
  err : Nat
/-- What All answers from byte p on, white space passed over. -/
def allX (L : List UInt8) : Nat → Nat → AllR
  | 0, p => ⟨[], p, 99⟩
  | f + 1, p => if p < L.length then (if (readL L p).err = 0 then ⟨(readL L p).t :: (allX L f (skipA L (readL L p).stop)).ts, (allX L f (skipA L (readL L p).stop)).stop, (allX L f (skipA L (readL L p).stop)).err⟩ else ⟨[], p, (readL L p).err⟩) else ⟨[], p, 0⟩
def allS (L : List UInt8) : AllR := allX L (L.length + 1) (skipA L 0)
theorem readL_on {L : List UInt8} {p : Nat} (hp : p ≤ L.length) (h : (readL L p).err = 0) : p < (readL L p).stop ∧ (readL L p).stop ≤ L.length := by
  obtain ⟨_, q2, q3⟩ := readL_behind (b := []) hp h
  have := (skipA_le hp).1
  exact ⟨by omega, q2⟩
theorem allX_step {L : List UInt8} {f p : Nat} (hp : p < L.length) (h : (readL L p).err = 0) : allX L (f + 1) p = ⟨(readL L p).t :: (allX L f (skipA L (readL L p).stop)).ts, (allX L f (skipA L (readL L p).stop)).stop, (allX L f (skipA L (readL L p).stop)).err⟩ := by
  rw [allX, if_pos hp, if_pos h]
theorem allX_bad {L : List UInt8} {f p : Nat} (hp : p < L.length) (h : ¬ (readL L p).err = 0) : allX L (f + 1) p = ⟨[], p, (readL L p).err⟩ := by
  rw [allX, if_pos hp, if_neg h]
theorem allX_end {L : List UInt8} {f p : Nat} (hp : ¬ p < L.length) : allX L (f + 1) p = ⟨[], p, 0⟩ := by
  rw [allX, if_neg hp]
/-- Fuel enough is enough. -/
theorem allX_enough (L : List UInt8) : ∀ (f f' p : Nat), p ≤ L.length → L.length - p < f → L.length - p < f' → allX L f p = allX L f' p := by
  intro f
  induction f with
  | zero => intro f' p hp hf; omega
  | succ f ih =>
    intro f' p hp hf hf'
    obtain ⟨f', rfl⟩ : ∃ g, f' = g + 1 := ⟨f' - 1, by omega⟩
    by_cases hlt : p < L.length
    · by_cases he : (readL L p).err = 0
      · obtain ⟨h1, h2⟩ := readL_on hp he
        obtain ⟨h3, h4⟩ := skipA_le (l := L) h2
        rw [allX_step hlt he, allX_step hlt he, ih f' _ h4 (by omega) (by omega)]
      · rw [allX_bad hlt he, allX_bad hlt he]
    · rw [allX_end hlt, allX_end hlt]
theorem readL_shift (P L : List UInt8) {k : Nat} (hk : k ≤ L.length) : readL (P ++ L) (P.length + k) = ⟨(readL L k).t, P.length + (readL L k).stop, (readL L k).err⟩ := by
  unfold readL
  rw [show (P ++ L).length + 1 - (P.length + k) = L.length + 1 - k by simp; omega]
  exact contR_shift P L _ (.run []) k 0 hk (Nat.le_refl _) (.inl ok_start)
theorem allX_shift (P L : List UInt8) : ∀ (f p : Nat), p ≤ L.length → L.length - p < f → allX (P ++ L) f (P.length + p) = ⟨(allX L f p).ts, P.length + (allX L f p).stop, (allX L f p).err⟩ := by
  intro f
  induction f with
  | zero => intro p hp hf; omega
  | succ f ih =>
    intro p hp hf
    by_cases hlt : p < L.length
    · have hlt' : P.length + p < (P ++ L).length := by simp; omega
      have hr := readL_shift P L hp
      by_cases he : (readL L p).err = 0
      · obtain ⟨h1, h2⟩ := readL_on hp he
        obtain ⟨h3, h4⟩ := skipA_le (l := L) h2
        rw [allX_step hlt he, allX_step hlt' (by rw [hr]; exact he), hr]
        simp only
        rw [skipA_shift, ih _ h4 (by omega)]
      · rw [allX_bad hlt he, allX_bad hlt' (by rw [hr]; exact he), hr]
    · rw [allX_end hlt, allX_end (by simp; omega)]
theorem allX_glue (a b : List UInt8) : ∀ (f k f' : Nat), k ≤ a.length → a.length - skipA a k < f → (allX a f (skipA a k)).err = 0 → (a ++ 10 :: b).length - skipA (a ++ 10 :: b) k < f' →
    allX (a ++ 10 :: b) f' (skipA (a ++ 10 :: b) k) = ⟨(allX a f (skipA a k)).ts ++ (allS b).ts, a.length + 1 + (allS b).stop, (allS b).err⟩ := by
  intro f
  induction f with
  | zero => intro k f' hk hf; omega
  | succ f ih =>
    intro k f' hk hf herr hf'
    obtain ⟨f', rfl⟩ : ∃ g, f' = g + 1 := ⟨f' - 1, by omega⟩
    have hle := (skipA_le (l := a) hk).2
    by_cases hlt : skipA a k < a.length
    · have hs := skipA_glue_lt (b := b) hk hlt
      have he : (readL a (skipA a k)).err = 0 := by
        apply Classical.byContradiction
        intro h
        rw [allX_bad hlt h] at herr
        exact h herr
      obtain ⟨h1, h2⟩ := readL_on hle he
      obtain ⟨q1, _, _⟩ := readL_behind (b := b) hle he
      obtain ⟨h3, h4⟩ := skipA_le (l := a) h2
      have hlt' : skipA a k < (a ++ 10 :: b).length := by simp; omega
      have h2' : (readL a (skipA a k)).stop ≤ (a ++ 10 :: b).length := by simp; omega
      obtain ⟨h5, h6⟩ := skipA_le (l := a ++ 10 :: b) h2'
      rw [hs] at hf' ⊢
      rw [allX_step hlt he] at herr ⊢
      rw [allX_step hlt' (by rw [q1]; exact he), q1]
      rw [ih _ f' h2 (by omega) herr (by omega)]
      rfl
    · have heq : skipA a k = a.length := by omega
      rw [allX_end hlt]
      rw [skipA_glue_all (b := b) hk heq] at hf' ⊢
      have e : a ++ 10 :: b = (a ++ [10]) ++ b := by simp
      have el : (a ++ [10]).length = a.length + 1 := by simp
      obtain ⟨h7, h8⟩ := skipA_le (l := b) (k := 0) (Nat.zero_le _)
      rw [skipA_glue2] at hf' ⊢
      rw [Nat.add_comm (skipA b 0), e, ← el, allX_shift (a ++ [10]) b _ _ h8 (by rw [e] at hf'; simp at hf'; omega)]
      unfold allS
      rw [allX_enough b (f' + 1) (b.length + 1) _ h8 (by rw [e] at hf'; simp at hf'; omega) (by omega)]
      rfl
theorem allS_glue (a b : List UInt8) (h : (allS a).err = 0) : allS (a ++ 10 :: b) = ⟨(allS a).ts ++ (allS b).ts, a.length + 1 + (allS b).stop, (allS b).err⟩ := by
  have h1 := skipA_le (l := a) (k := 0) (Nat.zero_le _)
  exact allX_glue a b (a.length + 1) 0 ((a ++ 10 :: b).length + 1) (Nat.zero_le _) (by omega) h (by omega)
theorem allX_whole (L : List UInt8) : ∀ (f p : Nat), p ≤ L.length → L.length - p < f → (allX L f p).err = 0 → (allX L f p).stop = L.length := by
  intro f
  induction f with
  | zero => intro p hp hf; omega
  | succ f ih =>
    intro p hp hf herr
    by_cases hlt : p < L.length
    · by_cases he : (readL L p).err = 0
      · obtain ⟨h1, h2⟩ := readL_on hp he
        obtain ⟨h3, h4⟩ := skipA_le (l := L) h2
        rw [allX_step hlt he] at herr ⊢
        exact ih _ h4 (by omega) herr
      · rw [allX_bad hlt he] at herr
        exact absurd herr he
    · rw [allX_end hlt]; show p = L.length; omega
theorem allS_whole (L : List UInt8) (h : (allS L).err = 0) : (allS L).stop = L.length :=
  allX_whole L _ _ (skipA_le (Nat.zero_le _)).2 (by omega) h
end Go.Proofs.YtodonngnigbpaaaGreatDoor
namespace Go.Proofs.YtodonngnigbpaaaGreatDoor
open Go.RowKit
set_option linter.unusedVariables false
/-- What has been put together: a row of one's own. -/
def AllM (w : World) (n₀ : Nat) (v : Value) (ts : List Tree) : Prop :=
  ∃ K : Nat → Prop, (∀ b, K b → n₀ ≤ b ∧ b < w.heap.size) ∧ (∀ b, K b → ∃ cs, w.heap[b]? = some (.cells cs 35 (0, 0))) ∧ OpenL w n₀ K v ts ∧ ∀ g, v.ownBlock = some g → ¬ K g
theorem AllM.nil (w : World) (n₀ : Nat) : AllM w n₀ (.slice none 0 0) [] :=
  ⟨fun _ => False, fun _ h => h.elim, fun _ h => h.elim, OpenL.nil w n₀ _, fun _ _ h => h⟩
theorem AllM.keep {w w' : World} {n₀ : Nat} {v : Value} {ts : List Tree} (h : AllM w n₀ v ts) (hb : Below w.heap.size w w') : AllM w' n₀ v ts := by
  obtain ⟨K, h1, h2, h3, h4⟩ := h
  refine ⟨K, fun b hb' => ⟨(h1 b hb').1, Nat.lt_of_lt_of_le (h1 b hb').2 hb.size⟩, fun b hb' => ?_, h3.keep (fun b hb' => hb.block b ?_), h4⟩
  · obtain ⟨cs, hc⟩ := h2 b hb'
    exact ⟨cs, (hb.block b (h1 b hb').2).trans hc⟩
  · rcases hb' with hb' | hb'
    · exact (h1 b hb').2
    · exact (h3.lt hb').2
theorem AllM.form {w : World} {n₀ : Nat} {v : Value} {ts : List Tree} (h : AllM w n₀ v ts) : ∃ a cap, v = .slice a ts.length cap ∧ ts.length ≤ cap ∧ cap ≤ maxLen := by
  obtain ⟨K, _, _, h, _⟩ := h
  exact h.form
/-- One more, put behind: w1 the world ahead of the append, w2 behind it. -/
theorem AllM.snoc {w w1 w2 : World} {n₀ : Nat} {v v' k s sl : Value} {ts : List Tree} {t : Tree} {xs : List Value} {K Kt : Nat → Prop}
    (h1 : ∀ b, K b → n₀ ≤ b ∧ b < w.heap.size) (h2 : ∀ b, K b → ∃ cs, w.heap[b]? = some (.cells cs 35 (0, 0))) (h4 : ∀ g, v.ownBlock = some g → ¬ K g)
    (hlt : ∀ g, v.ownBlock = some g → n₀ ≤ g ∧ g < w.heap.size) (hels : Els w (fun b => ¬ K b) ts xs)
    (q1 : ∀ b, Kt b → w.heap.size ≤ b ∧ b < w1.heap.size) (q2 : ∀ b, Kt b → ∃ cs, w1.heap[b]? = some (.cells cs 35 (0, 0))) (q3 : Rd w1 (fun b => ¬ Kt b) t (.agg #[k, s, sl]))
    (hn : n₀ ≤ w.heap.size) (hb : Below w.heap.size w w1) (hown : w2.ownsRow n₀ 35 3 v' (ts.length + 1) (xs ++ [k, s, sl]))
    (hsz : w1.heap.size ≤ w2.heap.size) (hk : ∀ b, b < w1.heap.size → some b ≠ v.ownBlock → w2.heap[b]? = w1.heap[b]?) (hsame : v'.ownBlock = v.ownBlock ∨ ∃ g, v'.ownBlock = some g ∧ w1.heap.size ≤ g) :
    AllM w2 n₀ v' (ts ++ [t]) := by
  have hbs := hb.size
  have kold : ∀ b, K b → w2.heap[b]? = w.heap[b]? := fun b hb' => by
    rw [hk b (Nat.lt_of_lt_of_le (h1 b hb').2 hbs) (fun e => h4 b e.symm hb'), hb.block b (h1 b hb').2]
  have knew : ∀ b, Kt b → w2.heap[b]? = w1.heap[b]? := fun b hb' => hk b (q1 b hb').2 (fun e => by have := (hlt b e.symm).2; have := (q1 b hb').1; omega)
  refine ⟨fun b => K b ∨ Kt b, ?_, ?_, ⟨xs ++ [k, s, sl], by simpa using hown, Els.snoc ts xs t k s sl ?_ ?_⟩, ?_⟩
  · rintro b (hb' | hb')
    · exact ⟨(h1 b hb').1, by have := (h1 b hb').2; omega⟩
    · exact ⟨by have := (q1 b hb').1; omega, by have := (q1 b hb').2; omega⟩
  · rintro b (hb' | hb')
    · obtain ⟨cs, hc⟩ := h2 b hb'; exact ⟨cs, (kold b hb').trans hc⟩
    · obtain ⟨cs, hc⟩ := q2 b hb'; exact ⟨cs, (knew b hb').trans hc⟩
  · exact Els.mono (fun b _ hb' hk' => hb' (.inl hk')) ts xs (Els.keep (fun b hb' _ => kold b (Classical.not_not.1 hb')) ts xs hels)
  · exact Rd.mono (fun b _ hb' hk' => hb' (.inr hk')) t _ (Rd.keep (fun b hb' _ => knew b (Classical.not_not.1 hb')) t _ q3)
  · intro g hg hor
    rcases hsame with hs | ⟨g', hs, hge⟩
    · rw [hs] at hg
      rcases hor with hor | hor
      · exact h4 g hg hor
      · have := (hlt g hg).2; have := (q1 g hor).1; omega
    · rw [hs] at hg
      cases hg
      rcases hor with hor | hor
      · have := (h1 g hor).2; omega
      · have := (q1 g hor).2; omega
def SAllPost (w : World) (X : AllR) (e : Ending) (w' : World) : Prop := ∃ v, e = .returned (.tuple #[v, .int .i64 X.stop, .int .i64 X.err]) ∧ AllM w' w.heap.size v X.ts ∧ Below w.heap.size w w'
theorem news3 {w : World} {o : Obj} {k s sl : Value} : ∀ j u, [k, s, sl][j]? = some u → ((w.alloc o).alloc (.cells #[k, s, sl] 35)).cell? ((⟨w.heap.size + 1, 0, none⟩ : Addr).add j) = some u := by
  have hh := heap_alloc_new (w.alloc o) (.cells #[k, s, sl] 35)
  rw [World.size_alloc] at hh
  exact World.news_of_block hh
end Go.Proofs.YtodonngnigbpaaaGreatDoor
namespace Go.Proofs.YtodonngnigbpaaaGreatDoor
open Go.RowKit Go.Shelf
attribute [local go_sem] Oper.semAt_some
/-- The depth, one expression more. -/
def dpS (m : Nat) (x : Nat × Tree) : Nat := if x.2.kind = 3 then max m (x.1 + 1) else m
def depthT (t : Tree) : Nat := (preT lis 0 t).foldl dpS 0
theorem dpS_list {m d : Nat} {y : Tree} (h : y.kind = 3) : dpS m (d, y) = max m (d + 1) := if_pos h
theorem dpS_no {m d : Nat} {y : Tree} (h : ¬ y.kind = 3) : dpS m (d, y) = m := if_neg h
theorem wrap_small {d : Nat} (h : d + 1 ≤ 239) : wrap64 ((d : Int) + 1) = (d : Int) + 1 := by unfold wrap64; omega
theorem max_case {m d z : Nat} (h : z = max m (d + 1)) : (z = d + 1 ∧ m < d + 1) ∨ (z = m ∧ d + 1 ≤ m) := by omega
theorem dpS_ge (l : List (Nat × Tree)) : ∀ m, m ≤ l.foldl dpS m := by
  induction l with
  | nil => intro m; exact Nat.le_refl _
  | cons x r ih =>
    intro m
    refine Nat.le_trans ?_ (ih (dpS m x))
    unfold dpS
    split <;> omega
theorem dpS_mem {l : List (Nat × Tree)} {x : Nat × Tree} (hx : x ∈ l) (hk : x.2.kind = 3) : ∀ m, x.1 + 1 ≤ l.foldl dpS m := by
  induction l with
  | nil => simp at hx
  | cons y r ih =>
    intro m
    rcases List.mem_cons.1 hx with rfl | hx
    · refine Nat.le_trans ?_ (dpS_ge r (dpS m x))
      unfold dpS
      rw [if_pos hk]; omega
    · exact ih hx _
/-- Between two rounds. -/
def DepI (w : World) (_ : Nat → Prop) (ys : List Itm) (A : World) : Prop :=
  Boxed A (w.heap.size + 1) 3 (.int .i64 ((ys.map dt).foldl dpS 0 : Nat)) ∧ Below w.heap.size w A
/-- Behind the assignment to the loop's variables. -/
def DepA (w : World) (fv : Value) (xv : Value) (x : Itm) (a : Act) (W : World) : Prop :=
  ∃ Bx ya yc, W.heap[Bx]? = some (.cells #[.int .i8 x.2.1.kind, .string (bytesL x.2.1.text), .slice ya x.2.1.kids.length yc] 35 (0, 0)) ∧ x.2.2 = .agg #[.int .i8 x.2.1.kind, .string (bytesL x.2.1.text), .slice ya x.2.1.kids.length yc] ∧
    a = { tmps := #[xv, .pointer (some ⟨w.heap.size, 0, none⟩), .int .i64 0, .pointer (some ⟨w.heap.size + 1, 0, none⟩), .int .i64 x.1, .pointer (some ⟨Bx, 0, none⟩), xv, fv, .int .i64 x.1, x.2.2,
    undef, undef, undef, undef, undef, undef, undef, undef], defers := [] }
end Go.Proofs.YtodonngnigbpaaaGreatDoor
namespace Go.Proofs.YtodonngnigbpaaaGreatDoor
open Go.RowKit
set_option linter.unusedVariables false
mutual
/-- How deep a tree is. -/
def dT : Tree → Nat
  | .node k _ l => if k = 3 then dL l + 1 else 0
def dL : List Tree → Nat
  | [] => 0
  | t :: r => max (dT t) (dL r)
end
def upD (d n : Nat) : Nat := if n = 0 then 0 else d + n
theorem upD_up (d n : Nat) : max (d + 1) (upD (d + 1) n) = upD d (n + 1) := by unfold upD; split <;> (try split) <;> omega
theorem upD_max (d m n : Nat) : max (upD d m) (upD d n) = upD d (max m n) := by unfold upD; split <;> split <;> split <;> omega
mutual
theorem preT_dep (d : Nat) : ∀ (t : Tree) (m : Nat), (preT lis d t).foldl dpS m = max m (upD d (dT t))
  | .node k s l => fun m => by
    by_cases h3 : k = 3
    · simp only [preT, lis, h3, decide_true, if_true, List.foldl_cons, dT]
      rw [preL_dep (d + 1) l, dpS_list (y := .node 3 s l) rfl, Nat.max_assoc, upD_up]
    · have : lis k = false := by simp [lis, h3]
      simp only [preT, this, Bool.false_eq_true, if_false, List.foldl_cons, List.foldl_nil, dT, h3]
      rw [dpS_no (y := .node k s l) (by simpa [Tree.kind] using h3)]
      simp [upD]
theorem preL_dep (d : Nat) : ∀ (l : List Tree) (m : Nat), (preL lis d l).foldl dpS m = max m (upD d (dL l))
  | [] => fun m => by simp [preL, dL, upD]
  | t :: r => fun m => by
    simp only [preL, dL, List.foldl_append]
    rw [preT_dep d t, preL_dep d r, Nat.max_assoc, upD_max]
end
theorem depthT_eq (t : Tree) : depthT t = dT t := by
  unfold depthT
  rw [preT_dep 0 t 0]
  unfold upD
  split <;> omega
mutual
theorem dT_hT : ∀ (t : Tree), dT t ≤ hT t + 1
  | .node k s l => by
    simp only [dT, hT]
    split
    · have := dL_hL l; omega
    · omega
theorem dL_hL : ∀ (l : List Tree), dL l ≤ hL l
  | [] => Nat.le_refl _
  | t :: r => by
    simp only [dL, hL]
    have h1 := dT_hT t
    have h2 := dL_hL r
    omega
end
theorem dL_snoc (l : List Tree) (t : Tree) : dL (l ++ [t]) = max (dL l) (dT t) := by
  induction l with
  | nil => simp [dL]
  | cons a r ih => simp only [List.cons_append, dL, ih]; omega
theorem dL_take {l : List Tree} {k : Nat} {t : Tree} (h : l[k]? = some t) : dL (l.take (k + 1)) = max (dL (l.take k)) (dT t) := by
  obtain ⟨hlt, rfl⟩ := List.getElem?_eq_some_iff.1 h
  rw [List.take_succ_eq_append_getElem hlt, dL_snoc]
theorem dL_le {l : List Tree} {n : Nat} (h : ∀ t ∈ l, dT t ≤ n) : dL l ≤ n := by
  induction l with
  | nil => exact Nat.zero_le _
  | cons a r ih =>
    simp only [dL]
    have h1 := h a (by simp)
    have h2 := ih (fun t ht => h t (by simp [ht]))
    omega
theorem allX_ht (L : List UInt8) : ∀ (f p : Nat), ∀ t ∈ (allX L f p).ts, hT t ≤ 60 := by
  intro f
  induction f with
  | zero => intro p t ht; simp [allX] at ht
  | succ f ih =>
    intro p t ht
    by_cases hlt : p < L.length
    · by_cases he : (readL L p).err = 0
      · rw [allX_step hlt he] at ht
        rcases List.mem_cons.1 ht with rfl | ht
        · exact readL_ht L p
        · exact ih _ t ht
      · rw [allX_bad hlt he] at ht; simp at ht
    · rw [allX_end hlt] at ht; simp at ht
theorem allS_ht {L : List UInt8} {t : Tree} (h : t ∈ (allS L).ts) : hT t ≤ 60 := allX_ht L _ _ t h
theorem allX_len (L : List UInt8) : ∀ (f p : Nat), p ≤ L.length → (allX L f p).ts.length + p ≤ L.length := by
  intro f
  induction f with
  | zero => intro p hp; simpa [allX] using hp
  | succ f ih =>
    intro p hp
    by_cases hlt : p < L.length
    · by_cases he : (readL L p).err = 0
      · rw [allX_step hlt he]
        obtain ⟨h1, h2⟩ := readL_on hp he
        obtain ⟨h3, h4⟩ := skipA_le (l := L) h2
        have := ih _ h4
        simp only [List.length_cons]
        omega
      · rw [allX_bad hlt he]; simpa using hp
    · rw [allX_end hlt]; simpa using hp
theorem allS_len (L : List UInt8) : (allS L).ts.length ≤ L.length := by
  have := allX_len L (L.length + 1) (skipA L 0) (skipA_le (Nat.zero_le _)).2
  show (allX L (L.length + 1) (skipA L 0)).ts.length ≤ L.length
  omega
/-- A value that reads as a tree, and what it reaches bears no frozen range. -/
def ElT (w : World) (t : Tree) (v : Value) : Prop := ∃ bad : Nat → Prop, (∀ b, ¬ bad b → b < w.heap.size) ∧ Rd w bad t v ∧ Clean w bad
theorem ElT.below {w w' : World} {t : Tree} {v : Value} (h : ElT w t v) (hb : Below w.heap.size w w') : ElT w' t v := by
  obtain ⟨bad, h1, h2, h3⟩ := h
  exact ⟨bad, fun b hb' => Nat.lt_of_lt_of_le (h1 b hb') hb.size, Rd.keep (fun b _ hlt => hb.block b hlt) t v h2, fun b hn _ => by
    obtain ⟨cs, ty, hc⟩ := h3 b hn (h1 b hn)
    exact ⟨cs, ty, (hb.block b (h1 b hn)).trans hc⟩⟩
theorem RdOut.el {B : Nat} {w : World} {t : Tree} {v : Value} (h : RdOut B w t v) : ElT w t v := h.use
theorem ElT.parts {w : World} {t : Tree} {v : Value} (h : ElT w t v) : ∃ a cap, v = .agg #[.int .i8 t.kind, .string (bytesL t.text), .slice a t.kids.length cap] := by
  obtain ⟨bad, h1, h2, h3⟩ := h
  obtain ⟨a, cap, hv, _⟩ := h2.parts
  exact ⟨a, cap, hv⟩
theorem Same_el (ta tb : Tree) (va vb : Value) (w : World) (h : hT ta ≤ 60) (ha : ElT w ta va) (hb : ElT w tb vb) :
    Calls Tryz.prog 59 #[va, vb] w fun e w' => (∃ r, e = .returned (.bool r) ∧ (r = true ↔ ta = tb)) ∧ Below w.heap.size w w' := by
  obtain ⟨bad, q1, q2, q3⟩ := ha
  obtain ⟨bad', q1', q2', q3'⟩ := hb
  exact Same_any ta tb va vb w (hT_deep h) bad q1 q2 q3 q2'.sx
theorem Same_eq (t : Tree) (va vb : Value) (w : World) (h : hT t ≤ 60) (ha : ElT w t va) (hb : ElT w t vb) :
    Calls Tryz.prog 59 #[va, vb] w fun e w' => e = .returned (.bool true) ∧ Below w.heap.size w w' := by
  refine (Same_el t t va vb w h ha hb).mono ?_
  rintro e w' ⟨⟨r, rfl, hr⟩, hb⟩
  exact ⟨by rw [hr.2 rfl], hb⟩
theorem AllM.row {w : World} {n₀ n cap : Nat} {a : Option Addr} {ts : List Tree} (h : AllM w n₀ (.slice a n cap) ts) :
    ∃ bad : Nat → Prop, (∀ b, ¬ bad b → b < w.heap.size) ∧ Clean w bad ∧ RdL w bad ts a ∧ n = ts.length ∧ n ≤ cap ∧ cap ≤ maxLen := by
  obtain ⟨K, h1, h2, h3, h4⟩ := h
  obtain ⟨a', cap', hv, q1, q2⟩ := h3.form
  simp only [Value.slice.injEq] at hv
  obtain ⟨rfl, hn, rfl⟩ := hv
  refine ⟨fun b => ¬ (K b ∨ (Value.slice a n cap).ownBlock = some b), fun b hb => ?_, fun b hb _ => ?_, h3.closed (fun b hb => .inl hb) (fun g hg => .inr hg), hn, by omega, q2⟩
  · rcases Classical.not_not.1 hb with hb | hb
    · exact (h1 b hb).2
    · exact (h3.lt hb).2
  · rcases Classical.not_not.1 hb with hb | hb
    · obtain ⟨cs, hc⟩ := h2 b hb; exact ⟨cs, _, hc⟩
    · obtain ⟨cs, hc⟩ := h3.cells hb; exact ⟨cs, _, hc⟩
theorem AllM.base {w : World} {n₀ n cap : Nat} {a : Option Addr} {ts : List Tree} (h : AllM w n₀ (.slice a n cap) ts) (h0 : 0 < ts.length) : ∃ g, a = some ⟨g, 0, none⟩ ∧ g < w.heap.size := by
  obtain ⟨K, h1, h2, h3, h4⟩ := h
  have hlt := fun g hg => h3.lt (g := g) hg
  obtain ⟨xs, ho, _⟩ := h3
  rcases ho.2 with ⟨_, hn⟩ | ⟨g, cap', cur, hv, _⟩
  · omega
  · simp only [Value.slice.injEq] at hv
    obtain ⟨rfl, _, _⟩ := hv
    exact ⟨g, rfl, (hlt g rfl).2⟩
/-- The i-th of them. -/
theorem AllM.get {w : World} {n₀ n cap : Nat} {a : Option Addr} {ts : List Tree} (h : AllM w n₀ (.slice a n cap) ts) {i : Nat} {t : Tree} (hi : ts[i]? = some t) :
    ∃ g ka kc, a = some ⟨g, 0, none⟩ ∧ g < w.heap.size ∧ w.cell? ⟨g, i * 3, none⟩ = some (.int .i8 t.kind) ∧ w.cell? ⟨g, i * 3 + 1, none⟩ = some (.string (bytesL t.text)) ∧ w.cell? ⟨g, i * 3 + 2, none⟩ = some (.slice ka t.kids.length kc) ∧
      ElT w t (.agg #[.int .i8 t.kind, .string (bytesL t.text), .slice ka t.kids.length kc]) := by
  have hlt : i < ts.length := (List.getElem?_eq_some_iff.1 hi).1
  obtain ⟨g, rfl, hg⟩ := h.base (by omega)
  obtain ⟨bad, q1, q2, q3, _⟩ := h.row
  obtain ⟨_, v0, v1, v2, c0, c1, c2, hr⟩ := q3.get ts g 0 i t hi
  obtain ⟨ka, kc, hv, _⟩ := hr.parts
  simp only [Value.agg.injEq, Array.mk.injEq, List.cons.injEq, and_true] at hv
  obtain ⟨rfl, rfl, rfl⟩ := hv
  simp only [Nat.zero_add] at c0 c1 c2
  exact ⟨g, ka, kc, rfl, hg, c0, c1, c2, bad, q1, hr, q2⟩
/-- A list of them. -/
theorem AllM.list {w : World} {n₀ n cap : Nat} {a : Option Addr} {ts : List Tree} (h : AllM w n₀ (.slice a n cap) ts) : ElT w (.node 3 [] ts) (.agg #[.int .i8 3, .string ⟨#[]⟩, .slice a n cap]) := by
  obtain ⟨bad, q1, q2, q3, rfl, q4, q5⟩ := h.row
  exact ⟨bad, q1, ⟨a, cap, rfl, q4, q5, by simp, q3⟩, q2⟩
end Go.Proofs.YtodonngnigbpaaaGreatDoor
