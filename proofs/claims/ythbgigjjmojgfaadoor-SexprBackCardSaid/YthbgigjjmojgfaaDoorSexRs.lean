/- What the reader of package sexpr holds, in memory. -/
import Derived.Test.YthbgigjjmojgfaaDoorSexRd
import Derived.OwnWalk
namespace Go.Proofs.YthbgigjjmojgfaaDoor
open Go.RowKit
/-- A row of trees, cell by cell. -/
def Els (w : World) (bad : Nat → Prop) : List Tree → List Value → Prop
  | [], xs => xs = []
  | t :: ts, xs => ∃ v0 v1 v2 r, xs = v0 :: v1 :: v2 :: r ∧ Rd w bad t (.agg #[v0, v1, v2]) ∧ Els w bad ts r
theorem Els.keep {w w' : World} {bad : Nat → Prop} (hk : ∀ b, ¬ bad b → b < w.heap.size → w'.heap[b]? = w.heap[b]?) : ∀ (ts : List Tree) (xs : List Value), Els w bad ts xs → Els w' bad ts xs
  | [], _, h => h
  | t :: ts, _, ⟨v0, v1, v2, r, e, ht, hr⟩ => ⟨v0, v1, v2, r, e, Rd.keep hk t _ ht, Els.keep hk ts r hr⟩
theorem Els.mono {w : World} {bad bad' : Nat → Prop} (hk : ∀ b, b < w.heap.size → bad' b → bad b) : ∀ (ts : List Tree) (xs : List Value), Els w bad ts xs → Els w bad' ts xs
  | [], _, h => h
  | t :: ts, _, ⟨v0, v1, v2, r, e, ht, hr⟩ => ⟨v0, v1, v2, r, e, Rd.mono hk t _ ht, Els.mono hk ts r hr⟩
theorem Els.snoc {w : World} {bad : Nat → Prop} : ∀ (ts : List Tree) (xs : List Value) (t : Tree) (v0 v1 v2 : Value), Els w bad ts xs → Rd w bad t (.agg #[v0, v1, v2]) → Els w bad (ts ++ [t]) (xs ++ [v0, v1, v2])
  | [], _, t, v0, v1, v2, h, ht => by subst h; exact ⟨v0, v1, v2, [], rfl, ht, rfl⟩
  | t' :: ts, _, t, v0, v1, v2, ⟨u0, u1, u2, r, e, ht', hr⟩, ht => by
    subst e
    exact ⟨u0, u1, u2, r ++ [v0, v1, v2], rfl, ht', Els.snoc ts r t v0 v1 v2 hr ht⟩
/-- A row that is read where it lies. -/
theorem Els.rdl {w : World} {bad bad' : Nat → Prop} {g : Nat} (hb : ∀ b, b < w.heap.size → bad' b → bad b) (hg : ¬ bad' g) (hf : ∀ j, w.frozen? ⟨g, j, none⟩ = false) : ∀ (ts : List Tree) (xs : List Value) (o : Nat),
    Els w bad ts xs → (∀ j u, xs[j]? = some u → w.cell? ⟨g, o + j, none⟩ = some u) → RdL w bad' ts (some ⟨g, o, none⟩)
  | [], _, _, _, _ => trivial
  | t :: ts, _, o, ⟨v0, v1, v2, r, e, ht, hr⟩, hc => by
    subst e
    refine ⟨g, o, v0, v1, v2, rfl, hg, hf o, by simpa using hc 0 v0 rfl, hc 1 v1 rfl, hc 2 v2 rfl, Rd.mono hb t _ ht, ?_⟩
    refine Els.rdl hb hg hf ts r (o + 3) hr (fun j u hu => ?_)
    have := hc (j + 3) u (by simpa using hu)
    rw [show o + (j + 3) = o + 3 + j by omega] at this
    exact this
/-- A row of trees that is being written: the slice v. -/
def OpenL (w : World) (n₀ : Nat) (K : Nat → Prop) (v : Value) (ts : List Tree) : Prop :=
  ∃ xs, w.ownsRow n₀ 26 3 v ts.length xs ∧ Els w (fun b => ¬ K b) ts xs
theorem OpenL.nil (w : World) (n₀ : Nat) (K : Nat → Prop) : OpenL w n₀ K (.slice none 0 0) [] := ⟨[], World.ownsRow_nil _ _ _ _, rfl⟩
theorem ownsRow_heap' {w w' : World} {base : Nat} {e : TypeId} {size : Nat} {v : Value} {n : Nat} {xs : List Value} (h : w.ownsRow base e size v n xs) (hk : ∀ g, v.ownBlock = some g → w'.heap[g]? = w.heap[g]?) : w'.ownsRow base e size v n xs := by
  refine ⟨h.1, ?_⟩
  rcases h.2 with hn | ⟨g, cap, cur, rfl, hb, hgg, rest⟩
  · exact .inl hn
  · exact .inr ⟨g, cap, cur, rfl, hb, (hk g rfl).trans hgg, rest⟩
theorem OpenL.keep {w w' : World} {n₀ : Nat} {K : Nat → Prop} {v : Value} {ts : List Tree} (h : OpenL w n₀ K v ts) (hk : ∀ b, K b ∨ v.ownBlock = some b → w'.heap[b]? = w.heap[b]?) : OpenL w' n₀ K v ts := by
  obtain ⟨xs, h1, h2⟩ := h
  exact ⟨xs, ownsRow_heap' h1 (fun g hg => hk g (.inr hg)), Els.keep (fun b hb _ => hk b (.inl (Classical.not_not.1 hb))) ts xs h2⟩
theorem OpenL.form {w : World} {n₀ : Nat} {K : Nat → Prop} {v : Value} {ts : List Tree} (h : OpenL w n₀ K v ts) : ∃ a cap, v = .slice a ts.length cap ∧ ts.length ≤ cap ∧ cap ≤ maxLen := by
  obtain ⟨xs, h1, _⟩ := h
  rcases h1.2 with ⟨rfl, h0⟩ | ⟨g, cap, cur, rfl, _, _, h3, h4, _⟩
  · exact ⟨none, 0, by rw [h0], by omega, by simp⟩
  · exact ⟨_, cap, rfl, h3, h4⟩
theorem OpenL.lt {w : World} {n₀ : Nat} {K : Nat → Prop} {v : Value} {ts : List Tree} (h : OpenL w n₀ K v ts) {g : Nat} (hg : v.ownBlock = some g) : n₀ ≤ g ∧ g < w.heap.size := by
  obtain ⟨xs, h1, _⟩ := h
  exact h1.lt g hg
theorem OpenL.cells {w : World} {n₀ : Nat} {K : Nat → Prop} {v : Value} {ts : List Tree} (h : OpenL w n₀ K v ts) {g : Nat} (hg : v.ownBlock = some g) : ∃ cs, w.heap[g]? = some (.cells cs 26 (0, 0)) := by
  obtain ⟨xs, h1, _⟩ := h
  rcases h1.2 with ⟨rfl, h0⟩ | ⟨g', cap, cur, rfl, _, h2, _⟩
  · simp [Value.ownBlock] at hg
  · simp [Value.ownBlock] at hg
    subst hg
    exact ⟨cur, h2⟩
/-- The row has ended: it is read where it lies. -/
theorem OpenL.closed {w : World} {n₀ : Nat} {K K' : Nat → Prop} {a : Option Addr} {n cap : Nat} {ts : List Tree} (h : OpenL w n₀ K (.slice a n cap) ts) (hK : ∀ b, K b → K' b) (hg : ∀ g, (Value.slice a n cap).ownBlock = some g → K' g) :
    RdL w (fun b => ¬ K' b) ts a := by
  obtain ⟨xs, h1, h2⟩ := h
  rcases h1.2 with ⟨hv, h0⟩ | ⟨g, cap', cur, hv, _, hh, _⟩
  · have : ts = [] := List.eq_nil_of_length_eq_zero h0
    rw [this]; exact trivial
  · simp only [Value.slice.injEq] at hv
    obtain ⟨rfl, _, _⟩ := hv
    have hadd : ∀ j, (⟨g, 0, none⟩ : Addr).add j = ⟨g, j, none⟩ := fun j => by unfold Addr.add; split <;> simp_all
    refine Els.rdl (fun b _ hb hk => hb (hK b hk)) (fun hn => hn (hg g rfl)) (fun j => frozen_of_row w g j cur _ hh) ts xs 0 h2 (fun j u hu => ?_)
    have := h1.cells (g := g) rfl j u hu
    rw [hadd] at this
    simpa using this
/-- The open lists, the innermost first, and their slices. -/
def StkM (w : World) (n₀ rb : Nat) (K : Nat → Prop) (cur : Array Value) : List (List Tree) → List Value → Prop
  | [], vs => vs = []
  | l :: r, vs => ∃ v vs', vs = v :: vs' ∧ cur[r.length]? = some v ∧ OpenL w n₀ K v l ∧ (∀ g, v.ownBlock = some g → g ≠ rb ∧ ¬ K g ∧ ∀ v' ∈ vs', v'.ownBlock ≠ some g) ∧ StkM w n₀ rb K cur r vs'
theorem StkM.keep {w w' : World} {n₀ rb : Nat} {K : Nat → Prop} {cur cur' : Array Value} : ∀ (st : List (List Tree)) (vs : List Value), (∀ b, K b ∨ (∃ v ∈ vs, v.ownBlock = some b) → w'.heap[b]? = w.heap[b]?) → (∀ i, i < st.length → cur'[i]? = cur[i]?) →
    StkM w n₀ rb K cur st vs → StkM w' n₀ rb K cur' st vs
  | [], _, _, _, h => h
  | l :: r, _, hk, hc, ⟨v, vs', e, h1, h2, h3, h4⟩ => by
    subst e
    exact ⟨v, vs', rfl, (hc _ (by simp)).trans h1, h2.keep (fun b hb => hk b (by rcases hb with hb | hb; exact .inl hb; exact .inr ⟨v, by simp, hb⟩)), h3,
      StkM.keep r vs' (fun b hb => hk b (by rcases hb with hb | ⟨v', hv', hb⟩; exact .inl hb; exact .inr ⟨v', by simp [hv'], hb⟩)) (fun i hi => hc i (by simp; omega)) h4⟩
theorem StkM.lt {w : World} {n₀ rb : Nat} {K : Nat → Prop} {cur : Array Value} : ∀ (st : List (List Tree)) (vs : List Value), StkM w n₀ rb K cur st vs → ∀ v ∈ vs, ∀ g, v.ownBlock = some g → n₀ ≤ g ∧ g < w.heap.size ∧ g ≠ rb ∧ ¬ K g
  | [], _, h => by rw [h]; simp
  | l :: r, _, ⟨v, vs', e, h1, h2, h3, h4⟩ => by
    subst e
    intro v' hv' g hg
    rcases List.mem_cons.1 hv' with rfl | hv'
    · exact ⟨(h2.lt hg).1, (h2.lt hg).2, (h3 g hg).1, (h3 g hg).2.1⟩
    · exact StkM.lt r vs' h4 v' hv' g hg
/-- What has been read of an expression. -/
inductive RS where
  | run (st : List (List Tree))
  | fin (t : Tree)
  | deep (n : Nat)
/-- The blocks K of what has been read. -/
structure KOk (w : World) (n₀ rb : Nat) (K : Nat → Prop) : Prop where
  low : ∀ b, K b → n₀ ≤ b ∧ b < w.heap.size
  rb : ¬ K rb
  cells : ∀ b, K b → ∃ cs, w.heap[b]? = some (.cells cs 26 (0, 0))
structure RBase (w : World) (n₀ rb : Nat) (cur : Array Value) (d : Nat) (dp : Bool) : Prop where
  heap : w.heap[rb]? = some (.cells cur 45 (0, 0))
  size : cur.size = 65
  dep : cur[60]? = some (.int .i64 d)
  deep : cur[61]? = some (.bool dp)
  n0 : n₀ ≤ rb
structure RRun (w : World) (n₀ rb : Nat) (K : Nat → Prop) (st : List (List Tree)) (cur : Array Value) (vs : List Value) : Prop extends RBase w n₀ rb cur st.length false where
  few : st.length ≤ 60
  k : KOk w n₀ rb K
  stk : StkM w n₀ rb K cur st vs
/-- The reader in block rb holds this. -/
def RM (w : World) (n₀ rb : Nat) : RS → Prop
  | .run st => ∃ K cur vs, RRun w n₀ rb K st cur vs
  | .fin t => ∃ K cur v0 v1 v2, RBase w n₀ rb cur 0 false ∧ KOk w n₀ rb K ∧ cur[62]? = some v0 ∧ cur[63]? = some v1 ∧ cur[64]? = some v2 ∧ Rd w (fun b => ¬ K b) t (.agg #[v0, v1, v2])
  | .deep n => ∃ cur, RBase w n₀ rb cur n true
/-- The same, an expression ended beside. -/
def RX (w : World) (n₀ rb : Nat) (st : List (List Tree)) (t : Tree) (v : Value) : Prop := ∃ K cur vs, RRun w n₀ rb K st cur vs ∧ Rd w (fun b => ¬ K b) t v
theorem RBase.rblt {w : World} {n₀ rb : Nat} {cur : Array Value} {d : Nat} {dp : Bool} (h : RBase w n₀ rb cur d dp) : rb < w.heap.size := (Array.getElem?_eq_some_iff.1 h.heap).1
theorem RBase.keep {w w' : World} {n₀ rb : Nat} {cur : Array Value} {d : Nat} {dp : Bool} (h : RBase w n₀ rb cur d dp) (hk : w'.heap[rb]? = w.heap[rb]?) : RBase w' n₀ rb cur d dp := ⟨hk.trans h.heap, h.size, h.dep, h.deep, h.n0⟩
theorem KOk.keep {w w' : World} {n₀ rb : Nat} {K : Nat → Prop} (h : KOk w n₀ rb K) (hs : w.heap.size ≤ w'.heap.size) (hk : ∀ b, K b → w'.heap[b]? = w.heap[b]?) : KOk w' n₀ rb K :=
  ⟨fun b hb => ⟨(h.low b hb).1, Nat.lt_of_lt_of_le (h.low b hb).2 hs⟩, h.rb, fun b hb => by obtain ⟨cs, hc⟩ := h.cells b hb; exact ⟨cs, (hk b hb).trans hc⟩⟩
theorem RRun.keep {w w' : World} {n₀ rb : Nat} {K : Nat → Prop} {st : List (List Tree)} {cur : Array Value} {vs : List Value} (h : RRun w n₀ rb K st cur vs) (hb : Below w.heap.size w w') : RRun w' n₀ rb K st cur vs :=
  ⟨h.toRBase.keep (hb.block _ h.rblt), h.few, h.k.keep hb.size (fun b hk => hb.block b (h.k.low b hk).2), StkM.keep st vs (fun b hk => hb.block b (by
    rcases hk with hk | ⟨v, hv, hg⟩
    · exact (h.k.low b hk).2
    · exact (StkM.lt st vs h.stk v hv b hg).2.1)) (fun _ _ => rfl) h.stk⟩
theorem RX.keep {w w' : World} {n₀ rb : Nat} {st : List (List Tree)} {t : Tree} {v : Value} (h : RX w n₀ rb st t v) (hb : Below w.heap.size w w') : RX w' n₀ rb st t v := by
  obtain ⟨K, cur, vs, h1, h2⟩ := h
  exact ⟨K, cur, vs, h1.keep hb, Rd.keep (fun b hk hlt => hb.block b hlt) t v h2⟩
theorem RM.keep {w w' : World} {n₀ rb : Nat} {s : RS} (h : RM w n₀ rb s) (hb : Below w.heap.size w w') : RM w' n₀ rb s := by
  cases s with
  | run st => obtain ⟨K, cur, vs, h1⟩ := h; exact ⟨K, cur, vs, h1.keep hb⟩
  | fin t =>
    obtain ⟨K, cur, v0, v1, v2, h1, h2, h3, h4, h5, h6⟩ := h
    exact ⟨K, cur, v0, v1, v2, h1.keep (hb.block _ h1.rblt), h2.keep hb.size (fun b hk => hb.block b (h2.low b hk).2), h3, h4, h5, Rd.keep (fun b _ hlt => hb.block b hlt) t _ h6⟩
  | deep n => obtain ⟨cur, h1⟩ := h; exact ⟨cur, h1.keep (hb.block _ h1.rblt)⟩
end Go.Proofs.YthbgigjjmojgfaaDoor
