/- A range over a function whose iterator keeps blocks of its own in memory, more and more of them, and turns them: a law for the caller. No Go program is named here. -/
import Derived.RangeFuncNested
import Derived.RangeFuncBound
import Derived.RangeFuncCalls
import Derived.RangeFuncLeaves
namespace Go.Proofs.YthbgigjjmojgfaaDoor
open Go.RowKit
variable {F : Fence} {n : Nat} {P : Program}
/-- From A to B: at most the blocks R have turned; R' are these, and some new ones. -/
structure Turn (R R' : Nat → Prop) (A B : World) : Prop where
  os : B.os = A.os
  tape : B.tape = A.tape
  output : B.output = A.output
  size : A.heap.size ≤ B.heap.size
  block : ∀ b, b < A.heap.size → ¬ R b → B.heap[b]? = A.heap[b]?
  more : ∀ b, R b → R' b
  new : ∀ b, R' b → R b ∨ (A.heap.size ≤ b ∧ b < B.heap.size)
theorem Turn.refl (R : Nat → Prop) (A : World) : Turn R R A A := ⟨rfl, rfl, rfl, Nat.le_refl _, fun _ _ _ => rfl, fun _ h => h, fun _ h => .inl h⟩
theorem Turn.trans {R R' R2 : Nat → Prop} {A B C : World} (h : Turn R R' A B) (k : Turn R' R2 B C) : Turn R R2 A C :=
  ⟨k.os.trans h.os, k.tape.trans h.tape, k.output.trans h.output, Nat.le_trans h.size k.size,
    fun b hb hR => (k.block b (Nat.lt_of_lt_of_le hb h.size) (fun hR' => by rcases h.new b hR' with h' | h'; exact hR h'; omega)).trans (h.block b hb hR),
    fun b hR => k.more b (h.more b hR), fun b hR => by
      have := h.size
      have := k.size
      rcases k.new b hR with h' | h'
      · rcases h.new b h' with h'' | h''
        · exact .inl h''
        · exact .inr ⟨h''.1, by omega⟩
      · exact .inr ⟨by omega, h'.2⟩⟩
theorem Turn.below {R : Nat → Prop} {A B : World} (h : Below A.heap.size A B) : Turn R R A B := ⟨h.os, h.tape, h.output, h.size, fun b hb _ => h.block b hb, fun _ h => h, fun _ h => .inl h⟩
/-- Only blocks of R have turned. -/
theorem Turn.of {R : Nat → Prop} {A B : World} {r : Nat} (hr : R r) (h : A.grownBy B (some r)) : Turn R R A B :=
  ⟨h.os, h.tape, h.output, h.size, fun b hb hR => h.block b hb (fun e => hR (by cases e; exact hr)), fun _ h => h, fun _ h => .inl h⟩
/-- A new block that is the iterator's. -/
theorem Turn.alloc (R : Nat → Prop) (A : World) (o : Obj) : Turn R (fun b => R b ∨ b = A.heap.size) A (A.alloc o) :=
  ⟨rfl, rfl, rfl, by simp, fun b hb _ => Below.heap_alloc A o b hb, fun _ h => .inl h, fun b h => by rcases h with h | rfl; exact .inl h; exact .inr ⟨Nat.le_refl _, by simp⟩⟩
/-- All the new blocks are the iterator's. -/
theorem Turn.news {R : Nat → Prop} {A B : World} (h : Below A.heap.size A B) : Turn R (fun b => R b ∨ (A.heap.size ≤ b ∧ b < B.heap.size)) A B :=
  ⟨h.os, h.tape, h.output, h.size, fun b hb _ => h.block b hb, fun _ h => .inl h, fun _ h => h⟩
theorem Turn.own {R R' : Nat → Prop} {A B : World} (h : Turn R R' A B) {b : Nat} (hb : b < A.heap.size) (hR : ¬ R b) : B.heap[b]? = A.heap[b]? ∧ ¬ R' b :=
  ⟨h.block b hb hR, fun h' => by rcases h.new b h' with h'' | h''; exact hR h''; omega⟩
/-- What a round keeps for the iterator: its own blocks R, and the blocks that it reads. -/
def KeepsR (keep R : Nat → Prop) (A B : World) : Prop := A.heap.size ≤ B.heap.size ∧ ∀ b, (R b ∨ keep b) → B.heap[b]? = A.heap[b]?
theorem KeepsR.trans {keep R : Nat → Prop} {A B C : World} (h : KeepsR keep R A B) (g : KeepsR keep R B C) : KeepsR keep R A C :=
  ⟨Nat.le_trans h.1 g.1, fun b hb => (g.2 b hb).trans (h.2 b hb)⟩
theorem KeepsR.refl (keep R : Nat → Prop) (A : World) : KeepsR keep R A A := ⟨Nat.le_refl _, fun _ _ => rfl⟩
theorem KeepsR.below {keep R : Nat → Prop} {A B : World} (h : Below A.heap.size A B) (hb : ∀ b, R b ∨ keep b → b < A.heap.size) : KeepsR keep R A B := ⟨h.size, fun b hR => h.block b (hb b hR)⟩
/-- An iterator that lays blocks of its own, turns these alone, and hands a row to yield, one behind the other, of which S holds in the end, and Sp behind each; yield goes on only where 'go' holds. -/
def SeqR {α : Type} (F : Fence) (n : Nat) (P : Program) (g : Nat) (lb : Array Value) (encs : α → Array Value) (S Sp : List α → Prop) (keep : Nat → Prop) (go : α → Prop) (W : World) : Prop :=
  ∀ (l : Nat) (J Jx : (Nat → Prop) → List α → World → Prop),
    (∀ R R' pre A B, (∀ b, R b → W.heap.size ≤ b ∧ b < A.heap.size) → J R pre A → Turn R R' A B → J R' pre B) →
    (∀ R R' pre A B, (∀ b, R b → W.heap.size ≤ b) → Jx R pre A → Turn R R' A B → Jx R' pre B) →
    (∀ R pre x A, (∀ b, R b → W.heap.size ≤ b ∧ b < A.heap.size) → W.heap.size ≤ A.heap.size → Sp (pre ++ [x]) → J R pre A → YieldAt F (n - 1) P l (encs x) A fun e B =>
      (e = .returned (.bool true) ∧ go x ∧ J R (pre ++ [x]) B ∧ KeepsR keep R A B) ∨ (e = .returned (.bool false) ∧ Jx R (pre ++ [x]) B)) →
    J (fun _ => False) [] W →
    CallsIn F n P g (#[.func (.yield l) #[] #[]] ++ lb) W fun e B => (∃ v, e = .returned v) ∧ ∃ R, (∀ b, R b → W.heap.size ≤ b) ∧ ((∃ ys, S ys ∧ J R ys B) ∨ ∃ pre x, Sp (pre ++ [x]) ∧ Jx R (pre ++ [x]) B)
/-- How the body of a round may be left. -/
def postR {α : Type} (D : Nat) (keep R : Nat → Prop) (go : α → Prop) (I : (Nat → Prop) → List α → World → Prop) (Ix : (Nat → Prop) → Code → List α → World → Prop) (pre : List α) (x : α) (A : World) : Exit → Act → World → Prop
  | .normal, _, B => KeepsFrom D A B ∧ KeepsR keep R A B ∧ go x ∧ I R (pre ++ [x]) B
  | .ret, _, B => KeepsFrom D A B ∧ Ix R .ret (pre ++ [x]) B
  | .exit id, _, B => KeepsFrom D A B ∧ Ix R (.exit id) (pre ++ [x]) B
  | .goto t, _, B => KeepsFrom D A B ∧ Ix R (.goto t) (pre ++ [x]) B
  | .panic _, _, _ => False
  | .outgrown, _, _ => False
/-- What abides the turn of a block that is no cells and lies at D or beyond. -/
def OwnO (D : Nat) (I : World → Prop) : Prop :=
  ∀ A l o o', I A → D ≤ l → A.heap[l]? = some o → o.isCells = false → I (A.putObj l o')
theorem keepsR_put {keep R : Nat → Prop} {A : World} {l : Nat} (o : Obj) (hR : ∀ b, R b → b ≠ l) (hk : ∀ b, keep b → b ≠ l) : KeepsR keep R A (A.putObj l o) :=
  ⟨by simp, fun b hb => World.putObj_heap_other (by rcases hb with hb | hb; exact hR b hb; exact hk b hb)⟩
theorem turn_keeps {R R' : Nat → Prop} {A B : World} {l : Nat} {o : Obj} (h : Turn R R' A B) (hl : A.heap[l]? = some o) (hne : ¬ R l) : B.heap[l]? = some o :=
  (h.block l (Array.getElem?_eq_some_iff.1 hl).1 hne).trans hl
theorem wpIn_rangeFunc_R {α : Type} {g : Operand} {ps : Array Tmp} {assign body : Code} {Q : Exit → Act → World → Prop} {a : Act} {w : World}
    (hro : F.round = none) (h1 : 1 ≤ n) {gf : Nat} {lb : Array Value} (hg : a.eval g = .func (.func gf) #[] lb) (hFg : F.fn gf) (eg : ∀ args w, (callFunc gf args).run P w = .ok (.enter gf args) w)
    {encs : α → Array Value} {S Sp : List α → Prop} {keep : Nat → Prop} {go : α → Prop} (hseq : ∀ W, Below w.heap.size w W → SeqR F (n - 1) P gf lb encs S Sp keep go W) (hkeep : ∀ b, keep b → b < w.heap.size) (hps : ∀ x, (encs x).size = ps.size)
    (I : (Nat → Prop) → List α → World → Prop) (Ix : (Nat → Prop) → Code → List α → World → Prop)
    (hI : ∀ R R' pre A B, (∀ b, R b → w.heap.size ≤ b ∧ b < A.heap.size) → I R pre A → Turn R R' A B → I R' pre B) (hIo : ∀ R pre, OwnO w.heap.size (I R pre))
    (hIx : ∀ R R' c pre A B, (∀ b, R b → w.heap.size ≤ b) → Ix R c pre A → Turn R R' A B → Ix R' c pre B) (hIxo : ∀ R c pre, OwnO w.heap.size (Ix R c pre))
    (h0 : ∀ B, Below w.heap.size w B → I (fun _ => False) [] B)
    (Ax : (Nat → Prop) → α → Act → World → Prop) (hAx : ∀ R x a', OwnO w.heap.size (Ax R x a'))
    (hassign : ∀ (l : Nat) (R : Nat → Prop) (pre : List α) (x : α) (W : World) (K : Act → World → Prop), (∀ b, R b → w.heap.size ≤ b ∧ b < W.heap.size) → w.heap.size ≤ W.heap.size → Sp (pre ++ [x]) → I R pre W →
      (∀ a' W', KeepsFrom w.heap.size W W' → KeepsR keep R W W' → I R pre W' → Ax R x a' W' → K a' W') →
      assign.wpIn (F.inRound l) (n - 1 - 1) P (Exit.then K (fun _ _ _ => False)) { tmps := (ps.zip (encs x)).foldl (fun t (p, v) => t.setIfInBounds p v) a.tmps, defers := [] } W)
    (hbody : ∀ (l : Nat) (R : Nat → Prop) (pre : List α) (x : α) (a' : Act) (W : World), (∀ b, R b → w.heap.size ≤ b ∧ b < W.heap.size) → w.heap.size ≤ W.heap.size → Sp (pre ++ [x]) → I R pre W → Ax R x a' W →
      body.wpIn (F.inRound l) (n - 1 - 1) P (postR w.heap.size keep R go I Ix pre x W) a' W)
    (hdone : ∀ (D : Nat) (R : Nat → Prop) (ys : List α) (W : World), w.heap.size ≤ D → (∀ b, R b → w.heap.size ≤ b) → S ys → I R ys W → W.heap[D]? = some (.deferred (some [])) → Q .normal { a with defers := { target := .collected D, args := #[] } :: a.defers } W)
    (hstop : ∀ (D : Nat) (R : Nat → Prop) (c : Code) (pre : List α) (x : α) (W : World), w.heap.size ≤ D → (∀ b, R b → w.heap.size ≤ b) → Sp (pre ++ [x]) → Ix R c (pre ++ [x]) W → W.heap[D]? = some (.deferred (some [])) →
      c.wpIn F n P Q { a with defers := { target := .collected D, args := #[] } :: a.defers } W) :
    (Code.rangeFunc g ps assign body).wpIn F n P Q a w := by
  refine wpIn_rangeFunc ?_
  intro fn hfn
  rw [hro]
  obtain ⟨rec, hrec⟩ : ∃ rec : LoopState → Option Code → Loop, rec = fun st pe => { state := st, pending := pe, fn, tmps := a.tmps, params := ps, assign, body, defers := w.heap.size } := ⟨_, rfl⟩
  obtain ⟨W1, hW1⟩ : ∃ W1, (w.alloc (.deferred (some []))).alloc (.loop (rec .ready none)) = W1 := ⟨_, rfl⟩
  have hsz : W1.heap.size = w.heap.size + 2 := by rw [← hW1]; simp
  have hL1 : W1.heap[w.heap.size + 1]? = some (.loop (rec .ready none)) := by
    rw [← hW1]; have := World.alloc_heap_new (w.alloc (.deferred (some []))) (.loop (rec .ready none)); rwa [World.size_alloc] at this
  have hK1 : W1.heap[w.heap.size]? = some (.deferred (some [])) := by
    rw [← hW1]; exact (Below.heap_alloc _ _ _ (by simp)).trans (World.alloc_heap_new w _)
  have hb1 : Below w.heap.size w W1 := by
    rw [← hW1]; exact ((Below.refl _ w).alloc (Nat.le_refl _) _).alloc (by simp) _
  refine ⟨w.heap.size + 1, [{ target := .collected w.heap.size, args := #[] }], W1, { target := .fn (.func gf) lb, args := #[.func (.yield (w.heap.size + 1)) #[] #[]] }, W1, gf,
    #[.func (.yield (w.heap.size + 1)) #[] #[]] ++ lb, W1, ?_, ?_, ?_, ?_, fun _ => h1, ?_⟩
  · rw [← hW1, hrec]; exact run_enterLoop_outer _ _ _ _ _
  · simp only [resolve, hg]
    simp [go_sem]
  · intro f' hf'; simp [Target.leads] at hf'; subst hf'; exact hFg
  · simp [invoke, go_sem, eg]
  · refine (hseq W1 hb1 (w.heap.size + 1)
      (fun R pre W => I R pre W ∧ W.heap[w.heap.size + 1]? = some (.loop (rec .ready none)) ∧ W.heap[w.heap.size]? = some (.deferred (some [])))
      (fun R pre W => ∃ c, Ix R c pre W ∧ W.heap[w.heap.size + 1]? = some (.loop (rec .done (some c))) ∧ W.heap[w.heap.size]? = some (.deferred (some [])))
      (fun R R' pre A B hR hs hg' => ⟨hI R R' pre A B (fun b hb => ⟨by have := (hR b hb).1; omega, (hR b hb).2⟩) hs.1 hg', turn_keeps hg' hs.2.1 (fun hb => by have := (hR _ hb).1; omega), turn_keeps hg' hs.2.2 (fun hb => by have := (hR _ hb).1; omega)⟩)
      (fun R R' pre A B hR hs hg' => by
        obtain ⟨c, hc, hl, hk⟩ := hs
        exact ⟨c, hIx R R' c pre A B (fun b hb => by have := hR b hb; omega) hc hg', turn_keeps hg' hl (fun hb => by have := hR _ hb; omega), turn_keeps hg' hk (fun hb => by have := hR _ hb; omega)⟩)
      ?_ ?_).mono ?_
    · rintro R pre x W hR hWs hx ⟨hi, hl, hk⟩
      have hlt : w.heap.size + 1 < W.heap.size := (Array.getElem?_eq_some_iff.1 hl).1
      have hR' : ∀ b, R b → w.heap.size ≤ b ∧ b < W.heap.size := fun b hb => ⟨by have := (hR b hb).1; omega, (hR b hb).2⟩
      have hy := run_yield (P := P) (args := encs x) hl (by rw [hrec]; exact hps x)
      rw [hrec] at hy
      refine ⟨fn, _, assign, body, hy, roundIn_of_wpIn hfn (hassign _ R pre x W _ hR' (by omega) hx hi ?_)⟩
      clear hy
      intro a' Wa hkfa hkpa hia hax
      have hRa : ∀ b, R b → w.heap.size ≤ b ∧ b < Wa.heap.size := fun b hb => ⟨(hR' b hb).1, Nat.lt_of_lt_of_le (hR' b hb).2 hkpa.1⟩
      replace hl := hkfa.same _ _ (by omega) hl rfl
      replace hk := hkfa.same _ _ (Nat.le_refl _) hk rfl
      replace hlt : w.heap.size + 1 < Wa.heap.size := (Array.getElem?_eq_some_iff.1 hl).1
      refine ⟨_, run_beginRound hl (by rw [hrec]), ?_⟩
      have hl2 : (Wa.putObj (w.heap.size + 1) (.loop { rec .ready none with state := .busy })).heap[w.heap.size + 1]? = some (.loop { rec .ready none with state := .busy }) := World.putObj_heap_same hlt
      have hk2 : (Wa.putObj (w.heap.size + 1) (.loop { rec .ready none with state := .busy })).heap[w.heap.size]? = some (.deferred (some [])) := (World.putObj_heap_other (by omega)).trans hk
      have hkw : ∀ b, keep b → b ≠ w.heap.size + 1 := fun b hb => by have := hkeep b hb; omega
      have hRw : ∀ b, R b → b ≠ w.heap.size + 1 := fun b hb => by have := (hR b hb).1; omega
      have hw2 : KeepsR keep R Wa (Wa.putObj (w.heap.size + 1) (.loop { rec .ready none with state := .busy })) := keepsR_put _ hRw hkw
      refine wpIn_mono (hbody _ R pre x a' _ (by simpa using hRa) (by simp; omega) hx (hIo R pre _ _ _ _ hia (by omega) hl rfl) (hAx R x a' _ _ _ _ hax (by omega) hl rfl)) ?_
      have fin : ∀ (jump : Option Code) (W3 : World), KeepsFrom w.heap.size (Wa.putObj (w.heap.size + 1) (.loop { rec .ready none with state := .busy })) W3 →
          (Instr.endRound (w.heap.size + 1) jump).run P W3 = .ok (.bool jump.isNone) (W3.putObj (w.heap.size + 1) (.loop (rec (if jump.isNone then .ready else .done) jump))) ∧
          W3.heap[w.heap.size + 1]? = some (.loop { rec .ready none with state := .busy }) ∧
          (W3.putObj (w.heap.size + 1) (.loop (rec (if jump.isNone then .ready else .done) jump))).heap[w.heap.size + 1]? = some (.loop (rec (if jump.isNone then .ready else .done) jump)) ∧
          (W3.putObj (w.heap.size + 1) (.loop (rec (if jump.isNone then .ready else .done) jump))).heap[w.heap.size]? = some (.deferred (some [])) := fun jump W3 hk3 => by
        have hl3 := hk3.same _ _ (by omega) hl2 rfl
        have := run_endRound (P := P) jump hl3
        rw [hrec] at this ⊢
        exact ⟨this, by rw [hrec] at hl3; exact hl3, World.putObj_heap_same (Array.getElem?_eq_some_iff.1 hl3).1, (World.putObj_heap_other (by omega)).trans (hk3.same _ _ (Nat.le_refl _) hk2 rfl)⟩
      rintro e a3 W3 hp
      cases e with
      | normal =>
        obtain ⟨hk3, hkp3, hgo, hi3⟩ := hp
        obtain ⟨hr, hl3, hl4, hk4⟩ := fin none W3 hk3
        exact ⟨_, _, hr, .inl ⟨rfl, hgo, ⟨hIo R _ _ _ _ _ hi3 (by omega) hl3 rfl, hl4, hk4⟩, hkpa.trans (hw2.trans (hkp3.trans (keepsR_put _ hRw hkw)))⟩⟩
      | ret =>
        obtain ⟨hk3, hi3⟩ := hp
        obtain ⟨hr, hl3, hl4, hk4⟩ := fin (some .ret) W3 hk3
        exact ⟨_, _, hr, .inr ⟨rfl, .ret, hIxo R _ _ _ _ _ _ hi3 (by omega) hl3 rfl, hl4, hk4⟩⟩
      | exit id =>
        obtain ⟨hk3, hi3⟩ := hp
        obtain ⟨hr, hl3, hl4, hk4⟩ := fin (some (.exit id)) W3 hk3
        exact ⟨_, _, hr, .inr ⟨rfl, .exit id, hIxo R _ _ _ _ _ _ hi3 (by omega) hl3 rfl, hl4, hk4⟩⟩
      | goto t =>
        obtain ⟨hk3, hi3⟩ := hp
        obtain ⟨hr, hl3, hl4, hk4⟩ := fin (some (.goto t)) W3 hk3
        exact ⟨_, _, hr, .inr ⟨rfl, .goto t, hIxo R _ _ _ _ _ _ hi3 (by omega) hl3 rfl, hl4, hk4⟩⟩
      | panic ch => exact hp.elim
      | outgrown => exact hp.elim
    · exact ⟨h0 W1 hb1, hL1, hK1⟩
    · rintro e W2 ⟨⟨v, rfl⟩, R, hR, (⟨ys, hS, hi, hl, hk⟩ | ⟨pre, x, hx, c, hi, hl, hk⟩)⟩
      · exact ⟨none, _, by have := run_endLoop (P := P) hl (by rw [hrec]; simp); rw [hrec] at this; exact this, hdone _ R ys _ (Nat.le_refl _) (fun b hb => by have := hR b hb; omega) hS (hIo R _ _ _ _ _ hi (by omega) hl rfl) ((World.putObj_heap_other (by omega)).trans hk)⟩
      · exact ⟨some c, _, by have := run_endLoop (P := P) hl (by rw [hrec]; simp); rw [hrec] at this; exact this, hstop _ R c pre x _ (Nat.le_refl _) (fun b hb => by have := hR b hb; omega) hx (hIxo R _ _ _ _ _ _ hi (by omega) hl rfl) ((World.putObj_heap_other (by omega)).trans hk)⟩
end Go.Proofs.YthbgigjjmojgfaaDoor
