/- A range over a function whose iterator keeps a value of its own in memory: a law for the caller. No Go program is named here. -/
import Derived.RangeFuncNested
import Derived.RangeFuncBound
import Derived.RangeFuncCalls
import Derived.RangeFuncLeaves
namespace Go.Proofs.YtdpogjkfmncnlaaDoor
open Go.RowKit
variable {F : Fence} {n : Nat} {P : Program}
/-- What a round keeps for the iterator: its own block T, and the blocks that it reads. -/
def KeepsT (keep : Nat → Prop) (T : Nat) (A B : World) : Prop := A.heap.size ≤ B.heap.size ∧ ∀ b, (b = T ∨ keep b) → B.heap[b]? = A.heap[b]?
theorem KeepsT.trans {keep : Nat → Prop} {T : Nat} {A B C : World} (h : KeepsT keep T A B) (g : KeepsT keep T B C) : KeepsT keep T A C :=
  ⟨Nat.le_trans h.1 g.1, fun b hb => (g.2 b hb).trans (h.2 b hb)⟩
/-- An iterator that lays one block T of its own, turns that one alone, and hands xs to yield, one behind the other. -/
def SeqT {α : Type} (F : Fence) (n : Nat) (P : Program) (g : Nat) (lb : Array Value) (encs : α → Array Value) (xs : List α) (keep : Nat → Prop) (W : World) : Prop :=
  ∀ (l : Nat) (J Jx : Nat → List α → World → Prop),
    (∀ T pre A B, W.heap.size ≤ T → J T pre A → A.grownBy B (some T) → J T pre B) →
    (∀ T pre A B, W.heap.size ≤ T → Jx T pre A → A.grownBy B (some T) → Jx T pre B) →
    (∀ T pre x suf A, W.heap.size ≤ T → T < A.heap.size → xs = pre ++ x :: suf → J T pre A → YieldAt F (n - 1) P l (encs x) A fun e B =>
      (e = .returned (.bool true) ∧ J T (pre ++ [x]) B ∧ KeepsT keep T A B) ∨ (e = .returned (.bool false) ∧ Jx T (pre ++ [x]) B)) →
    (∀ T B, W.heap.size ≤ T → T < B.heap.size → Below W.heap.size W B → J T [] B) →
    CallsIn F n P g (#[.func (.yield l) #[] #[]] ++ lb) W fun e B => (∃ v, e = .returned v) ∧ ∃ T, W.heap.size ≤ T ∧ (J T xs B ∨ ∃ pre x suf, xs = pre ++ x :: suf ∧ Jx T (pre ++ [x]) B)
/-- How the body of a round may be left. -/
def postT {α : Type} (D : Nat) (keep : Nat → Prop) (T : Nat) (I : Nat → List α → World → Prop) (Ix : Nat → Code → List α → World → Prop) (ys : List α) (A : World) : Exit → Act → World → Prop
  | .normal, _, B => KeepsFrom D A B ∧ KeepsT keep T A B ∧ I T ys B
  | .ret, _, B => KeepsFrom D A B ∧ Ix T .ret ys B
  | .exit id, _, B => KeepsFrom D A B ∧ Ix T (.exit id) ys B
  | .goto t, _, B => KeepsFrom D A B ∧ Ix T (.goto t) ys B
  | .panic _, _, _ => False
  | .outgrown, _, _ => False
/-- What abides the turn of block T, and of blocks that are no cells and lie at D or beyond. -/
def OwnT {β : Type} (D T : Nat) (I : β → World → Prop) : Prop :=
  ∀ s A B r, I s A → A.grownBy B (some r) → (r = T ∨ (D ≤ r ∧ ∃ o : Obj, A.heap[r]? = some o ∧ o.isCells = false)) → I s B
theorem OwnT.put {β : Type} {D T : Nat} {I : β → World → Prop} (h : OwnT D T I) {s : β} {A : World} {l : Nat} {o : Obj} (o' : Obj) (hs : I s A) (hD : D ≤ l) (hl : A.heap[l]? = some o) (ho : o.isCells = false) : I s (A.putObj l o') :=
  h s A _ l hs (grownBy_putObj' A l o') (.inr ⟨hD, o, hl, ho⟩)
theorem grown_keeps {A B : World} {T l : Nat} {o : Obj} (h : A.grownBy B (some T)) (hl : A.heap[l]? = some o) (hne : l ≠ T) : B.heap[l]? = some o :=
  (h.block l (Array.getElem?_eq_some_iff.1 hl).1 (fun e => hne (by cases e; rfl))).trans hl
theorem keepsT_put {keep : Nat → Prop} {T : Nat} {A : World} {l : Nat} (o : Obj) (hT : T ≠ l) (hk : ∀ b, keep b → b ≠ l) : KeepsT keep T A (A.putObj l o) :=
  ⟨by simp, fun b hb => World.putObj_heap_other (by rcases hb with rfl | hb; exact hT; exact hk b hb)⟩
theorem wpIn_rangeFunc_T {α : Type} {g : Operand} {ps : Array Tmp} {assign body : Code} {Q : Exit → Act → World → Prop} {a : Act} {w : World}
    (hro : F.round = none) (h1 : 1 ≤ n) {gf : Nat} {lb : Array Value} (hg : a.eval g = .func (.func gf) #[] lb) (hFg : F.fn gf) (eg : ∀ args w, (callFunc gf args).run P w = .ok (.enter gf args) w)
    {encs : α → Array Value} {xs : List α} {keep : Nat → Prop} (hseq : ∀ W, Below w.heap.size w W → SeqT F (n - 1) P gf lb encs xs keep W) (hkeep : ∀ b, keep b → b < w.heap.size) (hps : ∀ x, (encs x).size = ps.size)
    (I : Nat → List α → World → Prop) (Ix : Nat → Code → List α → World → Prop) (hI : ∀ T, w.heap.size ≤ T → OwnT w.heap.size T (I T)) (hIx : ∀ T c, w.heap.size ≤ T → OwnT w.heap.size T (Ix T c))
    (h0 : ∀ T B, w.heap.size ≤ T → T < B.heap.size → Below w.heap.size w B → I T [] B)
    (Ax : Nat → α → Act → World → Prop) (hAx : ∀ T x a', w.heap.size ≤ T → OwnT w.heap.size T (fun (_ : Unit) W => Ax T x a' W))
    (hassign : ∀ (l T : Nat) (pre : List α) (x : α) (W : World) (K : Act → World → Prop), w.heap.size ≤ T → T < W.heap.size → I T pre W →
      (∀ a' W', KeepsFrom w.heap.size W W' → KeepsT keep T W W' → I T pre W' → Ax T x a' W' → K a' W') →
      assign.wpIn (F.inRound l) (n - 1 - 1) P (Exit.then K (fun _ _ _ => False)) { tmps := (ps.zip (encs x)).foldl (fun t (p, v) => t.setIfInBounds p v) a.tmps, defers := [] } W)
    (hbody : ∀ (l T : Nat) (pre suf : List α) (x : α) (a' : Act) (W : World), w.heap.size ≤ T → T < W.heap.size → xs = pre ++ x :: suf → I T pre W → Ax T x a' W →
      body.wpIn (F.inRound l) (n - 1 - 1) P (postT w.heap.size keep T I Ix (pre ++ [x]) W) a' W)
    (hdone : ∀ (D T : Nat) (W : World), w.heap.size ≤ D → w.heap.size ≤ T → I T xs W → W.heap[D]? = some (.deferred (some [])) → Q .normal { a with defers := { target := .collected D, args := #[] } :: a.defers } W)
    (hstop : ∀ (D T : Nat) (c : Code) (pre suf : List α) (x : α) (W : World), w.heap.size ≤ D → w.heap.size ≤ T → xs = pre ++ x :: suf → Ix T c (pre ++ [x]) W → W.heap[D]? = some (.deferred (some [])) →
      c.wpIn F n P Q { a with defers := { target := .collected D, args := #[] } :: a.defers } W) :
    (Code.rangeFunc g ps assign body).wpIn F n P Q a w := by
  refine wpIn_rangeFunc ?_
  intro fn hfn
  rw [hro]
  obtain ⟨rec, hrec⟩ : ∃ rec : LoopState → Option Code → Loop, rec = fun st pe => { state := st, pending := pe, fn, tmps := a.tmps, params := ps, assign, body, defers := w.heap.size } := ⟨_, rfl⟩
  obtain ⟨W1, hW1⟩ : ∃ W1, (w.alloc (.deferred (some []))).alloc (.loop (rec .ready none)) = W1 := ⟨_, rfl⟩
  have hsz : W1.heap.size = w.heap.size + 2 := by rw [← hW1]; simp
  have hL1 : W1.heap[w.heap.size + 1]? = some (.loop (rec .ready none)) := by
    rw [← hW1]; have := World.alloc_heap_new (w.alloc (.deferred (some []))) (.loop (rec .ready none)); rwa [World.size_alloc] at this
  have hK1 : W1.heap[w.heap.size]? = some (.deferred (some [])) := by
    rw [← hW1]; exact (Below.heap_alloc _ _ _ (by simp)).trans (World.alloc_heap_new w _)
  have hb1 : Below w.heap.size w W1 := by
    rw [← hW1]; exact ((Below.refl _ w).alloc (Nat.le_refl _) _).alloc (by simp) _
  refine ⟨w.heap.size + 1, [{ target := .collected w.heap.size, args := #[] }], W1, { target := .fn (.func gf) lb, args := #[.func (.yield (w.heap.size + 1)) #[] #[]] }, W1, gf,
    #[.func (.yield (w.heap.size + 1)) #[] #[]] ++ lb, W1, ?_, ?_, ?_, ?_, fun _ => h1, ?_⟩
  · rw [← hW1, hrec]; exact run_enterLoop_outer _ _ _ _ _
  · simp only [resolve, hg]
    simp [go_sem]
  · intro f' hf'; simp [Target.leads] at hf'; subst hf'; exact hFg
  · simp [invoke, go_sem, eg]
  · refine (hseq W1 hb1 (w.heap.size + 1)
      (fun T pre W => I T pre W ∧ W.heap[w.heap.size + 1]? = some (.loop (rec .ready none)) ∧ W.heap[w.heap.size]? = some (.deferred (some [])))
      (fun T pre W => ∃ c, Ix T c pre W ∧ W.heap[w.heap.size + 1]? = some (.loop (rec .done (some c))) ∧ W.heap[w.heap.size]? = some (.deferred (some [])))
      (fun T pre A B hT hs hg' => ⟨hI T (by omega) pre A B T hs.1 hg' (.inl rfl), grown_keeps hg' hs.2.1 (by omega), grown_keeps hg' hs.2.2 (by omega)⟩)
      (fun T pre A B hT hs hg' => by
        obtain ⟨c, hc, hl, hk⟩ := hs
        exact ⟨c, hIx T c (by omega) pre A B T hc hg' (.inl rfl), grown_keeps hg' hl (by omega), grown_keeps hg' hk (by omega)⟩)
      ?_ ?_).mono ?_
    · rintro T pre x suf W hT hTW hx ⟨hi, hl, hk⟩
      have hlt : w.heap.size + 1 < W.heap.size := (Array.getElem?_eq_some_iff.1 hl).1
      have hy := run_yield (P := P) (args := encs x) hl (by rw [hrec]; exact hps x)
      rw [hrec] at hy
      refine ⟨fn, _, assign, body, hy, roundIn_of_wpIn hfn (hassign _ T pre x W _ (by omega) hTW hi ?_)⟩
      clear hy
      intro a' Wa hkfa hkpa hia hax
      have hTa : T < Wa.heap.size := Nat.lt_of_lt_of_le hTW hkpa.1
      replace hl := hkfa.same _ _ (by omega) hl rfl
      replace hk := hkfa.same _ _ (Nat.le_refl _) hk rfl
      replace hlt : w.heap.size + 1 < Wa.heap.size := (Array.getElem?_eq_some_iff.1 hl).1
      refine ⟨_, run_beginRound hl (by rw [hrec]), ?_⟩
      have hl2 : (Wa.putObj (w.heap.size + 1) (.loop { rec .ready none with state := .busy })).heap[w.heap.size + 1]? = some (.loop { rec .ready none with state := .busy }) := World.putObj_heap_same hlt
      have hk2 : (Wa.putObj (w.heap.size + 1) (.loop { rec .ready none with state := .busy })).heap[w.heap.size]? = some (.deferred (some [])) := (World.putObj_heap_other (by omega)).trans hk
      have hkw : ∀ b, keep b → b ≠ w.heap.size + 1 := fun b hb => by have := hkeep b hb; omega
      have hw2 : KeepsT keep T Wa (Wa.putObj (w.heap.size + 1) (.loop { rec .ready none with state := .busy })) := keepsT_put _ (by omega) hkw
      refine wpIn_mono (hbody _ T pre suf x a' _ (by omega) (by simpa using hTa) hx ((hI T (by omega)).put _ hia (by omega) hl rfl) ((hAx T x a' (by omega)).put (s := ()) _ hax (by omega) hl rfl)) ?_
      have fin : ∀ (jump : Option Code) (W3 : World), KeepsFrom w.heap.size (Wa.putObj (w.heap.size + 1) (.loop { rec .ready none with state := .busy })) W3 →
          (Instr.endRound (w.heap.size + 1) jump).run P W3 = .ok (.bool jump.isNone) (W3.putObj (w.heap.size + 1) (.loop (rec (if jump.isNone then .ready else .done) jump))) ∧
          W3.heap[w.heap.size + 1]? = some (.loop { rec .ready none with state := .busy }) ∧
          (W3.putObj (w.heap.size + 1) (.loop (rec (if jump.isNone then .ready else .done) jump))).heap[w.heap.size + 1]? = some (.loop (rec (if jump.isNone then .ready else .done) jump)) ∧
          (W3.putObj (w.heap.size + 1) (.loop (rec (if jump.isNone then .ready else .done) jump))).heap[w.heap.size]? = some (.deferred (some [])) := fun jump W3 hk3 => by
        have hl3 := hk3.same _ _ (by omega) hl2 rfl
        have := run_endRound (P := P) jump hl3
        rw [hrec] at this ⊢
        exact ⟨this, by rw [hrec] at hl3; exact hl3, World.putObj_heap_same (Array.getElem?_eq_some_iff.1 hl3).1, (World.putObj_heap_other (by omega)).trans (hk3.same _ _ (Nat.le_refl _) hk2 rfl)⟩
      rintro e a3 W3 hp
      cases e with
      | normal =>
        obtain ⟨hk3, hkp3, hi3⟩ := hp
        obtain ⟨hr, hl3, hl4, hk4⟩ := fin none W3 hk3
        exact ⟨_, _, hr, .inl ⟨rfl, ⟨(hI T (by omega)).put _ hi3 (by omega) hl3 rfl, hl4, hk4⟩, hkpa.trans (hw2.trans (hkp3.trans (keepsT_put _ (by omega) hkw)))⟩⟩
      | ret =>
        obtain ⟨hk3, hi3⟩ := hp
        obtain ⟨hr, hl3, hl4, hk4⟩ := fin (some .ret) W3 hk3
        exact ⟨_, _, hr, .inr ⟨rfl, .ret, (hIx T _ (by omega)).put _ hi3 (by omega) hl3 rfl, hl4, hk4⟩⟩
      | exit id =>
        obtain ⟨hk3, hi3⟩ := hp
        obtain ⟨hr, hl3, hl4, hk4⟩ := fin (some (.exit id)) W3 hk3
        exact ⟨_, _, hr, .inr ⟨rfl, .exit id, (hIx T _ (by omega)).put _ hi3 (by omega) hl3 rfl, hl4, hk4⟩⟩
      | goto t =>
        obtain ⟨hk3, hi3⟩ := hp
        obtain ⟨hr, hl3, hl4, hk4⟩ := fin (some (.goto t)) W3 hk3
        exact ⟨_, _, hr, .inr ⟨rfl, .goto t, (hIx T _ (by omega)).put _ hi3 (by omega) hl3 rfl, hl4, hk4⟩⟩
      | panic ch => exact hp.elim
      | outgrown => exact hp.elim
    · intro T B hT hTB hB
      exact ⟨h0 T B (by omega) hTB (hb1.trans (hB.mono (by omega))), (hB.block _ (by omega)).trans hL1, (hB.block _ (by omega)).trans hK1⟩
    · rintro e W2 ⟨⟨v, rfl⟩, T, hT, (⟨hi, hl, hk⟩ | ⟨pre, x, suf, hx, c, hi, hl, hk⟩)⟩
      · exact ⟨none, _, by have := run_endLoop (P := P) hl (by rw [hrec]; simp); rw [hrec] at this; exact this, hdone _ T _ (Nat.le_refl _) (by omega) ((hI T (by omega)).put _ hi (by omega) hl rfl) ((World.putObj_heap_other (by omega)).trans hk)⟩
      · exact ⟨some c, _, by have := run_endLoop (P := P) hl (by rw [hrec]; simp); rw [hrec] at this; exact this, hstop _ T c pre suf x _ (Nat.le_refl _) (by omega) hx ((hIx T c (by omega)).put _ hi (by omega) hl rfl) ((World.putObj_heap_other (by omega)).trans hk)⟩
end Go.Proofs.YtdpogjkfmncnlaaDoor
