/- A range over a function whose iterator makes what it hands over, and reads cells of its own between the rounds; a round may return. -/
import Derived.Test.YtggighikemhnfaaDoorZRaD
import Derived.Shelf.RegionOpen
import Derived.Shelf.AbstractIn
import Derived.RangeFuncCalls
import Derived.RangeFuncNested
namespace Go.Proofs.YtggighikemhnfaaDoor
open Go.RowKit
set_option linter.unusedVariables false
variable {F : Fence} {n : Nat} {P : Program}
/-- What a round keeps: all blocks below n0 and all cells, but for those of ex. -/
def KeepsC (n0 : Nat) (ex : Nat → Prop) (A B : World) : Prop := A.heap.size ≤ B.heap.size ∧ ∀ (b : Nat) (o : Obj), ¬ ex b → A.heap[b]? = some o → (b < n0 ∨ o.isCells = true) → B.heap[b]? = some o
theorem KeepsC.trans {n0 : Nat} {ex : Nat → Prop} {A B C : World} (h : KeepsC n0 ex A B) (g : KeepsC n0 ex B C) : KeepsC n0 ex A C :=
  ⟨Nat.le_trans h.1 g.1, fun b o hb ho hc => g.2 b o hb (h.2 b o hb ho hc) hc⟩
theorem KeepsC.refl (n0 : Nat) (ex : Nat → Prop) (A : World) : KeepsC n0 ex A A := ⟨Nat.le_refl _, fun _ _ _ h _ => h⟩
theorem KeepsC.below {n0 : Nat} {ex : Nat → Prop} {A B : World} (h : Below A.heap.size A B) : KeepsC n0 ex A B := ⟨h.size, fun b o _ ho _ => (h.block b (Array.getElem?_eq_some_iff.1 ho).1).trans ho⟩
theorem keepsC_put {n0 : Nat} {ex : Nat → Prop} {A : World} {l : Nat} {o : Obj} (o' : Obj) (hl : n0 ≤ l) (hA : A.heap[l]? = some o) (ho : o.isCells = false) : KeepsC n0 ex A (A.putObj l o') :=
  ⟨by simp, fun b u hb hu hc => (World.putObj_heap_other (fun e => by
    subst e
    rcases hc with h | h
    · omega
    · rw [hu] at hA
      cases hA
      rw [ho] at h
      cases h)).trans hu⟩
def SeqZ {α : Type} (F : Fence) (n : Nat) (P : Program) (g : Nat) (lb : Array Value) (encs : α → Array Value) (Y : α → World → Prop) (S Sp : List α → Prop) (n0 : Nat) (ex : Nat → Prop) (W : World) : Prop :=
  ∀ (l : Nat) (J Jx : List α → World → Prop),
    (∀ pre A B, J pre A → Below A.heap.size A B → J pre B) →
    (∀ pre A B, Jx pre A → Below A.heap.size A B → Jx pre B) →
    (∀ pre x A, W.heap.size ≤ A.heap.size → Sp (pre ++ [x]) → Y x A → J pre A → YieldAt F (n - 1) P l (encs x) A fun e B =>
      (e = .returned (.bool true) ∧ J (pre ++ [x]) B ∧ KeepsC n0 ex A B) ∨ (e = .returned (.bool false) ∧ Jx (pre ++ [x]) B)) →
    J [] W →
    CallsIn F n P g (#[.func (.yield l) #[] #[]] ++ lb) W fun e B => (∃ v, e = .returned v) ∧ ((∃ ys, S ys ∧ J ys B) ∨ ∃ pre x, Sp (pre ++ [x]) ∧ Jx (pre ++ [x]) B)
/-- How the body of a round may be left: on it goes, or it returns. -/
def postZ {α : Type} (D : Nat) (ex : Nat → Prop) (I Ir : List α → World → Prop) (pre : List α) (x : α) (A : World) : Exit → Act → World → Prop
  | .normal, _, B => KeepsFrom D A B ∧ KeepsC D ex A B ∧ I (pre ++ [x]) B
  | .ret, _, B => KeepsFrom D A B ∧ Ir (pre ++ [x]) B
  | .exit _, _, _ => False
  | .goto _, _, _ => False
  | .panic _, _, _ => False
  | .outgrown, _, _ => False
/-- What abides the turn of a block that is no cells and lies at D or beyond. -/
def OwnZ (D : Nat) (I : World → Prop) : Prop :=
  ∀ A l o o', I A → D ≤ l → A.heap[l]? = some o → o.isCells = false → I (A.putObj l o')
theorem wpIn_rangeFunc_Z {α : Type} {g : Operand} {ps : Array Tmp} {assign body : Code} {Q : Exit → Act → World → Prop} {a : Act} {w : World}
    (hro : F.round = none) (h1 : 1 ≤ n) {gf : Nat} {lb : Array Value} (hg : a.eval g = .func (.func gf) #[] lb) (hFg : F.fn gf) (eg : ∀ args w, (callFunc gf args).run P w = .ok (.enter gf args) w)
    {encs : α → Array Value} {Y : α → World → Prop} {S Sp : List α → Prop} {ex : Nat → Prop} (hseq : ∀ W, Below w.heap.size w W → SeqZ F (n - 1) P gf lb encs Y S Sp w.heap.size ex W) (hps : ∀ x, (encs x).size = ps.size)
    (I Ir : List α → World → Prop)
    (hI : ∀ pre A B, I pre A → Below A.heap.size A B → I pre B) (hIo : ∀ pre, OwnZ w.heap.size (I pre))
    (hIr : ∀ pre A B, Ir pre A → Below A.heap.size A B → Ir pre B) (hIro : ∀ pre, OwnZ w.heap.size (Ir pre))
    (h0 : ∀ B, Below w.heap.size w B → I [] B)
    (Ax : α → Act → World → Prop) (hAx : ∀ x a', OwnZ w.heap.size (Ax x a'))
    (hassign : ∀ (l : Nat) (pre : List α) (x : α) (W : World) (K : Act → World → Prop), w.heap.size ≤ W.heap.size → Sp (pre ++ [x]) → Y x W → I pre W →
      (∀ a' W', KeepsFrom w.heap.size W W' → KeepsC w.heap.size ex W W' → I pre W' → Ax x a' W' → K a' W') →
      assign.wpIn (F.inRound l) (n - 1 - 1) P (Exit.then K (fun _ _ _ => False)) { tmps := (ps.zip (encs x)).foldl (fun t (p, v) => t.setIfInBounds p v) a.tmps, defers := [] } W)
    (hbody : ∀ (l : Nat) (pre : List α) (x : α) (a' : Act) (W : World), w.heap.size ≤ W.heap.size → Sp (pre ++ [x]) → I pre W → Ax x a' W →
      body.wpIn (F.inRound l) (n - 1 - 1) P (postZ w.heap.size ex I Ir pre x W) a' W)
    (hdone : ∀ (D : Nat) (ys : List α) (W : World), w.heap.size ≤ D → S ys → I ys W → W.heap[D]? = some (.deferred (some [])) → Q .normal { a with defers := { target := .collected D, args := #[] } :: a.defers } W)
    (hstop : ∀ (D : Nat) (pre : List α) (x : α) (W : World), w.heap.size ≤ D → Sp (pre ++ [x]) → Ir (pre ++ [x]) W → W.heap[D]? = some (.deferred (some [])) → Q .ret { a with defers := { target := .collected D, args := #[] } :: a.defers } W) :
    (Code.rangeFunc g ps assign body).wpIn F n P Q a w := by
  refine wpIn_rangeFunc ?_
  intro fn hfn
  rw [hro]
  obtain ⟨rec, hrec⟩ : ∃ rec : LoopState → Option Code → Loop, rec = fun st pe => { state := st, pending := pe, fn, tmps := a.tmps, params := ps, assign, body, defers := w.heap.size } := ⟨_, rfl⟩
  obtain ⟨W1, hW1⟩ : ∃ W1, (w.alloc (.deferred (some []))).alloc (.loop (rec .ready none)) = W1 := ⟨_, rfl⟩
  have hsz : W1.heap.size = w.heap.size + 2 := by rw [← hW1]; simp
  have hL1 : W1.heap[w.heap.size + 1]? = some (.loop (rec .ready none)) := by
    rw [← hW1]; have := World.alloc_heap_new (w.alloc (.deferred (some []))) (.loop (rec .ready none)); rwa [World.size_alloc] at this
  have hK1 : W1.heap[w.heap.size]? = some (.deferred (some [])) := by
    rw [← hW1]; exact (Below.heap_alloc _ _ _ (by simp)).trans (World.alloc_heap_new w _)
  have hb1 : Below w.heap.size w W1 := by
    rw [← hW1]; exact ((Below.refl _ w).alloc (Nat.le_refl _) _).alloc (by simp) _
  have hbl : ∀ {A B : World} {l : Nat} {o : Obj}, Below A.heap.size A B → A.heap[l]? = some o → B.heap[l]? = some o := fun h hl => (h.block _ (Array.getElem?_eq_some_iff.1 hl).1).trans hl
  refine ⟨w.heap.size + 1, [{ target := .collected w.heap.size, args := #[] }], W1, { target := .fn (.func gf) lb, args := #[.func (.yield (w.heap.size + 1)) #[] #[]] }, W1, gf,
    #[.func (.yield (w.heap.size + 1)) #[] #[]] ++ lb, W1, ?_, ?_, ?_, ?_, fun _ => h1, ?_⟩
  · rw [← hW1, hrec]; exact run_enterLoop_outer _ _ _ _ _
  · simp only [resolve, hg]
    simp [go_sem]
  · intro f' hf'; simp [Target.leads] at hf'; subst hf'; exact hFg
  · simp [invoke, go_sem, eg]
  · refine (hseq W1 hb1 (w.heap.size + 1)
      (fun pre W => I pre W ∧ W.heap[w.heap.size + 1]? = some (.loop (rec .ready none)) ∧ W.heap[w.heap.size]? = some (.deferred (some [])))
      (fun pre W => Ir pre W ∧ W.heap[w.heap.size + 1]? = some (.loop (rec .done (some .ret))) ∧ W.heap[w.heap.size]? = some (.deferred (some [])))
      (fun pre A B hs hg' => ⟨hI pre A B hs.1 hg', hbl hg' hs.2.1, hbl hg' hs.2.2⟩)
      (fun pre A B hs hg' => ⟨hIr pre A B hs.1 hg', hbl hg' hs.2.1, hbl hg' hs.2.2⟩)
      ?_ ?_).mono ?_
    · rintro pre x W hWs hx hyx ⟨hi, hl, hk⟩
      have hlt : w.heap.size + 1 < W.heap.size := (Array.getElem?_eq_some_iff.1 hl).1
      have hy := run_yield (P := P) (args := encs x) hl (by rw [hrec]; exact hps x)
      rw [hrec] at hy
      refine ⟨fn, _, assign, body, hy, roundIn_of_wpIn hfn (hassign _ pre x W _ (by omega) hx hyx hi ?_)⟩
      clear hy
      intro a' Wa hkfa hkpa hia hax
      replace hl := hkfa.same _ _ (by omega) hl rfl
      replace hk := hkfa.same _ _ (Nat.le_refl _) hk rfl
      replace hlt : w.heap.size + 1 < Wa.heap.size := (Array.getElem?_eq_some_iff.1 hl).1
      refine ⟨_, run_beginRound hl (by rw [hrec]), ?_⟩
      have hl2 : (Wa.putObj (w.heap.size + 1) (.loop { rec .ready none with state := .busy })).heap[w.heap.size + 1]? = some (.loop { rec .ready none with state := .busy }) := World.putObj_heap_same hlt
      have hk2 : (Wa.putObj (w.heap.size + 1) (.loop { rec .ready none with state := .busy })).heap[w.heap.size]? = some (.deferred (some [])) := (World.putObj_heap_other (by omega)).trans hk
      have hw2 : KeepsC w.heap.size ex Wa (Wa.putObj (w.heap.size + 1) (.loop { rec .ready none with state := .busy })) := keepsC_put _ (by omega) hl rfl
      refine wpIn_mono (hbody _ pre x a' _ (by simp; omega) hx (hIo pre _ _ _ _ hia (by omega) hl rfl) (hAx x a' _ _ _ _ hax (by omega) hl rfl)) ?_
      have fin : ∀ (jump : Option Code) (W3 : World), KeepsFrom w.heap.size (Wa.putObj (w.heap.size + 1) (.loop { rec .ready none with state := .busy })) W3 →
          (Instr.endRound (w.heap.size + 1) jump).run P W3 = .ok (.bool jump.isNone) (W3.putObj (w.heap.size + 1) (.loop (rec (if jump.isNone then .ready else .done) jump))) ∧
          W3.heap[w.heap.size + 1]? = some (.loop { rec .ready none with state := .busy }) ∧
          (W3.putObj (w.heap.size + 1) (.loop (rec (if jump.isNone then .ready else .done) jump))).heap[w.heap.size + 1]? = some (.loop (rec (if jump.isNone then .ready else .done) jump)) ∧
          (W3.putObj (w.heap.size + 1) (.loop (rec (if jump.isNone then .ready else .done) jump))).heap[w.heap.size]? = some (.deferred (some [])) := fun jump W3 hk3 => by
        have hl3 := hk3.same _ _ (by omega) hl2 rfl
        have := run_endRound (P := P) jump hl3
        rw [hrec] at this ⊢
        exact ⟨this, by rw [hrec] at hl3; exact hl3, World.putObj_heap_same (Array.getElem?_eq_some_iff.1 hl3).1, (World.putObj_heap_other (by omega)).trans (hk3.same _ _ (Nat.le_refl _) hk2 rfl)⟩
      rintro e a3 W3 hp
      cases e with
      | normal =>
        obtain ⟨hk3, hkp3, hi3⟩ := hp
        obtain ⟨hr, hl3, hl4, hk4⟩ := fin none W3 hk3
        exact ⟨_, _, hr, .inl ⟨rfl, ⟨hIo _ _ _ _ _ hi3 (by omega) hl3 rfl, hl4, hk4⟩, hkpa.trans (hw2.trans (hkp3.trans (keepsC_put _ (by omega) hl3 rfl)))⟩⟩
      | ret =>
        obtain ⟨hk3, hi3⟩ := hp
        obtain ⟨hr, hl3, hl4, hk4⟩ := fin (some .ret) W3 hk3
        exact ⟨_, _, hr, .inr ⟨rfl, hIro _ _ _ _ _ hi3 (by omega) hl3 rfl, hl4, hk4⟩⟩
      | exit id => exact hp.elim
      | goto t => exact hp.elim
      | panic ch => exact hp.elim
      | outgrown => exact hp.elim
    · exact ⟨h0 W1 hb1, hL1, hK1⟩
    · rintro e W2 ⟨⟨v, rfl⟩, (⟨ys, hS, hi, hl, hk⟩ | ⟨pre, x, hx, hi, hl, hk⟩)⟩
      · exact ⟨none, _, by have := run_endLoop (P := P) hl (by rw [hrec]; simp); rw [hrec] at this; exact this, hdone _ ys _ (Nat.le_refl _) hS (hIo _ _ _ _ _ hi (by omega) hl rfl) ((World.putObj_heap_other (by omega)).trans hk)⟩
      · exact ⟨some .ret, _, by have := run_endLoop (P := P) hl (by rw [hrec]; simp); rw [hrec] at this; exact this, wpIn_ret (hstop _ pre x _ (Nat.le_refl _) hx (hIro _ _ _ _ _ hi (by omega) hl rfl) ((World.putObj_heap_other (by omega)).trans hk))⟩
end Go.Proofs.YtggighikemhnfaaDoor
