/- What eval's Values holds between two rounds. -/
import Derived.Test.YtbddghcdibdloaaGreatDoorEvJ
namespace Go.Proofs.YtbddghcdibdloaaGreatDoor
open Go.RowKit Go.Shelf
set_option linter.unusedVariables false
theorem own_cells {w : World} {base : Nat} {e : TypeId} {size n : Nat} {v : Value} {xs : List Value} (h : w.ownsRow base e size v n xs) {g : Nat} (hg : v.ownBlock = some g) : ∃ cur, w.heap[g]? = some (.cells cur e (0, 0)) := by
  rcases h.2 with ⟨rfl, _⟩ | ⟨g', cap, cur, rfl, _, h2, _⟩
  · cases hg
  · simp only [Value.ownBlock, Option.some.injEq] at hg
    subst hg
    exact ⟨cur, h2⟩
/-- The two rows, each in a box. -/
structure VlJ (w : World) (N : Nat) (R : Nat → Prop) (ns bs : List Value) (A : World) (lv ov : Value) : Prop where
  l : A.heap[w.heap.size + 1 + 1 + 1]? = some (.cells #[lv] 49 (0, 0))
  o : A.heap[w.heap.size + 1 + 1 + 1 + 1]? = some (.cells #[ov] 53 (0, 0))
  lr : A.ownsRow N 3 1 lv ns.length ns
  orr : A.ownsRow N 4 1 ov bs.length bs
  ln : ∀ g, lv.ownBlock = some g → ¬ R g
  on : ∀ g, ov.ownBlock = some g → ¬ R g
  bel : Below w.heap.size w A
  big : N ≤ A.heap.size
theorem VlJ.turn {w : World} {N : Nat} {R R' : Nat → Prop} {ns bs : List Value} {A B : World} {lv ov : Value} (h : VlJ w N R ns bs A lv ov) (hN : w.heap.size + 5 ≤ N) (hR : ∀ b, R b → N ≤ b ∧ b < A.heap.size) (hT : Turn R R' A B) : VlJ w N R' ns bs B lv ov where
  l := (hT.block _ (by have := h.big; omega) (fun hr => by have := hR _ hr; omega)).trans h.l
  o := (hT.block _ (by have := h.big; omega) (fun hr => by have := hR _ hr; omega)).trans h.o
  lr := ownsRow_heap h.lr (fun g hg => hT.block g (h.lr.lt g hg).2 (h.ln g hg))
  orr := ownsRow_heap h.orr (fun g hg => hT.block g (h.orr.lt g hg).2 (h.on g hg))
  ln := fun g hg => (hT.own (h.lr.lt g hg).2 (h.ln g hg)).2
  on := fun g hg => (hT.own (h.orr.lt g hg).2 (h.on g hg)).2
  bel := below_turn h.bel (fun b hb => (hR b hb).1) (by omega) h.bel.size hT
  big := Nat.le_trans h.big hT.size
theorem VlJ.put {w : World} {N : Nat} {R : Nat → Prop} {ns bs : List Value} {A : World} {lv ov : Value} {l : Nat} {o o' : Obj} (h : VlJ w N R ns bs A lv ov) (hN : w.heap.size + 5 ≤ N) (hD : N ≤ l) (hl : A.heap[l]? = some o) (ho : o.isCells = false) : VlJ w N R ns bs (A.putObj l o') lv ov := by
  have ne : ∀ b cs t fr, A.heap[b]? = some (.cells cs t fr) → b ≠ l := fun b cs t fr hb e => by subst e; rw [hb] at hl; cases hl; cases ho
  exact {
    l := (World.putObj_heap_other (ne _ _ _ _ h.l)).trans h.l
    o := (World.putObj_heap_other (ne _ _ _ _ h.o)).trans h.o
    lr := ownsRow_heap h.lr (fun g hg => by obtain ⟨cur, hc⟩ := own_cells h.lr hg; exact World.putObj_heap_other (ne _ _ _ _ hc))
    orr := ownsRow_heap h.orr (fun g hg => by obtain ⟨cur, hc⟩ := own_cells h.orr hg; exact World.putObj_heap_other (ne _ _ _ _ hc))
    ln := h.ln
    on := h.on
    bel := below_put h.bel hD (by omega) hl
    big := by have := h.big; simp; omega }
theorem VlJ.alloc {w : World} {N : Nat} {R : Nat → Prop} {ns bs : List Value} {A : World} {lv ov : Value} (h : VlJ w N R ns bs A lv ov) (o : Obj) : VlJ w N R ns bs (A.alloc o) lv ov where
  l := (Below.heap_alloc _ _ _ (Array.getElem?_eq_some_iff.1 h.l).1).trans h.l
  o := (Below.heap_alloc _ _ _ (Array.getElem?_eq_some_iff.1 h.o).1).trans h.o
  lr := h.lr.alloc o
  orr := h.orr.alloc o
  ln := h.ln
  on := h.on
  bel := h.bel.alloc h.bel.size o
  big := by have := h.big; simp; omega
theorem set1 {w : World} {b : Nat} {t : TypeId} {a0 v0 : Value} (h : w.heap[b]? = some (.cells #[a0] t (0, 0))) : (w.setCell ⟨b, 0, none⟩ v0).heap[b]? = some (.cells #[v0] t (0, 0)) := by
  simp [World.setCell, Array.getElem?_modify, h]
theorem VlJ.int {w : World} {N : Nat} {keep R : Nat → Prop} {ns bs : List Value} {A : World} {lv ov x v' : Value} {w10 : World} {ob : Obj} (h : VlJ w N R ns bs A lv ov) (hN : w.heap.size + 5 ≤ N) (hR : ∀ b, R b → N ≤ b ∧ b < A.heap.size) (hk : ∀ b, keep b → b < N ∧ b ≠ w.heap.size + 1 + 1 + 1 ∧ b ≠ w.heap.size + 1 + 1 + 1 + 1)
    (hown : w10.ownsRow N 3 1 v' (ns.length + 1) (ns ++ [x])) (hg : (A.alloc ob).grownBy w10 lv.ownBlock) (hs : v'.ownBlock = lv.ownBlock ∨ v'.ownBlock = some (A.alloc ob).heap.size) :
    VlJ w N R (ns ++ [x]) bs (w10.setCell ⟨w.heap.size + 1 + 1 + 1, 0, none⟩ v') v' ov ∧ KeepsOthers A (w10.setCell ⟨w.heap.size + 1 + 1 + 1, 0, none⟩ v') ∧ KeepsR keep R A (w10.setCell ⟨w.heap.size + 1 + 1 + 1, 0, none⟩ v') ∧ (∀ b, N ≤ b → b < A.heap.size → lv.ownBlock ≠ some b → (w10.setCell ⟨w.heap.size + 1 + 1 + 1, 0, none⟩ v').heap[b]? = A.heap[b]?) := by
  have hbig := h.big
  have hsz : A.heap.size + 1 ≤ w10.heap.size := by have := hg.size; simpa using this
  have hold : ∀ b, b < A.heap.size → lv.ownBlock ≠ some b → w10.heap[b]? = A.heap[b]? := fun b hb hne => (hg.block b (by simp; omega) (fun e => hne e.symm)).trans (Below.heap_alloc _ _ _ hb)
  have hlow : ∀ b, b < N → lv.ownBlock ≠ some b := fun b hb e => by have := (h.lr.lt b e).1; omega
  have hset : ∀ b, b ≠ w.heap.size + 1 + 1 + 1 → (w10.setCell ⟨w.heap.size + 1 + 1 + 1, 0, none⟩ v').heap[b]? = w10.heap[b]? := fun b hb => Below.heap_setCell _ _ _ b hb
  have hne : ∀ g, ov.ownBlock = some g → lv.ownBlock ≠ some g := fun g h1 h2 => by
    obtain ⟨c1, e1⟩ := own_cells h.orr h1
    obtain ⟨c2, e2⟩ := own_cells h.lr h2
    rw [e1] at e2
    simp at e2
  have hco : KeepsOthers (A.alloc ob) w10 := KeepsOthers.of_grownBy hg (fun j o e hj => by
    obtain ⟨c2, e2⟩ := own_cells h.lr e
    rw [Below.heap_alloc _ _ _ (Array.getElem?_eq_some_iff.1 e2).1, e2] at hj
    cases hj
    rfl)
  refine ⟨{ l := set1 ((hold _ (by omega) (hlow _ (by omega))).trans h.l), o := (hset _ (by omega)).trans ((hold _ (by omega) (hlow _ (by omega))).trans h.o), lr := ?_, orr := ?_, ln := ?_, on := ?_, bel := ?_, big := ?_ }, (KeepsOthers.alloc A ob).trans (hco.trans (KeepsOthers.setCell _ _ _)), ⟨by simp [World.setCell]; omega, fun b hb => ?_⟩, fun b h1 h2 h3 => (hset b (by omega)).trans (hold b h2 h3)⟩
  · rw [List.length_append]; exact ownsRow_heap hown (fun g hg' => hset g (by have := (hown.lt g hg').1; omega))
  · exact ownsRow_heap h.orr (fun g hg' => (hset g (by have := (h.orr.lt g hg').1; omega)).trans (hold g (h.orr.lt g hg').2 (hne g hg')))
  · intro g hg' hr
    rcases hs with e | e
    · exact h.ln g (e.symm.trans hg') hr
    · rw [hg'] at e
      have h1 : g = A.heap.size + 1 := by simpa using e
      have := (hR g hr).2
      omega
  · exact h.on
  · exact (((h.bel.alloc h.bel.size ob).grown hg (by have := h.bel.size; simp; omega) (fun k e => by have := (h.lr.lt k e).1; omega)).setCell (p := ⟨w.heap.size + 1 + 1 + 1, 0, none⟩) (by simp; omega) _)
  · simp [World.setCell]; omega
  · rcases hb with hb | hb
    · have := hR b hb
      exact (hset b (by omega)).trans (hold b this.2 (fun e => h.ln b e hb))
    · obtain ⟨h1, h2, h3⟩ := hk b hb
      exact (hset b (by omega)).trans (hold b (by omega) (hlow b h1))
theorem VlJ.bool {w : World} {N : Nat} {keep R : Nat → Prop} {ns bs : List Value} {A : World} {lv ov x v' : Value} {w10 : World} {ob : Obj} (h : VlJ w N R ns bs A lv ov) (hN : w.heap.size + 5 ≤ N) (hR : ∀ b, R b → N ≤ b ∧ b < A.heap.size) (hk : ∀ b, keep b → b < N ∧ b ≠ w.heap.size + 1 + 1 + 1 ∧ b ≠ w.heap.size + 1 + 1 + 1 + 1)
    (hown : w10.ownsRow N 4 1 v' (bs.length + 1) (bs ++ [x])) (hg : (A.alloc ob).grownBy w10 ov.ownBlock) (hs : v'.ownBlock = ov.ownBlock ∨ v'.ownBlock = some (A.alloc ob).heap.size) :
    VlJ w N R ns (bs ++ [x]) (w10.setCell ⟨w.heap.size + 1 + 1 + 1 + 1, 0, none⟩ v') lv v' ∧ KeepsOthers A (w10.setCell ⟨w.heap.size + 1 + 1 + 1 + 1, 0, none⟩ v') ∧ KeepsR keep R A (w10.setCell ⟨w.heap.size + 1 + 1 + 1 + 1, 0, none⟩ v') ∧ (∀ b, N ≤ b → b < A.heap.size → ov.ownBlock ≠ some b → (w10.setCell ⟨w.heap.size + 1 + 1 + 1 + 1, 0, none⟩ v').heap[b]? = A.heap[b]?) := by
  have hbig := h.big
  have hsz : A.heap.size + 1 ≤ w10.heap.size := by have := hg.size; simpa using this
  have hold : ∀ b, b < A.heap.size → ov.ownBlock ≠ some b → w10.heap[b]? = A.heap[b]? := fun b hb hne => (hg.block b (by simp; omega) (fun e => hne e.symm)).trans (Below.heap_alloc _ _ _ hb)
  have hlow : ∀ b, b < N → ov.ownBlock ≠ some b := fun b hb e => by have := (h.orr.lt b e).1; omega
  have hset : ∀ b, b ≠ w.heap.size + 1 + 1 + 1 + 1 → (w10.setCell ⟨w.heap.size + 1 + 1 + 1 + 1, 0, none⟩ v').heap[b]? = w10.heap[b]? := fun b hb => Below.heap_setCell _ _ _ b hb
  have hne : ∀ g, lv.ownBlock = some g → ov.ownBlock ≠ some g := fun g h1 h2 => by
    obtain ⟨c1, e1⟩ := own_cells h.lr h1
    obtain ⟨c2, e2⟩ := own_cells h.orr h2
    rw [e1] at e2
    simp at e2
  have hco : KeepsOthers (A.alloc ob) w10 := KeepsOthers.of_grownBy hg (fun j o e hj => by
    obtain ⟨c2, e2⟩ := own_cells h.orr e
    rw [Below.heap_alloc _ _ _ (Array.getElem?_eq_some_iff.1 e2).1, e2] at hj
    cases hj
    rfl)
  refine ⟨{ l := (hset _ (by omega)).trans ((hold _ (by omega) (hlow _ (by omega))).trans h.l), o := set1 ((hold _ (by omega) (hlow _ (by omega))).trans h.o), lr := ?_, orr := ?_, ln := ?_, on := ?_, bel := ?_, big := ?_ }, (KeepsOthers.alloc A ob).trans (hco.trans (KeepsOthers.setCell _ _ _)), ⟨by simp [World.setCell]; omega, fun b hb => ?_⟩, fun b h1 h2 h3 => (hset b (by omega)).trans (hold b h2 h3)⟩
  · exact ownsRow_heap h.lr (fun g hg' => (hset g (by have := (h.lr.lt g hg').1; omega)).trans (hold g (h.lr.lt g hg').2 (hne g hg')))
  · rw [List.length_append]; exact ownsRow_heap hown (fun g hg' => hset g (by have := (hown.lt g hg').1; omega))
  · exact h.ln
  · intro g hg' hr
    rcases hs with e | e
    · exact h.on g (e.symm.trans hg') hr
    · rw [hg'] at e
      have h1 : g = A.heap.size + 1 := by simpa using e
      have := (hR g hr).2
      omega
  · exact (((h.bel.alloc h.bel.size ob).grown hg (by have := h.bel.size; simp; omega) (fun k e => by have := (h.orr.lt k e).1; omega)).setCell (p := ⟨w.heap.size + 1 + 1 + 1 + 1, 0, none⟩) (by simp; omega) _)
  · simp [World.setCell]; omega
  · rcases hb with hb | hb
    · have := hR b hb
      exact (hset b (by omega)).trans (hold b this.2 (fun e => h.on b e hb))
    · obtain ⟨h1, h2, h3⟩ := hk b hb
      exact (hset b (by omega)).trans (hold b (by omega) (hlow b h1))
end Go.Proofs.YtbddghcdibdloaaGreatDoor
