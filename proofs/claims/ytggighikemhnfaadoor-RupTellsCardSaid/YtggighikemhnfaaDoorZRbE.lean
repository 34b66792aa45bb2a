/- rup's Row: what it tells; the marks of ranges. -/
import Derived.Test.YtggighikemhnfaaDoorZRbD
namespace Go.Proofs.YtggighikemhnfaaDoor.Tm
open Go.RowKit Go.Shelf
set_option linter.unusedVariables false
attribute [local go_sem] Oper.semAt_some
/-- Step j follows from the clauses and the steps ahead of it. -/
def FolAt (cls st : List (List Int)) (j : Nat) : Prop := ∃ c, st[j]? = some c ∧ Fol (cls ++ st.take j) c
def RowP (cls st : List (List Int)) (n : Int) : Prop := (n = -1 ∧ ∀ j, j < st.length → FolAt cls st j) ∨ ∃ j : Nat, n = (j : Int) ∧ j < st.length ∧ ¬ FolAt cls st j ∧ ∀ i, i < j → FolAt cls st i
theorem RowP.same {cls st : List (List Int)} {n m : Int} (h : RowP cls st n) (k : RowP cls st m) : n = m := by
  rcases h with ⟨rfl, h1⟩ | ⟨j, rfl, h1, h2, h3⟩ <;> rcases k with ⟨rfl, k1⟩ | ⟨i, rfl, k1, k2, k3⟩
  · rfl
  · exact absurd (h1 i k1) k2
  · exact absurd (k1 j h1) h2
  · rcases Nat.lt_trichotomy i j with e | e | e
    · exact absurd (h3 i e) k2
    · rw [e]
    · exact absurd (k3 j e) h2
theorem Each_any (a : Option Addr) (n c : Nat) (a' : Option Addr) (n' c' : Nat) (V : World) : Calls Tryd.prog 51 #[.slice a n c, .slice a' n' c'] V fun e w' => e = .returned (.func (.func 68) #[] #[.pointer (some ⟨V.heap.size, 0, none⟩), .pointer (some ⟨V.heap.size + 1, 0, none⟩)]) ∧ (V.alloc (.cells #[.slice a n c] 22)).alloc (.cells #[.slice a' n' c'] 22) = w' := by
  go_enter Tryd.func51, Tryd.ntmps51
  go_wp2
  go_ret
  exact ⟨by simp, rfl⟩
theorem setOne {w : World} {b : Nat} {t : TypeId} {z v : Value} (h : w.heap[b]? = some (.cells #[z] t (0, 0))) : (w.setCell ⟨b, 0, none⟩ v).heap[b]? = some (.cells #[v] t (0, 0)) := by
  simp [World.setCell, Array.getElem?_modify, h]
def Marks (B : Nat) (ds : List Deferred) (w : World) : Prop := ∃ Ds : List Nat, ds = Ds.map (fun D => { target := .collected D, args := #[] }) ∧ Ds.Nodup ∧ ∀ D ∈ Ds, B ≤ D ∧ w.heap[D]? = some (.deferred (some []))
/-- A function leaves with its marks: nothing of what lies below them is touched. -/
theorem marks_leave {F : Fence} {n : Nat} {P : Program} {fn : Func} {tmps : Array Value} {R : Ending → World → Prop} {u : FrameMode} (hu : u ≠ .run) {B : Nat} : ∀ (Ds : List Nat) (w : World), Ds.Nodup → (∀ D ∈ Ds, B ≤ D ∧ w.heap[D]? = some (.deferred (some []))) →
    (∀ w', w'.os = w.os → w'.tape = w.tape → w'.output = w.output → w'.heap.size = w.heap.size → (∀ k, k ∉ Ds → w'.heap[k]? = w.heap[k]?) → LeavesIn F n P fn tmps R [] u w') → LeavesInM F n P fn tmps R (Ds.map (fun D => { target := .collected D, args := #[] })) u w
  | [], w, _, _, h => h w rfl rfl rfl rfl (fun _ _ => rfl)
  | D :: r, w, hn, hD, h => by
    obtain ⟨hn1, hn2⟩ := List.nodup_cons.1 hn
    have h0 := hD D (by simp)
    refine ⟨hu, .inl ⟨D, _, rfl, run_takeDeferred h0.2, ?_⟩⟩
    refine marks_leave hu r _ hn2 (fun E hE => ⟨(hD E (by simp [hE])).1, (World.putObj_heap_other (by rintro rfl; exact hn1 hE)).trans (hD E (by simp [hE])).2⟩) (fun w' h1 h2 h3 h4 h5 => ?_)
    refine h w' h1 h2 h3 (by rw [h4]; simp [World.putObj]) (fun k hk => ?_)
    rw [h5 k (fun hm => hk (by simp [hm]))]
    exact World.putObj_heap_other (by rintro rfl; exact hk (by simp))
theorem Marks.leave {F : Fence} {n : Nat} {P : Program} {fn : Func} {tmps : Array Value} {R : Ending → World → Prop} {u : FrameMode} (hu : u ≠ .run) {B : Nat} {ds : List Deferred} {w : World} (h : Marks B ds w)
    (hR : ∀ w', Below B w w' → (∀ (k : Nat) (cs : Array Value) (ty : TypeId) (fz : Nat × Nat), w.heap[k]? = some (Obj.cells cs ty fz) → w'.heap[k]? = some (Obj.cells cs ty fz)) → LeavesIn F n P fn tmps R [] u w') : LeavesInM F n P fn tmps R ds u w := by
  obtain ⟨Ds, rfl, h2, h3⟩ := h
  refine marks_leave hu Ds w h2 h3 (fun w' e1 e2 e3 e4 e5 => hR w' ⟨e1, e2, e3, by omega, fun k hk => e5 k (fun hm => by have := (h3 k hm).1; omega)⟩ (fun k cs ty fz hk => ?_))
  rw [e5 k (fun hm => by have := (h3 k hm).2; rw [hk] at this; cases this)]
  exact hk
/-- What lies in rows abides the turn of a block that is no cells. -/
theorem At.put {A : World} {L : List Value} {a : Option Addr} {l : Nat} {o o' : Obj} (h : At A A.heap.size L a) (hl : A.heap[l]? = some o) (ho : o.isCells = false) : At (A.putObj l o') (A.putObj l o').heap.size L a := by
  intro h0
  obtain ⟨g, q, e, hg, hc⟩ := h h0
  refine ⟨g, q, e, by simpa using hg, fun i v hv => ?_⟩
  have hci := hc i v hv
  have hne : g ≠ l := fun e2 => by
    subst e2
    obtain ⟨u, hu, hcu⟩ := cells_of_cell hci
    rw [hl] at hu
    cases hu
    rw [ho] at hcu
    cases hcu
  exact (World.cell?_of_block (a := ⟨g, q + i, none⟩) (World.putObj_heap_other hne)).trans hci
theorem YcX.put {rs ss : List RowD} {x : XD} {A : World} {l : Nat} {o o' : Obj} (h : YcX rs ss x A) (hl : A.heap[l]? = some o) (ho : o.isCells = false) : YcX rs ss x (A.putObj l o') :=
  ⟨⟨h.1.le, h.1.cap, h.1.tat.put hl ho, fun r hr => ⟨(h.1.ok r hr).le, (h.1.ok r hr).cap, (h.1.ok r hr).tat.put hl ho, (h.1.ok r hr).ok⟩⟩, fun s hs => ⟨(h.2 s hs).le, (h.2 s hs).cap, (h.2 s hs).tat.put hl ho, (h.2 s hs).ok⟩⟩
/-- What the rounds have made: two boxes, and steps that follow. -/
structure RwS (cls st : List (List Int)) (w4 : World) (N : Nat) (p m : Int) (W : World) : Prop where
  os : W.os = w4.os
  tape : W.tape = w4.tape
  output : W.output = w4.output
  size : w4.heap.size ≤ W.heap.size
  block : ∀ k, k < w4.heap.size → k ≠ N → k ≠ N + 1 → W.heap[k]? = w4.heap[k]?
  b0 : W.heap[N]? = some (.cells #[.int .i64 p] 3 (0, 0))
  b1 : W.heap[N + 1]? = some (.cells #[.int .i64 m] 3 (0, 0))
section
variable {cls st : List (List Int)} {w4 W V : World} {N : Nat} {p m : Int}
theorem RwS.below (h : RwS cls st w4 N p m W) (hb : Below W.heap.size W V) : RwS cls st w4 N p m V :=
  ⟨hb.os.trans h.os, hb.tape.trans h.tape, hb.output.trans h.output, Nat.le_trans h.size hb.size, fun k h1 h2 h3 => (hb.block k (Nat.lt_of_lt_of_le h1 h.size)).trans (h.block k h1 h2 h3), (hb.block _ (Array.getElem?_eq_some_iff.1 h.b0).1).trans h.b0, (hb.block _ (Array.getElem?_eq_some_iff.1 h.b1).1).trans h.b1⟩
theorem RwS.put (h : RwS cls st w4 N p m W) {l : Nat} {o o' : Obj} (h1 : w4.heap.size ≤ l) (hN : N + 1 < w4.heap.size) : RwS cls st w4 N p m (W.putObj l o') :=
  ⟨h.os, h.tape, h.output, by simpa using h.size, fun k g1 g2 g3 => (World.putObj_heap_other (by omega)).trans (h.block k g1 g2 g3), (World.putObj_heap_other (by omega)).trans h.b0, (World.putObj_heap_other (by omega)).trans h.b1⟩
theorem RwS.set0 (h : RwS cls st w4 N p m W) (q : Int) : RwS cls st w4 N q m (W.setCell ⟨N, 0, none⟩ (.int .i64 q)) :=
  ⟨h.os, h.tape, h.output, by simpa [World.setCell] using h.size, fun k g1 g2 g3 => (Below.heap_setCell _ _ _ _ g2).trans (h.block k g1 g2 g3), setOne h.b0, (Below.heap_setCell _ _ _ _ (by show N + 1 ≠ N; omega)).trans h.b1⟩
theorem RwS.set1 (h : RwS cls st w4 N p m W) (q : Int) : RwS cls st w4 N p q (W.setCell ⟨N + 1, 0, none⟩ (.int .i64 q)) :=
  ⟨h.os, h.tape, h.output, by simpa [World.setCell] using h.size, fun k g1 g2 g3 => (Below.heap_setCell _ _ _ _ g3).trans (h.block k g1 g2 g3), (Below.heap_setCell _ _ _ _ (by show N ≠ N + 1; omega)).trans h.b0, setOne h.b1⟩
end
theorem SpX.last {ss : List RowD} {pre : List XD} {x : XD} (h : SpX ss (pre ++ [x])) : x.k = pre.length ∧ pre.length < ss.length := by
  obtain ⟨k, h1, h2⟩ := h
  have hl := congrArg List.length h2
  rw [List.length_map, List.length_append, List.length_range] at hl
  simp at hl
  have h3 : ((pre ++ [x]).map XD.k)[pre.length]? = some x.k := by simp
  rw [h2, List.getElem?_range (by omega)] at h3
  exact ⟨(Option.some.inj h3).symm, by omega⟩
theorem four_new {w W4 : World} {c0 c1 c2 c3 : Obj} (h : (((w.alloc c0).alloc c1).alloc c2).alloc c3 = W4) : Below w.heap.size w W4 ∧ W4.heap.size = w.heap.size + 4 ∧ W4.heap[w.heap.size]? = some c0 ∧ W4.heap[w.heap.size + 1]? = some c1 ∧ W4.heap[w.heap.size + 2]? = some c2 ∧ W4.heap[w.heap.size + 3]? = some c3 := by
  subst h
  have e1 := heap_alloc_new w c0
  have e2 := heap_alloc_new (w.alloc c0) c1
  have e3 := heap_alloc_new ((w.alloc c0).alloc c1) c2
  have e4 := heap_alloc_new (((w.alloc c0).alloc c1).alloc c2) c3
  simp only [World.size_alloc] at e2 e3 e4
  refine ⟨((((Below.refl _ w).alloc (Nat.le_refl _) _).alloc (by simp) _).alloc (by simp; omega) _).alloc (by simp; omega) _, by simp, ?_, ?_, ?_, e4⟩
  · exact (Below.heap_alloc _ _ _ (by simp <;> omega)).trans ((Below.heap_alloc _ _ _ (by simp <;> omega)).trans ((Below.heap_alloc _ _ _ (by simp)).trans e1))
  · exact (Below.heap_alloc _ _ _ (by simp <;> omega)).trans ((Below.heap_alloc _ _ _ (by simp)).trans e2)
  · exact (Below.heap_alloc _ _ _ (by simp)).trans e3
def RwI (cls st : List (List Int)) (w4 : World) (N : Nat) (pre : List XD) (W : World) : Prop := RwS cls st w4 N 0 pre.length W ∧ ∀ i, i < pre.length → FolAt cls st i
def RwX (cls st : List (List Int)) (w4 : World) (N : Nat) (pre : List XD) (W : World) : Prop := ∃ j m : Int, RwS cls st w4 N j m W ∧ RowP cls st j
theorem flat_hund {rs : List RowD} (h : ∀ y ∈ rs, y.xs.length ≤ 100) : (rs.map (·.xs)).flatten.length ≤ 100 * rs.length := by
  induction rs with
  | nil => simp
  | cons y r ih =>
    rw [List.map_cons, List.flatten_cons, List.length_append, List.length_cons]
    have := h y (by simp)
    have := ih (fun z hz => h z (by simp [hz]))
    omega
end Go.Proofs.YtggighikemhnfaaDoor.Tm
