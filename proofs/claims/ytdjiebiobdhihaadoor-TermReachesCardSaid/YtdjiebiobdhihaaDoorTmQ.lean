/- Package term's fold. -/
import Derived.Test.YtdjiebiobdhihaaDoorTmP
import Derived.Test.YtdjiebiobdhihaaDoorTmR
import Derived.Shelf.RegionOpen
import Derived.Shelf.AbstractIn
import Derived.RangeFuncCalls
namespace Go.Proofs.YtdjiebiobdhihaaDoor
open Go.RowKit Go.Shelf
set_option linter.unusedVariables false
attribute [local go_sem] Oper.semAt_some
/-- Between two rounds of fold's loop. -/
structure FoldS (f : Int → Int → Int) (jf : Nat) (l : List NodeA) (a : Option Addr) (c id : Nat) (w : World) (k : Nat) (ds : List Deferred) (W : World) : Prop where
  bel : Below w.heap.size w W
  big : w.heap.size + 4 ≤ W.heap.size
  b0 : W.heap[w.heap.size]? = some (.cells #[.slice a l.length c] 24 (0, 0))
  b1 : W.heap[w.heap.size + 1]? = some (.cells #[.func (.func jf) #[] #[]] 57 (0, 0))
  row : W.heap[w.heap.size + 1 + 1]? = some (.cells (intRow (FV f (l.take k) ++ List.replicate (id + 1 - k) 0)) 3 (0, 0))
  b3 : W.heap[w.heap.size + 1 + 1 + 1]? = some (.cells #[.slice (some ⟨w.heap.size + 1 + 1, 0, none⟩) (id + 1) (id + 1)] 39 (0, 0))
  marks : Marks (w.heap.size + 4) ds W
theorem grown_trans {A B C : World} {S : Nat} {row : Option Nat} (h : A.grownBy B (some S)) (k : B.grownBy C row) (hr : ∀ r, row = some r → A.heap.size ≤ r) : A.grownBy C (some S) :=
  ⟨k.os.trans h.os, k.tape.trans h.tape, k.output.trans h.output, Nat.le_trans h.size k.size, fun i hi hn => (k.block i (Nat.lt_of_lt_of_le hi h.size) (fun e => by have := hr i e.symm; omega)).trans (h.block i hi hn)⟩
theorem grown_set {A B : World} {S i : Nat} {v : Value} (h : A.grownBy B (some S)) : A.grownBy (B.setCell ⟨S, i, none⟩ v) (some S) :=
  ⟨h.os, h.tape, h.output, by simpa [World.setCell] using h.size, fun k hk hn => (Below.heap_setCell _ _ _ k (fun e => hn (by rw [e]))).trans (h.block k hk hn)⟩
/-- What a range over a node's arguments keeps, and what it has made of the row. -/
def FoldI (S : Nat) (w4 : World) (xs : List (Nat) → List Int) (at_ : Nat) (pre : List (KS at_)) (W : World) : Prop :=
  w4.grownBy W (some S) ∧ W.heap[S]? = some (.cells (intRow (xs (pre.map (·.1)))) 3 (0, 0))
theorem FoldI_own (S : Nat) (w4 : World) (xs : List (Nat) → List Int) (at_ : Nat) (hS : S < w4.heap.size) : OwnFrom w4.heap.size (FoldI S w4 xs at_) := by
  rintro pre A B row ⟨h1, h2⟩ hg hr
  refine ⟨grown_trans h1 hg (fun r e => (hr r e).1), (hg.block S (Array.getElem?_eq_some_iff.1 h2).1 (fun e => by have := (hr S e.symm).1; omega)).trans h2⟩
theorem four_allocs (W : World) (S i : Nat) (v : Value) (o1 o2 o3 o4 : Obj) (hS : S < W.heap.size) (w4 : World) (h4 : ((((W.setCell ⟨S, i, none⟩ v).alloc o1).alloc o2).alloc o3).alloc o4 = w4) :
    W.grownBy w4 (some S) ∧ w4.heap.size = W.heap.size + 4 ∧ w4.heap[W.heap.size]? = some o1 ∧ w4.heap[W.heap.size + 1 + 1]? = some o3 ∧ w4.heap[W.heap.size + 1 + 1 + 1]? = some o4 ∧ w4.heap[S]? = (W.setCell ⟨S, i, none⟩ v).heap[S]? := by
  subst h4
  have hs : (W.setCell ⟨S, i, none⟩ v).heap.size = W.heap.size := by simp [World.setCell]
  have e1 := heap_alloc_new (W.setCell ⟨S, i, none⟩ v) o1
  have e3 := heap_alloc_new (((W.setCell ⟨S, i, none⟩ v).alloc o1).alloc o2) o3
  have e4 := heap_alloc_new ((((W.setCell ⟨S, i, none⟩ v).alloc o1).alloc o2).alloc o3) o4
  simp only [World.size_alloc, hs] at e1 e3 e4
  refine ⟨⟨rfl, rfl, rfl, by simp [World.setCell]; omega, fun k hk hn => ?_⟩, by simp [hs], ?_, ?_, e4, ?_⟩
  · refine (Below.heap_alloc _ _ _ (by simp [hs]; omega)).trans ((Below.heap_alloc _ _ _ (by simp [hs]; omega)).trans ((Below.heap_alloc _ _ _ (by simp [hs]; omega)).trans ((Below.heap_alloc _ _ _ (by simp [hs]; omega)).trans ?_)))
    exact Below.heap_setCell _ _ _ k (fun e => hn (by rw [e]))
  · exact (Below.heap_alloc _ _ _ (by simp [hs]; omega)).trans ((Below.heap_alloc _ _ _ (by simp [hs]; omega)).trans ((Below.heap_alloc _ _ _ (by simp [hs])).trans e1))
  · exact (Below.heap_alloc _ _ _ (by simp [hs])).trans e3
  · exact (Below.heap_alloc _ _ _ (by simp [hs]; omega)).trans ((Below.heap_alloc _ _ _ (by simp [hs]; omega)).trans ((Below.heap_alloc _ _ _ (by simp [hs]; omega)).trans (Below.heap_alloc _ _ _ (by simp [hs]; omega))))
theorem keepI_b {w4 : World} {Bn Bi : Nat} (h1 : Bn < w4.heap.size) (h2 : Bi < w4.heap.size) : ∀ (W : World) (l : Nat) (o o' : Obj), w4.heap.size ≤ l → W.heap[l]? = some o → o.isCells = false → o.isWalk = false → KeepI Bn Bi W (W.putObj l o') :=
  fun W l o o' hl _ _ _ => ⟨by simp, World.putObj_heap_other (by omega), World.putObj_heap_other (by omega)⟩
theorem row_start (f : Int → Int → Int) (l : List NodeA) (k id : Nat) (hk : k < id + 1) (hid : id < l.length) : (FV f (l.take k) ++ List.replicate (id + 1 - k) (0 : Int)).set k 1 = FV f (l.take k) ++ (1 :: List.replicate (id - k) 0) := by
  have h1 : (FV f (l.take k)).length = k := by rw [FV_len, List.length_take]; omega
  rw [List.set_append_right _ _ (by omega), h1, Nat.sub_self]
  congr 1
  obtain ⟨m, hm⟩ : ∃ m, id + 1 - k = m + 1 := ⟨id - k, by omega⟩
  rw [hm, List.replicate_succ, List.set_cons_zero, show id - k = m by omega]
theorem foldl_i64 {f : Int → Int → Int} (hf : ∀ a b, I64 (f a b)) (vs : List Int) : ∀ (ys : List Nat) (s : Int), I64 s → I64 (ys.foldl (fun s b => f s (vs.getD b 0)) s)
  | [], s, h => h
  | y :: r, s, h => foldl_i64 hf vs r _ (hf _ _)
theorem FVa_i64 {f : Int → Int → Int} (hf : ∀ a b, I64 (f a b)) : ∀ (l : List NodeA) (acc : List Int), (∀ x ∈ acc, I64 x) → ∀ x ∈ FVa f acc l, I64 x
  | [], acc, h => h
  | n :: r, acc, h => FVa_i64 hf r _ (fun x hx => by
    rcases List.mem_append.1 hx with hx | hx
    · exact h x hx
    · simp at hx
      subst hx
      exact foldl_i64 hf acc _ 1 ⟨by decide, by decide⟩)
theorem getD_i64 {xs : List Int} (h : ∀ x ∈ xs, I64 x) (i : Nat) : I64 (xs.getD i 0) := by
  rw [List.getD_eq_getElem?_getD]
  cases e : xs[i]? with
  | none => exact ⟨by decide, by decide⟩
  | some x => exact h x (List.mem_of_getElem? e)
theorem keeps_drew (W : World) : KeepsOthers W W.drew := ⟨Nat.le_refl _, fun _ _ h _ => h⟩
set_option maxRecDepth 100000 in
set_option maxHeartbeats 4000000 in
theorem fold_in (f : Int → Int → Int) (jf : Nat) (hent : ∀ args w, (callFunc jf args).run Tryd.prog w = .ok (.enter jf args) w) (hj : ∀ a b W, I64 a → I64 b → Calls Tryd.prog jf #[.int .i64 a, .int .i64 b] W fun e w' => e = .returned (.int .i64 (f a b)) ∧ W = w') (hf : ∀ a b, I64 (f a b))
    (l : List NodeA) (a : Option Addr) (c id : Nat) (w : World) (hA : TabR w l a c) (hid : id < l.length) (hl : l.length ≤ 1000) :
    CallsIn Fence.wide 8 Tryd.prog 26 #[.agg #[.slice a l.length c], .int .i64 id, .func (.func jf) #[] #[]] w fun e w' => e = .returned (.int .i64 ((FV f l).getD id 0)) ∧ Below w.heap.size w w' := by
  have hmk := make_int ((id : Int) + 1) (id + 1) (by omega) (by omega)
  have HA := Lib.hid hA
  have hle := hA.le
  clear hA
  refine callsIn_of_wp_marks Tryd.func26 rfl trivial ?_ rfl
  simp only [Tryd.ntmps26, List.size_toArray, List.length_cons, List.length_nil, Nat.reduceAdd, Nat.reduceSub, Array.replicate_succ, Array.replicate_zero, List.push_toArray, List.append_toArray, List.nil_append, List.cons_append]
  have hd : 1 ≤ 8 := by omega
  gi_wp2
  have H0 : Hid (FoldS f jf l a c id w 0 [] ((((w.alloc (.cells #[.slice a l.length c] 24)).alloc (.cells #[.func (.func jf) #[] #[]] 57)).alloc (.cells (intRow (List.replicate (id + 1) 0)) 3)).alloc (.cells #[.slice (some ⟨w.heap.size + 1 + 1, 0, none⟩) (id + 1) (id + 1)] 39))) := by
    have e0 := heap_alloc_new w (.cells #[.slice a l.length c] 24)
    have e1 := heap_alloc_new (w.alloc (.cells #[.slice a l.length c] 24)) (.cells #[.func (.func jf) #[] #[]] 57)
    have e2 := heap_alloc_new ((w.alloc (.cells #[.slice a l.length c] 24)).alloc (.cells #[.func (.func jf) #[] #[]] 57)) (.cells (intRow (List.replicate (id + 1) 0)) 3)
    have e3 := heap_alloc_new (((w.alloc (.cells #[.slice a l.length c] 24)).alloc (.cells #[.func (.func jf) #[] #[]] 57)).alloc (.cells (intRow (List.replicate (id + 1) 0)) 3)) (.cells #[.slice (some ⟨w.heap.size + 1 + 1, 0, none⟩) (id + 1) (id + 1)] 39)
    simp only [World.size_alloc] at e1 e2 e3
    refine ⟨((((Below.refl _ w).alloc (Nat.le_refl _) _).alloc (by simp) _).alloc (by simp; omega) _).alloc (by simp; omega) _, by simp, ?_, ?_, ?_, e3, Marks.nil _ _⟩
    · exact (Below.heap_alloc _ _ _ (by simp <;> omega)).trans ((Below.heap_alloc _ _ _ (by simp <;> omega)).trans ((Below.heap_alloc _ _ _ (by simp)).trans e0))
    · exact (Below.heap_alloc _ _ _ (by simp <;> omega)).trans ((Below.heap_alloc _ _ _ (by simp)).trans e1)
    · exact (Below.heap_alloc _ _ _ (by simp)).trans e2
  refine wpIn_loop (fun a' W => ∃ (k : Nat) (ds : List Deferred) (u8 u9 u11 u12 u17 u18 u25 u26 u27 u28 u29 u30 u31 u32 u33 u34 u35 u36 u37 u38 u39 u40 u41 u42 u43 u44 u45 u46 u47 : Value), k ≤ id + 1 ∧ a' = { tmps := #[Value.agg #[Value.slice a l.length c], Value.int .i64 id, Value.func (Fn.func jf) #[] #[], Value.pointer (some ⟨w.heap.size, 0, none⟩), undef, Value.pointer (some ⟨w.heap.size + 1, 0, none⟩), Value.int .i64 0, Value.pointer (some ⟨w.heap.size + 1 + 1 + 1, 0, none⟩), u8, u9, Value.int .i64 id, u11, u12, Value.int .i64 id, Value.pointer (some ⟨w.heap.size, 0, none⟩), Value.slice a l.length c, Value.int .i64 l.length, u17, u18, Value.int .i64 id, Value.int .i64 ((id : Int) + 1), Value.slice (some ⟨w.heap.size + 1 + 1, 0, none⟩) (id + 1) (id + 1), Value.slice (some ⟨w.heap.size + 1 + 1, 0, none⟩) (id + 1) (id + 1), Value.int .i64 ((id : Int) + 1), Value.int .i64 k, u25, u26, u27, u28, u29, u30, u31, u32, u33, u34, u35, u36, u37, u38, u39, u40, u41, u42, u43, u44, u45, u46, u47, undef, undef, undef, undef], defers := ds } ∧ Hid (FoldS f jf l a c id w k ds W)) (fun a' _ => id + 1 - (intOf (a'.tmps.getD 24 undef)).toNat) ?_ ?_
  · exact ⟨0, [], undef, undef, _, _, _, _, undef, undef, undef, undef, undef, undef, undef, undef, undef, undef, undef, undef, undef, undef, undef, undef, undef, undef, undef, undef, undef, undef, undef, by omega, rfl, H0⟩
  · rintro a' W ⟨k, ds, u8, u9, u11, u12, u17, u18, u25, u26, u27, u28, u29, u30, u31, u32, u33, u34, u35, u36, u37, u38, u39, u40, u41, u42, u43, u44, u45, u46, u47, hk, rfl, HF⟩
    clear H0 hmk
    have hw := HF.out.big
    have x0 := (cell_of_row _ _ 0 _ _ _ HF.out.b0).trans rfl
    have x3 : W.cell? ⟨w.heap.size + 1 + 1 + 1, 0, none⟩ = some (.slice (some ⟨w.heap.size + 1 + 1, 0, none⟩) (id + 1) (id + 1)) := (cell_of_row _ _ 0 _ _ _ HF.out.b3).trans rfl
    have z0 : w.heap.size < W.heap.size := by omega
    have z1 : w.heap.size + 1 < W.heap.size := by omega
    have z2 : w.heap.size + 1 + 1 < W.heap.size := by omega
    have z3 : w.heap.size + 1 + 1 + 1 < W.heap.size := by omega
    by_cases hlt : k < id + 1
    · obtain ⟨n, hn⟩ : ∃ n, l[k]? = some n := ⟨_, List.getElem?_eq_getElem (by omega)⟩
      have hxl : (FV f (l.take k) ++ List.replicate (id + 1 - k) 0)[k]? = some (0 : Int) := by
        rw [List.getElem?_append_right (by rw [FV_len, List.length_take]; omega), FV_len, List.length_take, List.getElem?_replicate, if_pos (by omega)]
      have xk := int_cell HF.out.row hxl
      have xf := row_frozen HF.out.row
      have HN := Lib.hid hn
      clear hn hxl
      have hno := HA.out.ok n (List.mem_of_getElem? HN.out)
      obtain ⟨W1, hW1⟩ : ∃ W1, W1 = (W.setCell ⟨w.heap.size + 1 + 1, k, none⟩ (.int .i64 1)).alloc (.cells #[.int .i64 k] 3) := ⟨_, rfl⟩
      have hs1 : W1.heap.size = W.heap.size + 1 := by rw [hW1]; simp [World.setCell]
      have hbw1 : Below w.heap.size w W1 := by rw [hW1]; exact (HF.out.bel.setCell (p := ⟨w.heap.size + 1 + 1, k, none⟩) (by show w.heap.size ≤ w.heap.size + 1 + 1; omega) _).alloc (by simp [World.setCell]; omega) _
      have HBel : Hid (Calls Tryd.prog 34 #[.agg #[.slice a l.length c], .int .i64 k] W1 fun e w' => e = .returned (.func (.func 36) #[] #[.pointer (some ⟨W.heap.size + 1 + 1 + 1, 0, none⟩), .pointer (some ⟨W.heap.size + 1 + 1, 0, none⟩)]) ∧ ((W1.alloc (.cells #[.slice a l.length c] 24)).alloc (.cells #[.int .i64 k] 3)).alloc (.cells #[.int .i8 n.op, .int .i8 n.len, .int .i64 n.a0, .int .i64 n.a1, .int .i64 n.a2, .int .i64 n.sort, .int .i64 n.fn, .int .i64 n.num] 28) = w') := by
        have := below_any l a c k n W1 (HA.out.below hbw1) HN.out hl
        rw [hs1] at this
        exact this
      clear hs1 hbw1
      gi_wp2_with (refine ⟨trivial, ?_⟩; gi_at_call 34; rw [← hW1]; refine (callsIn_wide.2 HBel.out).mono ?_; rintro e w4 ⟨rfl, hw4⟩)
      rw [hW1] at hw4
      obtain ⟨hg4, hs4, ht4, hi4, hn4, hr4⟩ := four_allocs W _ _ _ _ _ _ _ z2 w4 hw4
      rw [int_set HF.out.row k 1, row_start f l k id hlt hid] at hr4
      have HW4 := Lib.hid (And.intro hg4 (And.intro hs4 ht4))
      clear hw4 hW1 HBel xk xf
      refine wpIn_rangeFunc_ownG rfl hd (gf := 36) (lb := #[.pointer (some ⟨W.heap.size + 1 + 1 + 1, 0, none⟩), .pointer (some ⟨W.heap.size + 1 + 1, 0, none⟩)]) rfl trivial (enters_of Tryd.func36 (by kernel_rfl) rfl)
        (below_stops _ (by omega) _ _ n k (by omega) hno w4 hn4 hi4) (fun h k => h.trans k) (keepI_b (by omega) (by omega)) (Below.refl _ _) (fun _ => rfl)
        (FoldI (w.heap.size + 1 + 1) w4 (fun ys => FV f (l.take k) ++ (ys.foldl (fun s b => f s ((FV f (l.take k)).getD b 0)) 1 :: List.replicate (id - k) 0)) k) (fun _ _ _ => False) (FoldI_own _ _ _ _ (by omega)) (fun _ _ _ _ _ hs _ _ => hs) ⟨⟨rfl, rfl, rfl, Nat.le_refl _, fun _ _ _ => rfl⟩, hr4⟩
        (fun y => { tmps := #[Value.agg #[Value.slice a l.length c], Value.int .i64 id, Value.func (Fn.func jf) #[] #[], Value.pointer (some ⟨w.heap.size, 0, none⟩), undef, Value.pointer (some ⟨w.heap.size + 1, 0, none⟩), Value.int .i64 0, Value.pointer (some ⟨w.heap.size + 1 + 1 + 1, 0, none⟩), Value.pointer (some ⟨W.heap.size, 0, none⟩), Value.int .i64 y.1, Value.int .i64 id, u11, u12, Value.int .i64 id, Value.pointer (some ⟨w.heap.size, 0, none⟩), Value.slice a l.length c, Value.int .i64 l.length, u17, u18, Value.int .i64 id, Value.int .i64 ((id : Int) + 1), Value.slice (some ⟨w.heap.size + 1 + 1, 0, none⟩) (id + 1) (id + 1), Value.slice (some ⟨w.heap.size + 1 + 1, 0, none⟩) (id + 1) (id + 1), Value.int .i64 ((id : Int) + 1), Value.int .i64 k, Value.bool true, Value.int .i64 k, Value.slice (some ⟨w.heap.size + 1 + 1, 0, none⟩) (id + 1) (id + 1), Value.int .i64 k, Value.pointer (some ⟨w.heap.size + 1 + 1, k, none⟩), Value.agg #[Value.slice a l.length c], Value.int .i64 k, Value.func (.func 36) #[] #[.pointer (some ⟨W.heap.size + 1 + 1 + 1, 0, none⟩), .pointer (some ⟨W.heap.size + 1 + 1, 0, none⟩)], Value.int .i64 y.1, u34, u35, u36, u37, u38, u39, u40, u41, u42, u43, u44, u45, u46, u47, undef, undef, undef, undef], defers := [] }) ?assign ?body ?done ?stop
      case assign =>
        intro l' y V K hK
        simp only [encK]
        gi_wp2
        exact hK
      case body =>
        rintro l' pre y V ⟨hg, hr⟩ hlen
        have hlk : (FV f (l.take k)).length = k := by rw [FV_len, List.length_take]; omega
        obtain ⟨s, hs⟩ : ∃ s, (pre.map (·.1)).foldl (fun s b => f s ((FV f (l.take k)).getD b 0)) 1 = s := ⟨_, rfl⟩
        obtain ⟨x, hx⟩ : ∃ x, (FV f (l.take k)).getD y.1 0 = x := ⟨_, rfl⟩
        have hsi : I64 s := by rw [← hs]; exact foldl_i64 hf _ _ _ ⟨by decide, by decide⟩
        have hxi : I64 x := by rw [← hx]; exact getD_i64 (FVa_i64 hf _ _ (fun x hx => by simp at hx)) _
        have HJ : Hid (∀ V, Calls Tryd.prog jf #[.int .i64 s, .int .i64 x] V fun e w' => e = .returned (.int .i64 (f s x)) ∧ V = w') := fun V => hj s x V hsi hxi
        have HVb : ∀ b, b < W.heap.size → b ≠ w.heap.size + 1 + 1 → V.heap[b]? = W.heap[b]? := fun b hb hne => (hg.block b (by omega) (fun e => hne (Option.some.inj e))).trans (hg4.block b hb (fun e => hne (Option.some.inj e)))
        have v3 : V.cell? ⟨w.heap.size + 1 + 1 + 1, 0, none⟩ = some (.slice (some ⟨w.heap.size + 1 + 1, 0, none⟩) (id + 1) (id + 1)) := (cell_of_row _ _ 0 _ _ _ ((HVb _ z3 (by omega)).trans HF.out.b3)).trans rfl
        have v1 : V.cell? ⟨w.heap.size + 1, 0, none⟩ = some (.func (.func jf) #[] #[]) := (cell_of_row _ _ 0 _ _ _ ((HVb _ z1 (by omega)).trans HF.out.b1)).trans rfl
        have v8 : V.cell? ⟨W.heap.size, 0, none⟩ = some (.int .i64 k) := (cell_of_row _ _ 0 _ _ _ ((hg.block W.heap.size (by omega) (fun e => by have := Option.some.inj e; omega)).trans ht4)).trans rfl
        have vk : V.cell? ⟨w.heap.size + 1 + 1, k, none⟩ = some (.int .i64 s) := int_cell hr (by rw [List.getElem?_append_right (by omega), hlk, Nat.sub_self, List.getElem?_cons_zero, hs])
        have vy : V.cell? ⟨w.heap.size + 1 + 1, y.1, none⟩ = some (.int .i64 x) := int_cell hr (by
          have hy := y.2
          rw [List.getElem?_append_left (by omega), List.getElem?_eq_getElem (by omega), ← hx, List.getD_eq_getElem?_getD, List.getElem?_eq_getElem (by omega)]
          rfl)
        have vf := row_frozen hr
        have hyk := y.2
        have hvz : w.heap.size + 1 + 1 < V.heap.size := (Array.getElem?_eq_some_iff.1 hr).1
        have hmo : Tryd.prog.follows .mixedOrders = true := by kernel_rfl
        have HI := Lib.hid (And.intro hg (And.intro hr (And.intro hs hx)))
        have hkid : (k : Int) < (id : Int) + 1 := by omega
        have hyid : (y.1 : Int) < (id : Int) + 1 := by omega
        clear hg hr hs hx hsi hxi HVb
        gi_wp2
        refine wpIn_region_held (S := fun W' => W'.cell? ⟨w.heap.size + 1 + 1 + 1, 0, none⟩ = some (.slice (some ⟨w.heap.size + 1 + 1, 0, none⟩) (id + 1) (id + 1)) ∧ W'.cell? ⟨w.heap.size + 1, 0, none⟩ = some (.func (.func jf) #[] #[]) ∧ W'.cell? ⟨W.heap.size, 0, none⟩ = some (.int .i64 k) ∧ W'.cell? ⟨w.heap.size + 1 + 1, y.1, none⟩ = some (.int .i64 x)) hmo (by rintro ⟨_, _, h⟩; exact h) (by kernel_rfl) ⟨v3, v1, v8, vy⟩ (fun hHeld => ?_)
        refine wpAnyH_take (i := 0) (v := (.slice (some ⟨w.heap.size + 1 + 1, 0, none⟩) (id + 1) (id + 1))) rfl (by kernel_rfl) (by kernel_rfl) (by kernel_rfl) (fun _ _ _ h => h) (Or.inl ⟨by rfl, ?_⟩) (by assumption) ?_
        · (intro w' hSw; (try dsimp only at hSw); go_simp)
        refine wpAnyH_take (i := 1) (v := (.int .i64 k)) rfl (by kernel_rfl) (by kernel_rfl) (by kernel_rfl) (fun _ _ _ h => h) (Or.inl ⟨by rfl, ?_⟩) (by assumption) ?_
        · (intro w' hSw; (try dsimp only at hSw); go_simp)
        refine wpAnyH_take (i := 2) (v := (.func (.func jf) #[] #[])) rfl (by kernel_rfl) (by kernel_rfl) (by kernel_rfl) (fun _ _ _ h => h) (Or.inl ⟨by rfl, ?_⟩) (by assumption) ?_
        · (intro w' hSw; (try dsimp only at hSw); go_simp)
        refine wpAnyH_take (i := 3) (v := (.slice (some ⟨w.heap.size + 1 + 1, 0, none⟩) (id + 1) (id + 1))) rfl (by kernel_rfl) (by kernel_rfl) (by kernel_rfl) (fun _ _ _ h => h) (Or.inl ⟨by rfl, ?_⟩) (by assumption) ?_
        · (intro w' hSw; (try dsimp only at hSw); go_simp)
        refine wpAnyH_take (i := 4) (v := (.int .i64 k)) rfl (by kernel_rfl) (by kernel_rfl) (by kernel_rfl) (fun _ _ _ h => h) (Or.inl ⟨by rfl, ?_⟩) (by assumption) ?_
        · (intro w' hSw; (try dsimp only at hSw); go_simp)
        refine wpAnyH_take (i := 5) (v := (.pointer (some ⟨w.heap.size + 1 + 1, k, none⟩))) rfl (by kernel_rfl) (by kernel_rfl) (by kernel_rfl) (fun _ _ _ h => h) (Or.inl ⟨by rfl, ?_⟩) (by assumption) ?_
        · (intro w' hSw; (try dsimp only at hSw); go_simp)
        refine wpAnyH_take (i := 7) (v := (.slice (some ⟨w.heap.size + 1 + 1, 0, none⟩) (id + 1) (id + 1))) rfl (by kernel_rfl) (by kernel_rfl) (by kernel_rfl) (fun _ _ _ h => h) (Or.inl ⟨by rfl, ?_⟩) (by assumption) ?_
        · (intro w' hSw; (try dsimp only at hSw); go_simp)
        refine wpAnyH_take (i := 8) (v := (.int .i64 y.1)) rfl (by kernel_rfl) (by kernel_rfl) (by kernel_rfl) (fun _ _ _ h => h) (Or.inl ⟨by rfl, ?_⟩) (by assumption) ?_
        · (intro w' hSw; (try dsimp only at hSw); go_simp)
        refine wpAnyH_take (i := 9) (v := (.pointer (some ⟨w.heap.size + 1 + 1, y.1, none⟩))) rfl (by kernel_rfl) (by kernel_rfl) (by kernel_rfl) (fun _ _ _ h => h) (Or.inl ⟨by rfl, ?_⟩) (by assumption) ?_
        · (intro w' hSw; (try dsimp only at hSw); go_simp)
        refine wpAnyH_take (i := 10) (v := (.int .i64 x)) rfl (by kernel_rfl) (by kernel_rfl) (by kernel_rfl) (fun _ _ _ h => h) (Or.inl ⟨by rfl, ?_⟩) (by assumption) ?_
        · (intro w' hSw; (try dsimp only at hSw); go_simp)
        refine wpAnyH_ready (rs := [6]) (by kernel_rfl) (by simp) ?_
        refine AllReadyH.cons rfl (fun K hK => ?_) AllReadyH.nil
        go_simp
        refine hK _ _ ⟨v3, v1, v8, vy⟩ (fun hHeld => ?_)
        clear hK K
        refine wpAnyH_ready (rs := [11]) (by kernel_rfl) (by simp) ?_
        refine AllReadyH.cons rfl (fun K hK => ?_) AllReadyH.nil
        go_simp
        refine (HJ.out _).mono ?_
        rintro e w8 ⟨rfl, rfl⟩
        refine hK _ _ ⟨v3, v1, v8, vy⟩ (fun hHeld => ?_)
        clear hK K
        refine wpAnyH_take (i := 12) (v := (.pointer (some ⟨w.heap.size + 1 + 1, k, none⟩))) rfl (by kernel_rfl) (by kernel_rfl) (by kernel_rfl) (fun _ _ _ h => h) (Or.inl ⟨by rfl, ?_⟩) (by assumption) ?_
        · (intro w' hSw; (try dsimp only at hSw); go_simp)
        refine wpAnyH_ready (rs := [13]) (by kernel_rfl) (by simp) ?_
        refine AllReadyH.cons rfl (fun K hK => ?_) AllReadyH.nil
        go_simp
        refine hK _ _ ⟨(World.cell?_setCell_far _ _ _ _ (by show w.heap.size + 1 + 1 ≠ w.heap.size + 1 + 1 + 1; omega)).trans v3, (World.cell?_setCell_far _ _ _ _ (by show w.heap.size + 1 + 1 ≠ w.heap.size + 1; omega)).trans v1, (World.cell?_setCell_far _ _ _ _ (by show w.heap.size + 1 + 1 ≠ W.heap.size; omega)).trans v8, (World.cell?_setCell_other _ _ _ _ (by intro e; simp only [Addr.mk.injEq, true_and, and_true] at e; omega)).trans vy⟩ (fun hHeld => ?_)
        clear hK K
        refine wpAnyH_done (by kernel_rfl) ?_ _
        obtain ⟨hg, hr, hs, hx⟩ := HI.out
        refine ⟨((KeepsOthers.setCell _ _ _).trans (keeps_drew _)).from _, ⟨by simp [World.setCell], Below.heap_setCell _ _ _ _ (by show W.heap.size + 1 + 1 + 1 ≠ w.heap.size + 1 + 1; omega), Below.heap_setCell _ _ _ _ (by show W.heap.size + 1 + 1 ≠ w.heap.size + 1 + 1; omega)⟩, ?_, ?_⟩
        · have := grown_set (i := k) (v := .int .i64 (f s x)) hg
          exact ⟨this.os, this.tape, this.output, this.size, this.block⟩
        · have h1 := int_set hr k (f s x)
          have h2 : (FV f (l.take k) ++ ((pre.map (·.1)).foldl (fun s b => f s ((FV f (l.take k)).getD b 0)) 1 :: List.replicate (id - k) 0)).set k (f s x) = (FV f (l.take k) ++ (((pre ++ [y]).map (·.1)).foldl (fun s b => f s ((FV f (l.take k)).getD b 0)) 1 :: List.replicate (id - k) 0)) := by
            rw [List.set_append_right _ _ (by omega), hlk, Nat.sub_self, List.set_cons_zero, List.map_append, List.foldl_append, hs]
            simp only [List.map_cons, List.map_nil, List.foldl_cons, List.foldl_nil]
            rw [hx]
          rw [h2] at h1
          exact h1
      case done =>
        rintro D ys V hD hS ⟨hg, hr⟩ hK
        have HVb : ∀ b, b < W.heap.size → b ≠ w.heap.size + 1 + 1 → V.heap[b]? = W.heap[b]? := fun b hb hne => (hg.block b (by omega) (fun e => hne (Option.some.inj e))).trans (hg4.block b hb (fun e => hne (Option.some.inj e)))
        have HFn : Hid (FoldS f jf l a c id w (k + 1) ({ target := .collected D, args := #[] } :: ds) V) := by
          have hlk : (FV f (l.take k)).length = k := by rw [FV_len, List.length_take]; omega
          refine ⟨(HF.out.bel.grown hg4 (by omega) (fun j e => by cases e; omega)).grown hg (by omega) (fun j e => by cases e; omega), Nat.le_trans HF.out.big (Nat.le_trans hg4.size hg.size), (HVb _ z0 (by omega)).trans HF.out.b0, (HVb _ z1 (by omega)).trans HF.out.b1, ?_, (HVb _ z3 (by omega)).trans HF.out.b3, HF.out.marks.push hK (by omega) (by omega) (fun E hE1 hE2 _ => HVb E hE2 (by omega))⟩
          rw [hr, take_snoc HN.out, FV_snoc, hS, List.append_assoc, show id + 1 - (k + 1) = id - k by omega]
          unfold foldStep
          rw [hlk]
          rfl
        clear hr hg hS hK
        gi_wp2
        exact ⟨⟨k + 1, { target := .collected D, args := #[] } :: ds, _, _, _, _, _, _, _, _, _, _, _, _, _, _, _, _, _, _, _, _, _, _, _, _, _, _, _, _, _, by omega, rfl, HFn⟩, by simp [intOf]; omega⟩
      case stop =>
        rintro D c' pre V _ _ h _
        exact h.elim
    · obtain rfl : k = id + 1 := by omega
      have hlen : (FV f (l.take (id + 1))).length = id + 1 := by rw [FV_len, List.length_take]; omega
      have hxl : (FV f (l.take (id + 1)) ++ List.replicate (id + 1 - (id + 1)) 0)[id]? = some ((FV f l).getD id 0) := by
        rw [List.getElem?_append_left (by omega), FV_take f l (id + 1) (by omega), List.getElem?_take, if_pos (by omega), List.getD_eq_getElem?_getD, List.getElem?_eq_getElem (by rw [FV_len]; omega)]
        rfl
      have xk := int_cell HF.out.row hxl
      obtain ⟨r, hr⟩ : ∃ r, (FV f l).getD id 0 = r := ⟨_, rfl⟩
      rw [hr] at xk
      have HR := Lib.hid hr
      clear hxl hlen hr
      gi_wp2
      refine Marks.leave (by simp) HF.out.marks (fun w' hb hc => ?_)
      exact ⟨_, results_tmp rfl _ _ _, by rw [HR.out]; rfl, HF.out.bel.trans (hb.mono (by omega))⟩
end Go.Proofs.YtdjiebiobdhihaaDoor
