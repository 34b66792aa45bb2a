/- How deep an expression is: the function Depth of package sexpr; and its head. -/
import Derived.Test.YthbgigjjmojgfaaDoorSexMay
namespace Go.Proofs.YthbgigjjmojgfaaDoor
open Go.RowKit Go.Shelf
attribute [local go_sem] Oper.semAt_some
/-- The depth, one expression more. -/
def dpS (m : Nat) (x : Nat × Tree) : Nat := if x.2.kind = 3 then max m (x.1 + 1) else m
def depthT (t : Tree) : Nat := (preT lis 0 t).foldl dpS 0
theorem dpS_list {m d : Nat} {y : Tree} (h : y.kind = 3) : dpS m (d, y) = max m (d + 1) := if_pos h
theorem dpS_no {m d : Nat} {y : Tree} (h : ¬ y.kind = 3) : dpS m (d, y) = m := if_neg h
theorem wrap_small {d : Nat} (h : d + 1 ≤ 239) : wrap64 ((d : Int) + 1) = (d : Int) + 1 := by unfold wrap64; omega
theorem max_case {m d z : Nat} (h : z = max m (d + 1)) : (z = d + 1 ∧ m < d + 1) ∨ (z = m ∧ d + 1 ≤ m) := by omega
theorem dpS_ge (l : List (Nat × Tree)) : ∀ m, m ≤ l.foldl dpS m := by
  induction l with
  | nil => intro m; exact Nat.le_refl _
  | cons x r ih =>
    intro m
    refine Nat.le_trans ?_ (ih (dpS m x))
    unfold dpS
    split <;> omega
theorem dpS_mem {l : List (Nat × Tree)} {x : Nat × Tree} (hx : x ∈ l) (hk : x.2.kind = 3) : ∀ m, x.1 + 1 ≤ l.foldl dpS m := by
  induction l with
  | nil => simp at hx
  | cons y r ih =>
    intro m
    rcases List.mem_cons.1 hx with rfl | hx
    · refine Nat.le_trans ?_ (dpS_ge r (dpS m x))
      unfold dpS
      rw [if_pos hk]; omega
    · exact ih hx _
/-- Between two rounds. -/
def DepI (w : World) (_ : Nat → Prop) (ys : List Itm) (A : World) : Prop :=
  Boxed A (w.heap.size + 1) 3 (.int .i64 ((ys.map dt).foldl dpS 0 : Nat)) ∧ Below w.heap.size w A
/-- Behind the assignment to the loop's variables. -/
def DepA (w : World) (fv : Value) (xv : Value) (x : Itm) (a : Act) (W : World) : Prop :=
  ∃ Bx ya yc, W.heap[Bx]? = some (.cells #[.int .i8 x.2.1.kind, .string (bytesL x.2.1.text), .slice ya x.2.1.kids.length yc] 26 (0, 0)) ∧ x.2.2 = .agg #[.int .i8 x.2.1.kind, .string (bytesL x.2.1.text), .slice ya x.2.1.kids.length yc] ∧
    a = { tmps := #[xv, .pointer (some ⟨w.heap.size, 0, none⟩), .int .i64 0, .pointer (some ⟨w.heap.size + 1, 0, none⟩), .int .i64 x.1, .pointer (some ⟨Bx, 0, none⟩), xv, fv, .int .i64 x.1, x.2.2,
    undef, undef, undef, undef, undef, undef, undef, undef], defers := [] }
set_option maxRecDepth 100000 in
set_option maxHeartbeats 4000000 in
theorem Depth_in (t : Tree) (v : Value) (w : World) (hdep : depthT t ≤ 239) (bad : Nat → Prop) (hbd : ∀ b, ¬ bad b → b < w.heap.size) (hr : Rd w bad t v) (hcl : Clean w bad) :
    CallsIn Fence.wide 8 Tryd.prog 19 #[v] w fun e w' => e = .returned (.int .i64 (depthT t : Nat)) ∧ Below w.heap.size w w' := by
  have HD := Lib.hid hdep
  obtain ⟨a, cap, rfl, hl, hc, hs, hk⟩ := hr.parts
  have HK := Lib.hid hk
  have HC := Lib.hid hcl
  have HBD := Lib.hid hbd
  clear hdep hr hk hcl hbd
  refine callsIn_of_wp_marks Tryd.func19 rfl trivial ?_ rfl
  simp only [Tryd.ntmps19, List.size_toArray, List.length_cons, List.length_nil, Nat.reduceAdd, Nat.reduceSub, Array.replicate_succ, Array.replicate_zero, List.push_toArray, List.append_toArray, List.nil_append, List.cons_append]
  have hd : 1 ≤ 8 := by omega
  gi_wp2_with (refine ⟨trivial, ?_⟩; gi_at_call 33; refine (callsIn_wide.2 (within_any _ 34 _ _ _ _ _ _ rfl)).mono ?_; rintro e w' ⟨rfl, rfl⟩)
  obtain ⟨w4, hw4⟩ : ∃ w4, ((((w.alloc (.cells #[.int .i8 t.kind, .string (bytesL t.text), .slice a t.kids.length cap] 26)).alloc (.cells #[.int .i64 0] 3)).alloc (.cells #[.int .i8 t.kind, .string (bytesL t.text), .slice a t.kids.length cap] 26)).alloc (.cells #[.func (.func 34) #[] #[]] 58)) = w4 := ⟨_, rfl⟩
  have hb4 : Below w.heap.size w w4 := by
    rw [← hw4]; exact ((((Below.refl _ w).alloc (Nat.le_refl _) _).alloc (by simp) _).alloc (by simp; omega) _).alloc (by simp; omega) _
  have b1 : Boxed w4 (w.heap.size + 1) 3 (.int .i64 0) := by
    have := (((Boxed.new (w.alloc (.cells #[.int .i8 t.kind, .string (bytesL t.text), .slice a t.kids.length cap] 26)) 3 (.int .i64 0)).alloc (.cells #[.int .i8 t.kind, .string (bytesL t.text), .slice a t.kids.length cap] 26)).alloc (.cells #[.func (.func 34) #[] #[]] 58))
    simp only [World.size_alloc] at this
    rw [← hw4]; exact this
  have b2 : w4.heap[w.heap.size + 1 + 1]? = some (.cells #[.int .i8 t.kind, .string (bytesL t.text), .slice a t.kids.length cap] 26 (0, 0)) := by
    rw [← hw4]
    refine (Below.heap_alloc _ _ _ (by simp)).trans ?_
    have := World.alloc_heap_new ((w.alloc (.cells #[.int .i8 t.kind, .string (bytesL t.text), .slice a t.kids.length cap] 26)).alloc (.cells #[.int .i64 0] 3)) (.cells #[.int .i8 t.kind, .string (bytesL t.text), .slice a t.kids.length cap] 26)
    simp only [World.size_alloc] at this
    exact this
  have b3 : w4.heap[w.heap.size + 1 + 1 + 1]? = some (.cells #[.func (.func 34) #[] #[]] 58 (0, 0)) := by
    rw [← hw4]
    have := World.alloc_heap_new (((w.alloc (.cells #[.int .i8 t.kind, .string (bytesL t.text), .slice a t.kids.length cap] 26)).alloc (.cells #[.int .i64 0] 3)).alloc (.cells #[.int .i8 t.kind, .string (bytesL t.text), .slice a t.kids.length cap] 26)) (.cells #[.func (.func 34) #[] #[]] 58)
    simp only [World.size_alloc] at this
    exact this
  have hsz : w4.heap.size = w.heap.size + 1 + 1 + 1 + 1 := by rw [← hw4]; simp
  rw [hw4]
  clear hw4
  have hnode : Tree.node t.kind t.text t.kids = t := by cases t; rfl
  refine wpIn_rangeFunc_R rfl hd (gf := 48) (lb := #[.pointer (some ⟨w.heap.size + 1 + 1, 0, none⟩), .pointer (some ⟨w.heap.size + 1 + 1 + 1, 0, none⟩)]) rfl trivial (enters_of Tryd.func48 (by kernel_rfl) rfl)
    (encs := encY) (S := SY lis t) (Sp := SpY lis t) (keep := fun b => ¬ bad b ∨ b = w.heap.size + 1 + 1 ∨ b = w.heap.size + 1 + 1 + 1) (go := fun _ => True)
    (fun W hW => by
      have h1 := within1_in lis 34 (enters_of Tryd.func34 (by kernel_rfl) rfl) listed_any (8 - 1) (by omega) (w.heap.size + 1 + 1) (w.heap.size + 1 + 1 + 1) t.kind t.text t.kids a cap bad (fun _ => True) W
        ⟨hl, hc, hs⟩ ((hW.block _ (by omega)).trans b2) ((hW.block _ (by omega)).trans b3)
        (RdL.keep (fun b hn hlt => (hW.block b (by have := HBD.out b hn; omega)).trans (hb4.block b (by have := HBD.out b hn; omega))) _ _ HK.out)
        (fun b hb => by have := hW.size; have := HBD.out b hb; omega)
        (fun b hb _ => by
          obtain ⟨cs, ty, h⟩ := HC.out b hb (HBD.out b hb)
          exact ⟨cs, ty, ((hW.block b (by have := HBD.out b hb; omega)).trans (hb4.block b (by have := HBD.out b hb; omega))).trans h⟩)
        (fun x hx _ hne => by
          have h3 : (dt x).2.kind = 3 := ownL_lis hne
          rw [hnode] at hx
          have := dpS_mem hx h3 0
          have h4 := HD.out
          unfold depthT at h4
          show (dt x).1 < 239
          omega)
      rw [hnode] at h1
      exact h1)
    (fun b hb => by
      rcases hb with hb | hb
      · have := HBD.out b hb; omega
      · omega) (fun _ => rfl)
    (DepI w) (fun _ _ _ _ => False)
    (fun R R' pre A B hR hI hT => ⟨boxed_turn hI.1 (fun b hb => (hR b hb).1) (by omega) hT, below_turn hI.2 (fun b hb => (hR b hb).1) (by omega) hI.2.size hT⟩)
    (fun R pre A l o o' hI hD hl' ho => ⟨boxed_put hI.1 hD hl' ho, below_put hI.2 hD (by omega) hl'⟩)
    (fun _ _ _ _ _ _ _ h _ => h) (fun _ _ _ _ _ _ _ h _ _ _ => h)
    ?_ (fun _ x q W => DepA w (.func (.func 48) #[] #[.pointer (some ⟨w.heap.size + 1 + 1, 0, none⟩), .pointer (some ⟨w.heap.size + 1 + 1 + 1, 0, none⟩)]) (.agg #[.int .i8 t.kind, .string (bytesL t.text), .slice a t.kids.length cap]) x q W) ?_ ?assign ?body ?done ?stop
  · intro B hB
    exact ⟨(hB.block _ b1.lt).trans b1, hb4.trans (hB.mono hb4.size)⟩
  · rintro R x a' A l o o' ⟨Bx, ya, yc, hBx, hv, ha⟩ hD hl' ho
    exact ⟨Bx, ya, yc, (World.putObj_heap_other (fun e => by subst e; rw [hBx] at hl'; cases hl'; cases ho)).trans hBx, hv, ha⟩
  case assign =>
    rintro l R pre ⟨d, y, vy⟩ W K hR hWs hSp hI hK
    obtain ⟨ya, yc, hv, _⟩ := hSp.2 _ (List.mem_append_right _ (List.mem_singleton.2 rfl))
    simp only at hv
    subst hv
    simp only [encY]
    have HI := Lib.hid hI
    have HSp := Lib.hid hSp
    clear hI hSp
    gi_wp2
    have hgr : W.grownBy (W.alloc (.cells #[.int .i8 y.kind, .string (bytesL y.text), .slice ya y.kids.length yc] 26)) (some W.heap.size) := World.grownBy_alloc W _ _
    refine hK _ _ ((KeepsOthers.alloc _ _).from _) ⟨by simp, fun b hb => Below.heap_alloc _ _ _ ?_⟩ ?_ ⟨W.heap.size, ya, yc, heap_alloc_new W _, rfl, rfl⟩
    · rcases hb with hb | hb
      · exact (hR b hb).2
      · rcases hb with hb | hb <;> first | omega | (have := HBD.out b hb; omega)
    · obtain ⟨h1, h2⟩ := HI.out
      exact ⟨h1.alloc _, h2.alloc h2.size _⟩
  case body =>
    rintro l R pre ⟨d, y, vy⟩ a' W hR hWs hSp ⟨h1, h2⟩ ⟨Bx, ya, yc, hBx, hv, rfl⟩
    simp only at hv hBx
    subst hv
    have c0 := cell_of_row _ _ 0 _ _ _ hBx
    simp only [List.getElem?_toArray, List.getElem?_cons_zero] at c0
    have r0 := h1.cell
    have r1 := h1.frozen
    have H1 := Lib.hid h1
    have H2 := Lib.hid h2
    have hdm : (d, y) ∈ preT lis 0 t := hSp.1.subset (List.mem_map.2 ⟨_, List.mem_append_right _ (List.mem_singleton.2 rfl), rfl⟩)
    have HM := Lib.hid hdm
    have hm0 : ((pre.map dt).foldl dpS 0 : Nat) ≤ 239 := by
      have hpre : pre.map dt <+: preT lis 0 t := by
        have := hSp.1
        rw [List.map_append] at this
        exact (List.prefix_append _ _).trans this
      obtain ⟨rest, hrest⟩ := hpre
      have h4 := HD.out
      unfold depthT at h4
      rw [← hrest, List.foldl_append] at h4
      exact Nat.le_trans (dpS_ge rest _) h4
    have hst : ∀ m : Nat, m = dpS ((pre.map dt).foldl dpS 0) (d, y) → ((pre ++ [((d, y, .agg #[.int .i8 y.kind, .string (bytesL y.text), .slice ya y.kids.length yc]) : Itm)]).map dt).foldl dpS 0 = m := fun m hm => by
      rw [List.map_append, List.foldl_append]; rw [hm]; rfl
    have Hst := Lib.hid hst
    obtain ⟨m, hmm⟩ : ∃ m, m = (pre.map dt).foldl dpS 0 := ⟨_, rfl⟩
    rw [← hmm] at r0 hm0
    have Hmm := Lib.hid hmm
    clear h1 h2 hBx hSp hdm hst hmm
    by_cases h3 : y.kind = 3
    · have e3 := eq_true_ (x := y.kind) (y := 3) h3
      have hd1 : d + 1 ≤ 239 := by
        have := dpS_mem HM.out h3 0
        have h4 := HD.out
        unfold depthT at h4
        exact Nat.le_trans this h4
      have hw1 := wrap_small hd1
      have H3 := Lib.hid h3
      obtain ⟨z, hz⟩ : ∃ z : Nat, z = max m (d + 1) := ⟨_, rfl⟩
      have Hz := Lib.hid hz
      have hcase : (z = d + 1 ∧ m < d + 1) ∨ (z = m ∧ d + 1 ≤ m) := max_case hz
      clear h3 hz
      rcases hcase with ⟨hzz, hle⟩ | ⟨hzz, hle⟩
      all_goals have Hzz := Lib.hid hzz
      all_goals clear hzz
      all_goals
       gi_wp2
       refine ⟨(KeepsOthers.setCell _ _ _).from _, ⟨by simp [World.setCell], fun b hb => Below.heap_setCell _ _ _ _ (fun e => ?_)⟩, trivial, ?_, H2.out.setCell (p := ⟨w.heap.size + 1, 0, none⟩) (by simp) _⟩
       · have e' : b = w.heap.size + 1 := e
         rcases hb with hb | hb
         · have := (hR b hb).1; omega
         · rcases hb with hb | hb <;> first | omega | (have := HBD.out b hb; omega)
       · rw [Hst.out (max m (d + 1)) (by rw [dpS_list H3.out, ← Hmm.out]), ← Hz.out, Hzz.out]
         exact H1.out.set _
    · have e3 := eq_false (x := y.kind) (y := 3) h3
      have H3 := Lib.hid h3
      clear h3
      gi_wp2
      refine ⟨(KeepsOthers.refl _).from _, KeepsR.refl _ _ _, trivial, ?_, H2.out⟩
      rw [Hst.out m (by rw [dpS_no H3.out, ← Hmm.out]), Hmm.out]
      exact H1.out
  case done =>
    rintro D R ys W hD hR hS ⟨h1, h2⟩ hKD
    have hall : (ys.map dt).foldl dpS 0 = depthT t := by unfold depthT; rw [hS.1]
    rw [hall] at h1
    have k0 := h1.cell
    have HKD := Lib.hid hKD
    have H1 := Lib.hid h1
    have H2 := Lib.hid h2
    clear hS hall h1 h2 hKD
    gi_wp2
    refine ⟨by simp, .inl ⟨_, _, rfl, run_takeDeferred HKD.out, ?_⟩⟩
    refine ⟨.int .i64 (depthT t : Nat), ?_, rfl, below_put H2.out hD (by omega) HKD.out⟩
    simp [results, Tryd.results19, go_sem]
  case stop =>
    rintro D R c pre x W hD hR hSp h hKD
    exact h.elim
theorem Depth_any (t : Tree) (v : Value) (w : World) (hdep : depthT t ≤ 239) (bad : Nat → Prop) (hbd : ∀ b, ¬ bad b → b < w.heap.size) (hr : Rd w bad t v) (hcl : Clean w bad) :
    Calls Tryd.prog 19 #[v] w fun e w' => e = .returned (.int .i64 (depthT t : Nat)) ∧ Below w.heap.size w w' := callsIn_wide.1 (Depth_in t v w hdep bad hbd hr hcl)
end Go.Proofs.YthbgigjjmojgfaaDoor
