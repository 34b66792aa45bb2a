/- Atoms: which places are arguments of an application. -/
import Derived.Test.YtaiabpbcipnjaaaDoorAtH
import Derived.Shelf.RegionOpen
import Derived.Shelf.AbstractIn
import Derived.RangeFuncCalls
import Derived.RangeFuncNested
namespace Go.Proofs.YtaiabpbcipnjaaaDoor.Tm
open Go.RowKit Go.Shelf
set_option linter.unusedVariables false
attribute [local go_sem] Oper.semAt_some
theorem Backward_any (a : Option Addr) (n c : Nat) (w : World) : Calls Tryd.prog 38 #[.slice a n c] w fun e w' => e = .returned (.func (.func 42) #[] #[.pointer (some ⟨w.heap.size, 0, none⟩)]) ∧ w.alloc (.cells #[.slice a n c] 22) = w' := by
  go_enter Tryd.func38, Tryd.ntmps38
  go_wp2
  go_ret
  exact ⟨rfl, rfl⟩
def argStep (l : List NodeA) (bs : List Bool) (k : Nat) : List Bool :=
  if (nodA l k).op = 13 ∨ ((nodA l k).op = 1 ∧ bs.getD k false = true) then (argsL (nodA l k) (nodA l k).len.toNat).foldl (fun b x => b.set x.toNat true) bs else bs
/-- Which places are arguments of an application, or below OpNots that are. -/
def argB (l : List NodeA) : List Bool := (downN l.length 0).foldl (argStep l) (List.replicate l.length false)
theorem setI_len : ∀ (xs : List Int) (bs : List Bool), (xs.foldl (fun b x => b.set x.toNat true) bs).length = bs.length
  | [], bs => rfl
  | a :: q, bs => by rw [List.foldl_cons, setI_len q]; simp
theorem argStep_len (l : List NodeA) (bs : List Bool) (k : Nat) : (argStep l bs k).length = bs.length := by
  unfold argStep
  split
  · exact setI_len _ _
  · rfl
theorem argSteps_len (l : List NodeA) : ∀ (ks : List Nat) (bs : List Bool), (ks.foldl (argStep l) bs).length = bs.length
  | [], bs => rfl
  | k :: q, bs => by rw [List.foldl_cons, argSteps_len l q, argStep_len]
theorem argB_len (l : List NodeA) : (argB l).length = l.length := by unfold argB; rw [argSteps_len]; simp
theorem grown_trans {A B C : World} {S : Nat} {row : Option Nat} (h : A.grownBy B (some S)) (k : B.grownBy C row) (hr : ∀ r, row = some r → A.heap.size ≤ r) : A.grownBy C (some S) :=
  ⟨k.os.trans h.os, k.tape.trans h.tape, k.output.trans h.output, Nat.le_trans h.size k.size, fun i hi hn => (k.block i (Nat.lt_of_lt_of_le hi h.size) (fun e => by have := hr i e.symm; omega)).trans (h.block i hi hn)⟩
theorem grown_set {A B : World} {S i : Nat} {v : Value} (h : A.grownBy B (some S)) : A.grownBy (B.setCell ⟨S, i, none⟩ v) (some S) :=
  ⟨h.os, h.tape, h.output, by simpa [World.setCell] using h.size, fun k hk hn => (Below.heap_setCell _ _ _ k (fun e => hn (by rw [e]))).trans (h.block k hk hn)⟩
theorem grown_alloc {A B : World} {S : Nat} {ob : Obj} (h : A.grownBy B (some S)) : A.grownBy (B.alloc ob) (some S) :=
  ⟨h.os, h.tape, h.output, by have := h.size; simp; omega, fun k hk hn => (Below.heap_alloc _ _ _ (Nat.lt_of_lt_of_le hk h.size)).trans (h.block k hk hn)⟩
theorem keepB_b {w4 : World} {Bs g : Nat} (h1 : Bs < w4.heap.size) (h2 : g < w4.heap.size) : ∀ (W : World) (l : Nat) (o o' : Obj), w4.heap.size ≤ l → W.heap[l]? = some o → o.isCells = false → o.isWalk = false → KeepB Bs g W (W.putObj l o') :=
  fun W l o o' hl _ _ _ => ⟨by simp, World.putObj_heap_other (by omega), World.putObj_heap_other (by omega)⟩
/-- What the rounds have made of the row. -/
def ArI (l : List NodeA) (S : Nat) (w4 : World) (pre : List (KS l.length)) (W : World) : Prop :=
  w4.grownBy W (some S) ∧ W.heap[S]? = some (.cells (boolRow ((pre.map (·.1)).foldl (argStep l) (List.replicate l.length false))) 4 (0, 0))
theorem ArI_own (l : List NodeA) (S : Nat) (w4 : World) (hS : S < w4.heap.size) : OwnFrom w4.heap.size (ArI l S w4) := by
  rintro pre A B row ⟨h1, h2⟩ hg hr
  refine ⟨grown_trans h1 hg (fun r e => (hr r e).1), (hg.block S (Array.getElem?_eq_some_iff.1 h2).1 (fun e => by have := (hr S e.symm).1; omega)).trans h2⟩
def ArX (l : List NodeA) (N0 : Nat) (fr : Nat → KS l.length → Act) (x : KS l.length) (a' : Act) (W : World) : Prop :=
  ∃ b, N0 ≤ b ∧ W.heap[b]? = some (.cells (nodeC (nodA l (x.1 : Nat))).toArray 34 (0, 0)) ∧ a' = fr b x
theorem ArX_own (l : List NodeA) (N0 : Nat) (fr : Nat → KS l.length → Act) (x : KS l.length) (a' : Act) : OwnFrom N0 (fun (_ : Unit) W => ArX l N0 fr x a' W) := by
  rintro _ A B row ⟨b, h1, h2, h3⟩ hg hr
  refine ⟨b, h1, (hg.block b (Array.getElem?_eq_some_iff.1 h2).1 (fun e => ?_)).trans h2, h3⟩
  obtain ⟨_, ob, ho, hc⟩ := hr b e.symm
  rw [h2] at ho
  cases ho
  cases hc
/-- Within a round, between two of its own loop's. -/
structure ArS (w4 V : World) (S Bs g b : Nat) (n : NodeA) (bs : List Bool) (wr : World) : Prop where
  ko : KeepsOthers V wr
  kb : KeepB Bs g V wr
  gr : w4.grownBy wr (some S)
  row : wr.heap[S]? = some (.cells (boolRow bs) 4 (0, 0))
  nb : wr.heap[b]? = some (.cells (nodeC n).toArray 34 (0, 0))
theorem ArS.set {w4 V wr : World} {S Bs g b : Nat} {n : NodeA} {bs : List Bool} (h : ArS w4 V S Bs g b n bs wr) (q : Nat) (h1 : S ≠ Bs) (h2 : S ≠ g) (h3 : S ≠ b) : ArS w4 V S Bs g b n (bs.set q true) (wr.setCell ⟨S, q, none⟩ (.bool true)) :=
  ⟨h.ko.trans (KeepsOthers.setCell _ _ _), h.kb.trans ⟨by simp [World.setCell], Below.heap_setCell _ _ _ _ (Ne.symm h1), Below.heap_setCell _ _ _ _ (Ne.symm h2)⟩, grown_set h.gr, bool_set h.row q true, (Below.heap_setCell _ _ _ _ (Ne.symm h3)).trans h.nb⟩
theorem four_allocs (w : World) (o1 o2 o3 o4 : Obj) (w4 : World) (h4 : (((w.alloc o1).alloc o2).alloc o3).alloc o4 = w4) :
    Below w.heap.size w w4 ∧ w4.heap.size = w.heap.size + 4 ∧ w4.heap[w.heap.size + 1]? = some o2 ∧ w4.heap[w.heap.size + 1 + 1]? = some o3 ∧ w4.heap[w.heap.size + 1 + 1 + 1]? = some o4 := by
  subst h4
  have e2 := heap_alloc_new (w.alloc o1) o2
  have e3 := heap_alloc_new ((w.alloc o1).alloc o2) o3
  have e4 := heap_alloc_new (((w.alloc o1).alloc o2).alloc o3) o4
  simp only [World.size_alloc] at e2 e3 e4
  refine ⟨((((Below.refl _ w).alloc (Nat.le_refl _) _).alloc (by simp) _).alloc (by simp; omega) _).alloc (by simp; omega) _, by simp, ?_, ?_, e4⟩
  · exact (Below.heap_alloc _ _ _ (by simp <;> omega)).trans ((Below.heap_alloc _ _ _ (by simp)).trans e2)
  · exact (Below.heap_alloc _ _ _ (by simp)).trans e3
set_option maxRecDepth 100000 in
set_option maxHeartbeats 4000000 in
theorem arguments_in (l : List NodeA) (a : Option Addr) (c : Nat) (w : World) (hA : TabR w l a c) (hok : okFrom [] l = true) (hl : l.length ≤ 2000) (hl1 : 1 ≤ l.length) :
    CallsIn Fence.wide 8 Tryd.prog 27 #[.agg #[.slice a l.length c]] w fun e w' => e = .returned (.slice (some ⟨w.heap.size + 1, 0, none⟩) l.length l.length) ∧ w'.heap[w.heap.size + 1]? = some (.cells (boolRow (argB l)) 4 (0, 0)) ∧ Below w.heap.size w w' := by
  have hmk := make_bool (l.length : Int) l.length rfl hl
  have HA := Lib.hid hA
  have hle := hA.le
  have HOk := Lib.hid hok
  obtain ⟨g, o, rfl, hg, _⟩ := hA.node (List.getElem?_eq_getElem (show 0 < l.length by omega))
  have HBk : Hid (∀ V, Calls Tryd.prog 38 #[.slice (some ⟨g, o, none⟩) l.length c] V fun e w' => e = .returned (.func (.func 42) #[] #[.pointer (some ⟨V.heap.size, 0, none⟩)]) ∧ V.alloc (.cells #[.slice (some ⟨g, o, none⟩) l.length c] 22) = w') := fun V => Backward_any _ _ _ V
  clear hA hok
  refine callsIn_of_wp_marks Tryd.func27 rfl trivial ?_ rfl
  simp only [Tryd.ntmps27, List.size_toArray, List.length_cons, List.length_nil, Nat.reduceAdd, Nat.reduceSub, Array.replicate_succ, Array.replicate_zero, List.push_toArray, List.append_toArray, List.nil_append, List.cons_append]
  have hd : 1 ≤ 8 := by omega
  gi_wp2_with (refine ⟨trivial, ?_⟩; gi_at_call 38; refine (callsIn_wide.2 (HBk.out _)).mono ?_; rintro e w4 ⟨rfl, hw4⟩)
  obtain ⟨hb4, hs4, hr4, hi4, hk4⟩ := four_allocs w _ _ _ _ w4 hw4
  clear hw4 HBk hmk
  have HB4 := Lib.hid hb4
  have HI4 := Lib.hid hi4
  clear hb4 hi4
  refine wpIn_rangeFunc_ownH rfl hd (gf := 42) (lb := #[.pointer (some ⟨w.heap.size + 1 + 1 + 1, 0, none⟩)]) rfl trivial (enters_of Tryd.func42 (by kernel_rfl) rfl)
    (back_stops _ (by omega) (w.heap.size + 1 + 1 + 1) g o c l w4 (by omega) hl1 hk4 (HA.out.below HB4.out) (by omega)) (fun h k => h.trans k) (keepB_b (by omega) (by omega)) (Below.refl _ _) (fun _ => rfl)
    (ArI l (w.heap.size + 1) w4) (fun _ _ _ => False) (ArI_own _ _ _ (by omega)) (fun _ _ _ _ _ hs _ _ => hs) ⟨⟨rfl, rfl, rfl, Nat.le_refl _, fun _ _ _ => rfl⟩, hr4⟩
    (ArX l w4.heap.size (fun b x => { tmps := #[Value.agg #[Value.slice (some ⟨g, o, none⟩) l.length c], Value.pointer (some ⟨w.heap.size, 0, none⟩), Value.slice none 0 0, Value.pointer (some ⟨w.heap.size + 1 + 1, 0, none⟩), .int .i64 (x.1 : Nat), .pointer (some ⟨b, 0, none⟩), undef, undef, Value.pointer (some ⟨w.heap.size, 0, none⟩), Value.slice (some ⟨g, o, none⟩) l.length c, Value.int .i64 l.length, Value.slice (some ⟨w.heap.size + 1, 0, none⟩) l.length l.length, Value.pointer (some ⟨w.heap.size, 0, none⟩), Value.slice (some ⟨g, o, none⟩) l.length c, Value.func (.func 42) #[] #[.pointer (some ⟨w.heap.size + 1 + 1 + 1, 0, none⟩)], .int .i64 (x.1 : Nat), nodeV (nodA l (x.1 : Nat)), undef, undef, undef, undef, undef, undef, undef, undef, undef, undef, undef, undef, undef, undef, undef, undef, undef, undef, undef, undef, undef, undef, undef, undef, undef, undef, undef, undef], defers := [] })) (fun x a' => ArX_own _ _ _ x a') ?assign ?body ?done ?stop
  case assign =>
    rintro l' pre x W K ⟨hg1, hr1⟩ hK
    simp only [encB, nodeV]
    have hsz := hg1.size
    gi_wp2
    refine hK _ _ ((KeepsOthers.alloc _ _).from _) ⟨by simp, Below.heap_alloc _ _ _ (by omega), Below.heap_alloc _ _ _ (by omega)⟩ ⟨grown_alloc hg1, (Below.heap_alloc _ _ _ (by omega)).trans hr1⟩ ⟨W.heap.size, hsz, heap_alloc_new _ _, rfl⟩
  case body =>
    rintro l' pre x a' V hl' _ ⟨hg1, hr1⟩ ⟨b, hb4, hnb, rfl⟩ hlen
    obtain ⟨n, hn⟩ : ∃ n, l[x.1]? = some n := ⟨_, List.getElem?_eq_getElem x.2⟩
    have hnn := nodA_at hn
    dsimp only
    rw [hnn] at hnb ⊢
    obtain ⟨bs, hbs⟩ : ∃ bs, (pre.map (·.1)).foldl (argStep l) (List.replicate l.length false) = bs := ⟨_, rfl⟩
    rw [hbs] at hr1
    have hbl : bs.length = l.length := by rw [← hbs, argSteps_len]; simp
    have hI := stands_in HOk.out hn
    obtain ⟨m, hm⟩ : ∃ m : Nat, n.len = (m : Int) := ⟨n.len.toNat, by have := hI.lo; omega⟩
    have hm3 : m ≤ 3 := by have := hI.hi; omega
    have hst : argStep l bs x.1 = if n.op = 13 ∨ (n.op = 1 ∧ bs.getD x.1 false = true) then (argsL n m).foldl (fun b x => b.set x.toNat true) bs else bs := by unfold argStep; rw [hnn, hm, Int.toNat_natCast]
    have HP : Hid (∀ W', KeepsOthers V W' → KeepB (w.heap.size + 1 + 1 + 1) g V W' → w4.grownBy W' (some (w.heap.size + 1)) → W'.heap[w.heap.size + 1]? = some (.cells (boolRow (argStep l bs x.1)) 4 (0, 0)) → KeepsFrom w4.heap.size V W' ∧ KeepB (w.heap.size + 1 + 1 + 1) g V W' ∧ ArI l (w.heap.size + 1) w4 (pre ++ [x]) W') := fun W' h1 h2 h3 h4 => by
      refine ⟨h1.from _, h2, h3, ?_⟩
      rw [List.map_append, List.foldl_append, hbs]
      exact h4
    obtain ⟨vb, hvb⟩ : ∃ vb, bs[x.1]? = some vb := ⟨_, List.getElem?_eq_getElem (by rw [hbl]; exact x.2)⟩
    have v3 : V.cell? ⟨w.heap.size + 1 + 1, 0, none⟩ = some (.slice (some ⟨w.heap.size + 1, 0, none⟩) l.length l.length) := (cell_of_row _ _ 0 _ _ _ ((hg1.block _ (by omega) (fun e => by have := Option.some.inj e; omega)).trans HI4.out)).trans rfl
    have HV3 : Hid (∀ W', w4.grownBy W' (some (w.heap.size + 1)) → W'.cell? ⟨w.heap.size + 1 + 1, 0, none⟩ = some (.slice (some ⟨w.heap.size + 1, 0, none⟩) l.length l.length) ∧ w.heap.size + 1 + 1 < W'.heap.size ∧ w.heap.size + 1 < W'.heap.size) := fun W' h => ⟨(cell_of_row _ _ 0 _ _ _ ((h.block _ (by omega) (fun e => by have := Option.some.inj e; omega)).trans HI4.out)).trans rfl, by have := h.size; omega, by have := h.size; omega⟩
    have vx := bool_cell hr1 hvb
    have hbsx : bs.getD x.1 false = vb := by rw [List.getD_eq_getElem?_getD, hvb]; rfl
    rw [hbsx] at hst
    have H0 : Hid (ArS w4 V (w.heap.size + 1) (w.heap.size + 1 + 1 + 1) g b n bs V) := ⟨KeepsOthers.refl _, ⟨Nat.le_refl _, rfl, rfl⟩, hg1, hr1, hnb⟩
    have HArg : Hid (∀ j, j < m → ∃ q : Nat, argA n j = (q : Int) ∧ q < l.length) := fun j hj => by
      have := hI.arg j (by omega)
      exact ⟨(argA n j).toNat, by omega, by omega⟩
    obtain ⟨n0, n1, _, _, _, _, _, _, nz⟩ := node_box2 hnb
    rw [hm] at n1
    have hxi : ((x.1 : Nat) : Int) < (l.length : Int) := by have := x.2; omega
    have hx0 : (0 : Int) ≤ ((x.1 : Nat) : Int) := by omega
    have hvs := hg1.size
    have z1 : w.heap.size + 1 < V.heap.size := by omega
    have z2 : w.heap.size + 1 + 1 < V.heap.size := by omega
    have HBL := Lib.hid hbl
    have hmi : (m : Int) ≤ 3 := by omega
    have hm0 : (0 : Int) ≤ (m : Int) := by omega
    clear hg1 hr1 hnb hn hnn hbs hbl hI hm hvb hbsx
    by_cases h13 : n.op = 13
    · have e0 := eq_t h13
      rw [if_pos (.inl h13)] at hst
      have HST := Lib.hid hst
      clear hst h13
      gi_wp2
      gi_loopw [36] (fun i wr => ∃ j : Nat, j ≤ m ∧ i = .int .i64 j ∧ Hid (ArS w4 V (w.heap.size + 1) (w.heap.size + 1 + 1 + 1) g b n ((argsL n j).foldl (fun b x => b.set x.toNat true) bs) wr)) (fun i _ => m - (intOf i).toNat)
      case atStart => exact ⟨0, Nat.zero_le _, rfl, H0⟩
      case round =>
        clear H0 vx v3 n0 n1 nz z1 z2
        obtain ⟨j, hj, rfl, HF⟩ := hrel
        by_cases hlt : j < m
        · obtain ⟨q, hq, hql⟩ := HArg.out j hlt
          obtain ⟨v3, z2, z1⟩ := HV3.out wr HF.out.gr
          have hcell : wr.cell? ⟨b, 2 + j, none⟩ = some (.int .i64 (q : Int)) := by
            obtain ⟨_, _, n2, n3, n4, _, _, _, _⟩ := node_box2 HF.out.nb
            have hc : j = 0 ∨ j = 1 ∨ j = 2 := by omega
            rcases hc with rfl | rfl | rfl
            · rw [← hq]; exact n2
            · rw [← hq]; exact n3
            · rw [← hq]; exact n4
          have nz := (Array.getElem?_eq_some_iff.1 HF.out.nb).1
          have hjm : (j : Int) < (m : Int) := by omega
          have hqi : (q : Int) < (l.length : Int) := by omega
          have hq0 : (0 : Int) ≤ (q : Int) := by omega
          have xf := row_frozen HF.out.row
          obtain ⟨vq, hvq⟩ : ∃ vq, ((argsL n j).foldl (fun b x => b.set x.toNat true) bs)[q]? = some vq := ⟨_, List.getElem?_eq_getElem (by rw [setI_len, HBL.out]; exact hql)⟩
          have xq := bool_cell HF.out.row hvq
          have hst2 := HF.out.set q (by omega) (by omega) (by omega)
          have HN : Hid (ArS w4 V (w.heap.size + 1) (w.heap.size + 1 + 1 + 1) g b n ((argsL n (j + 1)).foldl (fun b x => b.set x.toNat true) bs) (wr.setCell ⟨w.heap.size + 1, q, none⟩ (.bool true))) := by
            show ArS _ _ _ _ _ _ _ _ _
            have e : argsL n (j + 1) = argsL n j ++ [(q : Int)] := by unfold argsL; rw [List.range_succ, List.map_append, ← hq]; rfl
            rw [e, List.foldl_append]
            exact hst2
          clear hst2 hvq hq
          gi_wp2
          go_roundw
          case rel => exact ⟨j + 1, by omega, by go_num, HN⟩
          case measure => simp [intOf]; omega
        · obtain rfl : j = m := by omega
          have HQ : Hid (KeepsFrom w4.heap.size V wr ∧ KeepB (w.heap.size + 1 + 1 + 1) g V wr ∧ ArI l (w.heap.size + 1) w4 (pre ++ [x]) wr) := HP.out wr HF.out.ko HF.out.kb HF.out.gr (by rw [HST.out]; exact HF.out.row)
          clear HF
          gi_wp2
          exact HQ.out
    · have e0 := eq_f h13
      by_cases h1 : n.op = 1
      · have e1 := eq_t h1
        cases vb with
        | true =>
          rw [if_pos (.inr ⟨h1, rfl⟩)] at hst
          have HST := Lib.hid hst
          clear hst h13 h1
          gi_wp2
          gi_loopw [36] (fun i wr => ∃ j : Nat, j ≤ m ∧ i = .int .i64 j ∧ Hid (ArS w4 V (w.heap.size + 1) (w.heap.size + 1 + 1 + 1) g b n ((argsL n j).foldl (fun b x => b.set x.toNat true) bs) wr)) (fun i _ => m - (intOf i).toNat)
          case atStart => exact ⟨0, Nat.zero_le _, rfl, H0⟩
          case round =>
            clear H0 vx v3 n0 n1 nz z1 z2
            obtain ⟨j, hj, rfl, HF⟩ := hrel
            by_cases hlt : j < m
            · obtain ⟨q, hq, hql⟩ := HArg.out j hlt
              obtain ⟨v3, z2, z1⟩ := HV3.out wr HF.out.gr
              have hcell : wr.cell? ⟨b, 2 + j, none⟩ = some (.int .i64 (q : Int)) := by
                obtain ⟨_, _, n2, n3, n4, _, _, _, _⟩ := node_box2 HF.out.nb
                have hc : j = 0 ∨ j = 1 ∨ j = 2 := by omega
                rcases hc with rfl | rfl | rfl
                · rw [← hq]; exact n2
                · rw [← hq]; exact n3
                · rw [← hq]; exact n4
              have nz := (Array.getElem?_eq_some_iff.1 HF.out.nb).1
              have hjm : (j : Int) < (m : Int) := by omega
              have hqi : (q : Int) < (l.length : Int) := by omega
              have hq0 : (0 : Int) ≤ (q : Int) := by omega
              have xf := row_frozen HF.out.row
              obtain ⟨vq, hvq⟩ : ∃ vq, ((argsL n j).foldl (fun b x => b.set x.toNat true) bs)[q]? = some vq := ⟨_, List.getElem?_eq_getElem (by rw [setI_len, HBL.out]; exact hql)⟩
              have xq := bool_cell HF.out.row hvq
              have hst2 := HF.out.set q (by omega) (by omega) (by omega)
              have HN : Hid (ArS w4 V (w.heap.size + 1) (w.heap.size + 1 + 1 + 1) g b n ((argsL n (j + 1)).foldl (fun b x => b.set x.toNat true) bs) (wr.setCell ⟨w.heap.size + 1, q, none⟩ (.bool true))) := by
                show ArS _ _ _ _ _ _ _ _ _
                have e : argsL n (j + 1) = argsL n j ++ [(q : Int)] := by unfold argsL; rw [List.range_succ, List.map_append, ← hq]; rfl
                rw [e, List.foldl_append]
                exact hst2
              clear hst2 hvq hq
              gi_wp2
              go_roundw
              case rel => exact ⟨j + 1, by omega, by go_num, HN⟩
              case measure => simp [intOf]; omega
            · obtain rfl : j = m := by omega
              have HQ : Hid (KeepsFrom w4.heap.size V wr ∧ KeepB (w.heap.size + 1 + 1 + 1) g V wr ∧ ArI l (w.heap.size + 1) w4 (pre ++ [x]) wr) := HP.out wr HF.out.ko HF.out.kb HF.out.gr (by rw [HST.out]; exact HF.out.row)
              clear HF
              gi_wp2
              exact HQ.out
        | false =>
          rw [if_neg (fun h => h.elim h13 (fun h => by cases h.2))] at hst
          have HST := Lib.hid hst
          clear hst h13 h1
          gi_wp2
          exact HP.out V H0.out.ko H0.out.kb H0.out.gr (by rw [HST.out]; exact H0.out.row)
      · have e1 := eq_f h1
        rw [if_neg (fun h => h.elim h13 (fun h => h1 h.1))] at hst
        have HST := Lib.hid hst
        clear hst h13 h1
        gi_wp2
        exact HP.out V H0.out.ko H0.out.kb H0.out.gr (by rw [HST.out]; exact H0.out.row)
  case done =>
    rintro D ys W hD hS ⟨hg1, hr1⟩ hK
    rw [hS] at hr1
    have HR : Hid (W.heap[w.heap.size + 1]? = some (.cells (boolRow (argB l)) 4 (0, 0))) := hr1
    have v3 : W.cell? ⟨w.heap.size + 1 + 1, 0, none⟩ = some (.slice (some ⟨w.heap.size + 1, 0, none⟩) l.length l.length) := (cell_of_row _ _ 0 _ _ _ ((hg1.block _ (by omega) (fun e => by have := Option.some.inj e; omega)).trans HI4.out)).trans rfl
    have hz : w.heap.size + 1 + 1 < W.heap.size := by have := hg1.size; omega
    have HBw : Hid (Below w.heap.size w W) := HB4.out.grown hg1 (by omega) (fun j e => by cases e; omega)
    have HM : Hid (Marks (w.heap.size + 4) [{ target := .collected D, args := #[] }] W) := by
      refine ⟨[D], rfl, by simp, fun E hE => ?_⟩
      obtain rfl : E = D := by simpa using hE
      exact ⟨by omega, hK⟩
    clear hr1 hg1 hS hK
    gi_wp2
    refine Marks.leave (by simp) HM.out (fun w' hb hc => ?_)
    exact ⟨_, results_tmp rfl _ _ _, rfl, hc _ _ _ _ HR.out, HBw.out.trans (hb.mono (by omega))⟩
  case stop =>
    rintro D c' pre W _ _ h _
    exact h.elim
end Go.Proofs.YtaiabpbcipnjaaaDoor.Tm
