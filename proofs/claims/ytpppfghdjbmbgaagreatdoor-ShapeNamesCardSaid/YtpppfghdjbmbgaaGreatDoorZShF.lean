/- Conjunctions, disjunctions, equalities. -/
import Derived.Test.YtpppfghdjbmbgaaGreatDoorZShD
namespace Go.Proofs.YtpppfghdjbmbgaaGreatDoor.Tm
open Go.RowKit
set_option linter.unusedVariables false
theorem MkrR.lit {V : World} {c : List NodeA} {a : Option Addr} {ca : Nat} {la : Option Addr} (h : MkrR V c a ca la) {k : Nat} (hk : k < c.length) : ∃ g o : Nat, la = some ⟨g, o, none⟩ ∧ g < V.heap.size ∧ V.cell? ⟨g, o + k, none⟩ = some (.int .i64 (litS c k)) := h.lits.cell (litsM_at hk)
theorem litS_i64 {c : List NodeA} (hC : Cl c) {k : Nat} (hk : k < c.length) : I64 (litS c k) := lits_i64 hC _ (List.mem_of_getElem? (litsM_at hk))
theorem keep0 {V W : World} {xs : List Int} {v : Value} (h : RowO V 0 xs v) (hb : Below V.heap.size V W) : RowO W 0 xs v := h.keep hb
theorem RowO.slice {V : World} {b : Nat} {xs : List Int} {v : Value} (h : RowO V b xs v) : ∃ a l c, v = .slice a l c := by
  rcases h.2 with ⟨rfl, _⟩ | ⟨g, cap, cur, rfl, _⟩
  · exact ⟨_, _, _, rfl⟩
  · exact ⟨_, _, _, rfl⟩
theorem clM_i64 {xs : List Int} (h : ∀ x ∈ xs, I64 x) : ∀ x ∈ clM xs, I64 x := fun x hx => h x (clM_mem.1 hx)
theorem i1 {x : Int} (hx : I64 x) : ∀ z ∈ clM [x], I64 z := clM_i64 (fun z hz => by simp at hz; subst hz; exact hx)
theorem i2 {x y : Int} (hx : I64 x) (hy : I64 y) : ∀ z ∈ clM [x, y], I64 z := clM_i64 (fun z hz => by simp at hz; rcases hz with rfl | rfl <;> assumption)
theorem i3 {x y u : Int} (hx : I64 x) (hy : I64 y) (hu : I64 u) : ∀ z ∈ clM [x, y, u], I64 z := clM_i64 (fun z hz => by simp at hz; rcases hz with rfl | rfl | rfl <;> assumption)
theorem lits_new (V : World) (xs : List Int) (h : xs.length ≤ 100) : RowO (V.alloc (.cells (intRow xs) 3)) V.heap.size xs (.slice (some ⟨V.heap.size, 0, none⟩) xs.length xs.length) :=
  ⟨by simp, .inr ⟨V.heap.size, xs.length, _, rfl, Nat.le_refl _, heap_alloc_new _ _, Nat.le_refl _, Nat.le_trans h (by decide), by simp [intRow], by rw [Nat.mul_one]; unfold intRow; rw [List.toList_toArray, List.take_of_length_le (by simp)]⟩⟩
theorem clause_new (xs : List Int) (h : xs.length ≤ 100) (V : World) :
    Calls Tryz.prog 92 #[.slice (some ⟨V.heap.size, 0, none⟩) xs.length xs.length] (V.alloc (.cells (intRow xs) 3)) fun e w' => ∃ a l c, e = .returned (.slice a l c) ∧ Hid (RowO w' 0 (clM xs) (.slice a l c)) ∧ Hid (Below V.heap.size V w') :=
  (clause_any xs _ V.heap.size _ (lits_new V xs h) (by simp) h).mono fun e w' ⟨v', h1, h2, h3⟩ => by
    obtain ⟨a, l, c, rfl⟩ := h2.slice
    exact ⟨a, l, c, h1, h2.base (Nat.zero_le _), ((Below.refl _ V).alloc (Nat.le_refl _) _).trans h3⟩
theorem clause1 (x : Int) (V : World) :
    Calls Tryz.prog 92 #[.slice (some ⟨V.heap.size, 0, none⟩) 1 1] (V.alloc (.cells #[.int .i64 x] 3)) fun e w' => ∃ a l c, e = .returned (.slice a l c) ∧ Hid (RowO w' 0 (clM [x]) (.slice a l c)) ∧ Hid (Below V.heap.size V w') := clause_new [x] (by simp) V
theorem clause2 (x y : Int) (V : World) :
    Calls Tryz.prog 92 #[.slice (some ⟨V.heap.size, 0, none⟩) 2 2] (V.alloc (.cells #[.int .i64 x, .int .i64 y] 3)) fun e w' => ∃ a l c, e = .returned (.slice a l c) ∧ Hid (RowO w' 0 (clM [x, y]) (.slice a l c)) ∧ Hid (Below V.heap.size V w') := clause_new [x, y] (by simp) V
theorem clause3 (x y u : Int) (V : World) :
    Calls Tryz.prog 92 #[.slice (some ⟨V.heap.size, 0, none⟩) 3 3] (V.alloc (.cells #[.int .i64 x, .int .i64 y, .int .i64 u] 3)) fun e w' => ∃ a l c, e = .returned (.slice a l c) ∧ Hid (RowO w' 0 (clM [x, y, u]) (.slice a l c)) ∧ Hid (Below V.heap.size V w') := clause_new [x, y, u] (by simp) V
/-- Their blocks hold ints. -/
def IntT (V : World) (rs : List RowD) : Prop := ∀ r ∈ rs, ∀ g o, r.a = some ⟨g, o, none⟩ → ∃ cs, V.heap[g]? = some (.cells cs 3 (0, 0))
theorem IntT.below {V W : World} {rs : List RowD} (h : IntT V rs) (hb : Below V.heap.size V W) : IntT W rs := fun r hr g o e => by
  obtain ⟨cs, hc⟩ := h r hr g o e
  exact ⟨cs, (hb.block _ (Array.getElem?_eq_some_iff.1 hc).1).trans hc⟩
/-- A row of clauses, read. -/
def RowsP (V : World) (v : Value) (xss : List (List Int)) : Prop := ∃ rs a c, v = .slice a rs.length c ∧ rs.map RowD.xs = xss ∧ RowsR V rs a c ∧ IntT V rs
theorem RowsP.below {V W : World} {v : Value} {xss : List (List Int)} (h : RowsP V v xss) (hb : Below V.heap.size V W) : RowsP W v xss := by
  obtain ⟨rs, a, c, h1, h2, h3, h4⟩ := h
  exact ⟨rs, a, c, h1, h2, h3.below hb, h4.below hb⟩
theorem RowO.block {V : World} {b : Nat} {xs : List Int} {v : Value} (h : RowO V b xs v) : ∀ a l c g o, v = .slice a l c → a = some ⟨g, o, none⟩ → ∃ cs, V.heap[g]? = some (.cells cs 3 (0, 0)) := by
  rintro a l c g o rfl rfl
  rcases h.2 with ⟨e, _⟩ | ⟨g', cap, cur, e, _, h2, _⟩
  · cases e
  · cases e
    exact ⟨cur, h2⟩
inductive F2 (R : List Int → Value → Prop) : List (List Int) → List Value → Prop where
  | nil : F2 R [] []
  | cons {x y l m} : R x y → F2 R l m → F2 R (x :: l) (y :: m)
theorem rows_of {V : World} {xss : List (List Int)} {vs : List Value} (h : F2 (fun xs v => RowO V 0 xs v ∧ ∀ x ∈ xs, I64 x) xss vs) : ∃ rs : List RowD, rs.map RowD.xs = xss ∧ rs.map rowV = vs ∧ (∀ r ∈ rs, IntsR V r.xs r.a r.c) ∧ IntT V rs := by
  induction h with
  | nil => exact ⟨[], rfl, rfl, fun _ h => by simp at h, fun _ h => by simp at h⟩
  | @cons xs v xss vs h1 h2 ih =>
    obtain ⟨rs, e1, e2, e3, e4⟩ := ih
    obtain ⟨a, c, ev, hI⟩ := h1.1.ints h1.2
    refine ⟨⟨xs, a, c⟩ :: rs, by rw [List.map_cons, e1], by rw [List.map_cons, e2, ev]; rfl, fun r hr => ?_, fun r hr g o e => ?_⟩
    · rcases List.mem_cons.1 hr with rfl | hr
      · exact hI
      · exact e3 r hr
    · rcases List.mem_cons.1 hr with rfl | hr
      · exact h1.1.block _ _ _ g o ev e
      · exact e4 r hr g o e
theorem rows_new {V : World} {xss : List (List Int)} {vs : List Value} (h : F2 (fun xs v => RowO V 0 xs v ∧ ∀ x ∈ xs, I64 x) xss vs) (hm : vs.length ≤ 100 := by simp) : RowsP (V.alloc (.cells vs.toArray 27)) (.slice (some ⟨V.heap.size, 0, none⟩) vs.length vs.length) xss := by
  obtain ⟨rs, e1, e2, e3, e4⟩ := rows_of h
  have hl : rs.length = vs.length := by rw [← e2, List.length_map]
  have hc : vs.length ≤ maxLen := Nat.le_trans hm (by decide)
  refine ⟨rs, _, vs.length, by rw [hl], e1, ⟨by omega, hc, ?_, fun r hr => (e3 r hr).below ((Below.refl _ V).alloc (Nat.le_refl _) _)⟩, e4.below ((Below.refl _ V).alloc (Nat.le_refl _) _)⟩
  rw [e2]
  intro _
  exact ⟨V.heap.size, 0, rfl, by simp, fun i v hv => by rw [cell_of_row _ _ _ _ _ _ (heap_alloc_new V _), Nat.zero_add, ← Array.getElem?_toList]; exact hv⟩
theorem rows_nil (V : World) : RowsP V (.slice none 0 0) [] := ⟨[], none, 0, rfl, rfl, ⟨Nat.le_refl _, Nat.zero_le _, fun h => absurd h (by simp), fun _ h => by simp at h⟩, fun _ h => by simp at h⟩
set_option maxRecDepth 100000 in
set_option maxHeartbeats 8000000 in
theorem choice_any (t c a b : Int) (ht : I64 t) (hc : I64 c) (ha : I64 a) (hb : I64 b) (w : World) :
    Calls Tryz.prog 93 #[.int .i64 t, .int .i64 c, .int .i64 a, .int .i64 b] w fun e w' => ∃ v, e = .returned v ∧ Hid (RowsP w' v [clM [ngL t, ngL c, a], clM [ngL t, c, b], clM [t, ngL c, ngL a], clM [t, c, ngL b]]) ∧ Hid (Below w.heap.size w w') := by
  have HB0 : Hid (Below w.heap.size w w) := Below.refl _ _
  have ht := Lib.hid ht
  have hc := Lib.hid hc
  have ha := Lib.hid ha
  have hb := Lib.hid hb
  go_enter Tryz.func93, Tryz.ntmps93
  go_wp2_with (first
    | (have _hh := HB3.out; go_at_call 92; refine (clause3 _ _ _ _).mono ?_; rintro e w4 ⟨va4, vl4, vc4, rfl, HR4, HB4⟩)
    | (have _hh := HB2.out; go_at_call 92; refine (clause3 _ _ _ _).mono ?_; rintro e w3 ⟨va3, vl3, vc3, rfl, HR3, HB3⟩)
    | (have _hh := HB1.out; go_at_call 92; refine (clause3 _ _ _ _).mono ?_; rintro e w2 ⟨va2, vl2, vc2, rfl, HR2, HB2⟩)
    | (go_at_call 92; refine (clause3 _ _ _ _).mono ?_; rintro e w1 ⟨va1, vl1, vc1, rfl, HR1, HB1⟩)
    | (go_at_call 71; refine (Neg_any _ _ (by first | exact ht.out | exact hc.out | exact ha.out | exact hb.out)).mono ?_; rintro e w9 ⟨rfl, rfl⟩)
  )
  go_ret
  exact ⟨_, rfl, rows_new (.cons ⟨(keep0 (keep0 (keep0 HR1.out HB2.out) HB3.out) HB4.out), (i3 (ngL_i64 ht.out) (ngL_i64 hc.out) (ha.out))⟩ (.cons ⟨(keep0 (keep0 HR2.out HB3.out) HB4.out), (i3 (ngL_i64 ht.out) (hc.out) (hb.out))⟩ (.cons ⟨(keep0 HR3.out HB4.out), (i3 (ht.out) (ngL_i64 hc.out) (ngL_i64 ha.out))⟩ (.cons ⟨HR4.out, (i3 (ht.out) (hc.out) (ngL_i64 hb.out))⟩ .nil)))), ((ball (ball (ball (ball HB0.out HB1.out) HB2.out) HB3.out) HB4.out)).alloc ((ball (ball (ball (ball HB0.out HB1.out) HB2.out) HB3.out) HB4.out)).size _⟩
theorem truth_any (c : List NodeA) (a : Option Addr) (ca : Nat) (la : Option Addr) (k : Nat) (hk : k ≤ 3000) (w : World) :
    Calls Tryz.prog 73 #[.agg #[.slice a c.length ca, .slice la c.length c.length, .func (.func 73) #[] #[], .nilFunc, .func (.func 74) #[] #[], .func (.func 75) #[] #[], .nilFunc, .nilFunc, .func (.func 76) #[] #[], .func (.func 77) #[] #[], .nilFunc, .nilFunc, .nilFunc, .nilFunc, .nilFunc, .nilFunc], .int .i64 k] w fun e w' => ∃ v, e = .returned v ∧ Hid (RowsP w' v [clM [2 * (k : Int)]]) ∧ Hid (Below w.heap.size w w') := by
  have HMk : Hid (∀ V, Calls Tryz.prog 70 #[.int .i64 k, .bool false] V fun e w' => e = .returned (.int .i64 (2 * (k : Int))) ∧ V = w') := fun V => Make_any k V hk
  obtain ⟨W0, hW0⟩ : ∃ W0, W0 = w.alloc (.cells #[.slice a c.length ca, .slice la c.length c.length, .func (.func 73) #[] #[], .nilFunc, .func (.func 74) #[] #[], .func (.func 75) #[] #[], .nilFunc, .nilFunc, .func (.func 76) #[] #[], .func (.func 77) #[] #[], .nilFunc, .nilFunc, .nilFunc, .nilFunc, .nilFunc, .nilFunc] 87) := ⟨_, rfl⟩
  have HB0 : Hid (Below w.heap.size w W0) := by rw [hW0]; exact (Below.refl _ w).alloc (Nat.le_refl _) _
  have ht : I64 (2 * (k : Int)) := ⟨by omega, by omega⟩
  go_enter Tryz.func73, Tryz.ntmps73
  go_wp2_with fail
  rw [← hW0]
  clear hW0
  go_wp2_with (first
    | (go_at_call 70; refine (HMk.out _).mono ?_; rintro e w9 ⟨rfl, rfl⟩)
    | (go_at_call 92; refine (clause1 (2 * (k : Int)) _).mono ?_; rintro e w1 ⟨va1, vl1, vc1, rfl, HR1, HB1⟩))
  go_ret
  exact ⟨_, rfl, rows_new (.cons ⟨HR1.out, i1 ht⟩ .nil), (ball HB0.out HB1.out).alloc (ball HB0.out HB1.out).size _⟩
end Go.Proofs.YtpppfghdjbmbgaaGreatDoor.Tm
namespace Go.Proofs.YtpppfghdjbmbgaaGreatDoor.Tm
open Go.RowKit
set_option linter.unusedVariables false
theorem box_maker {w W0 : World} {cs : Array Value} {ty : TypeId} (hW0 : W0 = w.alloc (.cells cs ty)) : Below w.heap.size w W0 ∧ W0.heap[w.heap.size]? = some (.cells cs ty (0, 0)) ∧ w.heap.size < W0.heap.size := by
  subst hW0
  exact ⟨(Below.refl _ w).alloc (Nat.le_refl _) _, heap_alloc_new w _, by simp⟩
/-- Places in the table and what they read. -/
theorem MkrR.lit0 {V : World} {c : List NodeA} {a : Option Addr} {ca : Nat} {g o : Nat} (h : MkrR V c a ca (some ⟨g, o, none⟩)) {k : Nat} (hk : k < c.length) : V.cell? ⟨g, o + k, none⟩ = some (.int .i64 (litS c k)) := by
  obtain ⟨_, _, e, _, r⟩ := h.lit hk
  cases e
  exact r
theorem MkrR.nod0 {V : World} {c : List NodeA} {g o : Nat} {ca : Nat} {la : Option Addr} (h : MkrR V c (some ⟨g, o, none⟩) ca la) {k : Nat} {n : NodeA} (hk : c[k]? = some n) : V.cell? ⟨g, o + k * 8 + 5, none⟩ = some (.int .i64 n.sort) := by
  obtain ⟨_, _, e, _, _, _, _, _, _, r, _⟩ := h.tab.node hk
  cases e
  exact r
set_option maxRecDepth 100000 in
set_option maxHeartbeats 8000000 in
theorem and_any (c : List NodeA) (hC : Cl c) (a : Option Addr) (ca : Nat) (la : Option Addr) (k : Nat) (n : NodeA) (w : World) (hM : MkrR w c a ca la) (hn : c[k]? = some n) (i j : Nat) (hi : n.a0 = i) (hj : n.a1 = j) (hic : i < c.length) (hjc : j < c.length) :
    Calls Tryz.prog 74 #[.agg #[.slice a c.length ca, .slice la c.length c.length, .func (.func 73) #[] #[], .nilFunc, .func (.func 74) #[] #[], .func (.func 75) #[] #[], .nilFunc, .nilFunc, .func (.func 76) #[] #[], .func (.func 77) #[] #[], .nilFunc, .nilFunc, .nilFunc, .nilFunc, .nilFunc, .nilFunc], .int .i64 k] w fun e w' => ∃ v, e = .returned v ∧ Hid (RowsP w' v [clM [ngL (litS c k), (litS c i)], clM [ngL (litS c k), (litS c j)], clM [(litS c k), ngL (litS c i), ngL (litS c j)]]) ∧ Hid (Below w.heap.size w w') := by
  have hkc : k < c.length := (List.getElem?_eq_some_iff.1 hn).1
  have hlen : c.length ≤ 2000 := hC.len
  obtain ⟨W0, hW0⟩ : ∃ W0, W0 = w.alloc (.cells #[.slice a c.length ca, .slice la c.length c.length, .func (.func 73) #[] #[], .nilFunc, .func (.func 74) #[] #[], .func (.func 75) #[] #[], .nilFunc, .nilFunc, .func (.func 76) #[] #[], .func (.func 77) #[] #[], .nilFunc, .nilFunc, .nilFunc, .nilFunc, .nilFunc, .nilFunc] 87) := ⟨_, rfl⟩
  obtain ⟨hB0', hbx, hbz⟩ := box_maker hW0
  have hM0 := hM.below hB0'
  have HB0 : Hid (Below w.heap.size w W0) := hB0'
  obtain ⟨g, o, rfl, hg, q0, q1, q2, q3, q4, q5, q6, q7⟩ := hM0.tab.node hn
  obtain ⟨gl, ol, rfl, hgl, r0⟩ := hM0.lit hkc
  have b0 : W0.cell? ⟨w.heap.size, 0, none⟩ = some (.slice (some ⟨g, o, none⟩) c.length ca) := (cell_of_row _ _ 0 _ _ _ hbx).trans rfl
  have b1 : W0.cell? ⟨w.heap.size, 1, none⟩ = some (.slice (some ⟨gl, ol, none⟩) c.length c.length) := (cell_of_row _ _ 1 _ _ _ hbx).trans rfl
  have hki : (k : Int) < (c.length : Int) := by omega
  have hk0 : (0 : Int) ≤ (k : Int) := by omega
  have ht' := litS_i64 hC hkc
  have r1 := hM0.lit0 hic
  have ha' := litS_i64 hC hic
  rw [hi] at q2
  have hii : (i : Int) < (c.length : Int) := by omega
  have hi0 : (0 : Int) ≤ (i : Int) := by omega
  have r2 := hM0.lit0 hjc
  have hb' := litS_i64 hC hjc
  rw [hj] at q3
  have hji : (j : Int) < (c.length : Int) := by omega
  have hj0 : (0 : Int) ≤ (j : Int) := by omega
  obtain ⟨t, ht_⟩ : ∃ t, t = litS c k := ⟨_, rfl⟩
  obtain ⟨a, ha_⟩ : ∃ t, t = litS c i := ⟨_, rfl⟩
  obtain ⟨b, hb_⟩ : ∃ t, t = litS c j := ⟨_, rfl⟩
  rw [← ht_] at r0 ht' ⊢
  rw [← ha_] at r1 ha' ⊢
  rw [← hb_] at r2 hb' ⊢
  have ht := Lib.hid ht'
  have ha := Lib.hid ha'
  have hb := Lib.hid hb'
  clear hbx hn hM hM0 hC hB0' ht_ ha_ hb_ ht' ha' hb'
  have hA0 := hW0.symm
  clear hW0
  go_enter Tryz.func74, Tryz.ntmps74
  go_wp2
  go_quiet (fail)
  obtain ⟨V0, hV0⟩ : ∃ V0, V0 = (W0.alloc (.cells #[.int .i8 n.op, .int .i8 n.len, .int .i64 i, .int .i64 j, .int .i64 n.a2, .int .i64 n.sort, .int .i64 n.fn, .int .i64 n.num] 54)).drewN nq := ⟨_, rfl⟩
  have HV0 : Hid (Below w.heap.size w V0) := by rw [hV0]; exact below_drewN (HB0.out.alloc (Nat.le_of_lt hbz) _)
  rw [← hV0]
  clear hV0 hA0 q0 q1 q2 q3 q4 q5 q6 q7 b0 b1 r0 r1 r2
  go_wp2_with (first
    | (have _hh := HB2.out; go_at_call 92; refine (clause3 _ _ _ _).mono ?_; rintro e w3 ⟨va3, vl3, vc3, rfl, HR3, HB3⟩)
    | (have _hh := HB1.out; go_at_call 92; refine (clause2 _ _ _).mono ?_; rintro e w2 ⟨va2, vl2, vc2, rfl, HR2, HB2⟩)
    | (go_at_call 92; refine (clause2 _ _ _).mono ?_; rintro e w1 ⟨va1, vl1, vc1, rfl, HR1, HB1⟩)
    | (go_at_call 71; refine (Neg_any _ _ (by first | exact ht.out | exact ha.out | exact hb.out)).mono ?_; rintro e w9 ⟨rfl, rfl⟩)
  )
  go_ret
  exact ⟨_, rfl, rows_new (.cons ⟨(keep0 (keep0 HR1.out HB2.out) HB3.out), (i2 (ngL_i64 ht.out) (ha.out))⟩ (.cons ⟨(keep0 HR2.out HB3.out), (i2 (ngL_i64 ht.out) (hb.out))⟩ (.cons ⟨HR3.out, (i3 (ht.out) (ngL_i64 ha.out) (ngL_i64 hb.out))⟩ .nil))), ((ball (ball (ball HV0.out HB1.out) HB2.out) HB3.out)).alloc ((ball (ball (ball HV0.out HB1.out) HB2.out) HB3.out)).size _⟩
set_option maxRecDepth 100000 in
set_option maxHeartbeats 8000000 in
theorem or_any (c : List NodeA) (hC : Cl c) (a : Option Addr) (ca : Nat) (la : Option Addr) (k : Nat) (n : NodeA) (w : World) (hM : MkrR w c a ca la) (hn : c[k]? = some n) (i j : Nat) (hi : n.a0 = i) (hj : n.a1 = j) (hic : i < c.length) (hjc : j < c.length) :
    Calls Tryz.prog 75 #[.agg #[.slice a c.length ca, .slice la c.length c.length, .func (.func 73) #[] #[], .nilFunc, .func (.func 74) #[] #[], .func (.func 75) #[] #[], .nilFunc, .nilFunc, .func (.func 76) #[] #[], .func (.func 77) #[] #[], .nilFunc, .nilFunc, .nilFunc, .nilFunc, .nilFunc, .nilFunc], .int .i64 k] w fun e w' => ∃ v, e = .returned v ∧ Hid (RowsP w' v [clM [(litS c k), ngL (litS c i)], clM [(litS c k), ngL (litS c j)], clM [ngL (litS c k), (litS c i), (litS c j)]]) ∧ Hid (Below w.heap.size w w') := by
  have hkc : k < c.length := (List.getElem?_eq_some_iff.1 hn).1
  have hlen : c.length ≤ 2000 := hC.len
  obtain ⟨W0, hW0⟩ : ∃ W0, W0 = w.alloc (.cells #[.slice a c.length ca, .slice la c.length c.length, .func (.func 73) #[] #[], .nilFunc, .func (.func 74) #[] #[], .func (.func 75) #[] #[], .nilFunc, .nilFunc, .func (.func 76) #[] #[], .func (.func 77) #[] #[], .nilFunc, .nilFunc, .nilFunc, .nilFunc, .nilFunc, .nilFunc] 87) := ⟨_, rfl⟩
  obtain ⟨hB0', hbx, hbz⟩ := box_maker hW0
  have hM0 := hM.below hB0'
  have HB0 : Hid (Below w.heap.size w W0) := hB0'
  obtain ⟨g, o, rfl, hg, q0, q1, q2, q3, q4, q5, q6, q7⟩ := hM0.tab.node hn
  obtain ⟨gl, ol, rfl, hgl, r0⟩ := hM0.lit hkc
  have b0 : W0.cell? ⟨w.heap.size, 0, none⟩ = some (.slice (some ⟨g, o, none⟩) c.length ca) := (cell_of_row _ _ 0 _ _ _ hbx).trans rfl
  have b1 : W0.cell? ⟨w.heap.size, 1, none⟩ = some (.slice (some ⟨gl, ol, none⟩) c.length c.length) := (cell_of_row _ _ 1 _ _ _ hbx).trans rfl
  have hki : (k : Int) < (c.length : Int) := by omega
  have hk0 : (0 : Int) ≤ (k : Int) := by omega
  have ht' := litS_i64 hC hkc
  have r1 := hM0.lit0 hic
  have ha' := litS_i64 hC hic
  rw [hi] at q2
  have hii : (i : Int) < (c.length : Int) := by omega
  have hi0 : (0 : Int) ≤ (i : Int) := by omega
  have r2 := hM0.lit0 hjc
  have hb' := litS_i64 hC hjc
  rw [hj] at q3
  have hji : (j : Int) < (c.length : Int) := by omega
  have hj0 : (0 : Int) ≤ (j : Int) := by omega
  obtain ⟨t, ht_⟩ : ∃ t, t = litS c k := ⟨_, rfl⟩
  obtain ⟨a, ha_⟩ : ∃ t, t = litS c i := ⟨_, rfl⟩
  obtain ⟨b, hb_⟩ : ∃ t, t = litS c j := ⟨_, rfl⟩
  rw [← ht_] at r0 ht' ⊢
  rw [← ha_] at r1 ha' ⊢
  rw [← hb_] at r2 hb' ⊢
  have ht := Lib.hid ht'
  have ha := Lib.hid ha'
  have hb := Lib.hid hb'
  clear hbx hn hM hM0 hC hB0' ht_ ha_ hb_ ht' ha' hb'
  have hA0 := hW0.symm
  clear hW0
  go_enter Tryz.func75, Tryz.ntmps75
  go_wp2
  go_quiet (fail)
  obtain ⟨V0, hV0⟩ : ∃ V0, V0 = (W0.alloc (.cells #[.int .i8 n.op, .int .i8 n.len, .int .i64 i, .int .i64 j, .int .i64 n.a2, .int .i64 n.sort, .int .i64 n.fn, .int .i64 n.num] 54)).drewN nq := ⟨_, rfl⟩
  have HV0 : Hid (Below w.heap.size w V0) := by rw [hV0]; exact below_drewN (HB0.out.alloc (Nat.le_of_lt hbz) _)
  rw [← hV0]
  clear hV0 hA0 q0 q1 q2 q3 q4 q5 q6 q7 b0 b1 r0 r1 r2
  go_wp2_with (first
    | (have _hh := HB2.out; go_at_call 92; refine (clause3 _ _ _ _).mono ?_; rintro e w3 ⟨va3, vl3, vc3, rfl, HR3, HB3⟩)
    | (have _hh := HB1.out; go_at_call 92; refine (clause2 _ _ _).mono ?_; rintro e w2 ⟨va2, vl2, vc2, rfl, HR2, HB2⟩)
    | (go_at_call 92; refine (clause2 _ _ _).mono ?_; rintro e w1 ⟨va1, vl1, vc1, rfl, HR1, HB1⟩)
    | (go_at_call 71; refine (Neg_any _ _ (by first | exact ht.out | exact ha.out | exact hb.out)).mono ?_; rintro e w9 ⟨rfl, rfl⟩)
  )
  go_ret
  exact ⟨_, rfl, rows_new (.cons ⟨(keep0 (keep0 HR1.out HB2.out) HB3.out), (i2 (ht.out) (ngL_i64 ha.out))⟩ (.cons ⟨(keep0 HR2.out HB3.out), (i2 (ht.out) (ngL_i64 hb.out))⟩ (.cons ⟨HR3.out, (i3 (ngL_i64 ht.out) (ha.out) (hb.out))⟩ .nil))), ((ball (ball (ball HV0.out HB1.out) HB2.out) HB3.out)).alloc ((ball (ball (ball HV0.out HB1.out) HB2.out) HB3.out)).size _⟩
set_option maxRecDepth 100000 in
set_option maxHeartbeats 8000000 in
theorem equal_any (c : List NodeA) (hC : Cl c) (a : Option Addr) (ca : Nat) (la : Option Addr) (k : Nat) (n : NodeA) (w : World) (hM : MkrR w c a ca la) (hn : c[k]? = some n) (i j : Nat) (hi : n.a0 = i) (hj : n.a1 = j) (hic : i < c.length) (hjc : j < c.length) (ni nj : NodeA) (hni : c[i]? = some ni) (hnj : c[j]? = some nj) (h0 : ni.sort = 0) (h1 : nj.sort = 0) :
    Calls Tryz.prog 76 #[.agg #[.slice a c.length ca, .slice la c.length c.length, .func (.func 73) #[] #[], .nilFunc, .func (.func 74) #[] #[], .func (.func 75) #[] #[], .nilFunc, .nilFunc, .func (.func 76) #[] #[], .func (.func 77) #[] #[], .nilFunc, .nilFunc, .nilFunc, .nilFunc, .nilFunc, .nilFunc], .int .i64 k] w fun e w' => ∃ v, e = .returned v ∧ Hid (RowsP w' v [clM [ngL (litS c k), ngL (litS c i), (litS c j)], clM [ngL (litS c k), (litS c i), ngL (litS c j)], clM [(litS c k), (litS c i), (litS c j)], clM [(litS c k), ngL (litS c i), ngL (litS c j)]]) ∧ Hid (Below w.heap.size w w') := by
  have hkc : k < c.length := (List.getElem?_eq_some_iff.1 hn).1
  have hlen : c.length ≤ 2000 := hC.len
  obtain ⟨W0, hW0⟩ : ∃ W0, W0 = w.alloc (.cells #[.slice a c.length ca, .slice la c.length c.length, .func (.func 73) #[] #[], .nilFunc, .func (.func 74) #[] #[], .func (.func 75) #[] #[], .nilFunc, .nilFunc, .func (.func 76) #[] #[], .func (.func 77) #[] #[], .nilFunc, .nilFunc, .nilFunc, .nilFunc, .nilFunc, .nilFunc] 87) := ⟨_, rfl⟩
  obtain ⟨hB0', hbx, hbz⟩ := box_maker hW0
  have hM0 := hM.below hB0'
  have HB0 : Hid (Below w.heap.size w W0) := hB0'
  obtain ⟨g, o, rfl, hg, q0, q1, q2, q3, q4, q5, q6, q7⟩ := hM0.tab.node hn
  obtain ⟨gl, ol, rfl, hgl, r0⟩ := hM0.lit hkc
  have b0 : W0.cell? ⟨w.heap.size, 0, none⟩ = some (.slice (some ⟨g, o, none⟩) c.length ca) := (cell_of_row _ _ 0 _ _ _ hbx).trans rfl
  have b1 : W0.cell? ⟨w.heap.size, 1, none⟩ = some (.slice (some ⟨gl, ol, none⟩) c.length c.length) := (cell_of_row _ _ 1 _ _ _ hbx).trans rfl
  have hki : (k : Int) < (c.length : Int) := by omega
  have hk0 : (0 : Int) ≤ (k : Int) := by omega
  have ht' := litS_i64 hC hkc
  have r1 := hM0.lit0 hic
  have ha' := litS_i64 hC hic
  rw [hi] at q2
  have hii : (i : Int) < (c.length : Int) := by omega
  have hi0 : (0 : Int) ≤ (i : Int) := by omega
  have r2 := hM0.lit0 hjc
  have hb' := litS_i64 hC hjc
  rw [hj] at q3
  have hji : (j : Int) < (c.length : Int) := by omega
  have hj0 : (0 : Int) ≤ (j : Int) := by omega
  have p1 := hM0.nod0 hni
  have p2 := hM0.nod0 hnj
  obtain ⟨t, ht_⟩ : ∃ t, t = litS c k := ⟨_, rfl⟩
  obtain ⟨a, ha_⟩ : ∃ t, t = litS c i := ⟨_, rfl⟩
  obtain ⟨b, hb_⟩ : ∃ t, t = litS c j := ⟨_, rfl⟩
  rw [← ht_] at r0 ht' ⊢
  rw [← ha_] at r1 ha' ⊢
  rw [← hb_] at r2 hb' ⊢
  have ht := Lib.hid ht'
  have ha := Lib.hid ha'
  have hb := Lib.hid hb'
  clear hbx hn hni hnj hM hM0 hC hB0' ht_ ha_ hb_ ht' ha' hb'
  rw [h0] at p1
  rw [h1] at p2
  have hA0 := hW0.symm
  clear hW0
  go_enter Tryz.func76, Tryz.ntmps76
  go_wp2
  go_quiet (fail)
  obtain ⟨V0, hV0⟩ : ∃ V0, V0 = (W0.alloc (.cells #[.int .i8 n.op, .int .i8 n.len, .int .i64 i, .int .i64 j, .int .i64 n.a2, .int .i64 n.sort, .int .i64 n.fn, .int .i64 n.num] 54)).drewN nq := ⟨_, rfl⟩
  have HV0 : Hid (Below w.heap.size w V0) := by rw [hV0]; exact below_drewN (HB0.out.alloc (Nat.le_of_lt hbz) _)
  rw [← hV0]
  clear hV0 hA0 q0 q1 q2 q3 q4 q5 q6 q7 b0 b1 r0 r1 r2 p1 p2
  go_wp2_with (first
    | (have _hh := HB3.out; go_at_call 92; refine (clause3 _ _ _ _).mono ?_; rintro e w4 ⟨va4, vl4, vc4, rfl, HR4, HB4⟩)
    | (have _hh := HB2.out; go_at_call 92; refine (clause3 _ _ _ _).mono ?_; rintro e w3 ⟨va3, vl3, vc3, rfl, HR3, HB3⟩)
    | (have _hh := HB1.out; go_at_call 92; refine (clause3 _ _ _ _).mono ?_; rintro e w2 ⟨va2, vl2, vc2, rfl, HR2, HB2⟩)
    | (go_at_call 92; refine (clause3 _ _ _ _).mono ?_; rintro e w1 ⟨va1, vl1, vc1, rfl, HR1, HB1⟩)
    | (go_at_call 71; refine (Neg_any _ _ (by first | exact ht.out | exact ha.out | exact hb.out)).mono ?_; rintro e w9 ⟨rfl, rfl⟩)
  )
  go_ret
  exact ⟨_, rfl, rows_new (.cons ⟨(keep0 (keep0 (keep0 HR1.out HB2.out) HB3.out) HB4.out), (i3 (ngL_i64 ht.out) (ngL_i64 ha.out) (hb.out))⟩ (.cons ⟨(keep0 (keep0 HR2.out HB3.out) HB4.out), (i3 (ngL_i64 ht.out) (ha.out) (ngL_i64 hb.out))⟩ (.cons ⟨(keep0 HR3.out HB4.out), (i3 (ht.out) (ha.out) (hb.out))⟩ (.cons ⟨HR4.out, (i3 (ht.out) (ngL_i64 ha.out) (ngL_i64 hb.out))⟩ .nil)))), ((ball (ball (ball (ball HV0.out HB1.out) HB2.out) HB3.out) HB4.out)).alloc ((ball (ball (ball (ball HV0.out HB1.out) HB2.out) HB3.out) HB4.out)).size _⟩
set_option maxRecDepth 100000 in
set_option maxHeartbeats 8000000 in
theorem equal_own (c : List NodeA) (hC : Cl c) (a : Option Addr) (ca : Nat) (la : Option Addr) (k : Nat) (n : NodeA) (w : World) (hM : MkrR w c a ca la) (hn : c[k]? = some n) (i j : Nat) (hi : n.a0 = i) (hj : n.a1 = j) (hic : i < c.length) (hjc : j < c.length) (ni nj : NodeA) (hni : c[i]? = some ni) (hnj : c[j]? = some nj) (h0 : ¬ ni.sort = 0) :
    Calls Tryz.prog 76 #[.agg #[.slice a c.length ca, .slice la c.length c.length, .func (.func 73) #[] #[], .nilFunc, .func (.func 74) #[] #[], .func (.func 75) #[] #[], .nilFunc, .nilFunc, .func (.func 76) #[] #[], .func (.func 77) #[] #[], .nilFunc, .nilFunc, .nilFunc, .nilFunc, .nilFunc, .nilFunc], .int .i64 k] w fun e w' => ∃ v, e = .returned v ∧ Hid (RowsP w' v []) ∧ Hid (Below w.heap.size w w') := by
  have hkc : k < c.length := (List.getElem?_eq_some_iff.1 hn).1
  have hlen : c.length ≤ 2000 := hC.len
  obtain ⟨W0, hW0⟩ : ∃ W0, W0 = w.alloc (.cells #[.slice a c.length ca, .slice la c.length c.length, .func (.func 73) #[] #[], .nilFunc, .func (.func 74) #[] #[], .func (.func 75) #[] #[], .nilFunc, .nilFunc, .func (.func 76) #[] #[], .func (.func 77) #[] #[], .nilFunc, .nilFunc, .nilFunc, .nilFunc, .nilFunc, .nilFunc] 87) := ⟨_, rfl⟩
  obtain ⟨hB0', hbx, hbz⟩ := box_maker hW0
  have hM0 := hM.below hB0'
  have HB0 : Hid (Below w.heap.size w W0) := hB0'
  obtain ⟨g, o, rfl, hg, q0, q1, q2, q3, q4, q5, q6, q7⟩ := hM0.tab.node hn
  obtain ⟨gl, ol, rfl, hgl, r0⟩ := hM0.lit hkc
  have b0 : W0.cell? ⟨w.heap.size, 0, none⟩ = some (.slice (some ⟨g, o, none⟩) c.length ca) := (cell_of_row _ _ 0 _ _ _ hbx).trans rfl
  have b1 : W0.cell? ⟨w.heap.size, 1, none⟩ = some (.slice (some ⟨gl, ol, none⟩) c.length c.length) := (cell_of_row _ _ 1 _ _ _ hbx).trans rfl
  have hki : (k : Int) < (c.length : Int) := by omega
  have hk0 : (0 : Int) ≤ (k : Int) := by omega
  have ht' := litS_i64 hC hkc
  have r1 := hM0.lit0 hic
  have ha' := litS_i64 hC hic
  rw [hi] at q2
  have hii : (i : Int) < (c.length : Int) := by omega
  have hi0 : (0 : Int) ≤ (i : Int) := by omega
  have r2 := hM0.lit0 hjc
  have hb' := litS_i64 hC hjc
  rw [hj] at q3
  have hji : (j : Int) < (c.length : Int) := by omega
  have hj0 : (0 : Int) ≤ (j : Int) := by omega
  have p1 := hM0.nod0 hni
  have p2 := hM0.nod0 hnj
  obtain ⟨t, ht_⟩ : ∃ t, t = litS c k := ⟨_, rfl⟩
  obtain ⟨a, ha_⟩ : ∃ t, t = litS c i := ⟨_, rfl⟩
  obtain ⟨b, hb_⟩ : ∃ t, t = litS c j := ⟨_, rfl⟩
  rw [← ht_] at r0 ht'
  rw [← ha_] at r1 ha'
  rw [← hb_] at r2 hb'
  have ht := Lib.hid ht'
  have ha := Lib.hid ha'
  have hb := Lib.hid hb'
  clear hbx hn hni hnj hM hM0 hC hB0' ht_ ha_ hb_ ht' ha' hb'
  have d0 := ne_t h0
  have hA0 := hW0.symm
  clear hW0
  go_enter Tryz.func76, Tryz.ntmps76
  go_wp2
  go_ret
  exact ⟨_, rfl, rows_nil _, HB0.out.alloc (Nat.le_of_lt hbz) _⟩
end Go.Proofs.YtpppfghdjbmbgaaGreatDoor.Tm
