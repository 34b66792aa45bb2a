/- Atoms: the document's Ints; wakes' table. -/
import Derived.Test.YtaiabpbcipnjaaaDoorAtK
import Derived.Test.YtaiabpbcipnjaaaDoorTmN
import Derived.Deep.RegionLaw
namespace Go.Proofs.YtaiabpbcipnjaaaDoor.Tm
open Go.RowKit
set_option linter.unusedVariables false
theorem Ints_same (xs : List Int) (a b : Option Addr) (c d : Nat) (w : World) (hA : IntsR w xs a c) (hB : IntsR w xs b d) :
    Calls Tryd.prog 15 #[.slice a xs.length c, .slice b xs.length d] w fun e w' => e = .returned (.bool true) ∧ Below w.heap.size w w' := by
  have HA := Lib.hid hA
  have HB := Lib.hid hB
  have l1 : xs.length ≤ c := hA.le
  have l2 : xs.length ≤ d := hB.le
  have c1 : xs.length ≤ 9223372036854775807 := by have := hA.cap; simp only [maxLen] at this; omega
  have hne : ((xs.length : Int) != (xs.length : Int)) = false := ne_f rfl
  clear hA hB
  go_enter Tryd.func15, Tryd.ntmps15
  go_wp2
  go_loopw [5] (fun i wr => ∃ k : Nat, k ≤ xs.length ∧ i = .int .i64 k ∧ Hid (Below w.heap.size w wr)) (fun i _ => xs.length - (intOf i).toNat)
  case atStart => exact ⟨0, Nat.zero_le _, rfl, Below.refl _ _⟩
  case round =>
    obtain ⟨k, hkl, rfl, HW⟩ := hrel
    by_cases hlt : k < xs.length
    · obtain ⟨x, hx⟩ : ∃ x, xs[k]? = some x := ⟨_, List.getElem?_eq_getElem hlt⟩
      obtain ⟨g, o, rfl, hg, q0⟩ := (HA.out.below HW.out).cell hx
      obtain ⟨g', o', rfl, hg', r0⟩ := (HB.out.below HW.out).cell hx
      have hxx : (x != x) = false := ne_f rfl
      clear hx
      go_wp2
      go_quiet (fail)
      go_wp2
      go_roundw
      case rel => exact ⟨k + 1, by omega, by go_num, below_drewN HW.out⟩
      case measure => simp [intOf]; omega
    · obtain rfl : k = xs.length := by omega
      go_wp2
      go_ret
      exact ⟨rfl, HW.out⟩
theorem RNew_own (w : World) : Calls Tryd.prog 16 #[] w fun e w' => e = .returned (.agg #[.slice (some ⟨w.heap.size + 1, 0, none⟩) 2 2]) ∧ w'.heap[w.heap.size + 1]? = some (.cells newC 34 (0, 0)) ∧ Below w.heap.size w w' := by
  go_enter Tryd.func16, Tryd.ntmps16
  go_wp2
  have hb := heap_alloc_new (w.alloc (.cells #[.slice (some ⟨w.heap.size + 1, 0, none⟩) 2 2] 24)) (.cells newC 34)
  refine bodyPost_ret (v := .agg #[.slice (some ⟨w.heap.size + 1, 0, none⟩) 2 2]) (by simp [results, Tryd.results16, go_sem]) rfl ⟨rfl, ?_, ?_⟩
  · rw [World.size_alloc] at hb
    exact hb
  · exact ((Below.refl _ w).alloc (Nat.le_refl _) _).alloc (by simp) _
def appN : NodeA := ⟨13, 0, 0, 0, 0, 0, 0, 0⟩
def notN : NodeA := ⟨1, 1, 2, 0, 0, 0, 0, 0⟩
/-- wakes' table. -/
def wakL : List NodeA := [trueN, zeroN, appN, notN]
def newsC : List Value := nodeC appN ++ nodeC notN
theorem infoNode : (Tryd.prog.info? 34).map (fun i => (i.zero, i.size, i.bytes)) = some (some (.agg #[.int .i8 0, .int .i8 0, .int .i64 0, .int .i64 0, .int .i64 0, .int .i64 0, .int .i64 0, .int .i64 0]), 8, 56) := by kernel_rfl
theorem tabSize1 : (Tryd.prog.info? 24).map (·.size) = some 1 := by kernel_rfl
theorem setOne {w : World} {b : Nat} {t : TypeId} {z v : Value} (h : w.heap[b]? = some (.cells #[z] t (0, 0))) : (w.setCell ⟨b, 0, none⟩ v).heap[b]? = some (.cells #[v] t (0, 0)) := by
  simp [World.setCell, Array.getElem?_modify, h]
theorem wak_own {w : World} {base : Nat} {v : Value} (h : w.ownsRow base 34 8 v (2 + 2) (newC.toList ++ newsC)) : ∃ a c, v = .slice a 4 c ∧ TabR w wakL a c := by
  obtain ⟨a, c, e, h1, h2, h3, _⟩ := own_at h
  refine ⟨a, c, e, h1, h2, h3, fun n hn => ?_⟩
  simp only [wakL, List.mem_cons, List.not_mem_nil, or_false] at hn
  rcases hn with rfl | rfl | rfl | rfl <;> exact ⟨⟨by decide, by decide⟩, ⟨by decide, by decide⟩, ⟨by decide, by decide⟩, ⟨by decide, by decide⟩, ⟨by decide, by decide⟩, ⟨by decide, by decide⟩, ⟨by decide, by decide⟩, ⟨by decide, by decide⟩⟩
theorem new_own {w : World} {base g : Nat} (h : w.heap[g]? = some (.cells newC 34 (0, 0))) (hb : base ≤ g) : w.ownsRow base 34 8 (.slice (some ⟨g, 0, none⟩) 2 2) 2 newC.toList := ⟨rfl, .inr ⟨g, 2, newC, rfl, hb, h, Nat.le_refl _, by decide, rfl, rfl⟩⟩
set_option maxRecDepth 100000 in
set_option maxHeartbeats 4000000 in
theorem some_any (w : World) : Calls Tryd.prog 18 #[] w fun e w' => ∃ a c, e = .returned (.agg #[.slice a 4 c]) ∧ TabR w' wakL a c ∧ Below w.heap.size w w' := by
  have HN : Hid (∀ V, Calls Tryd.prog 16 #[] V fun e w' => e = .returned (.agg #[.slice (some ⟨V.heap.size + 1, 0, none⟩) 2 2]) ∧ w'.heap[V.heap.size + 1]? = some (.cells newC 34 (0, 0)) ∧ Below V.heap.size V w') := fun V => RNew_own V
  obtain ⟨W0, hW0⟩ : ∃ W0, W0 = (w.alloc (.cells #[.slice none 0 0] 24)).alloc (.cells #[.int .i8 13, .int .i8 0, .int .i64 0, .int .i64 0, .int .i64 0, .int .i64 0, .int .i64 0, .int .i64 0] 34) := ⟨_, rfl⟩
  have hB0 : Below w.heap.size w W0 := by rw [hW0]; exact ((Below.refl _ _).alloc (Nat.le_refl _) _).alloc (by simp) _
  have hz0 : W0.heap.size = w.heap.size + 2 := by rw [hW0]; simp
  have hr0 : W0.heap[w.heap.size]? = some (.cells #[.slice none 0 0] 24 (0, 0)) := by rw [hW0]; exact (Below.heap_alloc _ _ _ (by simp)).trans (heap_alloc_new w _)
  have hn0 : W0.heap[w.heap.size + 1]? = some (.cells #[.int .i8 13, .int .i8 0, .int .i64 0, .int .i64 0, .int .i64 0, .int .i64 0, .int .i64 0, .int .i64 0] 34 (0, 0)) := by
    have := heap_alloc_new (w.alloc (.cells #[.slice none 0 0] 24)) (.cells #[.int .i8 13, .int .i8 0, .int .i64 0, .int .i64 0, .int .i64 0, .int .i64 0, .int .i64 0, .int .i64 0] 34)
    rw [World.size_alloc] at this
    rw [hW0]; exact this
  have HS : Hid (∀ V, Below W0.heap.size W0 V → V.heap[w.heap.size + 1]? = some (.cells #[.int .i8 13, .int .i8 0, .int .i64 0, .int .i64 0, .int .i64 0, .int .i64 0, .int .i64 0, .int .i64 0] 34 (0, 0))) := fun V hV => (hV.block _ (Array.getElem?_eq_some_iff.1 hn0).1).trans hn0
  have hfd := field_tab
  have HR : Hid (∀ V, Below W0.heap.size W0 V → V.heap[w.heap.size]? = some (.cells #[.slice none 0 0] 24 (0, 0))) := fun V hV => (hV.block _ (by omega)).trans hr0
  have HB0 := Lib.hid hB0
  obtain ⟨i0, hi, hz1, hz2, hz3⟩ := info_parts infoNode
  have hza : W0.heap.size ≤ w.heap.size + 2 := by omega
  have hzb : w.heap.size + 2 ≤ W0.heap.size := by omega
  have one : ∀ u ∈ newsC, u.oneCell' = true := fun u hu => by
    simp only [newsC, nodeC, appN, notN, List.cons_append, List.nil_append, List.mem_cons, List.not_mem_nil, or_false] at hu
    rcases hu with rfl | rfl | rfl | rfl | rfl | rfl | rfl | rfl | rfl | rfl | rfl | rfl | rfl | rfl | rfl | rfl <;> rfl
  clear hB0 hr0 hn0 hz0
  go_enter Tryd.func18, Tryd.ntmps18
  go_wp2_with fail
  rw [← hW0]
  clear hW0
  refine wp_region_held_drew (S := fun V => V.heap[w.heap.size + 1]? = some (.cells #[.int .i8 13, .int .i8 0, .int .i64 0, .int .i64 0, .int .i64 0, .int .i64 0, .int .i64 0, .int .i64 0] 34 (0, 0))) (by kernel_rfl) (HS.out _ (Below.refl _ W0).drew) (fun hHeld => ?_)
  refine wpAnyH_take (i := 2) (oi := { dst := some 5, op := Op.load 34 (Operand.tmp 1), type := 34, pos := "law.go:15", after := #[], guard := none }) (v := .agg #[.int .i8 13, .int .i8 0, .int .i64 0, .int .i64 0, .int .i64 0, .int .i64 0, .int .i64 0, .int .i64 0]) rfl (by kernel_rfl) (by kernel_rfl) (by kernel_rfl) (fun _ _ _ h => h) (Or.inl ⟨by rfl, ?_⟩) (by assumption) ?_
  · (intro w hSw; (try dsimp only at hSw); (obtain ⟨n0, n1, n2, n3, n4, n5, n6, n7, nz⟩ := node_box2 hSw; go_simp))
  try simp only [Act.put, List.setIfInBounds_toArray, List.set_cons_zero, List.set_cons_succ]
  refine wpAnyH_take (i := 3) (oi := { dst := some 6, op := Op.build 32 #[(0, Operand.const (Value.int IntKind.i64 2))], type := 32, pos := "law.go:15", after := #[], guard := none }) (v := .agg #[.int .i64 2, .int .i64 0, .int .i64 0]) rfl (by kernel_rfl) (by kernel_rfl) (by kernel_rfl) (fun _ _ _ h => h) (Or.inl ⟨by rfl, ?_⟩) (by assumption) ?_
  · (intro w hSw; (try dsimp only at hSw); go_simp)
  try simp only [Act.put, List.setIfInBounds_toArray, List.set_cons_zero, List.set_cons_succ]
  refine wpAnyH_take (i := 4) (oi := { dst := some 7, op := Op.build 34 #[(0, Operand.const (Value.int IntKind.i8 1)), (1, Operand.const (Value.int IntKind.i8 1)), (2, Operand.tmp 6)], type := 34, pos := "law.go:15", after := #[{ on := 3, ground := Ground.data }], guard := none }) (v := .agg #[.int .i8 1, .int .i8 1, .int .i64 2, .int .i64 0, .int .i64 0, .int .i64 0, .int .i64 0, .int .i64 0]) rfl (by kernel_rfl) (by kernel_rfl) (by kernel_rfl) (fun _ _ _ h => h) (Or.inl ⟨by rfl, ?_⟩) (by assumption) ?_
  · (intro w hSw; (try dsimp only at hSw); go_simp)
  try simp only [Act.put, List.setIfInBounds_toArray, List.set_cons_zero, List.set_cons_succ]
  refine wpAnyH_ready (rs := [0, 5]) (by kernel_rfl) (by simp) ?_
  refine AllReadyH.cons (o := { dst := some 3, op := Op.call { callee := Callee.value (Operand.func 16), args := #[], argTypes := #[] }, type := 24, pos := "law.go:15", after := #[], guard := none }) rfl (fun K hK => ?_) (AllReadyH.cons (o := { dst := some 8, op := Op.buildSlice 22 2 #[(0, Operand.tmp 5), (1, Operand.tmp 7)], type := 22, pos := "law.go:15", after := #[{ on := 2, ground := Ground.data }, { on := 4, ground := Ground.data }], guard := none }) rfl (fun K hK => ?_) AllReadyH.nil)
  · go_simp
    go_at_call 16
    refine (HN.out _).mono ?_
    rintro e w1 ⟨rfl, hn1, hb1⟩
    go_wp2_with fail
    refine hK.out _ _ ?_ (fun hHeld => ?_)
    · exact HS.out _ ((Below.refl _ W0).drew.trans hb1)
    clear hK K
    try simp only [Act.put, List.setIfInBounds_toArray, List.set_cons_zero, List.set_cons_succ]
    refine wpAnyH_take (i := 1) (oi := { dst := some 4, op := Op.field 24 (Operand.tmp 3) 0, type := 22, pos := "law.go:15", after := #[{ on := 0, ground := Ground.data }], guard := none }) (v := .slice (some ⟨W0.heap.size + 1, 0, none⟩) 2 2) rfl (by kernel_rfl) (by kernel_rfl) (by kernel_rfl) (fun _ _ _ h => h) (Or.inl ⟨by rfl, ?_⟩) (by assumption) ?_
    · (intro w hSw; (try dsimp only at hSw); go_simp)
    try simp only [Act.put, List.setIfInBounds_toArray, List.set_cons_zero, List.set_cons_succ]
    refine wpAnyH_ready (rs := [5]) (by kernel_rfl) (by simp) ?_
    refine AllReadyH.cons (o := { dst := some 8, op := Op.buildSlice 22 2 #[(0, Operand.tmp 5), (1, Operand.tmp 7)], type := 22, pos := "law.go:15", after := #[{ on := 2, ground := Ground.data }, { on := 4, ground := Ground.data }], guard := none }) rfl (fun K hK => ?_) AllReadyH.nil
    go_simp
    have hb01 : Below W0.heap.size W0 w1 := (Below.refl _ W0).drew.trans hb1
    have hs1 := hb01.size
    refine hK.out _ _ ?_ (fun hHeld => ?_)
    · exact HS.out _ (hb01.alloc hb01.size _)
    clear hK K
    try simp only [Act.put, List.setIfInBounds_toArray, List.set_cons_zero, List.set_cons_succ]
    refine wpAnyH_ready (rs := [6]) (by kernel_rfl) (by simp) ?_
    refine AllReadyH.cons (o := { dst := some 9, op := Op.call { callee := Callee.builtin Builtin.append, args := #[Operand.tmp 4, Operand.tmp 8], argTypes := #[22, 22] }, type := 22, pos := "law.go:15", after := #[{ on := 1, ground := Ground.data }, { on := 5, ground := Ground.data }, { on := 0, ground := Ground.chain }], guard := none }) rfl (fun K hK => ?_) AllReadyH.nil
    refine step_append_lies _ rfl (.tmp 4) (.tmp 8) 22 rfl W0.heap.size 34 i0 _ 8 56 Tryd.underlying22 hi hz1 hz2 hz3 rfl (by decide) _ 2 newC.toList (by rfl) ((new_own hn1 (by simp)).alloc _) ⟨w1.heap.size, 0, none⟩ 2 2 newsC (by rfl) rfl (World.news_of_block (B := w1.heap.size) (cs := newsC.toArray) (t := 34) (fr := (0, 0)) (heap_alloc_new w1 _)) one (by omega) (by simp only [maxLen]; omega) (by omega) (by first | omega | (simp <;> omega)) _ rfl ?_
    intro g9 c9 w9 hown9 hgrow9 hat9 hlt9
    have hb9 : Below W0.heap.size W0 w9 := below_pushP (Nat.le_refl _) hb01 (new_own hn1 (by simp)) hgrow9
    have r9 := HR.out w9 hb9
    have r0 := (cell_of_row _ _ 0 _ _ _ r9).trans rfl
    have rf : ∀ i, w9.frozen? ⟨w.heap.size, i, none⟩ = false := fun i => by simp [World.frozen?, r9]
    have rz := (Array.getElem?_eq_some_iff.1 r9).1
    have HB9 := Lib.hid hb9
    have HO9 := Lib.hid hown9
    have HR9 := Lib.hid r9
    clear hown9 hgrow9 hat9 hb9 r9
    refine hK.out _ _ ?_ (fun hHeld => ?_)
    · exact HS.out _ HB9.out
    clear hK K
    try simp only [Act.put, List.setIfInBounds_toArray, List.set_cons_zero, List.set_cons_succ]
    refine wpAnyH_take (i := 7) (oi := { dst := some 10, op := Op.build 24 #[(0, Operand.tmp 9)], type := 24, pos := "law.go:15", after := #[{ on := 6, ground := Ground.data }], guard := none }) (v := .agg #[.slice (some ⟨g9, 0, none⟩) 4 c9]) rfl (by kernel_rfl) (by kernel_rfl) (by kernel_rfl) (fun _ _ _ h => h) (Or.inl ⟨by rfl, ?_⟩) (by assumption) ?_
    · (intro w hSw; (try dsimp only at hSw); go_simp)
    try simp only [Act.put, List.setIfInBounds_toArray, List.set_cons_zero, List.set_cons_succ]
    refine wpAnyH_ready (rs := [8]) (by kernel_rfl) (by simp) ?_
    refine AllReadyH.cons (o := { dst := none, op := Op.store 24 (Operand.tmp 0) (Operand.tmp 10), type := 0, pos := "law.go:15", after := #[{ on := 7, ground := Ground.data }, { on := 6, ground := Ground.chain }, { on := 0, ground := Ground.phase }, { on := 1, ground := Ground.phase }, { on := 2, ground := Ground.phase }, { on := 3, ground := Ground.phase }, { on := 4, ground := Ground.phase }, { on := 5, ground := Ground.phase }, { on := 6, ground := Ground.phase }, { on := 7, ground := Ground.phase }], guard := none }) rfl (fun K hK => ?_) AllReadyH.nil
    go_simp
    refine hK.out _ _ ?_ (fun hHeld => ?_)
    · exact (Below.heap_setCell _ _ _ _ (by simp <;> omega)).trans (HS.out _ HB9.out)
    clear hK K
    try simp only [Act.put, List.setIfInBounds_toArray, List.set_cons_zero, List.set_cons_succ]
    refine wpAnyH_done (by kernel_rfl) ?_ _
    have hgr : w.heap.size ≠ g9 := fun e => by obtain ⟨a', c', e', _, _, _, h4⟩ := own_at HO9.out; cases e'; obtain ⟨g', e', h5, _⟩ := h4 (by omega); cases e'; omega
    have hs9 := HR9.out
    have ho9 := HO9.out
    have hb9 := HB9.out
    obtain ⟨a', c', e', hT⟩ := wak_own (own_heap ho9 (w' := w9.setCell ⟨w.heap.size, 0, none⟩ (.slice (some ⟨g9, 0, none⟩) 4 c9)) (fun k hk _ => Below.heap_setCell _ _ _ _ (by simp <;> omega)))
    cases e'
    go_wp2_with fail
    refine bodyPost_ret (results_cell_row rfl _ _ w.heap.size _ _ _ _ rfl (setOne hs9) Tryd.underlying24 rfl tabSize1) rfl ?_
    exact ⟨_, _, rfl, hT, (HB0.out.trans (hb9.mono HB0.out.size)).setCell (p := ⟨w.heap.size, 0, none⟩) (Nat.le_refl _) _⟩
  · go_simp
    have hbx : Below W0.heap.size W0 (W0.drew.alloc (.cells newsC.toArray 34)) := (Below.refl _ W0).drew.alloc (Nat.le_refl _) _
    refine hK.out _ _ ?_ (fun hHeld => ?_)
    · exact HS.out _ hbx
    clear hK K
    try simp only [Act.put, List.setIfInBounds_toArray, List.set_cons_zero, List.set_cons_succ]
    have hnw : (W0.drew.alloc (.cells newsC.toArray 34)).heap[W0.heap.size]? = some (.cells newsC.toArray 34 (0, 0)) := heap_alloc_new _ _
    obtain ⟨X, hX⟩ : ∃ X, X = W0.drew.alloc (.cells newsC.toArray 34) := ⟨_, rfl⟩
    have hxs : X.heap.size = W0.heap.size + 1 := by rw [hX, World.size_alloc]; rfl
    have hxs1 : X.heap.size ≤ W0.heap.size + 1 := by omega
    have hxs2 : W0.heap.size + 1 ≤ X.heap.size := by omega
    rw [← hX] at hbx hnw
    change wpAnyH _ _ _ _ _ _ _ _ (W0.drew.alloc (.cells newsC.toArray 34))
    rw [← hX]
    clear hX hxs
    refine wpAnyH_ready (rs := [0]) (by kernel_rfl) (by simp) ?_
    refine AllReadyH.cons (o := { dst := some 3, op := Op.call { callee := Callee.value (Operand.func 16), args := #[], argTypes := #[] }, type := 24, pos := "law.go:15", after := #[], guard := none }) rfl (fun K hK => ?_) AllReadyH.nil
    go_simp
    go_at_call 16
    refine (HN.out _).mono ?_
    rintro e w1 ⟨rfl, hn1, hb1⟩
    go_wp2_with fail
    have hb01 : Below W0.heap.size W0 w1 := hbx.trans (hb1.mono (by omega))
    have hs1 := hb01.size
    have hnw1 : w1.heap[W0.heap.size]? = some (.cells newsC.toArray 34 (0, 0)) := (hb1.block _ (by omega)).trans hnw
    refine hK.out _ _ ?_ (fun hHeld => ?_)
    · exact HS.out _ hb01
    clear hK K
    try simp only [Act.put, List.setIfInBounds_toArray, List.set_cons_zero, List.set_cons_succ]
    refine wpAnyH_take (i := 1) (oi := { dst := some 4, op := Op.field 24 (Operand.tmp 3) 0, type := 22, pos := "law.go:15", after := #[{ on := 0, ground := Ground.data }], guard := none }) (v := .slice (some ⟨X.heap.size + 1, 0, none⟩) 2 2) rfl (by kernel_rfl) (by kernel_rfl) (by kernel_rfl) (fun _ _ _ h => h) (Or.inl ⟨by rfl, ?_⟩) (by assumption) ?_
    · (intro w hSw; (try dsimp only at hSw); go_simp)
    try simp only [Act.put, List.setIfInBounds_toArray, List.set_cons_zero, List.set_cons_succ]
    refine wpAnyH_ready (rs := [6]) (by kernel_rfl) (by simp) ?_
    refine AllReadyH.cons (o := { dst := some 9, op := Op.call { callee := Callee.builtin Builtin.append, args := #[Operand.tmp 4, Operand.tmp 8], argTypes := #[22, 22] }, type := 22, pos := "law.go:15", after := #[{ on := 1, ground := Ground.data }, { on := 5, ground := Ground.data }, { on := 0, ground := Ground.chain }], guard := none }) rfl (fun K hK => ?_) AllReadyH.nil
    refine step_append_lies _ rfl (.tmp 4) (.tmp 8) 22 rfl W0.heap.size 34 i0 _ 8 56 Tryd.underlying22 hi hz1 hz2 hz3 rfl (by decide) _ 2 newC.toList (by rfl) (new_own hn1 (by omega)) ⟨W0.heap.size, 0, none⟩ 2 2 newsC (by rfl) rfl (World.news_of_block (B := W0.heap.size) (cs := newsC.toArray) (t := 34) (fr := (0, 0)) hnw1) one (by omega) (by simp only [maxLen]; omega) (by omega) (by first | omega | (simp <;> omega)) _ rfl ?_
    intro g9 c9 w9 hown9 hgrow9 hat9 hlt9
    have hb9 : Below W0.heap.size W0 w9 := hb01.grown hgrow9 hb01.size (fun k e => by cases e; show W0.heap.size ≤ X.heap.size + 1; omega)
    have r9 := HR.out w9 hb9
    have r0 := (cell_of_row _ _ 0 _ _ _ r9).trans rfl
    have rf : ∀ i, w9.frozen? ⟨w.heap.size, i, none⟩ = false := fun i => by simp [World.frozen?, r9]
    have rz := (Array.getElem?_eq_some_iff.1 r9).1
    have HB9 := Lib.hid hb9
    have HO9 := Lib.hid hown9
    have HR9 := Lib.hid r9
    clear hown9 hgrow9 hat9 hb9 r9
    refine hK.out _ _ ?_ (fun hHeld => ?_)
    · exact HS.out _ HB9.out
    clear hK K
    try simp only [Act.put, List.setIfInBounds_toArray, List.set_cons_zero, List.set_cons_succ]
    refine wpAnyH_take (i := 7) (oi := { dst := some 10, op := Op.build 24 #[(0, Operand.tmp 9)], type := 24, pos := "law.go:15", after := #[{ on := 6, ground := Ground.data }], guard := none }) (v := .agg #[.slice (some ⟨g9, 0, none⟩) 4 c9]) rfl (by kernel_rfl) (by kernel_rfl) (by kernel_rfl) (fun _ _ _ h => h) (Or.inl ⟨by rfl, ?_⟩) (by assumption) ?_
    · (intro w hSw; (try dsimp only at hSw); go_simp)
    try simp only [Act.put, List.setIfInBounds_toArray, List.set_cons_zero, List.set_cons_succ]
    refine wpAnyH_ready (rs := [8]) (by kernel_rfl) (by simp) ?_
    refine AllReadyH.cons (o := { dst := none, op := Op.store 24 (Operand.tmp 0) (Operand.tmp 10), type := 0, pos := "law.go:15", after := #[{ on := 7, ground := Ground.data }, { on := 6, ground := Ground.chain }, { on := 0, ground := Ground.phase }, { on := 1, ground := Ground.phase }, { on := 2, ground := Ground.phase }, { on := 3, ground := Ground.phase }, { on := 4, ground := Ground.phase }, { on := 5, ground := Ground.phase }, { on := 6, ground := Ground.phase }, { on := 7, ground := Ground.phase }], guard := none }) rfl (fun K hK => ?_) AllReadyH.nil
    go_simp
    refine hK.out _ _ ?_ (fun hHeld => ?_)
    · exact (Below.heap_setCell _ _ _ _ (by simp <;> omega)).trans (HS.out _ HB9.out)
    clear hK K
    try simp only [Act.put, List.setIfInBounds_toArray, List.set_cons_zero, List.set_cons_succ]
    refine wpAnyH_done (by kernel_rfl) ?_ _
    have hgr : w.heap.size ≠ g9 := fun e => by obtain ⟨a', c', e', _, _, _, h4⟩ := own_at HO9.out; cases e'; obtain ⟨g', e', h5, _⟩ := h4 (by omega); cases e'; omega
    have hs9 := HR9.out
    have ho9 := HO9.out
    have hb9 := HB9.out
    obtain ⟨a', c', e', hT⟩ := wak_own (own_heap ho9 (w' := w9.setCell ⟨w.heap.size, 0, none⟩ (.slice (some ⟨g9, 0, none⟩) 4 c9)) (fun k hk _ => Below.heap_setCell _ _ _ _ (by simp <;> omega)))
    cases e'
    go_wp2_with fail
    refine bodyPost_ret (results_cell_row rfl _ _ w.heap.size _ _ _ _ rfl (setOne hs9) Tryd.underlying24 rfl tabSize1) rfl ?_
    exact ⟨_, _, rfl, hT, (HB0.out.trans (hb9.mono HB0.out.size)).setCell (p := ⟨w.heap.size, 0, none⟩) (Nat.le_refl _) _⟩
end Go.Proofs.YtaiabpbcipnjaaaDoor.Tm
