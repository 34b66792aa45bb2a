/- The rule of a kind; Op. -/
import Derived.Test.YtdeobdepepjbmaaDoorTyB
namespace Go.Proofs.YtdeobdepepjbmaaDoor.Tm
open Go.RowKit
set_option linter.unusedVariables false
theorem rule_cells {V : World} {b : Nat} {r : RuleA} {ty : TypeId} (h : V.heap[b]? = some (.cells #[.int .i64 r.many, .int .i64 r.a0, .int .i64 r.a1, .int .i64 r.a2, .int .i64 r.sort] ty (0, 0))) : V.cell? ⟨b, 0, none⟩ = some (.int .i64 r.many) ∧ V.cell? ⟨b, 1, none⟩ = some (.int .i64 r.a0) ∧ V.cell? ⟨b, 2, none⟩ = some (.int .i64 r.a1) ∧ V.cell? ⟨b, 3, none⟩ = some (.int .i64 r.a2) ∧ V.cell? ⟨b, 4, none⟩ = some (.int .i64 r.sort) :=
  ⟨(cell_of_row _ _ 0 _ _ _ h).trans rfl, (cell_of_row _ _ 1 _ _ _ h).trans rfl, (cell_of_row _ _ 2 _ _ _ h).trans rfl, (cell_of_row _ _ 3 _ _ _ h).trans rfl, (cell_of_row _ _ 4 _ _ _ h).trans rfl⟩
def zeroR : RuleA := ⟨0, 0, 0, 0, 0⟩
def kindB (op : Int) : Bool := decide (0 ≤ op) && decide (op < 13)
def kindR (op : Int) : RuleA := if kindB op = true then rulesL.getD op.toNat zeroR else zeroR
theorem kindRule_in (op : Int) (r : RuleA) (w : World) (hG : GR w) (h : 0 ≤ op ∧ op < 13) (hr : rulesL[op.toNat]? = some r) :
    Calls Tryd.prog 19 #[.int .i8 op] w fun e w' => e = .returned (.tuple #[.agg #[.int .i64 r.many, .int .i64 r.a0, .int .i64 r.a1, .int .i64 r.a2, .int .i64 r.sort], .bool true]) ∧ Below w.heap.size w w' := by
  obtain ⟨k, rfl⟩ : ∃ k : Nat, op = k := ⟨op.toNat, by omega⟩
  rw [Int.toNat_natCast] at hr
  obtain ⟨c0, c1, c2, c3, c4⟩ := hG.at_ k r hr
  have hlt := hG.lt
  have hk : k < 13 := by omega
  clear hr hG
  go_enter Tryd.func19, Tryd.ntmps19
  go_wp2
  obtain ⟨x0, x1, x2, x3, x4⟩ := rule_cells (heap_alloc_new w (.cells #[.int .i64 r.many, .int .i64 r.a0, .int .i64 r.a1, .int .i64 r.a2, .int .i64 r.sort] 61))
  refine bodyPost_ret (v := .tuple #[.agg #[.int .i64 r.many, .int .i64 r.a0, .int .i64 r.a1, .int .i64 r.a2, .int .i64 r.sort], .bool true]) (by simp [results, Tryd.results19, go_sem, x0, x1, x2, x3, x4]) rfl ⟨rfl, (Below.refl _ w).alloc (Nat.le_refl _) _⟩
theorem kindRule_out (op : Int) (w : World) (h : op < 0 ∨ 13 ≤ op) (ho : I8 op) :
    Calls Tryd.prog 19 #[.int .i8 op] w fun e w' => e = .returned (.tuple #[.agg #[.int .i64 zeroR.many, .int .i64 zeroR.a0, .int .i64 zeroR.a1, .int .i64 zeroR.a2, .int .i64 zeroR.sort], .bool false]) ∧ Below w.heap.size w w' := by
  obtain ⟨h1, h2⟩ := ho
  obtain ⟨x0, x1, x2, x3, x4⟩ := rule_cells (heap_alloc_new w (.cells #[.int .i64 zeroR.many, .int .i64 zeroR.a0, .int .i64 zeroR.a1, .int .i64 zeroR.a2, .int .i64 zeroR.sort] 61))
  simp only [zeroR] at *
  rcases h with h | h
  all_goals
    go_enter Tryd.func19, Tryd.ntmps19
    go_wp2
    refine bodyPost_ret (v := .tuple #[.agg #[.int .i64 0, .int .i64 0, .int .i64 0, .int .i64 0, .int .i64 0], .bool false]) (by simp [results, Tryd.results19, go_sem, x0, x1, x2, x3, x4]) rfl ⟨rfl, (Below.refl _ w).alloc (Nat.le_refl _) _⟩
theorem kindRule_any (op : Int) (r : RuleA) (b : Bool) (w : World) (hG : GR w) (ho : I8 op) (hr : kindR op = r) (hb : kindB op = b) :
    Calls Tryd.prog 19 #[.int .i8 op] w fun e w' => e = .returned (.tuple #[.agg #[.int .i64 r.many, .int .i64 r.a0, .int .i64 r.a1, .int .i64 r.a2, .int .i64 r.sort], .bool b]) ∧ Below w.heap.size w w' := by
  subst hr hb
  by_cases h : 0 ≤ op ∧ op < 13
  · obtain ⟨r, hr⟩ : ∃ r, rulesL[op.toNat]? = some r := ⟨_, List.getElem?_eq_getElem (by show op.toNat < 13; omega)⟩
    have e1 : kindB op = true := by unfold kindB; simp [h.1, h.2]
    have e2 : kindR op = r := by unfold kindR; rw [e1, if_pos rfl, List.getD_eq_getElem?_getD, hr]; rfl
    rw [e1, e2]
    exact kindRule_in op r w hG h hr
  · have e1 : kindB op = false := by unfold kindB; simp; omega
    have e2 : kindR op = zeroR := by unfold kindR; rw [e1]; rfl
    rw [e1, e2]
    exact kindRule_out op w (by omega) ho
theorem rules_ok : ∀ r ∈ rulesL, RuleOk r ∧ r.many ≤ 3 ∧ (r.sort = -1 → ∃ i : Nat, (i : Int) < r.many ∧ rArg r i = -1) := by
  intro r hr
  unfold rulesL at hr
  simp only [List.mem_cons, List.not_mem_nil, or_false] at hr
  rcases hr with rfl | rfl | rfl | rfl | rfl | rfl | rfl | rfl | rfl | rfl | rfl | rfl | rfl
  all_goals
    refine ⟨⟨⟨by decide, by decide⟩, ⟨by decide, by decide⟩, ⟨by decide, by decide⟩, ⟨by decide, by decide⟩, ⟨by decide, by decide⟩⟩, by decide, fun h => ?_⟩
    first | (exact absurd h (by decide)) | (exact ⟨1, by decide, rfl⟩)
theorem kindR_ok (op : Int) : RuleOk (kindR op) ∧ (kindR op).many ≤ 3 ∧ ((kindR op).sort = -1 → ∃ i : Nat, (i : Int) < (kindR op).many ∧ rArg (kindR op) i = -1) := by
  unfold kindR
  split
  · rename_i h
    unfold kindB at h
    simp at h
    have hl : op.toNat < rulesL.length := by show op.toNat < 13; omega
    rw [List.getD_eq_getElem?_getD, List.getElem?_eq_getElem hl]
    exact rules_ok _ (List.getElem_mem hl)
  · exact ⟨⟨⟨by decide, by decide⟩, ⟨by decide, by decide⟩, ⟨by decide, by decide⟩, ⟨by decide, by decide⟩, ⟨by decide, by decide⟩⟩, by decide, fun h => absurd h (by decide)⟩
/-- The Sort that a kind has of some sorts, the error. -/
def opA (op : Int) (l : List Int) : Int × Int := if kindB op = true then ofA (kindR op) l else (0, 2)
set_option maxHeartbeats 1000000 in
theorem Op_any (op : Int) (l : List Int) (a : Option Addr) (c : Nat) (p : Int × Int) (w : World) (hG : GR w) (ho : I8 op) (hA : IntsR w l a c) (hl : l.length ≤ 1000) (hp : opA op l = p) :
    Calls Tryd.prog 8 #[.int .i8 op, .slice a l.length c] w fun e w' => e = .returned (.tuple #[.int .i64 p.1, .int .i64 p.2]) ∧ Below w.heap.size w w' := by
  obtain ⟨r, hr⟩ : ∃ r, kindR op = r := ⟨_, rfl⟩
  obtain ⟨b, hb⟩ : ∃ b, kindB op = b := ⟨_, rfl⟩
  obtain ⟨k1, k2, k3⟩ := kindR_ok op
  rw [hr] at k1 k2 k3
  have HK : Hid (∀ W, Below w.heap.size w W → Calls Tryd.prog 19 #[.int .i8 op] W fun e w' => e = .returned (.tuple #[.agg #[.int .i64 r.many, .int .i64 r.a0, .int .i64 r.a1, .int .i64 r.a2, .int .i64 r.sort], .bool b]) ∧ Below W.heap.size W w') := fun W hW => kindRule_any op r b W (hG.below hW) ho hr hb
  have HO : Hid (∀ W, Below w.heap.size w W → b = true → Calls Tryd.prog 20 #[.agg #[.int .i64 r.many, .int .i64 r.a0, .int .i64 r.a1, .int .i64 r.a2, .int .i64 r.sort], .slice a l.length c] W fun e w' => e = .returned (.tuple #[.int .i64 p.1, .int .i64 p.2]) ∧ Below W.heap.size W w') := fun W hW hbt => by
    refine of_any r l a c p W (hA.below hW) k1 hl k2 k3 ?_
    rw [← hp]; unfold opA; rw [hb, hbt, if_pos rfl, hr]
  have HN : Hid (b = false → p = (0, 2)) := fun h => by rw [← hp]; unfold opA; rw [hb, h]; rfl
  clear hr hb k1 k2 k3 hA hp hG ho
  cases b with
  | false =>
    obtain rfl := HN.out rfl
    go_enter Tryd.func8, Tryd.ntmps8
    go_wp2_with (go_at_call 19; refine (HK.out _ (Below.refl _ _)).mono ?_; rintro e w1 ⟨rfl, hb1⟩)
    go_ret2
    exact ⟨rfl, hb1.alloc hb1.size _⟩
  | true =>
    go_enter Tryd.func8, Tryd.ntmps8
    go_wp2_with (first | (go_at_call 19; refine (HK.out _ (Below.refl _ _)).mono ?_; rintro e w1 ⟨rfl, hb1⟩) | (go_at_call 20; refine (HO.out _ (hb1.alloc hb1.size _) trivial).mono ?_; rintro e w2 ⟨rfl, hb2⟩))
    go_ret2
    exact ⟨rfl, (hb1.alloc hb1.size _).trans (hb2.mono (by have := hb1.size; simp; omega))⟩
end Go.Proofs.YtdeobdepepjbmaaDoor.Tm
