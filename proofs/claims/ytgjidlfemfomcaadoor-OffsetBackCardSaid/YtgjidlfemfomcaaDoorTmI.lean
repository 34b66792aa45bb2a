/- slices.Clone over nodes; begins, first. -/
import Derived.Test.YtgjidlfemfomcaaDoorTmH
import Derived.Deep.CutRange
import Derived.Laws.Cover3
import Derived.Laws.Append
namespace Go.Proofs.YtgjidlfemfomcaaDoor
open Go.RowKit
set_option linter.unusedVariables false
theorem below_grown {A B : World} (h : A.grownBy B none) : Below A.heap.size A B := ⟨h.os, h.tape, h.output, h.size, fun i hi => h.block i hi (by simp)⟩
theorem at_add {w : World} {L : List Value} {g o : Nat} (h : ∀ (i : Nat) (v : Value), L[i]? = some v → w.cell? ⟨g, o + i, none⟩ = some v) : ∀ j u, L[j]? = some u → w.cell? ((⟨g, o, none⟩ : Addr).add j) = some u := fun j u hu => by
  rw [Addr.add_lit]; exact h j u hu
theorem one_node (l : List NodeA) : ∀ u ∈ l.flatMap nodeC, u.oneCell' = true := by
  intro u hu
  obtain ⟨x, _, h⟩ := List.mem_flatMap.1 hu
  simp [nodeC] at h
  rcases h with rfl | rfl | rfl | rfl | rfl | rfl | rfl | rfl <;> rfl
theorem info_node : (Tryd.prog.info? 46).map (fun i => (i.zero, i.size, i.bytes)) = some (some (.agg #[.int .i8 0, .int .i8 0, .int .i64 0, .int .i64 0, .int .i64 0, .int .i64 0, .int .i64 0, .int .i64 0]), 8, 56) := by kernel_rfl
/-- What Clone answers: a row of its own. -/
def RowPost (w : World) (l : List NodeA) (e : Ending) (w' : World) : Prop := ∃ v, e = .returned v ∧ w'.ownsRow w.heap.size 46 8 v l.length (l.flatMap nodeC) ∧ Below w.heap.size w w'
theorem eql_nil (g o l c : Nat) (w : World) : (binOp .eql 22 (.slice (some ⟨g, o, none⟩) l c) (.slice none 0 0)).run Tryd.prog w = .ok (.bool false) w := by
  simp only [binOp]
  simp [run_equal_slice_nil w 22 46 (some ⟨g, o, none⟩) l c Tryd.underlying22]
theorem Clone_any (l : List NodeA) (a : Option Addr) (c : Nat) (w : World) (hA : TabR w l a c) (h0 : 0 < l.length) (hl : l.length ≤ 1000) :
    Calls Tryd.prog 44 #[.slice a l.length c] w (RowPost w l) := by
  obtain ⟨i0, hi, hz0, hz1, hz2⟩ := info_parts info_node
  obtain ⟨g, o, rfl, hg, hcell⟩ := hA.tat (by rw [len_flat nodeC_len]; omega)
  have HC : Hid (∀ j u, (l.flatMap nodeC)[j]? = some u → (w.alloc (.cells #[] 46)).cell? ((⟨g, o, none⟩ : Addr).add j) = some u) := fun j u hu => by
    rw [Addr.add_lit]
    exact (((Below.refl w.heap.size w).alloc (Nat.le_refl _) _).cell (p := ⟨g, o + j, none⟩) hg).trans (hcell j u hu)
  have hcap := hA.le
  have hnil := eql_nil g o l.length c
  have hmx : l.length ≤ maxLen := by have := hA.cap; omega
  clear hcell hA
  go_enter Tryd.func44, Tryd.ntmps44
  go_wp2_with (at_builtin; refine wpList_append_own_at _ rfl _ _ 22 rfl w.heap.size 46 i0 _ 8 56 Tryd.underlying22 hi hz0 hz1 hz2 rfl (by decide) _ 0 [] rfl (World.ownsRow_made w #[] 0 (Nat.le_refl _) (Nat.zero_le _) rfl) ⟨g, o, none⟩ l.length c (l.flatMap nodeC) rfl (len_flat nodeC_len l) HC.out (one_node l) (by omega) (by omega) (by simp) ?_; intro v' w1 hown' hgrow hnil' hloc; clear hnil' hloc)
  go_ret
  exact ⟨v', rfl, by simpa using hown', ((Below.refl _ w).alloc (Nat.le_refl _) _).grown hgrow (by simp) (fun k e => by cases e; exact Nat.le_refl _)⟩
end Go.Proofs.YtgjidlfemfomcaaDoor
