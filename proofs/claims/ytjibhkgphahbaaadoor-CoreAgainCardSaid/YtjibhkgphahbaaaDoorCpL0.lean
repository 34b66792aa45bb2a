/- Core: what the laws find in the variables. -/
import Derived.Test.YtjibhkgphahbaaaDoorCpX
import Derived.Test.YtjibhkgphahbaaaDoorCpT
namespace Go.Proofs.YtjibhkgphahbaaaDoor.Tm
open Go.RowKit
set_option linter.unusedVariables false
structure GC (w : World) : Prop where
  t : GT w
  r : GR w
theorem GC.below {w w' : World} (h : GC w) (hb : Below w.heap.size w w') : GC w' := ⟨h.t.below hb, h.r.below hb⟩
theorem mayT_zero {l : List NodeA} (h : mayT l = true) : l[1]? = some zeroN := by
  have h1 := (mayT_ok h).1
  have : (l.take 2)[1]? = some zeroN := by rw [h1]; rfl
  rwa [List.getElem?_take, if_pos (by decide)] at this
/-- A base of a core table. -/
theorem base_ok {l : List NodeA} {i : Int} (hm : mayT l = true) (h0 : 0 ≤ i) (hl : i < (l.length : Int)) (hb : basA l i) (hs : srt l i = 1) : ∃ (k : Nat) (n : NodeA), i = (k : Int) ∧ l[k]? = some n ∧ n.sort = 1 ∧ ¬ n.op = 11 ∧ (n.op = 10 → k = 1 ∧ n.num = 0) := by
  obtain ⟨k, rfl⟩ : ∃ k : Nat, i = (k : Int) := ⟨i.toNat, by omega⟩
  have hk : k < l.length := by omega
  refine ⟨k, nodA l k, rfl, nodA_get hk, hs, hb.1, fun e => ?_⟩
  have h1 : (k : Int) = 1 := hb.2 e
  obtain rfl : k = 1 := by omega
  refine ⟨rfl, ?_⟩
  have h2 := mayT_zero hm
  rw [nodA_get hk] at h2
  rw [Option.some.inj h2]; rfl
/-- A difference of a core table. -/
theorem diff_bases {s : MkS} {k : Nat} {n : NodeA} (h : MkI s) (hQ : QO s.l) (hW : WS s.l) (hk : s.l[k]? = some n) (ho : n.op = 12) : (∃ (i : Nat) (x : NodeA), n.a0 = (i : Int) ∧ s.l[i]? = some x ∧ x.sort = 1 ∧ ¬ x.op = 11 ∧ (x.op = 10 → i = 1 ∧ x.num = 0)) ∧ (∃ (i : Nat) (x : NodeA), n.a1 = (i : Int) ∧ s.l[i]? = some x ∧ x.sort = 1 ∧ ¬ x.op = 11 ∧ (x.op = 10 → i = 1 ∧ x.num = 0)) ∧ ¬ n.a0 = n.a1 := by
  have hm := List.mem_of_getElem? hk
  have hlt := (List.getElem?_eq_some_iff.1 hk).1
  obtain ⟨h1, h2, h3⟩ := (hQ n hm).2 ho
  obtain ⟨_, s1, s2⟩ := (hW n hm).s8 (by omega)
  have hst := (ok_at (mayT_ok h.may).2 hk).1
  obtain ⟨⟨p1, p2⟩, ⟨p3, p4⟩⟩ := args_12 hst ho
  exact ⟨base_ok h.may p1 (by omega) h2 s1, base_ok h.may p3 (by omega) h3 s2, h1⟩
theorem tab_box {w W0 : World} {v : Value} {T : TypeId} (hW0 : W0 = w.alloc (.cells #[v] T)) : Below w.heap.size w W0 ∧ (∀ V, Below W0.heap.size W0 V → V.cell? ⟨w.heap.size, 0, none⟩ = some v ∧ w.heap.size < V.heap.size) := by
  have hX0 : W0.heap[w.heap.size]? = some (.cells #[v] T (0, 0)) := by rw [hW0]; exact heap_alloc_new w _
  refine ⟨by rw [hW0]; exact (Below.refl _ w).alloc (Nat.le_refl _) _, fun V hV => ?_⟩
  have e0 := (hV.block _ (Array.getElem?_eq_some_iff.1 hX0).1).trans hX0
  exact ⟨(cell_of_row _ _ 0 _ _ _ e0).trans rfl, (Array.getElem?_eq_some_iff.1 e0).1⟩
theorem ball {w w1 w2 : World} (h : Below w.heap.size w w1) (k : Below w1.heap.size w1 w2) : Below w.heap.size w w2 := h.trans (k.mono h.size)
/-- What Of gives of a table and roots, for CoreOffsets. -/
theorem OfL_any (l : List NodeA) (a : Option Addr) (c : Nat) (xs : List Int) (b : Option Addr) (d : Nat) (w : World) (hG : GC w) (hA : TabR w l a c) (hl : l.length ≤ 300) (hX : IntsR w xs b d) (hx : xs.length ≤ 100) :
    Calls Tryd.prog 7 #[.agg #[.slice a l.length c], .slice b xs.length d, .int .i64 2000] w fun e w' => Below w.heap.size w w' ∧ ((∃ err : Int, e = .returned (.tuple #[.agg #[.slice none 0 0], .slice none 0 0, .int .i64 err]) ∧ ¬ err = 0) ∨
    (∃ (s : MkS) (ims : List Int) (a' : Option Addr) (c' : Nat) (b' : Option Addr) (d' : Nat), e = .returned (.tuple #[.agg #[.slice a' s.l.length c'], .slice b' ims.length d', .int .i64 0]) ∧ TabR w' s.l a' c' ∧ MkI s ∧ QO s.l ∧ WS s.l)) := by
  refine (Of_any (QW l) 2000 l a c xs b d w hG.t hG.r hA (by omega) hX (by omega) (by decide) (l64 (by decide)) (fun _ _ => QW_new l) (fun hm hb => QW_step (by decide) hA.ok (fun k n hk => (ok_at (mayT_ok hm).2 hk).1) (fun n hn => ?_))).mono ?_
  · obtain ⟨k, hk⟩ := List.getElem?_of_mem hn
    exact ws_of_bad (ok_at (mayT_ok hm).2 hk).1 (by
      have := List.any_eq_false.1 hb n hn
      simpa using this)
  · rintro e w' ⟨h1, ⟨err, rfl, h2, _⟩ | ⟨s, im, ims, a', c', b', d', rfl, ht, hi, hw, _, _⟩⟩
    · exact ⟨h1, .inl ⟨err, rfl, h2⟩⟩
    · exact ⟨h1, .inr ⟨s, ims, a', c', b', d', rfl, ht, hw.inv, hw.q.1, hw.q.2.1⟩⟩
end Go.Proofs.YtjibhkgphahbaaaDoor.Tm
