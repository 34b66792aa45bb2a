/- container/heap over the queue: up, down. -/
import Derived.Test.YtggighikemhnfaaDoorUnI
import Derived.Deep.RegionWith
namespace Go.Proofs.YtggighikemhnfaaDoor.Tm
open Go.RowKit
set_option linter.unusedVariables false
/-- The run's queue: the slice lies in a cell of block b. -/
structure HQ (w : World) (base b g cap : Nat) (L : List Int) : Prop where
  ptr : w.cell? ⟨b, 1026, none⟩ = some (.slice (some ⟨g, 0, none⟩) L.length cap)
  row : RowO w base L (.slice (some ⟨g, 0, none⟩) L.length cap)
  ne : b ≠ g
  lt : b < w.heap.size
theorem HQ.kp {w w' : World} {base b g cap : Nat} {L L' : List Int} (h : HQ w base b g cap L) (k : Kp (fun k => k ≠ g) w w') (hl : L'.length = L.length) (hr : RowO w' base L' (.slice (some ⟨g, 0, none⟩) L.length cap)) : HQ w' base b g cap L' :=
  ⟨by rw [k.cell h.ne, hl]; exact h.ptr, by rw [hl]; exact hr, h.ne, by rw [k.size]; exact h.lt⟩
theorem HQ.drewN {w : World} {base b g cap : Nat} {L : List Int} (h : HQ w base b g cap L) (q : Nat) : HQ (w.drewN q) base b g cap L := ⟨h.ptr, h.row, h.ne, h.lt⟩
theorem HQ.len {w : World} {base b g cap : Nat} {L : List Int} (h : HQ w base b g cap L) : L.length ≤ cap ∧ cap ≤ 9223372036854775807 := by
  obtain ⟨cur, h2, h1, h3, h4, _⟩ := row_own h.row
  simp only [maxLen] at h4
  exact ⟨h3, by omega⟩
def qI (b : Nat) : Value := .iface 84 (.pointer (some ⟨b, 1026, none⟩))
theorem meth_load {w : World} {b f : Nat} {v : Value} (name : String) (h : w.cell? ⟨b, 1026, none⟩ = some v) (ho : (Tryd.t84.methods.find? (·.name == name)).map (fun m => (m.path, m.func)) = some (#[⟨52, 0, true⟩], some (f, false))) :
    Sem.run Tryd.prog (method 223 84 (.pointer (some ⟨b, 1026, none⟩)) name) w = .ok (f, v) w := by
  obtain ⟨m, hm, he⟩ := Option.map_eq_some_iff.1 ho
  simp only [Prod.mk.injEq] at he
  obtain ⟨h1, h2⟩ := he
  show (method (_ + 1) _ _ _).run _ _ = _
  unfold method
  go_simp
  simp only [follow, Place.get, receiverAt]
  go_simp
theorem meth_Len {w : World} {b : Nat} {v : Value} (h : w.cell? ⟨b, 1026, none⟩ = some v) : Sem.run Tryd.prog (method 223 84 (.pointer (some ⟨b, 1026, none⟩)) "Len") w = .ok (59, v) w := meth_load _ h (by kernel_rfl)
theorem meth_Less {w : World} {b : Nat} {v : Value} (h : w.cell? ⟨b, 1026, none⟩ = some v) : Sem.run Tryd.prog (method 223 84 (.pointer (some ⟨b, 1026, none⟩)) "Less") w = .ok (93, v) w := meth_load _ h (by kernel_rfl)
theorem meth_Swap {w : World} {b : Nat} {v : Value} (h : w.cell? ⟨b, 1026, none⟩ = some v) : Sem.run Tryd.prog (method 223 84 (.pointer (some ⟨b, 1026, none⟩)) "Swap") w = .ok (95, v) w := meth_load _ h (by kernel_rfl)
theorem meth_Push (w : World) (b : Nat) : Sem.run Tryd.prog (method 223 84 (.pointer (some ⟨b, 1026, none⟩)) "Push") w = .ok (97, .pointer (some ⟨b, 1026, none⟩)) w := by kernel_rfl
theorem meth_Pop (w : World) (b : Nat) : Sem.run Tryd.prog (method 223 84 (.pointer (some ⟨b, 1026, none⟩)) "Pop") w = .ok (96, .pointer (some ⟨b, 1026, none⟩)) w := by kernel_rfl
end Go.Proofs.YtggighikemhnfaaDoor.Tm
