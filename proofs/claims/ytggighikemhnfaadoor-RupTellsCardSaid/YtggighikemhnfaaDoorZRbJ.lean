/- RupParts. -/
import Derived.Test.YtggighikemhnfaaDoorZRbI
import Derived.Test.YtggighikemhnfaaDoorZTk
namespace Go.Proofs.YtggighikemhnfaaDoor.Tm
open Go.RowKit
set_option linter.unusedVariables false
theorem FolAt.take {cls st : List (List Int)} {m j : Nat} (hj : j < m) : FolAt cls (st.take m) j ↔ FolAt cls st j := by
  unfold FolAt
  rw [List.getElem?_take, if_pos hj, List.take_take, Nat.min_eq_left (by omega)]
theorem FolAt.drop {cls st : List (List Int)} {m j : Nat} (hm : m ≤ st.length) : FolAt (cls ++ st.take m) (st.drop m) j ↔ FolAt cls st (m + j) := by
  unfold FolAt
  rw [List.getElem?_drop, List.append_assoc, ← List.take_add]
theorem RowP.le {cls st : List (List Int)} {n : Int} (h : RowP cls st n) : -1 ≤ n ∧ n ≤ st.length := by
  rcases h with ⟨rfl, _⟩ | ⟨j, rfl, hj, _⟩ <;> omega
theorem step_appR {w : World} {ops : Array Oper} {o : Oper} {a : Act} {K : Act → World → Prop} {Q : Exit → Act → World → Prop} {E : Prop} (hgd : o.guard = none) (s x : Operand) (ho : o.op = .call { callee := .builtin .append, args := #[s, x], argTypes := #[22, 22] }) (hty : o.type = 22)
    (base : Nat) (v : Value) (xs ys : List RowD) (b : Option Addr) (d : Nat) (hs : a.eval s = v) (hx : a.eval x = .slice b ys.length d) (hown : RowsO w base xs v) (hI : RowsR w ys b d) (hb : base ≤ w.heap.size) (hl : (xs.length + ys.length) * 24 ≤ 140737488355328)
    (h : ∀ v' w', RowsO w' base (xs ++ ys) v' → w.grownBy w' v.ownBlock → K (a.put o.dst v') w') : if Region.wanted o (yielded ops a.tmps) = true then Oper.wp Tryd.prog o a w K Q else E := by
  have hw : Region.wanted o (yielded ops a.tmps) = true := by simp [Region.wanted, hgd]
  rw [if_pos hw]
  exact wp_appR s x ho hty base v xs ys b d hs hx hown hI hb hl h
theorem RowsR.dropAt {w : World} {rs : List RowD} {g o c : Nat} (h : RowsR w rs (some ⟨g, o, none⟩) c) (k : Nat) (hk : k ≤ rs.length) : RowsR w (rs.drop k) (some ⟨g, o + k, none⟩) (c - k) := by
  refine ⟨by have := h.le; rw [List.length_drop]; omega, by have := h.cap; omega, fun h0 => ?_, fun x hx => h.ok x (List.mem_of_mem_drop hx)⟩
  obtain ⟨g', o', e, h1, h2⟩ := h.tat (by rw [List.length_map, List.length_drop] at h0; rw [List.length_map]; omega)
  cases e
  refine ⟨g, o + k, rfl, h1, fun i v hv => ?_⟩
  rw [List.map_drop, List.getElem?_drop] at hv
  rw [Nat.add_assoc]
  exact h2 (k + i) v hv
end Go.Proofs.YtggighikemhnfaaDoor.Tm
