/- What Read answers, for the laws: where it stops, its parts; Same of what is read twice. -/
import Derived.Test.YthbgigjjmojgfaaDoorSexHt
import Derived.Test.YthbgigjjmojgfaaDoorSexWk
import Derived.Test.YthbgigjjmojgfaaDoorSexSkip
import Derived.Laws.BitsLemmas
import Derived.Test.YthbgigjjmojgfaaDoorSexGlobs
namespace Go.Proofs.YthbgigjjmojgfaaDoor
open Go.RowKit
set_option linter.unusedVariables false
theorem contR_stop (L : List UInt8) : ∀ (f : Nat) (s : RS) (k N : Nat), k ≤ L.length → (OkS N s ∨ (∃ t, s = .fin t) ∨ s = .deep 0) → (contR L f s k).stop ≤ L.length := by
  intro f
  induction f with
  | zero =>
    intro s k N hk hs
    rcases hs with hs | ⟨t, rfl⟩ | rfl
    · cases s with
      | fin t => exact hs.elim
      | run st => exact Nat.zero_le _
      | deep n =>
        obtain ⟨n, rfl⟩ : ∃ m, n = m + 1 := ⟨n - 1, by have := hs.2; omega⟩
        exact Nat.zero_le _
    · rw [contR_fin]; exact hk
    · rw [contR_deep]; exact hk
  | succ f ih =>
    intro s k N hk hs
    rcases hs with hs | ⟨t, rfl⟩ | rfl
    · rw [contR_go L f s k N hs]
      have hsk := (skipA_le (l := L) hk).2
      by_cases herr : (nextL L k).err ≠ 0
      · rw [if_pos herr]
        obtain ⟨_, _, hx, _⟩ := nextL_err herr
        rw [hx]; exact hsk
      · rw [if_neg herr]
        cases hok : (nextL L k).ok with
        | false => rw [if_pos rfl]; exact Nat.le_refl _
        | true =>
          rw [if_neg (by simp)]
          obtain ⟨hs1, hs2, _⟩ := nextL_stop hk hok
          cases htk : takeS s (nextL L k).tok.kind (nextL L k).tok.text with
          | none =>
            obtain ⟨kd, t, m, htok, hx⟩ := nextL_ok hok
            rw [hx]; exact hsk
          | some s' =>
            refine ih s' _ (N + 1) hs2 ?_
            rcases takeS_ok hs htk with h | h | h
            · exact .inl h.1
            · exact .inr (.inl h)
            · exact .inr (.inr h)
    · rw [contR_fin]; exact hk
    · rw [contR_deep]; exact hk
theorem readL_stop (L : List UInt8) {k : Nat} (hk : k ≤ L.length) : (readL L k).stop ≤ L.length := contR_stop L _ (.run []) k 0 hk (.inl ok_start)
theorem and3 (a : Int) : ∃ j : Nat, j < 4 ∧ Go.bits .and .i64 a 3 = (j : Int) := by
  refine ⟨(BitVec.ofInt 64 a).toNat % 4, by omega, ?_⟩
  have h3 : (BitVec.ofInt 64 (3 : Int)).toNat = 2 ^ 2 - 1 := by decide
  have hb : Go.bits .and .i64 a 3 = IntKind.i64.wrap (((BitVec.ofInt 64 a) &&& (BitVec.ofInt 64 (3 : Int))).toNat : Int) := rfl
  rw [hb, BitVec.toNat_and, h3, Nat.and_two_pow_sub_one_eq_mod, IntKind.wrap_i64]
  have := Nat.mod_lt (BitVec.ofInt 64 a).toNat (show 0 < 2 ^ 2 by decide)
  omega
theorem white_0 (L : List UInt8) : skipN false ([32] ++ L) = [32].length + skipN false L := by
  rw [List.cons_append, List.nil_append, skipN_yes (by decide)]; simp [cmt]; omega
theorem white_1 (L : List UInt8) : skipN false ([10, 9] ++ L) = [10, 9].length + skipN false L := by
  rw [List.cons_append, List.cons_append, List.nil_append, skipN_yes (by decide), show cmt false 10 = false from rfl, skipN_yes (by decide), show cmt false 9 = false from rfl]; simp; omega
theorem white_2 (L : List UInt8) : skipN false ([59, 32, 40, 97, 10] ++ L) = [59, 32, 40, 97, 10].length + skipN false L := by
  simp only [List.cons_append, List.nil_append]
  rw [skipN_yes (by decide), show cmt false 59 = true from rfl, skipN_yes (by decide), show cmt true 32 = true from rfl, skipN_yes (by decide), show cmt true 40 = true from rfl, skipN_yes (by decide), show cmt true 97 = true from rfl, skipN_yes (by decide), show cmt true 10 = false from rfl]
  simp; omega
theorem white_3 (L : List UInt8) : skipN false (([] : List UInt8) ++ L) = ([] : List UInt8).length + skipN false L := by simp
/-- Read's answer, in parts. -/
theorem read_to (s : ByteArray) (X : RdR) (hs : s.size ≤ 2000) (hX : readL s.data.toList 0 = X) (W : World) (hG : Globs W) (hK : Kinds W) :
    Calls Tryd.prog 9 #[.string s, .int .i64 0] W fun e w' => ∃ a cap, e = .returned (.tuple #[.agg #[.int .i8 X.t.kind, .string (bytesL X.t.text), .slice a X.t.kids.length cap], .int .i64 X.stop, .int .i64 X.err]) ∧ RdOut W.heap.size w' X.t (.agg #[.int .i8 X.t.kind, .string (bytesL X.t.text), .slice a X.t.kids.length cap]) ∧ Below W.heap.size W w' := by
  refine (Read_is s 0 0 X W hG hK (by omega) rfl (by decide) (by omega) hX).mono ?_
  rintro e w' ⟨v, rfl, h1, h2⟩
  obtain ⟨a, cap, rfl⟩ := h1.parts
  exact ⟨a, cap, rfl, h1, h2⟩
theorem same_to (B B' : Nat) (t : Tree) (va vb : Value) (W : World) (h : hT t ≤ 60) (ha : RdOut B W t va) (hb : RdOut B' W t vb) :
    Calls Tryd.prog 21 #[va, vb] W fun e w' => e = .returned (.bool true) ∧ Below W.heap.size W w' := by
  refine (Same_out B B' t t va vb W h ha hb).mono ?_
  rintro e w' ⟨⟨r, rfl, hr⟩, hb⟩
  exact ⟨by rw [hr.2 rfl], hb⟩
end Go.Proofs.YthbgigjjmojgfaaDoor
