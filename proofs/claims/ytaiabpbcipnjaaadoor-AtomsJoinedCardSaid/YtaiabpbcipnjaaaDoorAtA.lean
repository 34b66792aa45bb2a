/- Atoms: literals, plainly; the small functions. -/
import Derived.Test.YtaiabpbcipnjaaaDoorTyA
import Derived.Test.YtaiabpbcipnjaaaDoorTmL
import Derived.Test.YtaiabpbcipnjaaaDoorTmM
import Derived.BigQuiet
namespace Go.Proofs.YtaiabpbcipnjaaaDoor.Tm
open Go.RowKit
set_option linter.unusedVariables false
def nodA (l : List NodeA) (i : Int) : NodeA := l.getD i.toNat trueN
theorem nodA_at {l : List NodeA} {k : Nat} {n : NodeA} (h : l[k]? = some n) : nodA l (k : Int) = n := by
  unfold nodA
  rw [List.getD_eq_getElem?_getD, Int.toNat_natCast, h]; rfl
theorem or1 (k : Nat) : k * 2 ||| 1 = k * 2 + 1 := by
  have := Nat.two_pow_add_eq_or_of_lt (i := 1) (b := 1) (by omega) k
  rw [show 2 ^ 1 * k = k * 2 by omega] at this
  exact this.symm
theorem i64_or1 (k : Nat) (hk : k ≤ 3000) : bits .or .i64 ((k : Int) * 2) 1 = (k : Int) * 2 + 1 := by
  have h1 : (BitVec.ofInt 64 1).toNat = 1 := by decide
  have key : (BitVec.ofInt 64 ((k : Int) * 2) ||| BitVec.ofInt 64 1).toNat = k * 2 + 1 := by
    rw [BitVec.toNat_or, BitVec.toNat_ofInt, h1]
    have : (((k : Int) * 2) % ((2 ^ 64 : Nat) : Int)).toNat = k * 2 := by omega
    rw [this, or1]
  show IntKind.i64.wrap ((BitVec.ofInt 64 ((k : Int) * 2) ||| BitVec.ofInt 64 1).toNat : Nat) = _
  rw [key, IntKind.wrap_i64]
  omega
/-- A literal's number. -/
def ltN (r : Nat × Bool) : Int := 2 * (r.1 : Int) + (if r.2 = true then 1 else 0)
theorem ltN_half (r : Nat × Bool) : ltN r / 2 = (r.1 : Int) := by
  obtain ⟨k, b⟩ := r
  cases b <;> simp [ltN] <;> omega
theorem Node_any (x : Int) (w : World) (hx : I64 x) :
    Calls Tryd.prog 24 #[.int .i64 x] w fun e w' => e = .returned (.int .i64 (x / 2)) ∧ w = w' := by
  obtain ⟨h1, h2⟩ := hx
  go_enter Tryd.func24, Tryd.ntmps24
  go_wp2
  go_ret
  exact ⟨rfl, rfl⟩
theorem RNode_any (x : Int) (w : World) (hx : I64 x) :
    Calls Tryd.prog 33 #[.int .i64 x] w fun e w' => e = .returned (.int .i64 (x / 2)) ∧ w = w' := by
  obtain ⟨h1, h2⟩ := hx
  go_enter Tryd.func33, Tryd.ntmps33
  go_wp2
  go_ret
  exact ⟨rfl, rfl⟩
theorem Make_any (k : Nat) (neg : Bool) (w : World) (hk : k ≤ 3000) :
    Calls Tryd.prog 10 #[.int .i64 k, .bool neg] w fun e w' => e = .returned (.int .i64 (ltN (k, neg))) ∧ w = w' := by
  have ho := i64_or1 k hk
  cases neg with
  | false =>
    have hr : (k : Int) * 2 = ltN (k, false) := by simp [ltN]; omega
    have HR := Lib.hid hr
    clear hr ho
    go_enter Tryd.func10, Tryd.ntmps10
    go_wp2
    go_ret
    exact ⟨ret_int HR.out, rfl⟩
  | true =>
    have hr : bits .or .i64 ((k : Int) * 2) 1 = ltN (k, true) := by rw [ho]; simp [ltN]; omega
    have HR := Lib.hid hr
    clear hr ho
    go_enter Tryd.func10, Tryd.ntmps10
    go_wp2
    go_ret
    exact ⟨ret_int HR.out, rfl⟩
def hasB (l : List NodeA) (id : Int) : Bool := decide (0 ≤ id ∧ id < (l.length : Int))
theorem has_any (l : List NodeA) (a : Option Addr) (c : Nat) (id : Int) (q : Bool) (w : World) (hl : l.length ≤ 9223372036854775807) (hq : hasB l id = q) :
    Calls Tryd.prog 22 #[.agg #[.slice a l.length c], .int .i64 id] w fun e w' => e = .returned (.bool q) ∧ Below w.heap.size w w' := by
  have HB0 : Hid (Below w.heap.size w (w.alloc (.cells #[.slice a l.length c] 24))) := (Below.refl _ w).alloc (Nat.le_refl _) _
  by_cases h0 : 0 ≤ id
  · by_cases h1 : id < (l.length : Int)
    · obtain rfl : true = q := by rw [← hq]; exact (decide_eq_true ⟨h0, h1⟩).symm
      clear hq
      go_enter Tryd.func22, Tryd.ntmps22
      go_wp2
      go_ret
      exact ⟨rfl, HB0.out⟩
    · obtain rfl : false = q := by rw [← hq]; exact (decide_eq_false (fun h => h1 h.2)).symm
      clear hq
      go_enter Tryd.func22, Tryd.ntmps22
      go_wp2
      go_ret
      exact ⟨rfl, HB0.out⟩
  · obtain rfl : false = q := by rw [← hq]; exact (decide_eq_false (fun h => h0 h.1)).symm
    clear hq
    go_enter Tryd.func22, Tryd.ntmps22
    go_wp2
    go_ret
    exact ⟨rfl, HB0.out⟩
/-- A Bool node, but no OpNot. -/
def isB (n : NodeA) : Bool := decide (n.sort = 0) && !decide (n.op = 1)
theorem isBool_any (n : NodeA) (q : Bool) (w : World) (hq : isB n = q) :
    Calls Tryd.prog 21 #[.agg #[.int .i8 n.op, .int .i8 n.len, .int .i64 n.a0, .int .i64 n.a1, .int .i64 n.a2, .int .i64 n.sort, .int .i64 n.fn, .int .i64 n.num]] w fun e w' => e = .returned (.bool q) ∧ Below w.heap.size w w' := by
  have HB0 : Hid (Below w.heap.size w (w.alloc (.cells #[.int .i8 n.op, .int .i8 n.len, .int .i64 n.a0, .int .i64 n.a1, .int .i64 n.a2, .int .i64 n.sort, .int .i64 n.fn, .int .i64 n.num] 34))) := (Below.refl _ w).alloc (Nat.le_refl _) _
  by_cases h0 : n.sort = 0
  · by_cases h1 : n.op = 1
    · obtain rfl : false = q := by rw [← hq]; unfold isB; rw [decide_eq_true h0, decide_eq_true h1]; rfl
      have e0 := eq_t h0
      have e1 := ne_f h1
      clear hq h0 h1
      go_enter Tryd.func21, Tryd.ntmps21
      go_wp2
      go_ret
      exact ⟨rfl, HB0.out⟩
    · obtain rfl : true = q := by rw [← hq]; unfold isB; rw [decide_eq_true h0, decide_eq_false h1]; rfl
      have e0 := eq_t h0
      have e1 := ne_t h1
      clear hq h0 h1
      go_enter Tryd.func21, Tryd.ntmps21
      go_wp2
      go_ret
      exact ⟨rfl, HB0.out⟩
  · obtain rfl : false = q := by rw [← hq]; unfold isB; rw [decide_eq_false h0]; rfl
    have e0 := eq_f h0
    clear hq h0
    go_enter Tryd.func21, Tryd.ntmps21
    go_wp2
    go_ret
    exact ⟨rfl, HB0.out⟩
/-- What a node comes to without its OpNots. -/
def litF (l : List NodeA) : Nat → Nat → Bool → Nat × Bool
  | 0, k, b => (k, b)
  | f + 1, k, b => if (nodA l k).op = 1 then litF l f (nodA l k).a0.toNat (!b) else (k, b)
theorem not_low {l : List NodeA} (h : okFrom [] l = true) {k : Nat} {n : NodeA} (hk : l[k]? = some n) (h1 : n.op = 1) : 0 ≤ n.a0 ∧ n.a0 < (k : Int) := by
  have h2 := (ok_at h hk).1
  unfold standsB at h2
  rw [decide_eq_true_eq] at h2
  obtain ⟨⟨_, _, hf⟩, _, h3, _⟩ := h2
  rw [if_neg (by omega), if_neg (by omega)] at hf
  have hl1 : n.len = 1 := by rw [hf.1, h1]; rfl
  exact h3.1 (by rw [hl1]; decide)
theorem litF_low {l : List NodeA} (h : okFrom [] l = true) {k : Nat} (h1 : (nodA l k).op = 1) : (nodA l k).a0.toNat < k := by
  cases e : l[k]? with
  | none =>
    unfold nodA at h1
    rw [List.getD_eq_getElem?_getD, Int.toNat_natCast, e] at h1
    exact absurd h1 (by decide)
  | some n =>
    rw [nodA_at e] at h1 ⊢
    have := not_low h e h1
    omega
theorem litF_fuel {l : List NodeA} (h : okFrom [] l = true) : ∀ (f k : Nat) (b : Bool), k < f → litF l f k b = litF l (k + 1) k b := by
  intro f
  induction f using Nat.strongRecOn with
  | ind f ih =>
    intro k b hk
    obtain ⟨g, rfl⟩ : ∃ g, f = g + 1 := ⟨f - 1, by omega⟩
    simp only [litF]
    split
    · rename_i h1
      have hlow := litF_low h h1
      rw [ih g (by omega) _ _ (by omega)]
      by_cases hkg : k = g
      · rw [hkg] at hlow ⊢
        rw [ih g (by omega) _ _ (by rw [← hkg] at hlow ⊢; exact hlow)]
      · rw [ih k (by omega) _ _ hlow]
    · rfl
theorem litF_step {l : List NodeA} (h : okFrom [] l = true) {k m : Nat} {n : NodeA} (hk : l[k]? = some n) (h1 : n.op = 1) (hm : n.a0 = (m : Int)) (b : Bool) : litF l (k + 1) k b = litF l (m + 1) m (!b) := by
  have hl := not_low h hk h1
  show (if (nodA l k).op = 1 then litF l k (nodA l k).a0.toNat (!b) else (k, b)) = _
  rw [nodA_at hk, if_pos h1, hm, Int.toNat_natCast, litF_fuel h k m _ (by omega)]
theorem litF_end {l : List NodeA} {k : Nat} {n : NodeA} (hk : l[k]? = some n) (h1 : ¬ n.op = 1) (b : Bool) : litF l (k + 1) k b = (k, b) := by
  show (if (nodA l k).op = 1 then _ else (k, b)) = _
  rw [nodA_at hk, if_neg h1]
theorem litF_lt {l : List NodeA} (h : okFrom [] l = true) : ∀ (f k : Nat) (b : Bool), k < l.length → (litF l f k b).1 < l.length
  | 0, k, b, hk => hk
  | f + 1, k, b, hk => by
    simp only [litF]
    split
    · rename_i h1
      have := litF_low h h1
      exact litF_lt h f _ _ (by omega)
    · exact hk
theorem tab_box {w W0 : World} {v : Value} {T : TypeId} (hW0 : W0 = w.alloc (.cells #[v] T)) : Below w.heap.size w W0 ∧ (∀ V, Below W0.heap.size W0 V → V.cell? ⟨w.heap.size, 0, none⟩ = some v ∧ w.heap.size < V.heap.size) := by
  have hX0 : W0.heap[w.heap.size]? = some (.cells #[v] T (0, 0)) := by rw [hW0]; exact heap_alloc_new w _
  refine ⟨by rw [hW0]; exact (Below.refl _ w).alloc (Nat.le_refl _) _, fun V hV => ?_⟩
  have e0 := (hV.block _ (Array.getElem?_eq_some_iff.1 hX0).1).trans hX0
  exact ⟨(cell_of_row _ _ 0 _ _ _ e0).trans rfl, (Array.getElem?_eq_some_iff.1 e0).1⟩
set_option maxRecDepth 100000 in
set_option maxHeartbeats 2000000 in
theorem literal_any (l : List NodeA) (a : Option Addr) (c k : Nat) (r : Nat × Bool) (w : World) (hA : TabR w l a c) (hm : okFrom [] l = true) (hl : l.length ≤ 3000) (hk : k < l.length) (hr : litF l (k + 1) k false = r) :
    Calls Tryd.prog 23 #[.agg #[.slice a l.length c], .int .i64 k] w fun e w' => e = .returned (.int .i64 (ltN r)) ∧ Below w.heap.size w w' := by
  obtain ⟨W0, hW0⟩ : ∃ W0, W0 = w.alloc (.cells #[.slice a l.length c] 24) := ⟨_, rfl⟩
  obtain ⟨hB0, hX⟩ := tab_box hW0
  have HX := Lib.hid hX
  have HB0 := Lib.hid hB0
  have HMk : Hid (∀ (V : World) (j : Nat) (b : Bool), j ≤ 3000 → Calls Tryd.prog 10 #[.int .i64 j, .bool b] V fun e w' => e = .returned (.int .i64 (ltN (j, b))) ∧ V = w') := fun V j b hj => Make_any j b V hj
  have HA := Lib.hid hA
  have HM := Lib.hid hm
  have HR := Lib.hid hr
  have hcap := hA.le
  clear hX hB0 hA hm hr
  go_enter Tryd.func23, Tryd.ntmps23
  go_wp2_with fail
  rw [← hW0]
  clear hW0
  go_loopw [1, 5] (fun i b wr => ∃ (j : Nat) (nb : Bool), j < l.length ∧ i = .int .i64 j ∧ b = .bool nb ∧ Hid (litF l (j + 1) j nb = r) ∧ Hid (Below W0.heap.size W0 wr)) (fun i _ _ => (intOf i).toNat)
  case atStart => exact ⟨k, false, hk, rfl, rfl, HR, Below.refl _ _⟩
  case round =>
    clear HR hk
    obtain ⟨j, nb, hj, rfl, rfl, HJ, HW⟩ := hrel
    obtain ⟨x0, xz⟩ := HX.out _ HW.out
    obtain ⟨n, hn⟩ : ∃ n, l[j]? = some n := ⟨_, List.getElem?_eq_getElem hj⟩
    obtain ⟨g, o, rfl, hg, q0, q1, q2, q3, q4, q5, q6, q7⟩ := (HA.out.below (HB0.out.trans (HW.out.mono HB0.out.size))).node hn
    have hji : (j : Int) < (l.length : Int) := by omega
    have hj0 : (0 : Int) ≤ (j : Int) := by omega
    have hj3 : j ≤ 3000 := by omega
    by_cases h1 : n.op = 1
    · have hlow := not_low HM.out hn h1
      obtain ⟨m, hm⟩ : ∃ m : Nat, n.a0 = (m : Int) := ⟨n.a0.toNat, by omega⟩
      have hmj : m < j := by omega
      have HJ2 : Hid (litF l (m + 1) m (!nb) = r) := (litF_step HM.out hn h1 hm nb).symm.trans HJ.out
      have e1 := eq_t h1
      rw [hm] at q2
      clear hn hm hlow h1 HJ
      go_wp2_with fail
      go_roundw
      case rel => exact ⟨m, !nb, by omega, rfl, rfl, HJ2, HW⟩
      case measure => simp [intOf]; omega
    · have HJ2 : Hid ((j, nb) = r) := (litF_end hn h1 nb).symm.trans HJ.out
      have e1 := eq_f h1
      clear hn h1 HJ
      go_wp2_with (refine (HMk.out _ j nb hj3).mono ?_; rintro e w1 ⟨rfl, rfl⟩)
      go_ret
      exact ⟨ret_int (by rw [HJ2.out]), HB0.out.trans (HW.out.mono HB0.out.size)⟩
end Go.Proofs.YtaiabpbcipnjaaaDoor.Tm
