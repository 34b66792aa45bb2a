/- Clauses: values, states. -/
import Derived.Test.YtggighikemhnfaaDoorProg
import Derived.Test.YtggighikemhnfaaDoorZTk
import Derived.Laws.MakeOwn
import Derived.Laws.OwnMore
import Derived.Deep.AppendLies
import Derived.Deep.OwnRows
import Derived.BigQuiet
namespace Go.Proofs.YtggighikemhnfaaDoor.Tm
open Go.RowKit
set_option linter.unusedVariables false
theorem eq_t {a b : Int} (h : a = b) : (a == b) = true := by simp [h]
theorem eq_f {a b : Int} (h : a ≠ b) : (a == b) = false := by simp [h]
theorem ne_f {a b : Int} (h : a = b) : (a != b) = false := by simp [h]
theorem ne_t {a b : Int} (h : a ≠ b) : (a != b) = true := by simp [h]
theorem below_drewN {B : Nat} {w w' : World} (h : Below B w w') {k : Nat} : Below B w (w'.drewN k) := ⟨h.os, h.tape, h.output, h.size, h.block⟩
theorem ball {w w1 w2 : World} (h : Below w.heap.size w w1) (k : Below w1.heap.size w1 w2) : Below w.heap.size w w2 := h.trans (k.mono h.size)
/-- The flat list of values lies at an address, in a block below B. -/
def At (w : World) (B : Nat) (L : List Value) (a : Option Addr) : Prop :=
  0 < L.length → ∃ g o : Nat, a = some ⟨g, o, none⟩ ∧ g < B ∧ ∀ (i : Nat) (v : Value), L[i]? = some v → w.cell? ⟨g, o + i, none⟩ = some v
theorem At.below {w w' : World} {B : Nat} {L : List Value} {a : Option Addr} (h : At w B L a) (hb : Below B w w') : At w' B L a := by
  intro h0
  obtain ⟨g, o, e, hg, hc⟩ := h h0
  exact ⟨g, o, e, hg, fun i v hv => (hb.cell (p := ⟨g, o + i, none⟩) hg).trans (hc i v hv)⟩
theorem At.more {w : World} {B B' : Nat} {L : List Value} {a : Option Addr} (h : At w B L a) (hB : B ≤ B') : At w B' L a := by
  intro h0
  obtain ⟨g, o, e, hg, hc⟩ := h h0
  exact ⟨g, o, e, by omega, hc⟩
theorem At.take {w : World} {B : Nat} {L : List Value} {a : Option Addr} (h : At w B L a) (k : Nat) : At w B (L.take k) a := by
  intro h0
  obtain ⟨g, o, e, hg, hc⟩ := h (by simp at h0; omega)
  refine ⟨g, o, e, hg, fun i v hv => hc i v ?_⟩
  rw [List.getElem?_take] at hv
  split at hv
  · exact hv
  · cases hv
theorem At.heap {w w' : World} {B : Nat} {L : List Value} {a : Option Addr} (h : At w B L a) (hk : ∀ g o, a = some ⟨g, o, none⟩ → w'.heap[g]? = w.heap[g]?) : At w' B L a := by
  intro h0
  obtain ⟨g, o, e, hg, hc⟩ := h h0
  exact ⟨g, o, e, hg, fun i v hv => (World.cell?_of_block (a := ⟨g, o + i, none⟩) (hk g o e)).trans (hc i v hv)⟩
/-- A place in a list put together of pieces of one length. -/
theorem get_flat {α : Type} {f : α → List Value} {n : Nat} (hn : ∀ x, (f x).length = n) : ∀ (l : List α) (k j : Nat) (x : α), l[k]? = some x → j < n → (l.flatMap f)[k * n + j]? = (f x)[j]?
  | [], k, j, x, h, _ => by simp at h
  | y :: r, 0, j, x, h, hj => by
    simp at h
    subst h
    simp only [List.flatMap_cons, Nat.zero_mul, Nat.zero_add]
    exact List.getElem?_append_left (by rw [hn]; exact hj)
  | y :: r, k + 1, j, x, h, hj => by
    simp only [List.flatMap_cons]
    rw [List.getElem?_append_right (by rw [hn, Nat.succ_mul]; omega), hn]
    have e : (k + 1) * n + j - n = k * n + j := by rw [Nat.succ_mul]; omega
    rw [e]
    exact get_flat hn r k j x (by simpa using h) hj
theorem len_flat {α : Type} {f : α → List Value} {n : Nat} (hn : ∀ x, (f x).length = n) : ∀ (l : List α), (l.flatMap f).length = l.length * n
  | [] => by simp
  | y :: r => by simp only [List.flatMap_cons, List.length_append, hn, len_flat hn r, List.length_cons, Nat.succ_mul]; omega
/-- Integers lie in a slice. -/
structure IntsR (w : World) (xs : List Int) (a : Option Addr) (c : Nat) : Prop where
  le : xs.length ≤ c
  cap : c ≤ maxLen
  tat : At w w.heap.size (xs.map (Value.int .i64)) a
  ok : ∀ x ∈ xs, I64 x
theorem IntsR.below {w w' : World} {xs : List Int} {a : Option Addr} {c : Nat} (h : IntsR w xs a c) (hb : Below w.heap.size w w') : IntsR w' xs a c :=
  ⟨h.le, h.cap, (h.tat.below hb).more hb.size, h.ok⟩
theorem IntsR.cell {w : World} {xs : List Int} {a : Option Addr} {c k : Nat} {x : Int} (h : IntsR w xs a c) (hk : xs[k]? = some x) : ∃ g o : Nat, a = some ⟨g, o, none⟩ ∧ g < w.heap.size ∧ w.cell? ⟨g, o + k, none⟩ = some (.int .i64 x) := by
  have hlt := (List.getElem?_eq_some_iff.1 hk).1
  obtain ⟨g, o, e, hg, hc⟩ := h.tat (by simp; omega)
  exact ⟨g, o, e, hg, hc k _ (by rw [List.getElem?_map, hk]; rfl)⟩
theorem IntsR.nil (w : World) (c : Nat) (hc : c ≤ maxLen) (a : Option Addr) : IntsR w [] a c := ⟨Nat.zero_le _, hc, fun h => absurd h (by simp), fun _ h => by simp at h⟩
/-- A row of one's own. -/
theorem ints_row {w : World} {b : Nat} {xs : List Int} {ty : TypeId} (h : w.heap[b]? = some (.cells ⟨xs.map (Value.int .i64)⟩ ty (0, 0))) (hok : ∀ x ∈ xs, I64 x) (hm : xs.length ≤ 3000) : IntsR w xs (some ⟨b, 0, none⟩) xs.length := by
  refine ⟨Nat.le_refl _, by unfold maxLen; omega, fun _ => ⟨b, 0, rfl, (Array.getElem?_eq_some_iff.1 h).1, fun i v hv => ?_⟩, hok⟩
  rw [Nat.zero_add, cell_of_row w b i _ _ _ h, ← Array.getElem?_toList]
  exact hv
theorem own_heap {w w' : World} {base size n : Nat} {E : TypeId} {v : Value} {L : List Value} (h : w.ownsRow base E size v n L) (hk : ∀ g, base ≤ g → g < w.heap.size → w'.heap[g]? = w.heap[g]?) : w'.ownsRow base E size v n L := by
  refine ⟨h.1, ?_⟩
  rcases h.2 with h1 | ⟨g, cap, cur, e, h1, h2, h3⟩
  · exact .inl h1
  · exact .inr ⟨g, cap, cur, e, h1, (hk g h1 (Array.getElem?_eq_some_iff.1 h2).1).trans h2, h3⟩
theorem own_base {w : World} {base base' size n : Nat} {E : TypeId} {v : Value} {L : List Value} (h : w.ownsRow base E size v n L) (hb : base' ≤ base) : w.ownsRow base' E size v n L := by
  refine ⟨h.1, ?_⟩
  rcases h.2 with h1 | ⟨g, cap, cur, e, h1, h2, h3⟩
  · exact .inl h1
  · exact .inr ⟨g, cap, cur, e, by omega, h2, h3⟩
theorem own_at {w : World} {base size n : Nat} {E : TypeId} {v : Value} {L : List Value} (h : w.ownsRow base E size v n L) : ∃ a c, v = .slice a n c ∧ n ≤ c ∧ c ≤ maxLen ∧ At w w.heap.size L a ∧ (0 < n → ∃ g, a = some ⟨g, 0, none⟩ ∧ base ≤ g ∧ g < w.heap.size) := by
  rcases h.2 with ⟨rfl, rfl⟩ | ⟨g, cap, cur, rfl, h1, h2, h3, h4, h5, h6⟩
  · refine ⟨none, 0, rfl, Nat.le_refl _, Nat.zero_le _, fun h0 => ?_, fun h0 => absurd h0 (by omega)⟩
    have := h.1
    omega
  · have hlt := (Array.getElem?_eq_some_iff.1 h2).1
    have hc : ∀ (i : Nat) (u : Value), L[i]? = some u → w.cell? ⟨g, i, none⟩ = some u := fun i u hu => by
      rw [← h6, List.getElem?_take] at hu
      split at hu
      · have := cell_of_row w g i _ _ _ h2
        rw [this, ← Array.getElem?_toList]
        exact hu
      · cases hu
    exact ⟨_, cap, rfl, h3, h4, fun _ => ⟨g, 0, rfl, hlt, fun i v hv => by rw [Nat.zero_add]; exact hc i v hv⟩, fun _ => ⟨g, rfl, h1, hlt⟩⟩
theorem info_int : (Tryd.prog.info? 3).map (fun i => (i.zero, i.size, i.bytes)) = some (some (.int .i64 0), 1, 8) := by kernel_rfl
theorem own_lt {w : World} {base size n : Nat} {E : TypeId} {v : Value} {L : List Value} (h : w.ownsRow base E size v n L) {g : Nat} (hg : v.ownBlock = some g) : base ≤ g ∧ g < w.heap.size := by
  rcases h.2 with ⟨rfl, _⟩ | ⟨g', cap, cur, rfl, h1, h2, _⟩
  · cases hg
  · obtain rfl : g' = g := by simpa [Value.ownBlock] using hg
    exact ⟨h1, (Array.getElem?_eq_some_iff.1 h2).1⟩
/-- A row of places of one's own. -/
def RowO (w : World) (base : Nat) (xs : List Int) (v : Value) : Prop := w.ownsRow base 3 1 v xs.length (xs.map (Value.int .i64))
theorem RowO.ints {w : World} {base : Nat} {xs : List Int} {v : Value} (h : RowO w base xs v) (hok : ∀ x ∈ xs, I64 x) : ∃ a c, v = .slice a xs.length c ∧ IntsR w xs a c := by
  obtain ⟨a, c, e, h1, h2, h3, _⟩ := own_at h
  exact ⟨a, c, e, h1, h2, h3, hok⟩
theorem RowO.keep {w w' : World} {base : Nat} {xs : List Int} {v : Value} (h : RowO w base xs v) (hb : Below w.heap.size w w') : RowO w' base xs v := own_heap h (fun g _ hg => hb.block g hg)
theorem RowO.base {w : World} {base base' : Nat} {xs : List Int} {v : Value} (h : RowO w base xs v) (hb : base' ≤ base) : RowO w base' xs v := own_base h hb
end Go.Proofs.YtggighikemhnfaaDoor.Tm
namespace Go.Proofs.YtggighikemhnfaaDoor.Tm
open Go.RowKit
set_option linter.unusedVariables false
/-- The literal turned about. -/
def negM (x : Int) : Int := if x % 2 = 0 then x + 1 else x - 1
theorem nat_xor1 (n : Nat) : n ^^^ 1 = if n % 2 = 0 then n + 1 else n - 1 := by
  have h1 := Nat.xor_div_two (a := n) (b := 1)
  have h2 : (n ^^^ 1) % 2 = (n + 1) % 2 := by
    have := Nat.testBit_xor n 1 0
    simp only [Nat.testBit_zero] at this
    by_cases h : n % 2 = 1 <;> by_cases h' : (n ^^^ 1) % 2 = 1
    · rw [decide_eq_true h, decide_eq_true h'] at this; cases this
    · omega
    · omega
    · rw [decide_eq_false h, decide_eq_false h'] at this; cases this
  rw [show (1 / 2 : Nat) = 0 from rfl, Nat.xor_zero] at h1
  split <;> omega
theorem i64_xor1 (x : Int) (hx : I64 x) : bits .xor .i64 x 1 = negM x := by
  obtain ⟨l1, l2⟩ := hx
  have h1 : (BitVec.ofInt 64 1).toNat = 1 := by decide
  have key : (BitVec.ofInt 64 x ^^^ BitVec.ofInt 64 1).toNat = (x % ((2 ^ 64 : Nat) : Int)).toNat ^^^ 1 := by
    rw [BitVec.toNat_xor, BitVec.toNat_ofInt, h1]
  show IntKind.i64.wrap ((BitVec.ofInt 64 x ^^^ BitVec.ofInt 64 1).toNat : Nat) = _
  rw [key, nat_xor1, IntKind.wrap_i64]
  unfold negM
  split <;> split <;> omega
theorem i64_and1 (x : Int) (hx : I64 x) : bits .and .i64 x 1 = x % 2 := by
  obtain ⟨l1, l2⟩ := hx
  have h1 : (BitVec.ofInt 64 1).toNat = 1 := by decide
  have key : (BitVec.ofInt 64 x &&& BitVec.ofInt 64 1).toNat = (x % ((2 ^ 64 : Nat) : Int)).toNat % 2 := by
    rw [BitVec.toNat_and, BitVec.toNat_ofInt, h1, Nat.and_one_is_mod]
  show IntKind.i64.wrap ((BitVec.ofInt 64 x &&& BitVec.ofInt 64 1).toNat : Nat) = _
  rw [key, IntKind.wrap_i64]
  omega
theorem negM_neg (x : Int) : negM (negM x) = x := by unfold negM; split <;> split <;> omega
theorem negM_ne (x : Int) : negM x ≠ x := by unfold negM; split <;> omega
theorem negM_i64 {x : Int} (h : I64 x) : I64 (negM x) := by
  obtain ⟨l1, l2⟩ := h
  unfold negM I64
  split <;> omega
theorem negM_half (x : Int) : negM x / 2 = x / 2 := by unfold negM; split <;> omega
theorem negM_nonneg {x : Int} (h : 0 ≤ x) : 0 ≤ negM x := by unfold negM; split <;> omega
theorem Neg_any (x : Int) (w : World) (hx : I64 x) :
    Calls Tryd.prog 62 #[.int .i64 x] w fun e w' => e = .returned (.int .i64 (negM x)) ∧ w = w' := by
  have h := i64_xor1 x hx
  have H := Lib.hid h
  clear h hx
  go_enter Tryd.func62, Tryd.ntmps62
  go_wp2
  go_ret
  exact ⟨ret_int H.out, rfl⟩
theorem Node_any (x : Int) (w : World) (hx : I64 x) :
    Calls Tryd.prog 46 #[.int .i64 x] w fun e w' => e = .returned (.int .i64 (x / 2)) ∧ w = w' := by
  obtain ⟨h1, h2⟩ := hx
  go_enter Tryd.func46, Tryd.ntmps46
  go_wp2
  go_ret
  exact ⟨rfl, rfl⟩
theorem Is_any (x : Int) (w : World) (hx : I64 x) :
    Calls Tryd.prog 66 #[.int .i64 x] w fun e w' => e = .returned (.bool (decide (x % 2 = 1))) ∧ w = w' := by
  have h := i64_and1 x hx
  have hr : (bits .and .i64 x 1 != 0) = decide (x % 2 = 1) := by
    rw [h]
    by_cases h1 : x % 2 = 1
    · rw [decide_eq_true h1, h1]; rfl
    · rw [decide_eq_false h1, show x % 2 = 0 by omega]; rfl
  have H := Lib.hid hr
  clear h hr hx
  go_enter Tryd.func66, Tryd.ntmps66
  go_wp2
  go_ret
  exact ⟨ret_bool H.out, rfl⟩
theorem drop_get {α : Type} {l : List α} {k : Nat} {x : α} (h : l[k]? = some x) : l.drop k = x :: l.drop (k + 1) := by
  have hlt := (List.getElem?_eq_some_iff.1 h).1
  have e := (List.getElem?_eq_some_iff.1 h).2
  rw [List.drop_eq_getElem_cons hlt, e]
end Go.Proofs.YtggighikemhnfaaDoor.Tm
namespace Go.Proofs.YtggighikemhnfaaDoor.Tm
open Go.RowKit
set_option linter.unusedVariables false
def turnL : List Int := [0, 2, 1]
/-- What the package's variable holds. -/
structure GC (w : World) : Prop where
  lt : 0 < w.heap.size
  cell : ∀ k v, turnL[k]? = some v → w.cell? ⟨0, k, none⟩ = some (.int .i8 v)
theorem GC.below {w w' : World} (h : GC w) (hb : Below w.heap.size w w') : GC w' := ⟨Nat.lt_of_lt_of_le h.lt hb.size, fun k v hk => (hb.cell (p := ⟨0, k, none⟩) h.lt).trans (h.cell k v hk)⟩
/-- An assignment lies in a slice. -/
structure ValR (w : World) (vs : List Int) (a : Option Addr) (c : Nat) : Prop where
  le : vs.length ≤ c
  cap : c ≤ maxLen
  tat : At w w.heap.size (vs.map (Value.int .i8)) a
  ok : ∀ v ∈ vs, v = 0 ∨ v = 1 ∨ v = 2
theorem ValR.below {w w' : World} {vs : List Int} {a : Option Addr} {c : Nat} (h : ValR w vs a c) (hb : Below w.heap.size w w') : ValR w' vs a c :=
  ⟨h.le, h.cap, (h.tat.below hb).more hb.size, h.ok⟩
theorem ValR.cell {w : World} {vs : List Int} {a : Option Addr} {c k : Nat} {x : Int} (h : ValR w vs a c) (hk : vs[k]? = some x) : ∃ g o : Nat, a = some ⟨g, o, none⟩ ∧ g < w.heap.size ∧ w.cell? ⟨g, o + k, none⟩ = some (.int .i8 x) := by
  have hlt := (List.getElem?_eq_some_iff.1 hk).1
  obtain ⟨g, o, e, hg, hc⟩ := h.tat (by simp; omega)
  exact ⟨g, o, e, hg, hc k _ (by rw [List.getElem?_map, hk]; rfl)⟩
/-- Bools lie in a slice. -/
structure BoolsR (w : World) (bs : List Bool) (a : Option Addr) (c : Nat) : Prop where
  le : bs.length ≤ c
  cap : c ≤ maxLen
  tat : At w w.heap.size (bs.map Value.bool) a
theorem BoolsR.below {w w' : World} {bs : List Bool} {a : Option Addr} {c : Nat} (h : BoolsR w bs a c) (hb : Below w.heap.size w w') : BoolsR w' bs a c :=
  ⟨h.le, h.cap, (h.tat.below hb).more hb.size⟩
theorem BoolsR.cell {w : World} {bs : List Bool} {a : Option Addr} {c k : Nat} {x : Bool} (h : BoolsR w bs a c) (hk : bs[k]? = some x) : ∃ g o : Nat, a = some ⟨g, o, none⟩ ∧ g < w.heap.size ∧ w.cell? ⟨g, o + k, none⟩ = some (.bool x) := by
  have hlt := (List.getElem?_eq_some_iff.1 hk).1
  obtain ⟨g, o, e, hg, hc⟩ := h.tat (by simp; omega)
  exact ⟨g, o, e, hg, hc k _ (by rw [List.getElem?_map, hk]; rfl)⟩
/-- A literal's value. -/
def valM (vs : List Int) (x : Int) : Int :=
  match vs[(x / 2).toNat]? with
  | none => 0
  | some v => if v = 1 ∨ v = 2 then (if x % 2 = 1 then 3 - v else v) else 0
theorem Val_any (vs : List Int) (a : Option Addr) (c : Nat) (x : Int) (r : Int) (w : World) (hG : GC w) (hA : ValR w vs a c) (hx : I64 x) (h0 : 0 ≤ x) (hr : valM vs x = r) :
    Calls Tryd.prog 61 #[.slice a vs.length c, .int .i64 x] w fun e w' => e = .returned (.int .i8 r) ∧ w = w' := by
  have HN : Hid (∀ V, Calls Tryd.prog 46 #[.int .i64 x] V fun e w' => e = .returned (.int .i64 (x / 2)) ∧ V = w') := fun V => Node_any x V hx
  have hx0 : ¬ x < 0 := by omega
  have l1 : vs.length ≤ c := hA.le
  have c1 : vs.length ≤ 9223372036854775807 := by have := hA.cap; simp only [maxLen] at this; omega
  obtain ⟨k, hk⟩ : ∃ k : Nat, x / 2 = (k : Int) := ⟨(x / 2).toNat, by omega⟩
  rw [hk] at HN
  unfold valM at hr
  rw [hk, Int.toNat_natCast] at hr
  have hd0 : decide (x < 0) = false := decide_eq_false (by omega)
  by_cases hkl : k < vs.length
  · obtain ⟨v, hv⟩ : ∃ v, vs[k]? = some v := ⟨_, List.getElem?_eq_getElem hkl⟩
    obtain ⟨g, o, rfl, hg, q0⟩ := hA.cell hv
    have hok := hA.ok v (List.mem_of_getElem? hv)
    rw [hv] at hr
    have hg1 : decide ((vs.length : Int) ≤ (k : Int)) = false := decide_eq_false (by omega)
    have t0 := hG.cell 0 0 rfl
    have t1 := hG.cell 1 2 rfl
    have t2 := hG.cell 2 1 rfl
    have tz := hG.lt
    have hki : (k : Int) < (vs.length : Int) := by omega
    obtain ⟨p, hp⟩ : ∃ p, decide (x % 2 = 1) = p := ⟨_, rfl⟩
    have HI : Hid (∀ V, Calls Tryd.prog 66 #[.int .i64 x] V fun e w' => e = .returned (.bool p) ∧ V = w') := fun V => by rw [← hp]; exact Is_any x V hx
    have hpr : (if v = 1 ∨ v = 2 then (if p = true then 3 - v else v) else 0) = r := by rw [← hr, ← hp]; simp only [decide_eq_true_eq]
    clear hA hG hv hk hr hp
    rcases hok with rfl | rfl | rfl
    · have hR : (0 : Int) = r := by rw [← hpr]; rfl
      have HR := Lib.hid hR
      clear hR hpr
      cases p
      · go_enter Tryd.func61, Tryd.ntmps61
        go_wp2_with (first | (go_at_call 46; refine (HN.out _).mono ?_; rintro e w1 ⟨rfl, rfl⟩) | (go_at_call 66; refine (HI.out _).mono ?_; rintro e w1 ⟨rfl, rfl⟩))
        go_ret
        exact ⟨ret_int HR.out, rfl⟩
      · go_enter Tryd.func61, Tryd.ntmps61
        go_wp2_with (first | (go_at_call 46; refine (HN.out _).mono ?_; rintro e w1 ⟨rfl, rfl⟩) | (go_at_call 66; refine (HI.out _).mono ?_; rintro e w1 ⟨rfl, rfl⟩))
        go_ret
        exact ⟨ret_int HR.out, rfl⟩
    · cases p
      · have hR : (1 : Int) = r := by rw [← hpr]; rfl
        have HR := Lib.hid hR
        clear hR hpr
        go_enter Tryd.func61, Tryd.ntmps61
        go_wp2_with (first | (go_at_call 46; refine (HN.out _).mono ?_; rintro e w1 ⟨rfl, rfl⟩) | (go_at_call 66; refine (HI.out _).mono ?_; rintro e w1 ⟨rfl, rfl⟩))
        go_ret
        exact ⟨ret_int HR.out, rfl⟩
      · have hR : (2 : Int) = r := by rw [← hpr]; rfl
        have HR := Lib.hid hR
        clear hR hpr
        go_enter Tryd.func61, Tryd.ntmps61
        go_wp2_with (first | (go_at_call 46; refine (HN.out _).mono ?_; rintro e w1 ⟨rfl, rfl⟩) | (go_at_call 66; refine (HI.out _).mono ?_; rintro e w1 ⟨rfl, rfl⟩))
        go_ret
        exact ⟨ret_int HR.out, rfl⟩
    · cases p
      · have hR : (2 : Int) = r := by rw [← hpr]; rfl
        have HR := Lib.hid hR
        clear hR hpr
        go_enter Tryd.func61, Tryd.ntmps61
        go_wp2_with (first | (go_at_call 46; refine (HN.out _).mono ?_; rintro e w1 ⟨rfl, rfl⟩) | (go_at_call 66; refine (HI.out _).mono ?_; rintro e w1 ⟨rfl, rfl⟩))
        go_ret
        exact ⟨ret_int HR.out, rfl⟩
      · have hR : (1 : Int) = r := by rw [← hpr]; rfl
        have HR := Lib.hid hR
        clear hR hpr
        go_enter Tryd.func61, Tryd.ntmps61
        go_wp2_with (first | (go_at_call 46; refine (HN.out _).mono ?_; rintro e w1 ⟨rfl, rfl⟩) | (go_at_call 66; refine (HI.out _).mono ?_; rintro e w1 ⟨rfl, rfl⟩))
        go_ret
        exact ⟨ret_int HR.out, rfl⟩
  · have hg1 : decide ((vs.length : Int) ≤ (k : Int)) = true := decide_eq_true (by omega)
    rw [List.getElem?_eq_none (by omega)] at hr
    have HR : Hid (0 = r) := hr
    clear hA hG hk hr
    go_enter Tryd.func61, Tryd.ntmps61
    go_wp2_with (first | (go_at_call 46; refine (HN.out _).mono ?_; rintro e w1 ⟨rfl, rfl⟩))
    go_ret
    exact ⟨ret_int HR.out, rfl⟩
/-- A row in a row of rows. -/
structure RowD where
  xs : List Int
  a : Option Addr
  c : Nat
def rowV (r : RowD) : Value := .slice r.a r.xs.length r.c
structure RowsR (w : World) (rs : List RowD) (a : Option Addr) (c : Nat) : Prop where
  le : rs.length ≤ c
  cap : c ≤ maxLen
  tat : At w w.heap.size (rs.map rowV) a
  ok : ∀ r ∈ rs, IntsR w r.xs r.a r.c
theorem RowsR.below {w w' : World} {rs : List RowD} {a : Option Addr} {c : Nat} (h : RowsR w rs a c) (hb : Below w.heap.size w w') : RowsR w' rs a c :=
  ⟨h.le, h.cap, (h.tat.below hb).more hb.size, fun r hr => (h.ok r hr).below hb⟩
theorem RowsR.cell {w : World} {rs : List RowD} {a : Option Addr} {c k : Nat} {r : RowD} (h : RowsR w rs a c) (hk : rs[k]? = some r) : ∃ g o : Nat, a = some ⟨g, o, none⟩ ∧ g < w.heap.size ∧ w.cell? ⟨g, o + k, none⟩ = some (.slice r.a r.xs.length r.c) := by
  have hlt := (List.getElem?_eq_some_iff.1 hk).1
  obtain ⟨g, o, e, hg, hc⟩ := h.tat (by simp; omega)
  exact ⟨g, o, e, hg, hc k _ (by rw [List.getElem?_map, hk]; rfl)⟩
end Go.Proofs.YtggighikemhnfaaDoor.Tm
