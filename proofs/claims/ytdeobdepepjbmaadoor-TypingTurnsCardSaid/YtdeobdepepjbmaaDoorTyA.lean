/- Rules as plain data; alike. -/
import Derived.Test.YtdeobdepepjbmaaDoorTmJ
namespace Go.Proofs.YtdeobdepepjbmaaDoor.Tm
open Go.RowKit
set_option linter.unusedVariables false
structure RuleA where
  many : Int
  a0 : Int
  a1 : Int
  a2 : Int
  sort : Int
def rulesL : List RuleA := [⟨0, 0, 0, 0, 0⟩, ⟨1, 0, 0, 0, 0⟩, ⟨2, 0, 0, 0, 0⟩, ⟨2, 0, 0, 0, 0⟩, ⟨2, 0, 0, 0, 0⟩, ⟨2, 0, 0, 0, 0⟩, ⟨2, -1, -1, 0, 0⟩, ⟨3, 0, -1, -1, -1⟩, ⟨2, 1, 1, 0, 0⟩, ⟨2, 1, 1, 0, 0⟩, ⟨0, 0, 0, 0, 1⟩, ⟨1, 1, 0, 0, 1⟩, ⟨2, 1, 1, 0, 0⟩]
/-- What package typing finds in its variable. -/
structure GR (w : World) : Prop where
  lt : 0 < w.heap.size
  at_ : ∀ k r, rulesL[k]? = some r → w.cell? ⟨0, k * 5, none⟩ = some (.int .i64 r.many) ∧ w.cell? ⟨0, k * 5 + 1, none⟩ = some (.int .i64 r.a0) ∧ w.cell? ⟨0, k * 5 + 2, none⟩ = some (.int .i64 r.a1) ∧ w.cell? ⟨0, k * 5 + 3, none⟩ = some (.int .i64 r.a2) ∧ w.cell? ⟨0, k * 5 + 4, none⟩ = some (.int .i64 r.sort)
theorem GR.below {w w' : World} (h : GR w) (hb : Below w.heap.size w w') : GR w' :=
  ⟨Nat.lt_of_lt_of_le h.lt hb.size, fun k r hk => by
    obtain ⟨h0, h1, h2, h3, h4⟩ := h.at_ k r hk
    exact ⟨(hb.cell (p := ⟨_, k * 5, none⟩) h.lt).trans h0, (hb.cell (p := ⟨_, k * 5 + 1, none⟩) h.lt).trans h1, (hb.cell (p := ⟨_, k * 5 + 2, none⟩) h.lt).trans h2, (hb.cell (p := ⟨_, k * 5 + 3, none⟩) h.lt).trans h3, (hb.cell (p := ⟨_, k * 5 + 4, none⟩) h.lt).trans h4⟩⟩
structure RuleOk (r : RuleA) : Prop where
  many : I64 r.many
  a0 : I64 r.a0
  a1 : I64 r.a1
  a2 : I64 r.a2
  sort : I64 r.sort
def rArg (r : RuleA) : Nat → Int
  | 0 => r.a0
  | 1 => r.a1
  | _ => r.a2
/-- The sort at a place is told by the others. -/
def thA (r : RuleA) (s : Int) (i : Nat) : Bool := decide (0 ≤ s) && decide (rArg r i = -1)
/-- The sort at a place may be there. -/
def okA (r : RuleA) (s : Int) (i : Nat) : Bool := decide (0 ≤ s) && (decide (rArg r i = -1) || decide (rArg r i = s))
def freeL (r : RuleA) (l : List Int) (k : Nat) : List Int := ((List.range k).filter (fun i => thA r (l.getD i 0) i)).map (fun i => l.getD i 0)
def okL (r : RuleA) (l : List Int) : Bool := (List.range l.length).all (fun i => okA r (l.getD i 0) i)
def alikeB (l : List Int) : Bool := l.all (fun x => decide (x = l.headD 0))
/-- The sort, the error. -/
def ofA (r : RuleA) (l : List Int) : Int × Int :=
  if (l.length : Int) = r.many then (if okL r l = true then (if alikeB (freeL r l l.length) = true then (if r.sort = -1 then ((freeL r l l.length).headD 0, 0) else (r.sort, 0)) else (0, 33)) else (0, 33)) else (0, 2)
theorem freeL_len (r : RuleA) (l : List Int) (k : Nat) : (freeL r l k).length ≤ k := by
  unfold freeL
  rw [List.length_map]
  have := List.length_filter_le (fun i => thA r (l.getD i 0) i) (List.range k)
  rwa [List.length_range] at this
theorem freeL_yes {r : RuleA} {l : List Int} {k : Nat} {x : Int} (hx : l[k]? = some x) (h : thA r x k = true) : freeL r l (k + 1) = freeL r l k ++ [x] := by
  have e : l.getD k 0 = x := by rw [List.getD_eq_getElem?_getD, hx]; rfl
  unfold freeL
  rw [List.range_succ, List.filter_append, List.map_append]
  simp only [List.filter_cons, List.filter_nil, e, h, if_true, List.map_cons, List.map_nil]
theorem freeL_no {r : RuleA} {l : List Int} {k : Nat} {x : Int} (hx : l[k]? = some x) (h : thA r x k = false) : freeL r l (k + 1) = freeL r l k := by
  have e : l.getD k 0 = x := by rw [List.getD_eq_getElem?_getD, hx]; rfl
  unfold freeL
  rw [List.range_succ, List.filter_append, List.map_append]
  simp only [List.filter_cons, List.filter_nil, e, h]
  simp
theorem okL_no {r : RuleA} {l : List Int} {k : Nat} {x : Int} (hx : l[k]? = some x) (h : okA r x k = false) : okL r l = false := by
  have e : l.getD k 0 = x := by rw [List.getD_eq_getElem?_getD, hx]; rfl
  have hk := (List.getElem?_eq_some_iff.1 hx).1
  unfold okL
  rw [List.all_eq_false]
  exact ⟨k, List.mem_range.2 hk, by rw [e, h]; simp⟩
theorem okL_yes {r : RuleA} {l : List Int} (h : ∀ j, j < l.length → okA r (l.getD j 0) j = true) : okL r l = true := by
  unfold okL
  rw [List.all_eq_true]
  exact fun i hi => h i (List.mem_range.1 hi)
theorem alike_no {l : List Int} {k : Nat} {x y : Int} (hx : l[k]? = some x) (hy : l[0]? = some y) (h : ¬ x = y) : alikeB l = false := by
  have e : l.headD 0 = y := by cases l with
    | nil => simp at hy
    | cons a t => simpa using hy
  unfold alikeB
  rw [List.all_eq_false]
  exact ⟨x, List.mem_of_getElem? hx, by rw [e]; simpa using h⟩
theorem alike_yes {l : List Int} {y : Int} (hy : l[0]? = some y) (h : ∀ (j : Nat) (x : Int), l[j]? = some x → x = y) : alikeB l = true := by
  have e : l.headD 0 = y := by cases l with
    | nil => simp at hy
    | cons a t => simpa using hy
  unfold alikeB
  rw [List.all_eq_true, e]
  intro x hx
  obtain ⟨j, hj⟩ := List.getElem?_of_mem hx
  exact decide_eq_true (h j x hj)
/-- Integers lie in a slice. -/
structure IntsR (w : World) (xs : List Int) (a : Option Addr) (c : Nat) : Prop where
  le : xs.length ≤ c
  cap : c ≤ maxLen
  tat : At w w.heap.size (xs.map (Value.int .i64)) a
  ok : ∀ x ∈ xs, I64 x
theorem IntsR.below {w w' : World} {xs : List Int} {a : Option Addr} {c : Nat} (h : IntsR w xs a c) (hb : Below w.heap.size w w') : IntsR w' xs a c :=
  ⟨h.le, h.cap, (h.tat.below hb).more hb.size, h.ok⟩
theorem IntsR.cell {w : World} {xs : List Int} {a : Option Addr} {c k : Nat} {x : Int} (h : IntsR w xs a c) (hk : xs[k]? = some x) : ∃ g o : Nat, a = some ⟨g, o, none⟩ ∧ g < w.heap.size ∧ w.cell? ⟨g, o + k, none⟩ = some (.int .i64 x) := by
  have hlt := (List.getElem?_eq_some_iff.1 hk).1
  obtain ⟨g, o, e, hg, hc⟩ := h.tat (by simp; omega)
  exact ⟨g, o, e, hg, hc k _ (by rw [List.getElem?_map, hk]; rfl)⟩
theorem IntsR.nil (w : World) (c : Nat) (hc : c ≤ maxLen) (a : Option Addr) : IntsR w [] a c := ⟨Nat.zero_le _, hc, fun h => absurd h (by simp), fun _ h => by simp at h⟩
/-- A row of one's own. -/
theorem ints_row {w : World} {b : Nat} {xs : List Int} {ty : TypeId} (h : w.heap[b]? = some (.cells ⟨xs.map (Value.int .i64)⟩ ty (0, 0))) (hok : ∀ x ∈ xs, I64 x) (hm : xs.length ≤ 1000) : IntsR w xs (some ⟨b, 0, none⟩) xs.length := by
  refine ⟨Nat.le_refl _, by unfold maxLen; omega, fun _ => ⟨b, 0, rfl, (Array.getElem?_eq_some_iff.1 h).1, fun i v hv => ?_⟩, hok⟩
  rw [Nat.zero_add, cell_of_row w b i _ _ _ h, ← Array.getElem?_toList]
  exact hv
theorem alike_any (l : List Int) (a : Option Addr) (c : Nat) (r : Bool) (w : World) (hA : IntsR w l a c) (hr : alikeB l = r) (hl : l.length ≤ 1000) :
    Calls Tryd.prog 33 #[.slice a l.length c] w fun e w' => e = .returned (.bool r) ∧ w' = w := by
  have HNo : Hid (∀ (k : Nat) (x y : Int), l[k]? = some x → l[0]? = some y → ¬ x = y → r = false) := fun k x y hx hy h => by rw [← hr]; exact alike_no hx hy h
  have HYes : Hid (∀ y, l[0]? = some y → (∀ (j : Nat) (x : Int), l[j]? = some x → x = y) → r = true) := fun y hy h => by rw [← hr]; exact alike_yes hy h
  by_cases h0 : l.length = 0
  · have hn : l = [] := List.eq_nil_of_length_eq_zero h0
    subst hn
    obtain rfl : true = r := hr
    clear HNo HYes hA hl h0
    go_enter Tryd.func33, Tryd.ntmps33
    go_wp2
    refine wp_loop_rounds 1 ?_
    rw [rounds_succ]
    go_wp2
    go_ret
    exact ⟨rfl, rfl⟩
  · obtain ⟨y, hy⟩ : ∃ y, l[0]? = some y := ⟨_, List.getElem?_eq_getElem (by omega)⟩
    obtain ⟨g, o, rfl, hg, hc0⟩ := hA.cell hy
    rw [Nat.add_zero] at hc0
    have HY := Lib.hid hy
    have HA := Lib.hid hA
    have hpos : 0 < l.length := by omega
    clear hr hA hy h0
    go_enter Tryd.func33, Tryd.ntmps33
    go_wp2
    go_loop [7] (fun i => ∃ k : Nat, k ≤ l.length ∧ i = .int .i64 k ∧ Hid (∀ (j : Nat) (x : Int), j < k → l[j]? = some x → x = y)) (fun i => l.length - (intOf i).toNat)
    case atStart => exact ⟨0, Nat.zero_le _, rfl, fun j x hj => by omega⟩
    case round =>
      obtain ⟨k, hk, rfl, HP⟩ := hrel
      by_cases hlt : k < l.length
      · obtain ⟨x, hx⟩ : ∃ x, l[k]? = some x := ⟨_, List.getElem?_eq_getElem hlt⟩
        obtain ⟨g2, o2, e2, _, hck⟩ := HA.out.cell hx
        cases e2
        have HX := Lib.hid hx
        clear hx
        by_cases hxy : x = y
        · have e0 := ne_f hxy
          have HP2 : Hid (∀ (j : Nat) (z : Int), j < k + 1 → l[j]? = some z → z = y) := fun j z hj hz => by
            by_cases h : j < k
            · exact HP.out j z h hz
            · obtain rfl : j = k := by omega
              rw [HX.out] at hz; cases hz; exact hxy
          have HXY := Lib.hid hxy
          clear hxy
          go_wp2
          go_round
          case rel => exact ⟨k + 1, by omega, by go_num, HP2⟩
          case measure => simp [intOf]; omega
        · have e0 := ne_t hxy
          obtain rfl : r = false := HNo.out k x y HX.out HY.out hxy
          go_wp2
          go_ret
          exact ⟨rfl, rfl⟩
      · obtain rfl : k = l.length := by omega
        obtain rfl : r = true := HYes.out y HY.out (fun j x hj => HP.out j x (List.getElem?_eq_some_iff.1 hj).1 hj)
        go_wp2
        go_ret
        exact ⟨rfl, rfl⟩
end Go.Proofs.YtdeobdepepjbmaaDoor.Tm
