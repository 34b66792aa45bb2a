/- The rule of a kind; Op. -/
import Derived.Test.YtfbjgadgfjnamaaGreatDoorZTmJ
import Derived.BigQuiet
namespace Go.Proofs.YtfbjgadgfjnamaaGreatDoor.Tm
open Go.RowKit
set_option linter.unusedVariables false
structure RuleA where
  many : Int
  a0 : Int
  a1 : Int
  a2 : Int
  sort : Int
def rulesL : List RuleA := [⟨0, 0, 0, 0, 0⟩, ⟨1, 0, 0, 0, 0⟩, ⟨2, 0, 0, 0, 0⟩, ⟨2, 0, 0, 0, 0⟩, ⟨2, 0, 0, 0, 0⟩, ⟨2, 0, 0, 0, 0⟩, ⟨2, -1, -1, 0, 0⟩, ⟨3, 0, -1, -1, -1⟩, ⟨2, 1, 1, 0, 0⟩, ⟨2, 1, 1, 0, 0⟩, ⟨0, 0, 0, 0, 1⟩, ⟨1, 1, 0, 0, 1⟩, ⟨2, 1, 1, 0, 0⟩]
/-- What package typing finds in its variable. -/
structure GR (w : World) : Prop where
  lt : 1 < w.heap.size
  at_ : ∀ k r, rulesL[k]? = some r → w.cell? ⟨1, k * 5, none⟩ = some (.int .i64 r.many) ∧ w.cell? ⟨1, k * 5 + 1, none⟩ = some (.int .i64 r.a0) ∧ w.cell? ⟨1, k * 5 + 2, none⟩ = some (.int .i64 r.a1) ∧ w.cell? ⟨1, k * 5 + 3, none⟩ = some (.int .i64 r.a2) ∧ w.cell? ⟨1, k * 5 + 4, none⟩ = some (.int .i64 r.sort)
theorem GR.below {w w' : World} (h : GR w) (hb : Below w.heap.size w w') : GR w' :=
  ⟨Nat.lt_of_lt_of_le h.lt hb.size, fun k r hk => by
    obtain ⟨h0, h1, h2, h3, h4⟩ := h.at_ k r hk
    exact ⟨(hb.cell (p := ⟨_, k * 5, none⟩) h.lt).trans h0, (hb.cell (p := ⟨_, k * 5 + 1, none⟩) h.lt).trans h1, (hb.cell (p := ⟨_, k * 5 + 2, none⟩) h.lt).trans h2, (hb.cell (p := ⟨_, k * 5 + 3, none⟩) h.lt).trans h3, (hb.cell (p := ⟨_, k * 5 + 4, none⟩) h.lt).trans h4⟩⟩
structure RuleOk (r : RuleA) : Prop where
  many : I64 r.many
  a0 : I64 r.a0
  a1 : I64 r.a1
  a2 : I64 r.a2
  sort : I64 r.sort
def rArg (r : RuleA) : Nat → Int
  | 0 => r.a0
  | 1 => r.a1
  | _ => r.a2
/-- The sort at a place is told by the others. -/
def thA (r : RuleA) (s : Int) (i : Nat) : Bool := decide (0 ≤ s) && decide (rArg r i = -1)
/-- The sort at a place may be there. -/
def okA (r : RuleA) (s : Int) (i : Nat) : Bool := decide (0 ≤ s) && (decide (rArg r i = -1) || decide (rArg r i = s))
def freeL (r : RuleA) (l : List Int) (k : Nat) : List Int := ((List.range k).filter (fun i => thA r (l.getD i 0) i)).map (fun i => l.getD i 0)
def okL (r : RuleA) (l : List Int) : Bool := (List.range l.length).all (fun i => okA r (l.getD i 0) i)
def alikeB (l : List Int) : Bool := l.all (fun x => decide (x = l.headD 0))
/-- The sort, the error. -/
def ofA (r : RuleA) (l : List Int) : Int × Int :=
  if (l.length : Int) = r.many then (if okL r l = true then (if alikeB (freeL r l l.length) = true then (if r.sort = -1 then ((freeL r l l.length).headD 0, 0) else (r.sort, 0)) else (0, 33)) else (0, 33)) else (0, 2)
theorem freeL_len (r : RuleA) (l : List Int) (k : Nat) : (freeL r l k).length ≤ k := by
  unfold freeL
  rw [List.length_map]
  have := List.length_filter_le (fun i => thA r (l.getD i 0) i) (List.range k)
  rwa [List.length_range] at this
theorem freeL_yes {r : RuleA} {l : List Int} {k : Nat} {x : Int} (hx : l[k]? = some x) (h : thA r x k = true) : freeL r l (k + 1) = freeL r l k ++ [x] := by
  have e : l.getD k 0 = x := by rw [List.getD_eq_getElem?_getD, hx]; rfl
  unfold freeL
  rw [List.range_succ, List.filter_append, List.map_append]
  simp only [List.filter_cons, List.filter_nil, e, h, if_true, List.map_cons, List.map_nil]
theorem freeL_no {r : RuleA} {l : List Int} {k : Nat} {x : Int} (hx : l[k]? = some x) (h : thA r x k = false) : freeL r l (k + 1) = freeL r l k := by
  have e : l.getD k 0 = x := by rw [List.getD_eq_getElem?_getD, hx]; rfl
  unfold freeL
  rw [List.range_succ, List.filter_append, List.map_append]
  simp only [List.filter_cons, List.filter_nil, e, h]
  simp
theorem okL_no {r : RuleA} {l : List Int} {k : Nat} {x : Int} (hx : l[k]? = some x) (h : okA r x k = false) : okL r l = false := by
  have e : l.getD k 0 = x := by rw [List.getD_eq_getElem?_getD, hx]; rfl
  have hk := (List.getElem?_eq_some_iff.1 hx).1
  unfold okL
  rw [List.all_eq_false]
  exact ⟨k, List.mem_range.2 hk, by rw [e, h]; simp⟩
theorem okL_yes {r : RuleA} {l : List Int} (h : ∀ j, j < l.length → okA r (l.getD j 0) j = true) : okL r l = true := by
  unfold okL
  rw [List.all_eq_true]
  exact fun i hi => h i (List.mem_range.1 hi)
theorem alike_no {l : List Int} {k : Nat} {x y : Int} (hx : l[k]? = some x) (hy : l[0]? = some y) (h : ¬ x = y) : alikeB l = false := by
  have e : l.headD 0 = y := by cases l with
    | nil => simp at hy
    | cons a t => simpa using hy
  unfold alikeB
  rw [List.all_eq_false]
  exact ⟨x, List.mem_of_getElem? hx, by rw [e]; simpa using h⟩
theorem alike_yes {l : List Int} {y : Int} (hy : l[0]? = some y) (h : ∀ (j : Nat) (x : Int), l[j]? = some x → x = y) : alikeB l = true := by
  have e : l.headD 0 = y := by cases l with
    | nil => simp at hy
    | cons a t => simpa using hy
  unfold alikeB
  rw [List.all_eq_true, e]
  intro x hx
  obtain ⟨j, hj⟩ := List.getElem?_of_mem hx
  exact decide_eq_true (h j x hj)
/-- Integers lie in a slice. -/
structure IntsR (w : World) (xs : List Int) (a : Option Addr) (c : Nat) : Prop where
  le : xs.length ≤ c
  cap : c ≤ maxLen
  tat : At w w.heap.size (xs.map (Value.int .i64)) a
  ok : ∀ x ∈ xs, I64 x
theorem IntsR.below {w w' : World} {xs : List Int} {a : Option Addr} {c : Nat} (h : IntsR w xs a c) (hb : Below w.heap.size w w') : IntsR w' xs a c :=
  ⟨h.le, h.cap, (h.tat.below hb).more hb.size, h.ok⟩
theorem IntsR.cell {w : World} {xs : List Int} {a : Option Addr} {c k : Nat} {x : Int} (h : IntsR w xs a c) (hk : xs[k]? = some x) : ∃ g o : Nat, a = some ⟨g, o, none⟩ ∧ g < w.heap.size ∧ w.cell? ⟨g, o + k, none⟩ = some (.int .i64 x) := by
  have hlt := (List.getElem?_eq_some_iff.1 hk).1
  obtain ⟨g, o, e, hg, hc⟩ := h.tat (by simp; omega)
  exact ⟨g, o, e, hg, hc k _ (by rw [List.getElem?_map, hk]; rfl)⟩
theorem IntsR.nil (w : World) (c : Nat) (hc : c ≤ maxLen) (a : Option Addr) : IntsR w [] a c := ⟨Nat.zero_le _, hc, fun h => absurd h (by simp), fun _ h => by simp at h⟩
theorem alike_any (l : List Int) (a : Option Addr) (c : Nat) (r : Bool) (w : World) (hA : IntsR w l a c) (hr : alikeB l = r) (hl : l.length ≤ 3000) :
    Calls Tryz.prog 163 #[.slice a l.length c] w fun e w' => e = .returned (.bool r) ∧ w' = w := by
  have HNo : Hid (∀ (k : Nat) (x y : Int), l[k]? = some x → l[0]? = some y → ¬ x = y → r = false) := fun k x y hx hy h => by rw [← hr]; exact alike_no hx hy h
  have HYes : Hid (∀ y, l[0]? = some y → (∀ (j : Nat) (x : Int), l[j]? = some x → x = y) → r = true) := fun y hy h => by rw [← hr]; exact alike_yes hy h
  by_cases h0 : l.length = 0
  · have hn : l = [] := List.eq_nil_of_length_eq_zero h0
    subst hn
    obtain rfl : true = r := hr
    clear HNo HYes hA hl h0
    go_enter Tryz.func163, Tryz.ntmps163
    go_wp2
    refine wp_loop_rounds 1 ?_
    rw [rounds_succ]
    go_wp2
    go_ret
    exact ⟨rfl, rfl⟩
  · obtain ⟨y, hy⟩ : ∃ y, l[0]? = some y := ⟨_, List.getElem?_eq_getElem (by omega)⟩
    obtain ⟨g, o, rfl, hg, hc0⟩ := hA.cell hy
    rw [Nat.add_zero] at hc0
    have HY := Lib.hid hy
    have HA := Lib.hid hA
    have hpos : 0 < l.length := by omega
    clear hr hA hy h0
    go_enter Tryz.func163, Tryz.ntmps163
    go_wp2
    go_loop [7] (fun i => ∃ k : Nat, k ≤ l.length ∧ i = .int .i64 k ∧ Hid (∀ (j : Nat) (x : Int), j < k → l[j]? = some x → x = y)) (fun i => l.length - (intOf i).toNat)
    case atStart => exact ⟨0, Nat.zero_le _, rfl, fun j x hj => by omega⟩
    case round =>
      obtain ⟨k, hk, rfl, HP⟩ := hrel
      by_cases hlt : k < l.length
      · obtain ⟨x, hx⟩ : ∃ x, l[k]? = some x := ⟨_, List.getElem?_eq_getElem hlt⟩
        obtain ⟨g2, o2, e2, _, hck⟩ := HA.out.cell hx
        cases e2
        have HX := Lib.hid hx
        clear hx
        by_cases hxy : x = y
        · have e0 := ne_f hxy
          have HP2 : Hid (∀ (j : Nat) (z : Int), j < k + 1 → l[j]? = some z → z = y) := fun j z hj hz => by
            by_cases h : j < k
            · exact HP.out j z h hz
            · obtain rfl : j = k := by omega
              rw [HX.out] at hz; cases hz; exact hxy
          have HXY := Lib.hid hxy
          clear hxy
          go_wp2
          go_round
          case rel => exact ⟨k + 1, by omega, by go_num, HP2⟩
          case measure => simp [intOf]; omega
        · have e0 := ne_t hxy
          obtain rfl : r = false := HNo.out k x y HX.out HY.out hxy
          go_wp2
          go_ret
          exact ⟨rfl, rfl⟩
      · obtain rfl : k = l.length := by omega
        obtain rfl : r = true := HYes.out y HY.out (fun j x hj => HP.out j x (List.getElem?_eq_some_iff.1 hj).1 hj)
        go_wp2
        go_ret
        exact ⟨rfl, rfl⟩
end Go.Proofs.YtfbjgadgfjnamaaGreatDoor.Tm
namespace Go.Proofs.YtfbjgadgfjnamaaGreatDoor.Tm
open Go.RowKit
set_option linter.unusedVariables false
theorem info_int : (Tryz.prog.info? 3).map (fun i => (i.zero, i.size, i.bytes)) = some (some (.int .i64 0), 1, 8) := by kernel_rfl
theorem one_news {w : World} {v : Value} {b : Nat} {ty : TypeId} (h : w.heap[b]? = some (.cells #[v] ty (0, 0))) : ∀ j u, [v][j]? = some u → w.cell? ((⟨b, 0, none⟩ : Addr).add j) = some u := fun j u hu => by
  rw [Addr.add_lit, Nat.zero_add, cell_of_row w b j _ _ _ h, ← Array.getElem?_toList]
  exact hu
theorem of_arg {r : RuleA} {l : List Int} {p : Int × Int} (h : ofA r l = p) (hn : ¬ (l.length : Int) = r.many) : p = (0, 2) := by
  rw [← h]; unfold ofA; rw [if_neg hn]
theorem of_bad {r : RuleA} {l : List Int} {p : Int × Int} (h : ofA r l = p) (hn : (l.length : Int) = r.many) (hk : okL r l = false) : p = (0, 33) := by
  rw [← h]; unfold ofA; rw [if_pos hn, hk]; rfl
theorem of_unlike {r : RuleA} {l : List Int} {p : Int × Int} (h : ofA r l = p) (hn : (l.length : Int) = r.many) (hk : okL r l = true) (ha : alikeB (freeL r l l.length) = false) : p = (0, 33) := by
  rw [← h]; unfold ofA; rw [if_pos hn, hk, ha]; rfl
theorem of_free {r : RuleA} {l : List Int} {p : Int × Int} (h : ofA r l = p) (hn : (l.length : Int) = r.many) (hk : okL r l = true) (ha : alikeB (freeL r l l.length) = true) (hs : r.sort = -1) {x : Int} (hx : (freeL r l l.length)[0]? = some x) : p = (x, 0) := by
  have e : (freeL r l l.length).headD 0 = x := by
    cases hl : freeL r l l.length with
    | nil => rw [hl] at hx; simp at hx
    | cons a t => rw [hl] at hx; simpa using hx
  rw [← h]; unfold ofA; rw [if_pos hn, hk, ha, if_pos rfl, if_pos rfl, if_pos hs, e]
theorem of_fix {r : RuleA} {l : List Int} {p : Int × Int} (h : ofA r l = p) (hn : (l.length : Int) = r.many) (hk : okL r l = true) (ha : alikeB (freeL r l l.length) = true) (hs : ¬ r.sort = -1) : p = (r.sort, 0) := by
  rw [← h]; unfold ofA; rw [if_pos hn, hk, ha, if_pos rfl, if_pos rfl, if_neg hs]
theorem free_some {r : RuleA} {l : List Int} (hk : ∀ j, j < l.length → okA r (l.getD j 0) j = true) {i : Nat} (hi : i < l.length) (hr : rArg r i = -1) : 0 < (freeL r l l.length).length := by
  have h := hk i hi
  unfold okA at h
  rw [Bool.and_eq_true, decide_eq_true_eq] at h
  have hm : l.getD i 0 ∈ freeL r l l.length := List.mem_map.2 ⟨i, List.mem_filter.2 ⟨List.mem_range.2 hi, by unfold thA; rw [hr]; simpa using h.1⟩, rfl⟩
  exact List.length_pos_of_mem hm
theorem freeL_i64 {r : RuleA} {l : List Int} (h : ∀ x ∈ l, I64 x) (k : Nat) : ∀ x ∈ freeL r l k, I64 x := by
  intro x hx
  unfold freeL at hx
  obtain ⟨i, hi, rfl⟩ := List.mem_map.1 hx
  by_cases hl : i < l.length
  · rw [List.getD_eq_getElem?_getD, List.getElem?_eq_getElem hl]
    exact h _ (List.getElem_mem hl)
  · rw [List.getD_eq_getElem?_getD, List.getElem?_eq_none (by omega)]
    exact ⟨by simp, by simp⟩
theorem th_yes {r : RuleA} {x q : Int} {k : Nat} (h : 0 ≤ x) (hq : rArg r k = q) (h1 : q = -1) : thA r x k = true := by
  unfold thA; rw [hq, h1]; simpa using h
theorem th_no {r : RuleA} {x q : Int} {k : Nat} (hq : rArg r k = q) (h1 : ¬ q = -1) : thA r x k = false := by
  unfold thA; rw [hq]; simp [h1]
theorem ok_free {r : RuleA} {x q : Int} {k : Nat} (h : 0 ≤ x) (hq : rArg r k = q) (h1 : q = -1) : okA r x k = true := by
  unfold okA; rw [hq, h1]; simpa using h
theorem ok_same {r : RuleA} {x q : Int} {k : Nat} (h : 0 ≤ x) (hq : rArg r k = q) (h1 : q = x) : okA r x k = true := by
  unfold okA; rw [hq, h1]; simp [h]
theorem ok_not {r : RuleA} {x q : Int} {k : Nat} (hq : rArg r k = q) (h1 : ¬ q = -1) (h2 : ¬ q = x) : okA r x k = false := by
  unfold okA; rw [hq]; simp [h1, h2]
theorem ok_neg {r : RuleA} {x : Int} {k : Nat} (h : x < 0) : okA r x k = false := by
  unfold okA; rw [decide_eq_false (by omega)]; rfl
theorem rArg_cell {V : World} {b : Nat} {r : RuleA} {ty : TypeId} (h : V.heap[b]? = some (.cells #[.int .i64 r.many, .int .i64 r.a0, .int .i64 r.a1, .int .i64 r.a2, .int .i64 r.sort] ty (0, 0))) (k : Nat) (hk : k < 3) : V.cell? ⟨b, 1 + k, none⟩ = some (.int .i64 (rArg r k)) := by
  have hk : k = 0 ∨ k = 1 ∨ k = 2 := by omega
  rcases hk with rfl | rfl | rfl
  · exact (cell_of_row _ _ 1 _ _ _ h).trans rfl
  · exact (cell_of_row _ _ 2 _ _ _ h).trans rfl
  · exact (cell_of_row _ _ 3 _ _ _ h).trans rfl
set_option maxRecDepth 100000 in
set_option maxHeartbeats 4000000 in
theorem of_any (r : RuleA) (l : List Int) (a : Option Addr) (c : Nat) (p : Int × Int) (w : World) (hA : IntsR w l a c) (hr : RuleOk r) (hl : l.length ≤ 3000) (hm : r.many ≤ 3) (hs : r.sort = -1 → ∃ i : Nat, (i : Int) < r.many ∧ rArg r i = -1) (hp : ofA r l = p) :
    Calls Tryz.prog 141 #[.agg #[.int .i64 r.many, .int .i64 r.a0, .int .i64 r.a1, .int .i64 r.a2, .int .i64 r.sort], .slice a l.length c] w fun e w' => e = .returned (.tuple #[.int .i64 p.1, .int .i64 p.2]) ∧ Below w.heap.size w w' := by
  obtain ⟨i0, hi, hz0, hz1, hz2⟩ := info_parts info_int
  obtain ⟨W0, hW0⟩ : ∃ W0, W0 = w.alloc (.cells #[.int .i64 r.many, .int .i64 r.a0, .int .i64 r.a1, .int .i64 r.a2, .int .i64 r.sort] 186) := ⟨_, rfl⟩
  have hB0 : Below w.heap.size w W0 := by rw [hW0]; exact (Below.refl _ w).alloc (Nat.le_refl _) _
  have hsz : W0.heap.size = w.heap.size + 1 := by rw [hW0]; simp
  have hX0 : W0.heap[w.heap.size]? = some (.cells #[.int .i64 r.many, .int .i64 r.a0, .int .i64 r.a1, .int .i64 r.a2, .int .i64 r.sort] 186 (0, 0)) := by rw [hW0]; exact heap_alloc_new w _
  have HA0 := Lib.hid (hA.below hB0)
  have HB0 := Lib.hid hB0
  have HX : Hid (∀ V, Below W0.heap.size W0 V → V.heap[w.heap.size]? = some (.cells #[.int .i64 r.many, .int .i64 r.a0, .int .i64 r.a1, .int .i64 r.a2, .int .i64 r.sort] 186 (0, 0))) := fun V hV => (hV.block _ (by omega)).trans hX0
  have HLI := Lib.hid hA.ok
  have hlc := hA.le
  have hcm : c ≤ 9223372036854775807 := by have := hA.cap; unfold maxLen at this; omega
  have HP := Lib.hid hp
  have HS := Lib.hid hs
  have HR := Lib.hid hr
  clear hA hB0 hp hs hr
  by_cases hn : (l.length : Int) = r.many
  rotate_left
  · obtain rfl := of_arg HP.out hn
    have e0 := ne_t hn
    have hc0 := (cell_of_row _ _ 0 _ _ _ hX0).trans (show _ = some (.int .i64 r.many) from rfl)
    clear hn hX0
    have HW := Lib.hid hW0
    clear hW0
    go_enter Tryz.func141, Tryz.ntmps141
    go_wp2_with fail
    go_ret2
    rw [← HW.out]
    exact ⟨rfl, HB0.out⟩
  have e0 := ne_f hn
  have HN := Lib.hid hn
  have hl3 : l.length ≤ 3 := by omega
  clear hn
  have hc0 := (cell_of_row _ _ 0 _ _ _ hX0).trans (show _ = some (.int .i64 r.many) from rfl)
  clear hX0
  go_enter Tryz.func141, Tryz.ntmps141
  go_wp2_with fail
  rw [← hW0]
  clear hW0 hc0 e0
  go_loopw [6, 16] (fun v i wr => ∃ (k : Nat) (F : List Int) (av : Option Addr) (cv : Nat), k ≤ l.length ∧ i = .int .i64 k ∧ v = .slice av F.length cv ∧ Hid (F = freeL r l k) ∧ Hid (∀ j, j < k → okA r (l.getD j 0) j = true) ∧ Hid (Below W0.heap.size W0 wr) ∧ Hid (wr.ownsRow W0.heap.size 3 1 (.slice av F.length cv) F.length (F.map (Value.int .i64)))) (fun _ i _ => l.length - (intOf i).toNat)
  case atStart => exact ⟨0, [], none, 0, Nat.zero_le _, rfl, rfl, rfl, fun j hj => by omega, Below.refl _ _, World.ownsRow_nil _ _ _ _⟩
  case round =>
    obtain ⟨k, F, av, cv, hk, rfl, rfl, HF, HOk, HW, HO⟩ := hrel
    have hFl : F.length ≤ k := by rw [HF.out]; exact freeL_len r l k
    by_cases hlt : k < l.length
    · obtain ⟨x, hx⟩ : ∃ x, l[k]? = some x := ⟨_, List.getElem?_eq_getElem hlt⟩
      obtain ⟨g, o, rfl, _, hck⟩ := (HA0.out.below HW.out).cell hx
      have hgx : l.getD k 0 = x := by rw [List.getD_eq_getElem?_getD, hx]; rfl
      obtain ⟨q, hq⟩ : ∃ q, rArg r k = q := ⟨_, rfl⟩
      have hcq := rArg_cell (HX.out wr HW.out) k (by omega)
      rw [hq] at hcq
      have HXk := Lib.hid hx
      have HQ := Lib.hid hq
      have HGX := Lib.hid hgx
      clear hx hq hgx
      by_cases hx0 : x < 0
      · obtain rfl := of_bad HP.out HN.out (okL_no HXk.out (ok_neg hx0))
        go_wp2
        go_ret2
        exact ⟨rfl, HB0.out.trans (HW.out.mono HB0.out.size)⟩
      by_cases hq1 : q = -1
      · have e1 := eq_t hq1
        have HN2 : Hid (F ++ [x] = freeL r l (k + 1)) := by show _ = _; rw [freeL_yes HXk.out (th_yes (by omega) HQ.out hq1), ← HF.out]
        have HOk2 : Hid (∀ j, j < k + 1 → okA r (l.getD j 0) j = true) := fun j hj => by
          by_cases h : j < k
          · exact HOk.out j h
          · obtain rfl : j = k := by omega
            rw [HGX.out]; exact ok_free (by omega) HQ.out hq1
        have hw1 := HW.out.size
        clear hq1
        go_wp2_with (at_builtin; refine wpList_append_own_at _ rfl _ _ 27 rfl W0.heap.size 3 i0 _ 1 8 Tryz.underlying27 hi hz0 hz1 hz2 rfl (by decide) _ F.length (F.map (Value.int .i64)) rfl (own_heap HO.out (fun k _ hk => Below.heap_alloc _ _ _ hk)) ⟨wr.heap.size, 0, none⟩ 1 1 [.int .i64 x] rfl rfl (one_news (heap_alloc_new wr (.cells #[.int .i64 x] 3))) (fun u hu => by simp at hu; subst hu; rfl) (by simp only [maxLen]; omega) (by omega) (by simp; omega) ?_; intro v' w3 hown' hgrow hnil hloc; clear hnil; have HOF := Lib.hid hown'; have HGr := Lib.hid hgrow; obtain ⟨av', cv', rfl, _⟩ := own_at HOF.out; clear hown' hgrow hloc)
        go_roundw
        case rel =>
          refine ⟨k + 1, F ++ [x], av', cv', by omega, by go_num, by rw [List.length_append]; rfl, HN2, HOk2, ?_, ?_⟩
          · refine (HW.out.alloc hw1 _).grown HGr.out (by simp; omega) (fun k e => ?_)
            rcases own_at HO.out with ⟨a2, c2, e2, _, _, _, hg2⟩
            cases e2
            cases F with
            | nil =>
              rcases HO.out.2 with ⟨e3, _⟩ | ⟨g, cap, cur, e3, h1, _⟩
              · cases e3; cases e
              · cases e3; cases e; exact h1
            | cons x r =>
              obtain ⟨g, rfl, h1, _⟩ := hg2 (by simp)
              cases e; exact h1
          · rw [List.length_append, List.map_append]
            exact HOF.out
        case measure => simp [intOf]; omega
      · have e1 := eq_f hq1
        by_cases hqx : q = x
        · have e2 := ne_f hqx
          have HN2 : Hid (F = freeL r l (k + 1)) := by show _ = _; rw [freeL_no HXk.out (th_no HQ.out hq1)]; exact HF.out
          have HOk2 : Hid (∀ j, j < k + 1 → okA r (l.getD j 0) j = true) := fun j hj => by
            by_cases h : j < k
            · exact HOk.out j h
            · obtain rfl : j = k := by omega
              rw [HGX.out]; exact ok_same (by omega) HQ.out hqx
          clear hqx hq1
          go_wp2
          go_roundw
          case rel => exact ⟨k + 1, F, av, cv, by omega, by go_num, rfl, HN2, HOk2, HW, HO⟩
          case measure => simp [intOf]; omega
        · have e2 := ne_t hqx
          obtain rfl := of_bad HP.out HN.out (okL_no HXk.out (ok_not HQ.out hq1 hqx))
          clear hqx hq1
          go_wp2
          go_ret2
          exact ⟨rfl, HB0.out.trans (HW.out.mono HB0.out.size)⟩
    · obtain rfl : k = l.length := by omega
      have HIR : Hid (IntsR wr F av cv) := by
        obtain ⟨a2, c2, e2, h1, h2, h3, _⟩ := own_at HO.out
        cases e2
        exact ⟨h1, h2, h3, by rw [HF.out]; exact freeL_i64 HLI.out _⟩
      have HOkL : Hid (okL r l = true) := okL_yes HOk.out
      obtain ⟨q, hq⟩ : ∃ q, alikeB F = q := ⟨_, rfl⟩
      have HAl : Hid (F.length ≤ 3000 → Calls Tryz.prog 163 #[.slice av F.length cv] wr fun e w' => e = .returned (.bool q) ∧ w' = wr) := fun h => alike_any F av cv q wr HIR.out hq h
      have hsz' := HX.out wr HW.out
      have hcs := (cell_of_row _ _ 4 _ _ _ hsz').trans (show _ = some (.int .i64 r.sort) from rfl)
      clear hsz'
      have HFq : Hid (alikeB (freeL r l l.length) = q) := by show _ = _; rw [← HF.out]; exact hq
      clear hq
      cases q with
      | false =>
        obtain rfl := of_unlike HP.out HN.out HOkL.out HFq.out
        go_wp2_with (go_at_call 163; refine (HAl.out (by omega)).mono ?_; rintro e w1 ⟨rfl, rfl⟩)
        go_ret2
        exact ⟨rfl, HB0.out.trans (HW.out.mono HB0.out.size)⟩
      | true =>
        by_cases hs1 : r.sort = -1
        · have e1 := eq_t hs1
          obtain ⟨i, hi1, hi2⟩ := HS.out hs1
          have hpos : 0 < F.length := by rw [HF.out]; exact free_some HOk.out (by have := HN.out; omega) hi2
          obtain ⟨y, hy⟩ : ∃ y, F[0]? = some y := ⟨_, List.getElem?_eq_getElem hpos⟩
          obtain ⟨g, o, rfl, _, hcy⟩ := HIR.out.cell hy
          rw [Nat.add_zero] at hcy
          obtain rfl := of_free HP.out HN.out HOkL.out HFq.out hs1 (by rw [← HF.out]; exact hy)
          clear hs1 hy hi1 hi2
          go_wp2_with (go_at_call 163; refine (HAl.out (by omega)).mono ?_; rintro e w1 ⟨rfl, rfl⟩)
          go_ret2
          exact ⟨rfl, HB0.out.trans (HW.out.mono HB0.out.size)⟩
        · have e1 := eq_f hs1
          obtain rfl := of_fix HP.out HN.out HOkL.out HFq.out hs1
          clear hs1
          go_wp2_with (go_at_call 163; refine (HAl.out (by omega)).mono ?_; rintro e w1 ⟨rfl, rfl⟩)
          go_ret2
          exact ⟨rfl, HB0.out.trans (HW.out.mono HB0.out.size)⟩
end Go.Proofs.YtfbjgadgfjnamaaGreatDoor.Tm
namespace Go.Proofs.YtfbjgadgfjnamaaGreatDoor.Tm
open Go.RowKit
set_option linter.unusedVariables false
theorem rule_cells {V : World} {b : Nat} {r : RuleA} {ty : TypeId} (h : V.heap[b]? = some (.cells #[.int .i64 r.many, .int .i64 r.a0, .int .i64 r.a1, .int .i64 r.a2, .int .i64 r.sort] ty (0, 0))) : V.cell? ⟨b, 0, none⟩ = some (.int .i64 r.many) ∧ V.cell? ⟨b, 1, none⟩ = some (.int .i64 r.a0) ∧ V.cell? ⟨b, 2, none⟩ = some (.int .i64 r.a1) ∧ V.cell? ⟨b, 3, none⟩ = some (.int .i64 r.a2) ∧ V.cell? ⟨b, 4, none⟩ = some (.int .i64 r.sort) :=
  ⟨(cell_of_row _ _ 0 _ _ _ h).trans rfl, (cell_of_row _ _ 1 _ _ _ h).trans rfl, (cell_of_row _ _ 2 _ _ _ h).trans rfl, (cell_of_row _ _ 3 _ _ _ h).trans rfl, (cell_of_row _ _ 4 _ _ _ h).trans rfl⟩
def zeroR : RuleA := ⟨0, 0, 0, 0, 0⟩
def kindB (op : Int) : Bool := decide (0 ≤ op) && decide (op < 13)
def kindR (op : Int) : RuleA := if kindB op = true then rulesL.getD op.toNat zeroR else zeroR
theorem kindRule_in (op : Int) (r : RuleA) (w : World) (hG : GR w) (h : 0 ≤ op ∧ op < 13) (hr : rulesL[op.toNat]? = some r) :
    Calls Tryz.prog 140 #[.int .i8 op] w fun e w' => e = .returned (.tuple #[.agg #[.int .i64 r.many, .int .i64 r.a0, .int .i64 r.a1, .int .i64 r.a2, .int .i64 r.sort], .bool true]) ∧ Below w.heap.size w w' := by
  obtain ⟨k, rfl⟩ : ∃ k : Nat, op = k := ⟨op.toNat, by omega⟩
  rw [Int.toNat_natCast] at hr
  obtain ⟨c0, c1, c2, c3, c4⟩ := hG.at_ k r hr
  have hlt := hG.lt
  have hk : k < 13 := by omega
  clear hr hG
  go_enter Tryz.func140, Tryz.ntmps140
  go_wp2
  obtain ⟨x0, x1, x2, x3, x4⟩ := rule_cells (heap_alloc_new w (.cells #[.int .i64 r.many, .int .i64 r.a0, .int .i64 r.a1, .int .i64 r.a2, .int .i64 r.sort] 186))
  refine bodyPost_ret (v := .tuple #[.agg #[.int .i64 r.many, .int .i64 r.a0, .int .i64 r.a1, .int .i64 r.a2, .int .i64 r.sort], .bool true]) (by simp [results, Tryz.results140, go_sem, x0, x1, x2, x3, x4]) rfl ⟨rfl, (Below.refl _ w).alloc (Nat.le_refl _) _⟩
theorem kindRule_out (op : Int) (w : World) (h : op < 0 ∨ 13 ≤ op) (ho : I8 op) :
    Calls Tryz.prog 140 #[.int .i8 op] w fun e w' => e = .returned (.tuple #[.agg #[.int .i64 zeroR.many, .int .i64 zeroR.a0, .int .i64 zeroR.a1, .int .i64 zeroR.a2, .int .i64 zeroR.sort], .bool false]) ∧ Below w.heap.size w w' := by
  obtain ⟨h1, h2⟩ := ho
  obtain ⟨x0, x1, x2, x3, x4⟩ := rule_cells (heap_alloc_new w (.cells #[.int .i64 zeroR.many, .int .i64 zeroR.a0, .int .i64 zeroR.a1, .int .i64 zeroR.a2, .int .i64 zeroR.sort] 186))
  simp only [zeroR] at *
  rcases h with h | h
  all_goals
    go_enter Tryz.func140, Tryz.ntmps140
    go_wp2
    refine bodyPost_ret (v := .tuple #[.agg #[.int .i64 0, .int .i64 0, .int .i64 0, .int .i64 0, .int .i64 0], .bool false]) (by simp [results, Tryz.results140, go_sem, x0, x1, x2, x3, x4]) rfl ⟨rfl, (Below.refl _ w).alloc (Nat.le_refl _) _⟩
theorem kindRule_any (op : Int) (r : RuleA) (b : Bool) (w : World) (hG : GR w) (ho : I8 op) (hr : kindR op = r) (hb : kindB op = b) :
    Calls Tryz.prog 140 #[.int .i8 op] w fun e w' => e = .returned (.tuple #[.agg #[.int .i64 r.many, .int .i64 r.a0, .int .i64 r.a1, .int .i64 r.a2, .int .i64 r.sort], .bool b]) ∧ Below w.heap.size w w' := by
  subst hr hb
  by_cases h : 0 ≤ op ∧ op < 13
  · obtain ⟨r, hr⟩ : ∃ r, rulesL[op.toNat]? = some r := ⟨_, List.getElem?_eq_getElem (by show op.toNat < 13; omega)⟩
    have e1 : kindB op = true := by unfold kindB; simp [h.1, h.2]
    have e2 : kindR op = r := by unfold kindR; rw [e1, if_pos rfl, List.getD_eq_getElem?_getD, hr]; rfl
    rw [e1, e2]
    exact kindRule_in op r w hG h hr
  · have e1 : kindB op = false := by unfold kindB; simp; omega
    have e2 : kindR op = zeroR := by unfold kindR; rw [e1]; rfl
    rw [e1, e2]
    exact kindRule_out op w (by omega) ho
theorem rules_ok : ∀ r ∈ rulesL, RuleOk r ∧ r.many ≤ 3 ∧ (r.sort = -1 → ∃ i : Nat, (i : Int) < r.many ∧ rArg r i = -1) := by
  intro r hr
  unfold rulesL at hr
  simp only [List.mem_cons, List.not_mem_nil, or_false] at hr
  rcases hr with rfl | rfl | rfl | rfl | rfl | rfl | rfl | rfl | rfl | rfl | rfl | rfl | rfl
  all_goals
    refine ⟨⟨⟨by decide, by decide⟩, ⟨by decide, by decide⟩, ⟨by decide, by decide⟩, ⟨by decide, by decide⟩, ⟨by decide, by decide⟩⟩, by decide, fun h => ?_⟩
    first | (exact absurd h (by decide)) | (exact ⟨1, by decide, rfl⟩)
theorem kindR_ok (op : Int) : RuleOk (kindR op) ∧ (kindR op).many ≤ 3 ∧ ((kindR op).sort = -1 → ∃ i : Nat, (i : Int) < (kindR op).many ∧ rArg (kindR op) i = -1) := by
  unfold kindR
  split
  · rename_i h
    unfold kindB at h
    simp at h
    have hl : op.toNat < rulesL.length := by show op.toNat < 13; omega
    rw [List.getD_eq_getElem?_getD, List.getElem?_eq_getElem hl]
    exact rules_ok _ (List.getElem_mem hl)
  · exact ⟨⟨⟨by decide, by decide⟩, ⟨by decide, by decide⟩, ⟨by decide, by decide⟩, ⟨by decide, by decide⟩, ⟨by decide, by decide⟩⟩, by decide, fun h => absurd h (by decide)⟩
/-- The Sort that a kind has of some sorts, the error. -/
def opA (op : Int) (l : List Int) : Int × Int := if kindB op = true then ofA (kindR op) l else (0, 2)
set_option maxHeartbeats 1000000 in
theorem Op_any (op : Int) (l : List Int) (a : Option Addr) (c : Nat) (p : Int × Int) (w : World) (hG : GR w) (ho : I8 op) (hA : IntsR w l a c) (hl : l.length ≤ 3000) (hp : opA op l = p) :
    Calls Tryz.prog 97 #[.int .i8 op, .slice a l.length c] w fun e w' => e = .returned (.tuple #[.int .i64 p.1, .int .i64 p.2]) ∧ Below w.heap.size w w' := by
  obtain ⟨r, hr⟩ : ∃ r, kindR op = r := ⟨_, rfl⟩
  obtain ⟨b, hb⟩ : ∃ b, kindB op = b := ⟨_, rfl⟩
  obtain ⟨k1, k2, k3⟩ := kindR_ok op
  rw [hr] at k1 k2 k3
  have HK : Hid (∀ W, Below w.heap.size w W → Calls Tryz.prog 140 #[.int .i8 op] W fun e w' => e = .returned (.tuple #[.agg #[.int .i64 r.many, .int .i64 r.a0, .int .i64 r.a1, .int .i64 r.a2, .int .i64 r.sort], .bool b]) ∧ Below W.heap.size W w') := fun W hW => kindRule_any op r b W (hG.below hW) ho hr hb
  have HO : Hid (∀ W, Below w.heap.size w W → b = true → Calls Tryz.prog 141 #[.agg #[.int .i64 r.many, .int .i64 r.a0, .int .i64 r.a1, .int .i64 r.a2, .int .i64 r.sort], .slice a l.length c] W fun e w' => e = .returned (.tuple #[.int .i64 p.1, .int .i64 p.2]) ∧ Below W.heap.size W w') := fun W hW hbt => by
    refine of_any r l a c p W (hA.below hW) k1 hl k2 k3 ?_
    rw [← hp]; unfold opA; rw [hb, hbt, if_pos rfl, hr]
  have HN : Hid (b = false → p = (0, 2)) := fun h => by rw [← hp]; unfold opA; rw [hb, h]; rfl
  clear hr hb k1 k2 k3 hA hp hG ho
  cases b with
  | false =>
    obtain rfl := HN.out rfl
    go_enter Tryz.func97, Tryz.ntmps97
    go_wp2_with (go_at_call 140; refine (HK.out _ (Below.refl _ _)).mono ?_; rintro e w1 ⟨rfl, hb1⟩)
    go_ret2
    exact ⟨rfl, hb1.alloc hb1.size _⟩
  | true =>
    go_enter Tryz.func97, Tryz.ntmps97
    go_wp2_with (first | (go_at_call 140; refine (HK.out _ (Below.refl _ _)).mono ?_; rintro e w1 ⟨rfl, hb1⟩) | (go_at_call 141; refine (HO.out _ (hb1.alloc hb1.size _) trivial).mono ?_; rintro e w2 ⟨rfl, hb2⟩))
    go_ret2
    exact ⟨rfl, (hb1.alloc hb1.size _).trans (hb2.mono (by have := hb1.size; simp; omega))⟩
end Go.Proofs.YtfbjgadgfjnamaaGreatDoor.Tm
