/- Core: whether a table's nodes have the sorts of their kinds. -/
import Derived.Test.YtfbjgadgfjnamaaGreatDoorZCoD
import Derived.Test.YtfbjgadgfjnamaaGreatDoorZTyC
import Derived.Test.YtfbjgadgfjnamaaGreatDoorZOfJ
namespace Go.Proofs.YtfbjgadgfjnamaaGreatDoor.Tm
open Go.RowKit
set_option linter.unusedVariables false
def sortsA (l : List NodeA) (n : NodeA) (k : Nat) : List Int := (List.range k).map (fun j => (nodA l (argA n j)).sort)
/-- The Sort that a node's kind has, the error. -/
def srtA (l : List NodeA) (n : NodeA) : Int × Int := opA n.op (sortsA l n n.len.toNat)
def badS (l : List NodeA) (n : NodeA) : Bool := if n.op = 13 then false else !decide ((srtA l n).2 = 0) || !decide ((srtA l n).1 = n.sort)
theorem sortsA_len (l : List NodeA) (n : NodeA) (k : Nat) : (sortsA l n k).length = k := by unfold sortsA; rw [List.length_map, List.length_range]
theorem sortsA_succ (l : List NodeA) (n : NodeA) (k : Nat) : (sortsA l n (k + 1)).map (Value.int .i64) = (sortsA l n k).map (Value.int .i64) ++ [.int .i64 (nodA l (argA n k)).sort] := by
  unfold sortsA
  rw [List.range_succ, List.map_append, List.map_append]; rfl
/-- The node's arguments stand in the table. -/
structure InA (l : List NodeA) (n : NodeA) : Prop where
  lo : 0 ≤ n.len
  hi : n.len ≤ 3
  arg : ∀ j : Nat, (j : Int) < n.len → 0 ≤ argA n j ∧ argA n j < (l.length : Int)
theorem ints_own {w : World} {base : Nat} {xs : List Int} {a : Option Addr} {c : Nat} (h : w.ownsRow base 3 1 (.slice a xs.length c) xs.length (xs.map (Value.int .i64))) (hok : ∀ x ∈ xs, I64 x) : IntsR w xs a c := by
  obtain ⟨a', c', e, h1, h2, h3, _⟩ := own_at h
  cases e
  exact ⟨h1, h2, h3, hok⟩
theorem sorts_ok {l : List NodeA} (h : ∀ n ∈ l, NodeOk n) (n : NodeA) (k : Nat) : ∀ x ∈ sortsA l n k, I64 x := fun x hx => by
  unfold sortsA at hx
  obtain ⟨j, _, rfl⟩ := List.mem_map.1 hx
  unfold nodA
  rw [List.getD_eq_getElem?_getD]
  cases e : l[(argA n j).toNat]? with
  | none => exact z64
  | some m => exact (h m (List.mem_of_getElem? e)).sort
theorem arg_cell {V : World} {b : Nat} {n : NodeA} (h : V.heap[b]? = some (.cells #[.int .i8 n.op, .int .i8 n.len, .int .i64 n.a0, .int .i64 n.a1, .int .i64 n.a2, .int .i64 n.sort, .int .i64 n.fn, .int .i64 n.num] 47 (0, 0))) (k : Nat) (hk : k < 3) : V.cell? ⟨b, 2 + k, none⟩ = some (.int .i64 (argA n k)) := by
  obtain ⟨_, _, n2, n3, n4, _⟩ := node_box h
  have hc : k = 0 ∨ k = 1 ∨ k = 2 := by omega
  rcases hc with rfl | rfl | rfl
  · exact n2
  · exact n3
  · exact n4
theorem below_pushP {W V V2 : World} {o : Obj} {B : Nat} {e : TypeId} {size n : Nat} {v : Value} {xs : List Value} (hB : W.heap.size ≤ B) (h : Below W.heap.size W V) (hown : V.ownsRow B e size v n xs) (hg : (V.alloc o).grownBy V2 v.ownBlock) : Below W.heap.size W V2 := by
  have h3 := hg.size
  have h4 := h.size
  have h2 : (V.alloc o).heap.size = V.heap.size + 1 := by simp
  exact ⟨hg.os.trans h.os, hg.tape.trans h.tape, hg.output.trans h.output, by omega, fun k hk => (hg.block k (by omega) (fun e' => by have := (own_lt hown e'.symm).1; omega)).trans ((Below.heap_alloc V o k (by omega)).trans (h.block k hk))⟩
set_option maxRecDepth 100000 in
set_option maxHeartbeats 4000000 in
theorem sortOf_any (l : List NodeA) (a : Option Addr) (c : Nat) (n : NodeA) (p : Int × Int) (w : World) (hG : GR w) (hA : TabR w l a c) (hn : NodeOk n) (hI : InA l n) (hl : l.length ≤ 3000) (hp : srtA l n = p) :
    Calls Tryz.prog 70 #[.slice a l.length c, .agg #[.int .i8 n.op, .int .i8 n.len, .int .i64 n.a0, .int .i64 n.a1, .int .i64 n.a2, .int .i64 n.sort, .int .i64 n.fn, .int .i64 n.num]] w fun e w' => e = .returned (.tuple #[.int .i64 p.1, .bool (decide (p.2 = 0))]) ∧ Below w.heap.size w w' := by
  obtain ⟨op, len, a0, a1, a2, sort, fn, num⟩ := n
  have lo : 0 ≤ len := hI.lo
  have hi : len ≤ 3 := hI.hi
  obtain ⟨m, rfl⟩ : ∃ m : Nat, len = m := ⟨len.toNat, by omega⟩
  have hm3 : m ≤ 3 := by omega
  obtain ⟨n, hnn⟩ : ∃ n : NodeA, n = ⟨op, m, a0, a1, a2, sort, fn, num⟩ := ⟨_, rfl⟩
  rw [← hnn] at hn hI hp
  show Calls _ _ #[.slice a l.length c, .agg #[.int .i8 op, .int .i8 m, .int .i64 a0, .int .i64 a1, .int .i64 a2, .int .i64 sort, .int .i64 fn, .int .i64 num]] _ _
  obtain ⟨W0, hW0⟩ : ∃ W0, W0 = w.alloc (.cells #[.int .i8 op, .int .i8 m, .int .i64 a0, .int .i64 a1, .int .i64 a2, .int .i64 sort, .int .i64 fn, .int .i64 num] 47) := ⟨_, rfl⟩
  have hB0 : Below w.heap.size w W0 := by rw [hW0]; exact (Below.refl _ w).alloc (Nat.le_refl _) _
  have hn0 : W0.heap[w.heap.size]? = some (.cells #[.int .i8 n.op, .int .i8 n.len, .int .i64 n.a0, .int .i64 n.a1, .int .i64 n.a2, .int .i64 n.sort, .int .i64 n.fn, .int .i64 n.num] 47 (0, 0)) := by rw [hW0, hnn]; exact heap_alloc_new w _
  have HB0 := Lib.hid hB0
  have HBx : Hid (∀ V, Below W0.heap.size W0 V → V.heap[w.heap.size]? = some (.cells #[.int .i8 n.op, .int .i8 n.len, .int .i64 n.a0, .int .i64 n.a1, .int .i64 n.a2, .int .i64 n.sort, .int .i64 n.fn, .int .i64 n.num] 47 (0, 0))) := fun V hV => (hV.block _ (Array.getElem?_eq_some_iff.1 hn0).1).trans hn0
  have HA := Lib.hid hA
  have HGr := Lib.hid hG
  have HI := Lib.hid hI
  have HNo := Lib.hid hn
  have HP := Lib.hid hp
  have HM : Hid (n.len = (m : Int)) := by show _ = _; rw [hnn]
  have HOp0 : Hid (n.op = op) := by show _ = _; rw [hnn]
  obtain ⟨i0, hi_, hz0, hz1, hz2⟩ := info_parts info_int
  obtain ⟨bq, hbq⟩ : ∃ b, decide (p.2 = 0) = b := ⟨_, rfl⟩
  rw [hbq]
  have HBq := Lib.hid hbq
  clear hB0 hn0 hA hG hn hp hI hnn hbq
  go_enter Tryz.func70, Tryz.ntmps70
  go_wp2_with fail
  rw [← hW0]
  clear hW0
  go_loopw [6, 16] (fun s i wr => ∃ (k : Nat) (a' : Option Addr) (c' : Nat), k ≤ m ∧ i = .int .i64 k ∧ s = .slice a' k c' ∧ Hid (Below W0.heap.size W0 wr) ∧ Hid (wr.ownsRow W0.heap.size 3 1 (.slice a' k c') k ((sortsA l n k).map (Value.int .i64)))) (fun _ i _ => m - (intOf i).toNat)
  case atStart => exact ⟨0, none, 0, by omega, rfl, rfl, Below.refl _ _, World.ownsRow_nil _ _ _ _⟩
  case round =>
    obtain ⟨k, a', c', hk, rfl, rfl, HV, HR⟩ := hrel
    have hbx := HBx.out _ HV.out
    obtain ⟨q0, q1, q2, q3, q4, q5, q6, q7, zq⟩ := node_box hbx
    rw [HOp0.out] at q0
    by_cases hlt : k < m
    · obtain ⟨al, ah⟩ := HI.out.arg k (by rw [HM.out]; omega)
      obtain ⟨j, hj⟩ : ∃ j : Nat, argA n k = (j : Int) := ⟨(argA n k).toNat, by omega⟩
      have hjl : j < l.length := by omega
      have hg := nodA_get hjl
      obtain ⟨y, hy⟩ : ∃ y, nodA l (j : Int) = y := ⟨_, rfl⟩
      rw [hy] at hg
      have qa : wr.cell? ⟨w.heap.size, 2 + k, none⟩ = some (.int .i64 j) := (arg_cell hbx k (by omega)).trans (by rw [hj])
      obtain ⟨g, o, rfl, hgl, y0, y1, y2, y3, y4, y5, y6, y7⟩ := (HA.out.below (HB0.out.trans (HV.out.mono HB0.out.size))).node hg
      have hkm : (k : Int) < (m : Int) := by omega
      have hji : (j : Int) < (l.length : Int) := by omega
      have hj0 : (0 : Int) ≤ (j : Int) := by omega
      have hrow : wr.ownsRow W0.heap.size 3 1 (.slice a' k c') k ((sortsA l n k).map (Value.int .i64)) := HR.out
      have HE : Hid ((sortsA l n (k + 1)).map (Value.int .i64) = (sortsA l n k).map (Value.int .i64) ++ [.int .i64 y.sort]) := by show _ = _; rw [sortsA_succ, hj, hy]
      clear hbx hg hy hj al ah q0 q1 q2 q3 q4 q5 q6 q7
      go_wp2_with (at_builtin; refine wpList_append_lies _ rfl _ _ 27 rfl W0.heap.size 3 i0 _ 1 8 Tryz.underlying27 hi_ hz0 hz1 hz2 rfl (by decide) (Value.slice a' k c') k ((sortsA l n k).map (Value.int .i64)) (by rfl) (hrow.alloc _) ⟨wr.heap.size, 0, none⟩ 1 1 [.int .i64 y.sort] (by rfl) rfl (World.news_of_block (B := wr.heap.size) (cs := #[.int .i64 y.sort]) (t := 3) (fr := (0, 0)) (heap_alloc_new wr _)) (by simp [Value.oneCell']) (by omega) (by simp only [maxLen]; omega) (by omega) (by have := HV.out.size; simp; omega) _ rfl ?_; intro g9 c9 w9 hown9 hgrow9 hat9 hlt9; have HB9 := Lib.hid (below_pushP (Nat.le_refl _) HV.out hrow hgrow9); have HO9 := Lib.hid hown9; clear hown9 hgrow9 hat9)
      go_roundw
      case rel => exact ⟨k + 1, some ⟨g9, 0, none⟩, c9, by omega, by go_num, rfl, HB9, by rw [HE.out]; exact HO9.out⟩
      case measure => simp [intOf]; omega
    · obtain rfl : k = m := by omega
      have hmt : n.len.toNat = k := by have := HM.out; omega
      have hrow : wr.ownsRow W0.heap.size 3 1 (.slice a' (sortsA l n k).length c') (sortsA l n k).length ((sortsA l n k).map (Value.int .i64)) := by rw [sortsA_len]; exact HR.out
      have hOp := Op_any op (sortsA l n k) a' c' p wr (HGr.out.below (HB0.out.trans (HV.out.mono HB0.out.size))) (by have h := HNo.out.op; rw [HOp0.out] at h; exact h) (ints_own hrow (sorts_ok HA.out.ok n k)) (by rw [sortsA_len]; omega) (by rw [← HP.out]; unfold srtA; rw [hmt, HOp0.out])
      rw [sortsA_len] at hOp
      have HOp := Lib.hid hOp
      have HVw : Hid (Below w.heap.size w wr) := HB0.out.trans (HV.out.mono HB0.out.size)
      clear hbx hrow hOp hmt
      by_cases h0 : p.2 = 0
      · have e0 := eq_t h0
        obtain rfl : true = bq := by rw [← HBq.out, decide_eq_true h0]
        clear h0
        go_wp2_with fail
        refine HOp.out.mono ?_
        rintro e w5 ⟨rfl, hb5⟩
        go_wp2_with fail
        go_ret2
        exact ⟨rfl, HVw.out.trans (hb5.mono HVw.out.size)⟩
      · have e0 := eq_f h0
        obtain rfl : false = bq := by rw [← HBq.out, decide_eq_false h0]
        clear h0
        go_wp2_with fail
        refine HOp.out.mono ?_
        rintro e w5 ⟨rfl, hb5⟩
        go_wp2_with fail
        go_ret2
        exact ⟨rfl, HVw.out.trans (hb5.mono HVw.out.size)⟩
set_option maxRecDepth 100000 in
set_option maxHeartbeats 2000000 in
theorem cloS_any (l : List NodeA) (a : Option Addr) (c B : Nat) (n : NodeA) (w : World) (hG : GR w) (hA : TabR w l a c) (hn : NodeOk n) (hI : InA l n) (hl : l.length ≤ 3000) (hB : w.heap[B]? = some (.cells #[.slice a l.length c] 31 (0, 0))) :
    Calls Tryz.prog 69 #[.agg #[.int .i8 n.op, .int .i8 n.len, .int .i64 n.a0, .int .i64 n.a1, .int .i64 n.a2, .int .i64 n.sort, .int .i64 n.fn, .int .i64 n.num], .pointer (some ⟨B, 0, none⟩)] w fun e w' => e = .returned (.bool (badS l n)) ∧ Below w.heap.size w w' := by
  obtain ⟨W0, hW0⟩ : ∃ W0, W0 = w.alloc (.cells #[.int .i8 n.op, .int .i8 n.len, .int .i64 n.a0, .int .i64 n.a1, .int .i64 n.a2, .int .i64 n.sort, .int .i64 n.fn, .int .i64 n.num] 47) := ⟨_, rfl⟩
  have hB0 : Below w.heap.size w W0 := by rw [hW0]; exact (Below.refl _ w).alloc (Nat.le_refl _) _
  have hn0 : W0.heap[w.heap.size]? = some (.cells #[.int .i8 n.op, .int .i8 n.len, .int .i64 n.a0, .int .i64 n.a1, .int .i64 n.a2, .int .i64 n.sort, .int .i64 n.fn, .int .i64 n.num] 47 (0, 0)) := by rw [hW0]; exact heap_alloc_new w _
  obtain ⟨n0, n1, n2, n3, n4, n5, n6, n7, zn⟩ := node_box hn0
  have b0 : w.cell? ⟨B, 0, none⟩ = some (.slice a l.length c) := (cell_of_row _ _ 0 _ _ _ hB).trans rfl
  have bz := (Array.getElem?_eq_some_iff.1 hB).1
  obtain ⟨p, hp⟩ : ∃ p, srtA l n = p := ⟨_, rfl⟩
  have HC : Hid (Calls Tryz.prog 70 #[.slice a l.length c, .agg #[.int .i8 n.op, .int .i8 n.len, .int .i64 n.a0, .int .i64 n.a1, .int .i64 n.a2, .int .i64 n.sort, .int .i64 n.fn, .int .i64 n.num]] W0 fun e w' => e = .returned (.tuple #[.int .i64 p.1, .bool (decide (p.2 = 0))]) ∧ Below W0.heap.size W0 w') := sortOf_any l a c n p W0 (hG.below hB0) (hA.below hB0) hn hI hl hp
  have HK : Hid (∀ V, Below W0.heap.size W0 V → V.cell? ⟨w.heap.size, 5, none⟩ = some (.int .i64 n.sort) ∧ w.heap.size < V.heap.size) := fun V hV => ⟨(hV.cell (p := ⟨w.heap.size, 5, none⟩) zn).trans n5, Nat.lt_of_lt_of_le zn hV.size⟩
  have HB0 := Lib.hid hB0
  clear hB0 hn0 hG hA hB hI hn
  by_cases h13 : n.op = 13
  · have hb : badS l n = false := if_pos h13
    have e0 := eq_t h13
    rw [hb]
    clear hb h13 hp
    go_enter Tryz.func69, Tryz.ntmps69
    go_wp2_with fail
    rw [← hW0]
    clear hW0
    go_ret
    exact ⟨rfl, HB0.out⟩
  have e0 := eq_f h13
  have hb : badS l n = (!decide (p.2 = 0) || !decide (p.1 = n.sort)) := by unfold badS; rw [if_neg h13, hp]
  rw [hb]
  clear hb h13 hp
  by_cases h0 : p.2 = 0
  · have e1 : decide (p.2 = 0) = true := decide_eq_true h0
    rw [e1] at HC ⊢
    clear h0 e1
    by_cases hs : p.1 = n.sort
    · have e2 : decide (p.1 = n.sort) = true := decide_eq_true hs
      have e3 := ne_f hs
      rw [e2]
      clear hs e2
      go_enter Tryz.func69, Tryz.ntmps69
      go_wp2_with fail
      rw [← hW0]
      clear hW0
      refine HC.out.mono ?_
      rintro e w1 ⟨rfl, hb1⟩
      obtain ⟨k5, kz⟩ := HK.out _ hb1
      have HB1 := Lib.hid (HB0.out.trans (hb1.mono HB0.out.size))
      clear hb1
      go_wp2_with fail
      go_ret
      exact ⟨rfl, HB1.out⟩
    · have e2 : decide (p.1 = n.sort) = false := decide_eq_false hs
      have e3 := ne_t hs
      rw [e2]
      clear hs e2
      go_enter Tryz.func69, Tryz.ntmps69
      go_wp2_with fail
      rw [← hW0]
      clear hW0
      refine HC.out.mono ?_
      rintro e w1 ⟨rfl, hb1⟩
      obtain ⟨k5, kz⟩ := HK.out _ hb1
      have HB1 := Lib.hid (HB0.out.trans (hb1.mono HB0.out.size))
      clear hb1
      go_wp2_with fail
      go_ret
      exact ⟨rfl, HB1.out⟩
  · have e1 : decide (p.2 = 0) = false := decide_eq_false h0
    rw [e1] at HC ⊢
    clear h0 e1
    go_enter Tryz.func69, Tryz.ntmps69
    go_wp2_with fail
    rw [← hW0]
    clear hW0
    refine HC.out.mono ?_
    rintro e w1 ⟨rfl, hb1⟩
    have HB1 := Lib.hid (HB0.out.trans (hb1.mono HB0.out.size))
    clear hb1
    go_wp2_with fail
    go_ret
    exact ⟨rfl, HB1.out⟩
theorem IndexS_any (l : List NodeA) (a : Option Addr) (c B : Nat) (w : World) (hA : TabR w l a c) (hG : GR w) (hin : ∀ n ∈ l, InA l n) (hl : l.length ≤ 3000) (hB : w.heap[B]? = some (.cells #[.slice a l.length c] 31 (0, 0))) :
    Calls Tryz.prog 85 #[.slice a l.length c, .func (.func 69) #[] #[.pointer (some ⟨B, 0, none⟩)]] w fun e w' => (∃ i : Int, e = .returned (.int .i64 i) ∧ ((l.any (badS l) = true ∧ 0 ≤ i) ∨ (l.any (badS l) = false ∧ i = -1))) ∧ Below w.heap.size w w' := by
  obtain ⟨q, hq⟩ : ∃ q, l.any (badS l) = q := ⟨_, rfl⟩
  rw [hq]
  have HQ := Lib.hid hq
  have HC : Hid (∀ (V : World) (k : Nat) (n : NodeA), Below w.heap.size w V → l[k]? = some n → Calls Tryz.prog 69 #[.agg #[.int .i8 n.op, .int .i8 n.len, .int .i64 n.a0, .int .i64 n.a1, .int .i64 n.a2, .int .i64 n.sort, .int .i64 n.fn, .int .i64 n.num], .pointer (some ⟨B, 0, none⟩)] V fun e w' => e = .returned (.bool (badS l n)) ∧ Below V.heap.size V w') := fun V k n hV hn => cloS_any l a c B n V (hG.below hV) (hA.below hV) (hA.ok n (List.mem_of_getElem? hn)) (hin n (List.mem_of_getElem? hn)) hl ((hV.block _ (Array.getElem?_eq_some_iff.1 hB).1).trans hB)
  have HA := Lib.hid hA
  have hcap := hA.le
  have hmx : l.length ≤ 9223372036854775807 := by omega
  clear hA hB hq
  go_enter Tryz.func85, Tryz.ntmps85
  go_wp2
  go_loopw [8] (fun i wr => ∃ k : Nat, k ≤ l.length ∧ i = .int .i64 k ∧ Hid (Below w.heap.size w wr) ∧ Hid ((l.take k).any (badS l) = false)) (fun i _ => l.length - (intOf i).toNat)
  case atStart => exact ⟨0, Nat.zero_le _, rfl, Below.refl _ _, by show _ = _; rw [List.take_zero]; rfl⟩
  case round =>
    obtain ⟨k, hkl, rfl, HW, HE⟩ := hrel
    by_cases hlt : k < l.length
    · obtain ⟨n, hn⟩ : ∃ n, l[k]? = some n := ⟨_, List.getElem?_eq_getElem hlt⟩
      obtain ⟨g, o, rfl, hg, q0, q1, q2, q3, q4, q5, q6, q7⟩ := (HA.out.below HW.out).node hn
      have HN := Lib.hid hn
      obtain ⟨t, ht⟩ : ∃ t, badS l n = t := ⟨_, rfl⟩
      have HCn : Hid (Calls Tryz.prog 69 #[.agg #[.int .i8 n.op, .int .i8 n.len, .int .i64 n.a0, .int .i64 n.a1, .int .i64 n.a2, .int .i64 n.sort, .int .i64 n.fn, .int .i64 n.num], .pointer (some ⟨B, 0, none⟩)] wr fun e w' => e = .returned (.bool t) ∧ Below wr.heap.size wr w') := by show Calls _ _ _ _ _; rw [← ht]; exact HC.out wr k n HW.out hn
      have HT := Lib.hid ht
      clear hn ht
      cases t with
      | true =>
        go_wp2_with (go_at_call 69; refine HCn.out.mono ?_; rintro e w1 ⟨rfl, hb1⟩)
        go_ret
        exact ⟨⟨_, rfl, .inl ⟨HQ.out.symm.trans (any_mem HN.out HT.out), by omega⟩⟩, HW.out.trans (hb1.mono HW.out.size)⟩
      | false =>
        go_wp2_with (go_at_call 69; refine HCn.out.mono ?_; rintro e w1 ⟨rfl, hb1⟩)
        go_roundw
        case rel => exact ⟨k + 1, by omega, by go_num, HW.out.trans (hb1.mono HW.out.size), by show _ = _; rw [any_take HN.out, HE.out, HT.out]; rfl⟩
        case measure => simp [intOf]; omega
    · obtain rfl : k = l.length := by omega
      go_wp2
      go_ret
      exact ⟨⟨_, rfl, .inr ⟨by rw [← HQ.out]; have := HE.out; rwa [List.take_length] at this, rfl⟩⟩, HW.out⟩
theorem ContainsS_any (l : List NodeA) (a : Option Addr) (c B : Nat) (q : Bool) (w : World) (hA : TabR w l a c) (hG : GR w) (hin : ∀ n ∈ l, InA l n) (hl : l.length ≤ 3000) (hB : w.heap[B]? = some (.cells #[.slice a l.length c] 31 (0, 0))) (hq : l.any (badS l) = q) :
    Calls Tryz.prog 54 #[.slice a l.length c, .func (.func 69) #[] #[.pointer (some ⟨B, 0, none⟩)]] w fun e w' => e = .returned (.bool q) ∧ Below w.heap.size w w' := by
  have HI : Hid (Calls Tryz.prog 85 #[.slice a l.length c, .func (.func 69) #[] #[.pointer (some ⟨B, 0, none⟩)]] w fun e w' => (∃ i : Int, e = .returned (.int .i64 i) ∧ decide (0 ≤ i) = q) ∧ Below w.heap.size w w') := by
    refine (IndexS_any l a c B w hA hG hin hl hB).mono ?_
    rintro e w' ⟨⟨i, rfl, hi⟩, hb⟩
    refine ⟨⟨i, rfl, ?_⟩, hb⟩
    rcases hi with ⟨h1, h2⟩ | ⟨h1, rfl⟩
    · rw [← hq, h1]; exact decide_eq_true h2
    · rw [← hq, h1]; rfl
  clear hA hB hq
  go_enter Tryz.func54, Tryz.ntmps54
  go_wp2_with fail
  refine HI.out.mono ?_
  rintro e w1 ⟨⟨i, rfl, hi⟩, hb1⟩
  have HB1 := Lib.hid hb1
  clear hb1
  cases q with
  | true =>
    have hi := of_decide_eq_true hi
    go_wp2_with fail
    go_ret
    exact ⟨rfl, HB1.out⟩
  | false =>
    have hi := of_decide_eq_false hi
    go_wp2_with fail
    go_ret
    exact ⟨rfl, HB1.out⟩
set_option maxRecDepth 100000 in
theorem sorted_any (l : List NodeA) (a : Option Addr) (c : Nat) (q : Bool) (w : World) (hG : GR w) (hA : TabR w l a c) (hin : ∀ n ∈ l, InA l n) (hl : l.length ≤ 3000) (hq : l.any (badS l) = q) :
    Calls Tryz.prog 35 #[.slice a l.length c] w fun e w' => e = .returned (.bool (!q)) ∧ Below w.heap.size w w' := by
  obtain ⟨W0, hW0⟩ : ∃ W0, W0 = w.alloc (.cells #[.slice a l.length c] 31) := ⟨_, rfl⟩
  have hB0 : Below w.heap.size w W0 := by rw [hW0]; exact (Below.refl _ w).alloc (Nat.le_refl _) _
  have hn0 : W0.heap[w.heap.size]? = some (.cells #[.slice a l.length c] 31 (0, 0)) := by rw [hW0]; exact heap_alloc_new w _
  have b0 : W0.cell? ⟨w.heap.size, 0, none⟩ = some (.slice a l.length c) := (cell_of_row _ _ 0 _ _ _ hn0).trans rfl
  have bz := (Array.getElem?_eq_some_iff.1 hn0).1
  have HC : Hid (Calls Tryz.prog 54 #[.slice a l.length c, .func (.func 69) #[] #[.pointer (some ⟨w.heap.size, 0, none⟩)]] W0 fun e w' => e = .returned (.bool q) ∧ Below W0.heap.size W0 w') := ContainsS_any l a c w.heap.size q W0 (hA.below hB0) (hG.below hB0) hin hl hn0 hq
  have HB0 := Lib.hid hB0
  clear hB0 hn0 hG hA hin hq
  go_enter Tryz.func35, Tryz.ntmps35
  go_wp2_with fail
  rw [← hW0]
  clear hW0
  refine HC.out.mono ?_
  rintro e w1 ⟨rfl, hb1⟩
  have HB1 := Lib.hid (HB0.out.trans (hb1.mono HB0.out.size))
  clear hb1
  cases q with
  | true =>
    go_wp2_with fail
    go_ret
    exact ⟨rfl, HB1.out⟩
  | false =>
    go_wp2_with fail
    go_ret
    exact ⟨rfl, HB1.out⟩
end Go.Proofs.YtfbjgadgfjnamaaGreatDoor.Tm
