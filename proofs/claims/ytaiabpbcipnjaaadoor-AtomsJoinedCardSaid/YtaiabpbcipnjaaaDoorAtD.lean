/- Atoms: which literals may be; the sorts of a node's arguments. -/
import Derived.Test.YtaiabpbcipnjaaaDoorAtC
namespace Go.Proofs.YtaiabpbcipnjaaaDoor.Tm
open Go.RowKit
set_option linter.unusedVariables false
theorem anyG_take {α : Type} {p : α → Bool} {l : List α} {k : Nat} {x : α} (h : l[k]? = some x) : (l.take (k + 1)).any p = ((l.take k).any p || p x) := by
  rw [List.take_add_one, h, List.any_append]; simp
theorem anyG_mem {α : Type} {p : α → Bool} {l : List α} {k : Nat} {x : α} (h : l[k]? = some x) (hp : p x = true) : l.any p = true := List.any_eq_true.2 ⟨x, List.mem_of_getElem? h, hp⟩
/-- No literal of a Bool node. -/
def noneB (l : List NodeA) (x : Int) : Bool := !hasB l (x / 2) || !isB (nodA l (x / 2))
def mayL (l : List NodeA) (xs : List Int) : Bool := !xs.any (noneB l)
/-- A node of another sort. -/
def otherB (l : List NodeA) (s : Int) (x : Int) : Bool := !decide ((nodA l x).sort = s)
theorem half64 {x : Int} (h : I64 x) : I64 (x / 2) := ⟨by have := h.1; omega, by have := h.2; omega⟩
set_option maxRecDepth 100000 in
set_option maxHeartbeats 2000000 in
theorem may1_any (l : List NodeA) (a : Option Addr) (c B : Nat) (x : Int) (w : World) (hA : TabR w l a c) (hl : l.length ≤ 3000) (hx : I64 x) (hB : w.heap[B]? = some (.cells #[.slice a l.length c] 24 (0, 0))) :
    Calls Tryd.prog 25 #[.int .i64 x, .pointer (some ⟨B, 0, none⟩)] w fun e w' => e = .returned (.bool (noneB l x)) ∧ Below w.heap.size w w' := by
  obtain ⟨q, hq⟩ : ∃ q, noneB l x = q := ⟨_, rfl⟩
  rw [hq]
  have hcap := hA.le
  have hmx : l.length ≤ 9223372036854775807 := by omega
  have bz := (Array.getElem?_eq_some_iff.1 hB).1
  have HB0 : Hid (∀ V, Below w.heap.size w V → V.cell? ⟨B, 0, none⟩ = some (.slice a l.length c) ∧ B < V.heap.size) := fun V hV => by
    have h := (hV.block _ bz).trans hB
    exact ⟨(cell_of_row _ _ 0 _ _ _ h).trans rfl, (Array.getElem?_eq_some_iff.1 h).1⟩
  obtain ⟨t0, tz⟩ := HB0.out _ (Below.refl _ w)
  have hy := half64 hx
  obtain ⟨y, hy2⟩ : ∃ y, x / 2 = y := ⟨_, rfl⟩
  have hqq : (!hasB l y || !isB (nodA l y)) = q := by rw [← hq, ← hy2]; rfl
  rw [hy2] at hy
  have HN : Hid (∀ V, Calls Tryd.prog 24 #[.int .i64 x] V fun e w' => e = .returned (.int .i64 y) ∧ V = w') := fun V => by rw [← hy2]; exact Node_any x V hx
  cases hh : hasB l y with
  | false =>
    obtain rfl : true = q := by rw [← hqq, hh]; rfl
    have HH : Hid (∀ V, Below w.heap.size w V → Calls Tryd.prog 22 #[.agg #[.slice a l.length c], .int .i64 y] V fun e w' => e = .returned (.bool false) ∧ Below w.heap.size w w') := fun V hV => (has_any l a c y false V hmx hh).mono fun e w' ⟨h1, h2⟩ => ⟨h1, hV.trans (h2.mono hV.size)⟩
    have HBr : Hid (Below w.heap.size w w) := Below.refl _ _
    clear hq hqq hh hA hB hx hy hy2
    go_enter Tryd.func25, Tryd.ntmps25
    go_wp2_with fail
    first | (go_region_with (first
      | (go_at_call 24; with_reducible refine (HN.out _).mono ?_; rintro e w1 ⟨rfl, rfl⟩)
      | (go_at_call 22; refine (HH.out _ (by first | exact HBr.out | exact HBr.out.drew)).mono ?_; rintro e w2 ⟨rfl, hb2⟩; have HB2 := Lib.hid hb2; clear hb2 t0 tz; obtain ⟨t0, tz⟩ := HB0.out _ HB2.out))) | fail
    all_goals
      go_wp2_with fail
      go_ret
      first | exact ⟨rfl, HB2.out⟩ | exact ⟨rfl, HB2.out.drew⟩
  | true =>
    have hh' : 0 ≤ y ∧ y < (l.length : Int) := of_decide_eq_true hh
    obtain ⟨k, rfl⟩ : ∃ k : Nat, y = (k : Int) := ⟨y.toNat, by omega⟩
    have hki : (k : Int) < (l.length : Int) := hh'.2
    have hk0 : (0 : Int) ≤ (k : Int) := hh'.1
    obtain ⟨n, hn⟩ : ∃ n, l[k]? = some n := ⟨_, List.getElem?_eq_getElem (by omega)⟩
    obtain ⟨t, ht⟩ : ∃ t, isB n = t := ⟨_, rfl⟩
    obtain rfl : (!t) = q := by rw [← hqq, hh, nodA_at hn, ht]; rfl
    have HH : Hid (∀ V, Below w.heap.size w V → Calls Tryd.prog 22 #[.agg #[.slice a l.length c], .int .i64 k] V fun e w' => e = .returned (.bool true) ∧ Below w.heap.size w w') := fun V hV => (has_any l a c k true V hmx hh).mono fun e w' ⟨h1, h2⟩ => ⟨h1, hV.trans (h2.mono hV.size)⟩
    have HI : Hid (∀ V, Below w.heap.size w V → Calls Tryd.prog 21 #[.agg #[.int .i8 n.op, .int .i8 n.len, .int .i64 n.a0, .int .i64 n.a1, .int .i64 n.a2, .int .i64 n.sort, .int .i64 n.fn, .int .i64 n.num]] V fun e w' => e = .returned (.bool t) ∧ Below w.heap.size w w') := fun V hV => (isBool_any n t V ht).mono fun e w' ⟨h1, h2⟩ => ⟨h1, hV.trans (h2.mono hV.size)⟩
    obtain ⟨g, o, rfl, hg, _⟩ := hA.node hn
    have HS : Hid (∀ V, Below w.heap.size w V → V.cell? ⟨B, 0, none⟩ = some (.slice (some ⟨g, o, none⟩) l.length c) ∧ V.cell? ⟨g, o + k * 8, none⟩ = some (.int .i8 n.op) ∧ V.cell? ⟨g, o + k * 8 + 1, none⟩ = some (.int .i8 n.len) ∧ V.cell? ⟨g, o + k * 8 + 2, none⟩ = some (.int .i64 n.a0) ∧ V.cell? ⟨g, o + k * 8 + 3, none⟩ = some (.int .i64 n.a1) ∧ V.cell? ⟨g, o + k * 8 + 4, none⟩ = some (.int .i64 n.a2) ∧ V.cell? ⟨g, o + k * 8 + 5, none⟩ = some (.int .i64 n.sort) ∧ V.cell? ⟨g, o + k * 8 + 6, none⟩ = some (.int .i64 n.fn) ∧ V.cell? ⟨g, o + k * 8 + 7, none⟩ = some (.int .i64 n.num) ∧ B < V.heap.size ∧ g < V.heap.size) := fun V hV => by
      obtain ⟨g', o', e, hg, q0, q1, q2, q3, q4, q5, q6, q7⟩ := (hA.below hV).node hn
      cases e
      obtain ⟨u0, uz⟩ := HB0.out V hV
      exact ⟨u0, q0, q1, q2, q3, q4, q5, q6, q7, uz, hg⟩
    have HBr : Hid (Below w.heap.size w w) := Below.refl _ _
    clear t0 tz
    obtain ⟨t0, q0, q1, q2, q3, q4, q5, q6, q7, tz, gz⟩ := HS.out _ HBr.out
    clear hq hqq hh hA hB hx hy hy2 hn ht hh' HB0 hg bz
    go_enter Tryd.func25, Tryd.ntmps25
    go_wp2_with fail
    go_region_held3 (fun V => V.cell? ⟨B, 0, none⟩ = some (.slice (some ⟨g, o, none⟩) l.length c) ∧ V.cell? ⟨g, o + k * 8, none⟩ = some (.int .i8 n.op) ∧ V.cell? ⟨g, o + k * 8 + 1, none⟩ = some (.int .i8 n.len) ∧ V.cell? ⟨g, o + k * 8 + 2, none⟩ = some (.int .i64 n.a0) ∧ V.cell? ⟨g, o + k * 8 + 3, none⟩ = some (.int .i64 n.a1) ∧ V.cell? ⟨g, o + k * 8 + 4, none⟩ = some (.int .i64 n.a2) ∧ V.cell? ⟨g, o + k * 8 + 5, none⟩ = some (.int .i64 n.sort) ∧ V.cell? ⟨g, o + k * 8 + 6, none⟩ = some (.int .i64 n.fn) ∧ V.cell? ⟨g, o + k * 8 + 7, none⟩ = some (.int .i64 n.num)) (first | exact ⟨t0, q0, q1, q2, q3, q4, q5, q6, q7⟩ | go_keep) (first
      | (go_at_call 24; with_reducible refine (HN.out _).mono ?_; rintro e w1 ⟨rfl, rfl⟩)
      | (go_at_call 22; refine (HH.out _ (by first | exact HBr.out | exact HBr.out.drew)).mono ?_; rintro e w2 ⟨rfl, hb2⟩; have HB2 := Lib.hid hb2; clear hb2 t0 q0 q1 q2 q3 q4 q5 q6 q7 tz gz; obtain ⟨t0, q0, q1, q2, q3, q4, q5, q6, q7, tz, gz⟩ := HS.out _ HB2.out)
      | (go_at_call 21; refine (HI.out _ (by first | exact HB2.out | exact HB2.out.drew)).mono ?_; rintro e w3 ⟨rfl, hb3⟩; have HB3 := Lib.hid hb3; clear hb3 t0 q0 q1 q2 q3 q4 q5 q6 q7 tz gz; obtain ⟨t0, q0, q1, q2, q3, q4, q5, q6, q7, tz, gz⟩ := HS.out _ HB3.out))
    all_goals
      clear t0 q0 q1 q2 q3 q4 q5 q6 q7 tz gz
      go_wp2_with fail
      go_ret
      first | exact ⟨rfl, HB3.out⟩ | exact ⟨rfl, HB3.out.drew⟩
set_option maxRecDepth 100000 in
set_option maxHeartbeats 2000000 in
theorem other1_any (l : List NodeA) (a : Option Addr) (c B C : Nat) (s : Int) (k : Nat) (w : World) (hA : TabR w l a c) (hl : l.length ≤ 3000) (hk : k < l.length) (hB : w.heap[B]? = some (.cells #[.slice a l.length c] 24 (0, 0))) (hC : w.heap[C]? = some (.cells #[.int .i64 s] 3 (0, 0))) :
    Calls Tryd.prog 43 #[.int .i64 k, .pointer (some ⟨B, 0, none⟩), .pointer (some ⟨C, 0, none⟩)] w fun e w' => e = .returned (.bool (otherB l s k)) ∧ Below w.heap.size w w' := by
  obtain ⟨n, hn⟩ : ∃ n, l[k]? = some n := ⟨_, List.getElem?_eq_getElem hk⟩
  have b0 : w.cell? ⟨B, 0, none⟩ = some (.slice a l.length c) := (cell_of_row _ _ 0 _ _ _ hB).trans rfl
  have c0 : w.cell? ⟨C, 0, none⟩ = some (.int .i64 s) := (cell_of_row _ _ 0 _ _ _ hC).trans rfl
  have bz := (Array.getElem?_eq_some_iff.1 hB).1
  have cz := (Array.getElem?_eq_some_iff.1 hC).1
  have hcap := hA.le
  obtain ⟨g, o, rfl, hg, q0, q1, q2, q3, q4, q5, q6, q7⟩ := hA.node hn
  have hq : otherB l s k = !decide (n.sort = s) := by unfold otherB; rw [nodA_at hn]
  rw [hq]
  have hki : (k : Int) < (l.length : Int) := by omega
  have hk0 : (0 : Int) ≤ (k : Int) := by omega
  clear hA hB hC hn hq q0 q1 q2 q3 q4 q6 q7
  by_cases h : n.sort = s
  · rw [decide_eq_true h]
    have e0 := ne_f h
    clear h
    go_enter Tryd.func43, Tryd.ntmps43
    go_wp2_with fail
    go_quiet (fail)
    go_wp2
    go_ret
    exact ⟨rfl, below_drewN (Below.refl _ _)⟩
  · rw [decide_eq_false h]
    have e0 := ne_t h
    clear h
    go_enter Tryd.func43, Tryd.ntmps43
    go_wp2_with fail
    go_quiet (fail)
    go_wp2
    go_ret
    exact ⟨rfl, below_drewN (Below.refl _ _)⟩
theorem IndexM_any (p : Int → Bool) (B : Nat) (xs : List Int) (a : Option Addr) (c : Nat) (w : World) (hA : IntsR w xs a c) (hl : xs.length ≤ 3000)
    (hC : ∀ (V : World) (x : Int), Below w.heap.size w V → x ∈ xs → Calls Tryd.prog 25 #[.int .i64 x, .pointer (some ⟨B, 0, none⟩)] V fun e w' => e = .returned (.bool (p x)) ∧ Below V.heap.size V w') :
    Calls Tryd.prog 37 #[.slice a xs.length c, .func (.func 25) #[] #[.pointer (some ⟨B, 0, none⟩)]] w fun e w' => (∃ i : Int, e = .returned (.int .i64 i) ∧ ((xs.any p = true ∧ 0 ≤ i) ∨ (xs.any p = false ∧ i = -1))) ∧ Below w.heap.size w w' := by
  obtain ⟨q, hq⟩ : ∃ q, xs.any p = q := ⟨_, rfl⟩
  rw [hq]
  have HQ := Lib.hid hq
  have HC := Lib.hid hC
  have HA := Lib.hid hA
  have hcap := hA.le
  have hmx : xs.length ≤ 9223372036854775807 := by omega
  clear hA hC hq
  go_enter Tryd.func37, Tryd.ntmps37
  go_wp2
  go_loopw [8] (fun i wr => ∃ k : Nat, k ≤ xs.length ∧ i = .int .i64 k ∧ Hid (Below w.heap.size w wr) ∧ Hid ((xs.take k).any p = false)) (fun i _ => xs.length - (intOf i).toNat)
  case atStart => exact ⟨0, Nat.zero_le _, rfl, Below.refl _ _, by show _ = _; rw [List.take_zero]; rfl⟩
  case round =>
    obtain ⟨k, hkl, rfl, HW, HE⟩ := hrel
    by_cases hlt : k < xs.length
    · obtain ⟨x, hn⟩ : ∃ n, xs[k]? = some n := ⟨_, List.getElem?_eq_getElem hlt⟩
      obtain ⟨g, o, rfl, hg, q0⟩ := (HA.out.below HW.out).cell hn
      have HN := Lib.hid hn
      obtain ⟨t, ht⟩ : ∃ t, p x = t := ⟨_, rfl⟩
      have HCn : Hid (Calls Tryd.prog 25 #[.int .i64 x, .pointer (some ⟨B, 0, none⟩)] wr fun e w' => e = .returned (.bool t) ∧ Below wr.heap.size wr w') := by show Calls _ _ _ _ _; rw [← ht]; exact HC.out wr x HW.out (List.mem_of_getElem? hn)
      have HT := Lib.hid ht
      clear hn ht
      cases t with
      | true =>
        go_wp2_with (go_at_call 25; refine HCn.out.mono ?_; rintro e w1 ⟨rfl, hb1⟩)
        go_ret
        exact ⟨⟨_, rfl, .inl ⟨HQ.out.symm.trans (anyG_mem HN.out HT.out), by omega⟩⟩, HW.out.trans (hb1.mono HW.out.size)⟩
      | false =>
        go_wp2_with (go_at_call 25; refine HCn.out.mono ?_; rintro e w1 ⟨rfl, hb1⟩)
        go_roundw
        case rel => exact ⟨k + 1, by omega, by go_num, HW.out.trans (hb1.mono HW.out.size), by show _ = _; rw [anyG_take HN.out, HE.out, HT.out]; rfl⟩
        case measure => simp [intOf]; omega
    · obtain rfl : k = xs.length := by omega
      go_wp2
      go_ret
      exact ⟨⟨_, rfl, .inr ⟨by rw [← HQ.out]; have := HE.out; rwa [List.take_length] at this, rfl⟩⟩, HW.out⟩
theorem ContainsM_any (p : Int → Bool) (B : Nat) (xs : List Int) (a : Option Addr) (c : Nat) (q : Bool) (w : World) (hA : IntsR w xs a c) (hl : xs.length ≤ 3000)
    (hC : ∀ (V : World) (x : Int), Below w.heap.size w V → x ∈ xs → Calls Tryd.prog 25 #[.int .i64 x, .pointer (some ⟨B, 0, none⟩)] V fun e w' => e = .returned (.bool (p x)) ∧ Below V.heap.size V w') (hq : xs.any p = q) :
    Calls Tryd.prog 26 #[.slice a xs.length c, .func (.func 25) #[] #[.pointer (some ⟨B, 0, none⟩)]] w fun e w' => e = .returned (.bool q) ∧ Below w.heap.size w w' := by
  have HI : Hid (Calls Tryd.prog 37 #[.slice a xs.length c, .func (.func 25) #[] #[.pointer (some ⟨B, 0, none⟩)]] w fun e w' => (∃ i : Int, e = .returned (.int .i64 i) ∧ decide (0 ≤ i) = q) ∧ Below w.heap.size w w') := by
    refine (IndexM_any p B xs a c w hA hl hC).mono ?_
    rintro e w' ⟨⟨i, rfl, hi⟩, hb⟩
    refine ⟨⟨i, rfl, ?_⟩, hb⟩
    rcases hi with ⟨h1, h2⟩ | ⟨h1, rfl⟩
    · rw [← hq, h1]; exact decide_eq_true h2
    · rw [← hq, h1]; rfl
  clear hA hC hq
  go_enter Tryd.func26, Tryd.ntmps26
  go_wp2_with fail
  refine HI.out.mono ?_
  rintro e w1 ⟨⟨i, rfl, hi⟩, hb1⟩
  have HB1 := Lib.hid hb1
  clear hb1
  cases q with
  | true =>
    have hi := of_decide_eq_true hi
    go_wp2_with fail
    go_ret
    exact ⟨rfl, HB1.out⟩
  | false =>
    have hi := of_decide_eq_false hi
    go_wp2_with fail
    go_ret
    exact ⟨rfl, HB1.out⟩
theorem IndexS_any (p : Int → Bool) (B C : Nat) (xs : List Int) (a : Option Addr) (c : Nat) (w : World) (hA : IntsR w xs a c) (hl : xs.length ≤ 3000)
    (hC : ∀ (V : World) (x : Int), Below w.heap.size w V → x ∈ xs → Calls Tryd.prog 43 #[.int .i64 x, .pointer (some ⟨B, 0, none⟩), .pointer (some ⟨C, 0, none⟩)] V fun e w' => e = .returned (.bool (p x)) ∧ Below V.heap.size V w') :
    Calls Tryd.prog 37 #[.slice a xs.length c, .func (.func 43) #[] #[.pointer (some ⟨B, 0, none⟩), .pointer (some ⟨C, 0, none⟩)]] w fun e w' => (∃ i : Int, e = .returned (.int .i64 i) ∧ ((xs.any p = true ∧ 0 ≤ i) ∨ (xs.any p = false ∧ i = -1))) ∧ Below w.heap.size w w' := by
  obtain ⟨q, hq⟩ : ∃ q, xs.any p = q := ⟨_, rfl⟩
  rw [hq]
  have HQ := Lib.hid hq
  have HC := Lib.hid hC
  have HA := Lib.hid hA
  have hcap := hA.le
  have hmx : xs.length ≤ 9223372036854775807 := by omega
  clear hA hC hq
  go_enter Tryd.func37, Tryd.ntmps37
  go_wp2
  go_loopw [8] (fun i wr => ∃ k : Nat, k ≤ xs.length ∧ i = .int .i64 k ∧ Hid (Below w.heap.size w wr) ∧ Hid ((xs.take k).any p = false)) (fun i _ => xs.length - (intOf i).toNat)
  case atStart => exact ⟨0, Nat.zero_le _, rfl, Below.refl _ _, by show _ = _; rw [List.take_zero]; rfl⟩
  case round =>
    obtain ⟨k, hkl, rfl, HW, HE⟩ := hrel
    by_cases hlt : k < xs.length
    · obtain ⟨x, hn⟩ : ∃ n, xs[k]? = some n := ⟨_, List.getElem?_eq_getElem hlt⟩
      obtain ⟨g, o, rfl, hg, q0⟩ := (HA.out.below HW.out).cell hn
      have HN := Lib.hid hn
      obtain ⟨t, ht⟩ : ∃ t, p x = t := ⟨_, rfl⟩
      have HCn : Hid (Calls Tryd.prog 43 #[.int .i64 x, .pointer (some ⟨B, 0, none⟩), .pointer (some ⟨C, 0, none⟩)] wr fun e w' => e = .returned (.bool t) ∧ Below wr.heap.size wr w') := by show Calls _ _ _ _ _; rw [← ht]; exact HC.out wr x HW.out (List.mem_of_getElem? hn)
      have HT := Lib.hid ht
      clear hn ht
      cases t with
      | true =>
        go_wp2_with (go_at_call 43; refine HCn.out.mono ?_; rintro e w1 ⟨rfl, hb1⟩)
        go_ret
        exact ⟨⟨_, rfl, .inl ⟨HQ.out.symm.trans (anyG_mem HN.out HT.out), by omega⟩⟩, HW.out.trans (hb1.mono HW.out.size)⟩
      | false =>
        go_wp2_with (go_at_call 43; refine HCn.out.mono ?_; rintro e w1 ⟨rfl, hb1⟩)
        go_roundw
        case rel => exact ⟨k + 1, by omega, by go_num, HW.out.trans (hb1.mono HW.out.size), by show _ = _; rw [anyG_take HN.out, HE.out, HT.out]; rfl⟩
        case measure => simp [intOf]; omega
    · obtain rfl : k = xs.length := by omega
      go_wp2
      go_ret
      exact ⟨⟨_, rfl, .inr ⟨by rw [← HQ.out]; have := HE.out; rwa [List.take_length] at this, rfl⟩⟩, HW.out⟩
theorem ContainsS_any (p : Int → Bool) (B C : Nat) (xs : List Int) (a : Option Addr) (c : Nat) (q : Bool) (w : World) (hA : IntsR w xs a c) (hl : xs.length ≤ 3000)
    (hC : ∀ (V : World) (x : Int), Below w.heap.size w V → x ∈ xs → Calls Tryd.prog 43 #[.int .i64 x, .pointer (some ⟨B, 0, none⟩), .pointer (some ⟨C, 0, none⟩)] V fun e w' => e = .returned (.bool (p x)) ∧ Below V.heap.size V w') (hq : xs.any p = q) :
    Calls Tryd.prog 26 #[.slice a xs.length c, .func (.func 43) #[] #[.pointer (some ⟨B, 0, none⟩), .pointer (some ⟨C, 0, none⟩)]] w fun e w' => e = .returned (.bool q) ∧ Below w.heap.size w w' := by
  have HI : Hid (Calls Tryd.prog 37 #[.slice a xs.length c, .func (.func 43) #[] #[.pointer (some ⟨B, 0, none⟩), .pointer (some ⟨C, 0, none⟩)]] w fun e w' => (∃ i : Int, e = .returned (.int .i64 i) ∧ decide (0 ≤ i) = q) ∧ Below w.heap.size w w') := by
    refine (IndexS_any p B C xs a c w hA hl hC).mono ?_
    rintro e w' ⟨⟨i, rfl, hi⟩, hb⟩
    refine ⟨⟨i, rfl, ?_⟩, hb⟩
    rcases hi with ⟨h1, h2⟩ | ⟨h1, rfl⟩
    · rw [← hq, h1]; exact decide_eq_true h2
    · rw [← hq, h1]; rfl
  clear hA hC hq
  go_enter Tryd.func26, Tryd.ntmps26
  go_wp2_with fail
  refine HI.out.mono ?_
  rintro e w1 ⟨⟨i, rfl, hi⟩, hb1⟩
  have HB1 := Lib.hid hb1
  clear hb1
  cases q with
  | true =>
    have hi := of_decide_eq_true hi
    go_wp2_with fail
    go_ret
    exact ⟨rfl, HB1.out⟩
  | false =>
    have hi := of_decide_eq_false hi
    go_wp2_with fail
    go_ret
    exact ⟨rfl, HB1.out⟩
set_option maxRecDepth 100000 in
set_option maxHeartbeats 2000000 in
theorem May_any (l : List NodeA) (a : Option Addr) (c : Nat) (xs : List Int) (b : Option Addr) (d : Nat) (q : Bool) (w : World) (hG : GT w) (hA : TabR w l a c) (hm : mayT l = true) (hl : l.length ≤ 3000) (hX : IntsR w xs b d) (hxl : xs.length ≤ 3000) (hq : mayL l xs = q) :
    Calls Tryd.prog 11 #[.agg #[.slice a l.length c], .slice b xs.length d] w fun e w' => e = .returned (.bool q) ∧ Below w.heap.size w w' := by
  obtain ⟨t, ht⟩ : ∃ t, xs.any (noneB l) = t := ⟨_, rfl⟩
  obtain rfl : (!t) = q := by rw [← hq, ← ht]; rfl
  obtain ⟨W0, hW0⟩ : ∃ W0, W0 = w.alloc (.cells #[.slice a l.length c] 24) := ⟨_, rfl⟩
  have hn0 : W0.heap[w.heap.size]? = some (.cells #[.slice a l.length c] 24 (0, 0)) := by rw [hW0]; exact heap_alloc_new w _
  obtain ⟨hB0, hX0⟩ := tab_box hW0
  have HCk : Hid (Calls Tryd.prog 20 #[.agg #[.slice a l.length c]] W0 fun e w' => e = .returned (.int .i64 0) ∧ Below W0.heap.size W0 w') := Check_any l a c 0 W0 (hG.below hB0) (hA.below hB0) hl (by rw [hm]; rfl)
  have HC : Hid (∀ V, Below W0.heap.size W0 V → Calls Tryd.prog 26 #[.slice b xs.length d, .func (.func 25) #[] #[.pointer (some ⟨w.heap.size, 0, none⟩)]] V fun e w' => e = .returned (.bool t) ∧ Below V.heap.size V w') := fun V hV =>
    ContainsM_any (noneB l) w.heap.size xs b d t V (hX.below (hB0.trans (hV.mono hB0.size))) hxl (fun U x hU hx => may1_any l a c w.heap.size x U (hA.below ((hB0.trans (hV.mono hB0.size)).trans (hU.mono (hB0.trans (hV.mono hB0.size)).size))) hl (hX.ok x hx) ((hU.block _ (by have := (Array.getElem?_eq_some_iff.1 hn0).1; have := hV.size; omega)).trans ((hV.block _ (Array.getElem?_eq_some_iff.1 hn0).1).trans hn0))) ht
  obtain ⟨x0, xz⟩ := hX0 _ (Below.refl _ _)
  have HX0 := Lib.hid hX0
  have HB0 := Lib.hid hB0
  clear hX0 hB0 hA hX hn0 hG hm hq ht
  go_enter Tryd.func11, Tryd.ntmps11
  go_wp2_with fail
  rw [← hW0]
  clear hW0
  refine HCk.out.mono ?_
  rintro e w1 ⟨rfl, hb1⟩
  have HB1 := Lib.hid hb1
  clear hb1 x0 xz
  go_wp2_with fail
  refine (HC.out _ HB1.out).mono ?_
  rintro e w2 ⟨rfl, hb2⟩
  have HB2 : Hid (Below w.heap.size w w2) := HB0.out.trans ((HB1.out.trans (hb2.mono HB1.out.size)).mono HB0.out.size)
  clear hb2
  go_wp2_with fail
  go_ret
  exact ⟨rfl, HB2.out⟩
end Go.Proofs.YtaiabpbcipnjaaaDoor.Tm
