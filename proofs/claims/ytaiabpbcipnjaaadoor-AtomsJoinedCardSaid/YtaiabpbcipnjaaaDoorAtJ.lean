/- Atoms: what is told to whom. -/
import Derived.Test.YtaiabpbcipnjaaaDoorAtI
import Derived.Deep.AppendLies
namespace Go.Proofs.YtaiabpbcipnjaaaDoor.Tm
open Go.RowKit
set_option linter.unusedVariables false
/-- The node at a place is told to euf. -/
def eufB (l : List NodeA) (x : Int) : Bool := (decide (kindA l (nodA l x) = 4) || (decide (kindA l (nodA l x) = 5) || decide (kindA l (nodA l x) = 8))) || (argB l).getD x.toNat false
def idlB (l : List NodeA) (x : Int) : Bool := decide (kindA l (nodA l x) = 6)
def eufL (l : List NodeA) (xs : List Int) : List Int := if mayL l xs = true then xs.filter (fun x => eufB l (x / 2)) else []
def idlL (l : List NodeA) (xs : List Int) : List Int := if mayL l xs = true then xs.filter (fun x => idlB l (x / 2)) else []
theorem mayL_at {l : List NodeA} {xs : List Int} (h : mayL l xs = true) {x : Int} (hx : x ∈ xs) : ∃ k : Nat, x / 2 = (k : Int) ∧ k < l.length ∧ isB (nodA l (k : Nat)) = true := by
  unfold mayL at h
  rw [Bool.not_eq_true', List.any_eq_false] at h
  have h1 := h x hx
  unfold noneB at h1
  cases h2 : hasB l (x / 2) with
  | false => rw [h2] at h1; exact absurd rfl h1
  | true =>
    rw [h2] at h1
    have h3 : 0 ≤ x / 2 ∧ x / 2 < (l.length : Int) := of_decide_eq_true h2
    obtain ⟨k, hk⟩ : ∃ k : Nat, x / 2 = (k : Int) := ⟨(x / 2).toNat, by omega⟩
    refine ⟨k, hk, by omega, ?_⟩
    rw [hk] at h1
    cases h4 : isB (nodA l (k : Nat)) with
    | true => rfl
    | false => rw [h4] at h1; exact absurd rfl h1
set_option maxRecDepth 100000 in
set_option maxHeartbeats 2000000 in
theorem euf1_any (l : List NodeA) (a : Option Addr) (c B C S k : Nat) (w : World) (hG : GK w) (hA : TabR w l a c) (hok : okFrom [] l = true) (hl : l.length ≤ 2000) (hk : k < l.length) (hB : w.heap[B]? = some (.cells #[.slice a l.length c] 24 (0, 0))) (hC : w.heap[C]? = some (.cells #[.slice (some ⟨S, 0, none⟩) l.length l.length] 52 (0, 0))) (hS : w.heap[S]? = some (.cells (boolRow (argB l)) 4 (0, 0))) :
    Calls Tryd.prog 29 #[.int .i64 k, .pointer (some ⟨B, 0, none⟩), .pointer (some ⟨C, 0, none⟩)] w fun e w' => e = .returned (.bool (eufB l k)) ∧ Below w.heap.size w w' := by
  obtain ⟨n, hn⟩ : ∃ n, l[k]? = some n := ⟨_, List.getElem?_eq_getElem hk⟩
  obtain ⟨v, hv⟩ : ∃ v, kindA l n = v := ⟨_, rfl⟩
  obtain ⟨q, hq⟩ : ∃ q, (argB l)[k]? = some q := ⟨_, List.getElem?_eq_getElem (by rw [argB_len]; exact hk)⟩
  have hr : eufB l k = ((decide (v = 4) || (decide (v = 5) || decide (v = 8))) || q) := by
    unfold eufB
    rw [nodA_at hn, hv, Int.toNat_natCast, List.getD_eq_getElem?_getD, hq]; rfl
  rw [hr]
  have HK : Hid (∀ V, Below w.heap.size w V → Calls Tryd.prog 30 #[.agg #[.slice a l.length c], .int .i64 k] V fun e w' => e = .returned (.int .i8 v) ∧ Below V.heap.size V w') := fun V hV => kind_any l a c k n v V (hG.below hV) (hA.below hV) hok (by omega) hn hv
  have b0 : w.cell? ⟨B, 0, none⟩ = some (.slice a l.length c) := (cell_of_row _ _ 0 _ _ _ hB).trans rfl
  have bz := (Array.getElem?_eq_some_iff.1 hB).1
  have HC : Hid (∀ V, Below w.heap.size w V → V.cell? ⟨C, 0, none⟩ = some (.slice (some ⟨S, 0, none⟩) l.length l.length) ∧ V.cell? ⟨S, k, none⟩ = some (.bool q) ∧ C < V.heap.size ∧ S < V.heap.size) := fun V hV => by
    have e1 := (hV.block _ (Array.getElem?_eq_some_iff.1 hC).1).trans hC
    have e2 := (hV.block _ (Array.getElem?_eq_some_iff.1 hS).1).trans hS
    exact ⟨(cell_of_row _ _ 0 _ _ _ e1).trans rfl, bool_cell e2 hq, (Array.getElem?_eq_some_iff.1 e1).1, (Array.getElem?_eq_some_iff.1 e2).1⟩
  have hki : (k : Int) < (l.length : Int) := by omega
  have hk0 : (0 : Int) ≤ (k : Int) := by omega
  clear hG hA hok hB hC hS hn hv hq hr
  by_cases h4 : v = 4
  · subst h4
    show Calls _ _ _ _ fun e w' => e = .returned (.bool true) ∧ _
    go_enter Tryd.func29, Tryd.ntmps29
    go_wp2_with fail
    refine (HK.out _ (Below.refl _ _)).mono ?_
    rintro e w1 ⟨rfl, hb1⟩
    have HB1 := Lib.hid hb1
    clear hb1
    go_wp2_with fail
    go_ret
    exact ⟨rfl, HB1.out⟩
  by_cases h5 : v = 5
  · subst h5
    show Calls _ _ _ _ fun e w' => e = .returned (.bool true) ∧ _
    go_enter Tryd.func29, Tryd.ntmps29
    go_wp2_with fail
    refine (HK.out _ (Below.refl _ _)).mono ?_
    rintro e w1 ⟨rfl, hb1⟩
    have HB1 := Lib.hid hb1
    clear hb1
    go_wp2_with fail
    go_ret
    exact ⟨rfl, HB1.out⟩
  by_cases h8 : v = 8
  · subst h8
    show Calls _ _ _ _ fun e w' => e = .returned (.bool true) ∧ _
    go_enter Tryd.func29, Tryd.ntmps29
    go_wp2_with fail
    refine (HK.out _ (Below.refl _ _)).mono ?_
    rintro e w1 ⟨rfl, hb1⟩
    have HB1 := Lib.hid hb1
    clear hb1
    go_wp2_with fail
    go_ret
    exact ⟨rfl, HB1.out⟩
  rw [decide_eq_false h4, decide_eq_false h5, decide_eq_false h8]
  show Calls _ _ _ _ fun e w' => e = .returned (.bool q) ∧ _
  have e4 := eq_f h4
  have e5 := eq_f h5
  have e8 := eq_f h8
  clear h4 h5 h8
  go_enter Tryd.func29, Tryd.ntmps29
  go_wp2_with fail
  refine (HK.out _ (Below.refl _ _)).mono ?_
  rintro e w1 ⟨rfl, hb1⟩
  obtain ⟨c0, s0, cz, sz⟩ := HC.out _ hb1
  have HB1 := Lib.hid hb1
  clear hb1
  go_wp2_with fail
  go_ret
  exact ⟨rfl, HB1.out⟩
set_option maxRecDepth 100000 in
theorem idl1_any (l : List NodeA) (a : Option Addr) (c B k : Nat) (w : World) (hG : GK w) (hA : TabR w l a c) (hok : okFrom [] l = true) (hl : l.length ≤ 2000) (hk : k < l.length) (hB : w.heap[B]? = some (.cells #[.slice a l.length c] 24 (0, 0))) :
    Calls Tryd.prog 31 #[.int .i64 k, .pointer (some ⟨B, 0, none⟩)] w fun e w' => e = .returned (.bool (idlB l k)) ∧ Below w.heap.size w w' := by
  obtain ⟨n, hn⟩ : ∃ n, l[k]? = some n := ⟨_, List.getElem?_eq_getElem hk⟩
  obtain ⟨v, hv⟩ : ∃ v, kindA l n = v := ⟨_, rfl⟩
  have hr : idlB l k = decide (v = 6) := by unfold idlB; rw [nodA_at hn, hv]
  rw [hr]
  have HK : Hid (∀ V, Below w.heap.size w V → Calls Tryd.prog 30 #[.agg #[.slice a l.length c], .int .i64 k] V fun e w' => e = .returned (.int .i8 v) ∧ Below V.heap.size V w') := fun V hV => kind_any l a c k n v V (hG.below hV) (hA.below hV) hok (by omega) hn hv
  have b0 : w.cell? ⟨B, 0, none⟩ = some (.slice a l.length c) := (cell_of_row _ _ 0 _ _ _ hB).trans rfl
  have bz := (Array.getElem?_eq_some_iff.1 hB).1
  clear hG hA hok hB hn hv hr
  by_cases h : v = 6
  · rw [decide_eq_true h]
    have e0 := eq_t h
    clear h
    go_enter Tryd.func31, Tryd.ntmps31
    go_wp2_with fail
    refine (HK.out _ (Below.refl _ _)).mono ?_
    rintro e w1 ⟨rfl, hb1⟩
    have HB1 := Lib.hid hb1
    clear hb1
    go_wp2_with fail
    go_ret
    exact ⟨rfl, HB1.out⟩
  · rw [decide_eq_false h]
    have e0 := eq_f h
    clear h
    go_enter Tryd.func31, Tryd.ntmps31
    go_wp2_with fail
    refine (HK.out _ (Below.refl _ _)).mono ?_
    rintro e w1 ⟨rfl, hb1⟩
    have HB1 := Lib.hid hb1
    clear hb1
    go_wp2_with fail
    go_ret
    exact ⟨rfl, HB1.out⟩
theorem filt_yes {xs : List Int} {p : Int → Bool} {k : Nat} {x : Int} (h : xs[k]? = some x) (hp : p x = true) : (xs.take (k + 1)).filter p = (xs.take k).filter p ++ [x] := by
  rw [List.take_add_one, h, List.filter_append]; simp [hp]
theorem filt_no {xs : List Int} {p : Int → Bool} {k : Nat} {x : Int} (h : xs[k]? = some x) (hp : p x = false) : (xs.take (k + 1)).filter p = (xs.take k).filter p := by
  rw [List.take_add_one, h, List.filter_append]; simp [hp]
theorem filt_len (xs : List Int) (p : Int → Bool) (k : Nat) : ((xs.take k).filter p).length ≤ k := by
  have h1 := List.length_filter_le p (xs.take k)
  have h2 := List.length_take_le k xs
  omega
set_option maxRecDepth 100000 in
set_option maxHeartbeats 4000000 in
theorem toldE_any (p : Int → Bool) (B C : Nat) (xs : List Int) (a : Option Addr) (c : Nat) (w : World) (hA : IntsR w xs a c) (hl : xs.length ≤ 3000)
    (hC : ∀ (V : World) (x : Int), Below w.heap.size w V → x ∈ xs → Calls Tryd.prog 29 #[.int .i64 (x / 2), .pointer (some ⟨B, 0, none⟩), .pointer (some ⟨C, 0, none⟩)] V fun e w' => e = .returned (.bool (p x)) ∧ Below V.heap.size V w') :
    Calls Tryd.prog 28 #[.slice a xs.length c, .func (.func 29) #[] #[.pointer (some ⟨B, 0, none⟩), .pointer (some ⟨C, 0, none⟩)]] w fun e w' => ∃ v, e = .returned v ∧ RowO w' w.heap.size (xs.filter p) v ∧ Below w.heap.size w w' := by
  have HC := Lib.hid hC
  have HA := Lib.hid hA
  have HN : Hid (∀ (V : World) (x : Int), x ∈ xs → Calls Tryd.prog 24 #[.int .i64 x] V fun e w' => e = .returned (.int .i64 (x / 2)) ∧ V = w') := fun V x hx => Node_any x V (hA.ok x hx)
  have hcap := hA.le
  have hmx : xs.length ≤ 9223372036854775807 := by omega
  obtain ⟨i0, hi_, hz0, hz1, hz2⟩ := info_parts info_int
  clear hA hC
  go_enter Tryd.func28, Tryd.ntmps28
  go_wp2_with fail
  go_loopw [5, 10] (fun s i wr => ∃ (k m : Nat) (a' : Option Addr) (c' : Nat), k ≤ xs.length ∧ m ≤ k ∧ i = .int .i64 k ∧ s = .slice a' m c' ∧ Hid (((xs.take k).filter p).length = m) ∧ Hid (Below w.heap.size w wr) ∧ Hid (wr.ownsRow w.heap.size 3 1 (.slice a' m c') m (((xs.take k).filter p).map (Value.int .i64)))) (fun _ i _ => xs.length - (intOf i).toNat)
  case atStart => exact ⟨0, 0, none, 0, by omega, by omega, rfl, rfl, rfl, Below.refl _ _, World.ownsRow_nil _ _ _ _⟩
  case round =>
    obtain ⟨k, m, a', c', hk, hmk, rfl, rfl, HL, HV, HR⟩ := hrel
    by_cases hlt : k < xs.length
    · obtain ⟨x, hn⟩ : ∃ n, xs[k]? = some n := ⟨_, List.getElem?_eq_getElem hlt⟩
      obtain ⟨g, o, rfl, hg, q0⟩ := (HA.out.below HV.out).cell hn
      have hki : (k : Int) < (xs.length : Int) := by omega
      have HX := Lib.hid hn
      have hxm := List.mem_of_getElem? hn
      have HNx := Lib.hid (HN.out wr x hxm)
      have HCx := HC.out wr x HV.out hxm
      cases ht : p x with
      | false =>
        rw [ht] at HCx
        have HCx := Lib.hid HCx
        have HE : Hid ((xs.take (k + 1)).filter p = (xs.take k).filter p) := filt_no HX.out ht
        have HL2 : Hid (((xs.take (k + 1)).filter p).length = m) := by show _ = _; rw [HE.out]; exact HL.out
        clear ht hn hxm
        go_wp2_with (first | (go_at_call 24; refine HNx.out.mono ?_; rintro e w1 ⟨rfl, rfl⟩) | (go_at_call 29; refine HCx.out.mono ?_; rintro e w2 ⟨rfl, hb2⟩; have HB2 := Lib.hid hb2; clear hb2))
        have HV2 : Hid (Below w.heap.size w w2) := HV.out.trans (HB2.out.mono HV.out.size)
        have HR2 : Hid (w2.ownsRow w.heap.size 3 1 (.slice a' m c') m (((xs.take (k + 1)).filter p).map (Value.int .i64))) := by show World.ownsRow _ _ _ _ _ _ _; rw [HE.out]; exact own_heap HR.out (fun g _ hg => HB2.out.block g hg)
        go_roundw
        case rel => exact ⟨k + 1, m, a', c', by omega, by omega, by go_num, rfl, HL2, HV2, HR2⟩
        case measure => simp [intOf]; omega
      | true =>
        rw [ht] at HCx
        have HCx := Lib.hid HCx
        have HE : Hid ((xs.take (k + 1)).filter p = (xs.take k).filter p ++ [x]) := filt_yes HX.out ht
        have HL2 : Hid (((xs.take (k + 1)).filter p).length = m + 1) := by show _ = _; rw [HE.out, List.length_append, HL.out]; rfl
        clear ht hn hxm
        go_wp2_with (first | (go_at_call 24; refine HNx.out.mono ?_; rintro e w1 ⟨rfl, rfl⟩) | (go_at_call 29; refine HCx.out.mono ?_; rintro e w2 ⟨rfl, hb2⟩; have HV2 : Hid (Below w.heap.size w w2) := HV.out.trans (hb2.mono HV.out.size); have hrow : w2.ownsRow w.heap.size 3 1 (.slice a' m c') m (((xs.take k).filter p).map (Value.int .i64)) := own_heap HR.out (fun g _ hg => hb2.block g hg); have hws := HV2.out.size; clear hb2) | (at_builtin; refine wpList_append_lies _ rfl _ _ 25 rfl w.heap.size 3 i0 _ 1 8 Tryd.underlying25 hi_ hz0 hz1 hz2 rfl (by decide) (Value.slice a' m c') m (((xs.take k).filter p).map (Value.int .i64)) (by rfl) (hrow.alloc _) ⟨w2.heap.size, 0, none⟩ 1 1 [.int .i64 x] (by rfl) rfl (World.news_of_block (B := w2.heap.size) (cs := #[.int .i64 x]) (t := 3) (fr := (0, 0)) (heap_alloc_new w2 _)) (by simp [Value.oneCell']) (by omega) (by simp only [maxLen]; omega) (by omega) (by simp; omega) _ rfl ?_; intro g9 c9 w9 hown9 hgrow9 hat9 hlt9; have HB9 := Lib.hid (below_pushP (Nat.le_refl _) HV2.out hrow hgrow9); have HO9 : Hid (w9.ownsRow w.heap.size 3 1 (.slice (some ⟨g9, 0, none⟩) (m + 1) c9) (m + 1) (((xs.take (k + 1)).filter p).map (Value.int .i64))) := (by show World.ownsRow _ _ _ _ _ _ _; rw [HE.out, List.map_append]; exact hown9); clear hown9 hgrow9 hat9))
        go_roundw
        case rel => exact ⟨k + 1, m + 1, some ⟨g9, 0, none⟩, c9, by omega, by omega, by go_num, rfl, HL2, HB9, HO9⟩
        case measure => simp [intOf]; omega
    · obtain rfl : k = xs.length := by omega
      go_wp2_with fail
      go_ret
      refine ⟨_, rfl, ?_, HV.out⟩
      have h1 := HR.out
      have h2 := HL.out
      rw [List.take_length] at h1 h2
      unfold RowO
      rw [h2]
      exact h1
set_option maxRecDepth 100000 in
set_option maxHeartbeats 4000000 in
theorem toldI_any (p : Int → Bool) (B : Nat) (xs : List Int) (a : Option Addr) (c : Nat) (w : World) (hA : IntsR w xs a c) (hl : xs.length ≤ 3000)
    (hC : ∀ (V : World) (x : Int), Below w.heap.size w V → x ∈ xs → Calls Tryd.prog 31 #[.int .i64 (x / 2), .pointer (some ⟨B, 0, none⟩)] V fun e w' => e = .returned (.bool (p x)) ∧ Below V.heap.size V w') :
    Calls Tryd.prog 28 #[.slice a xs.length c, .func (.func 31) #[] #[.pointer (some ⟨B, 0, none⟩)]] w fun e w' => ∃ v, e = .returned v ∧ RowO w' w.heap.size (xs.filter p) v ∧ Below w.heap.size w w' := by
  have HC := Lib.hid hC
  have HA := Lib.hid hA
  have HN : Hid (∀ (V : World) (x : Int), x ∈ xs → Calls Tryd.prog 24 #[.int .i64 x] V fun e w' => e = .returned (.int .i64 (x / 2)) ∧ V = w') := fun V x hx => Node_any x V (hA.ok x hx)
  have hcap := hA.le
  have hmx : xs.length ≤ 9223372036854775807 := by omega
  obtain ⟨i0, hi_, hz0, hz1, hz2⟩ := info_parts info_int
  clear hA hC
  go_enter Tryd.func28, Tryd.ntmps28
  go_wp2_with fail
  go_loopw [5, 10] (fun s i wr => ∃ (k m : Nat) (a' : Option Addr) (c' : Nat), k ≤ xs.length ∧ m ≤ k ∧ i = .int .i64 k ∧ s = .slice a' m c' ∧ Hid (((xs.take k).filter p).length = m) ∧ Hid (Below w.heap.size w wr) ∧ Hid (wr.ownsRow w.heap.size 3 1 (.slice a' m c') m (((xs.take k).filter p).map (Value.int .i64)))) (fun _ i _ => xs.length - (intOf i).toNat)
  case atStart => exact ⟨0, 0, none, 0, by omega, by omega, rfl, rfl, rfl, Below.refl _ _, World.ownsRow_nil _ _ _ _⟩
  case round =>
    obtain ⟨k, m, a', c', hk, hmk, rfl, rfl, HL, HV, HR⟩ := hrel
    by_cases hlt : k < xs.length
    · obtain ⟨x, hn⟩ : ∃ n, xs[k]? = some n := ⟨_, List.getElem?_eq_getElem hlt⟩
      obtain ⟨g, o, rfl, hg, q0⟩ := (HA.out.below HV.out).cell hn
      have hki : (k : Int) < (xs.length : Int) := by omega
      have HX := Lib.hid hn
      have hxm := List.mem_of_getElem? hn
      have HNx := Lib.hid (HN.out wr x hxm)
      have HCx := HC.out wr x HV.out hxm
      cases ht : p x with
      | false =>
        rw [ht] at HCx
        have HCx := Lib.hid HCx
        have HE : Hid ((xs.take (k + 1)).filter p = (xs.take k).filter p) := filt_no HX.out ht
        have HL2 : Hid (((xs.take (k + 1)).filter p).length = m) := by show _ = _; rw [HE.out]; exact HL.out
        clear ht hn hxm
        go_wp2_with (first | (go_at_call 24; refine HNx.out.mono ?_; rintro e w1 ⟨rfl, rfl⟩) | (go_at_call 31; refine HCx.out.mono ?_; rintro e w2 ⟨rfl, hb2⟩; have HB2 := Lib.hid hb2; clear hb2))
        have HV2 : Hid (Below w.heap.size w w2) := HV.out.trans (HB2.out.mono HV.out.size)
        have HR2 : Hid (w2.ownsRow w.heap.size 3 1 (.slice a' m c') m (((xs.take (k + 1)).filter p).map (Value.int .i64))) := by show World.ownsRow _ _ _ _ _ _ _; rw [HE.out]; exact own_heap HR.out (fun g _ hg => HB2.out.block g hg)
        go_roundw
        case rel => exact ⟨k + 1, m, a', c', by omega, by omega, by go_num, rfl, HL2, HV2, HR2⟩
        case measure => simp [intOf]; omega
      | true =>
        rw [ht] at HCx
        have HCx := Lib.hid HCx
        have HE : Hid ((xs.take (k + 1)).filter p = (xs.take k).filter p ++ [x]) := filt_yes HX.out ht
        have HL2 : Hid (((xs.take (k + 1)).filter p).length = m + 1) := by show _ = _; rw [HE.out, List.length_append, HL.out]; rfl
        clear ht hn hxm
        go_wp2_with (first | (go_at_call 24; refine HNx.out.mono ?_; rintro e w1 ⟨rfl, rfl⟩) | (go_at_call 31; refine HCx.out.mono ?_; rintro e w2 ⟨rfl, hb2⟩; have HV2 : Hid (Below w.heap.size w w2) := HV.out.trans (hb2.mono HV.out.size); have hrow : w2.ownsRow w.heap.size 3 1 (.slice a' m c') m (((xs.take k).filter p).map (Value.int .i64)) := own_heap HR.out (fun g _ hg => hb2.block g hg); have hws := HV2.out.size; clear hb2) | (at_builtin; refine wpList_append_lies _ rfl _ _ 25 rfl w.heap.size 3 i0 _ 1 8 Tryd.underlying25 hi_ hz0 hz1 hz2 rfl (by decide) (Value.slice a' m c') m (((xs.take k).filter p).map (Value.int .i64)) (by rfl) (hrow.alloc _) ⟨w2.heap.size, 0, none⟩ 1 1 [.int .i64 x] (by rfl) rfl (World.news_of_block (B := w2.heap.size) (cs := #[.int .i64 x]) (t := 3) (fr := (0, 0)) (heap_alloc_new w2 _)) (by simp [Value.oneCell']) (by omega) (by simp only [maxLen]; omega) (by omega) (by simp; omega) _ rfl ?_; intro g9 c9 w9 hown9 hgrow9 hat9 hlt9; have HB9 := Lib.hid (below_pushP (Nat.le_refl _) HV2.out hrow hgrow9); have HO9 : Hid (w9.ownsRow w.heap.size 3 1 (.slice (some ⟨g9, 0, none⟩) (m + 1) c9) (m + 1) (((xs.take (k + 1)).filter p).map (Value.int .i64))) := (by show World.ownsRow _ _ _ _ _ _ _; rw [HE.out, List.map_append]; exact hown9); clear hown9 hgrow9 hat9))
        go_roundw
        case rel => exact ⟨k + 1, m + 1, some ⟨g9, 0, none⟩, c9, by omega, by omega, by go_num, rfl, HL2, HB9, HO9⟩
        case measure => simp [intOf]; omega
    · obtain rfl : k = xs.length := by omega
      go_wp2_with fail
      go_ret
      refine ⟨_, rfl, ?_, HV.out⟩
      have h1 := HR.out
      have h2 := HL.out
      rw [List.take_length] at h1 h2
      unfold RowO
      rw [h2]
      exact h1
theorem arguments_any (l : List NodeA) (a : Option Addr) (c : Nat) (w : World) (hA : TabR w l a c) (hok : okFrom [] l = true) (hl : l.length ≤ 2000) (hl1 : 1 ≤ l.length) :
    Calls Tryd.prog 27 #[.agg #[.slice a l.length c]] w fun e w' => e = .returned (.slice (some ⟨w.heap.size + 1, 0, none⟩) l.length l.length) ∧ w'.heap[w.heap.size + 1]? = some (.cells (boolRow (argB l)) 4 (0, 0)) ∧ Below w.heap.size w w' := callsIn_wide.1 (arguments_in l a c w hA hok hl hl1)
theorem row_nil (w : World) (base : Nat) : RowO w base [] (.slice none 0 0) := World.ownsRow_nil _ _ _ _
set_option maxRecDepth 100000 in
set_option maxHeartbeats 2000000 in
theorem Idl_any (l : List NodeA) (a : Option Addr) (c : Nat) (xs : List Int) (b : Option Addr) (d : Nat) (w : World) (hG : GK w) (hA : TabR w l a c) (hm : mayT l = true) (hl : l.length ≤ 2000) (hX : IntsR w xs b d) (hxl : xs.length ≤ 3000) :
    Calls Tryd.prog 13 #[.agg #[.slice a l.length c], .slice b xs.length d] w fun e w' => ∃ v, e = .returned v ∧ RowO w' w.heap.size (idlL l xs) v ∧ Below w.heap.size w w' := by
  have hok := (mayT_ok hm).2
  obtain ⟨t, ht⟩ : ∃ t, mayL l xs = t := ⟨_, rfl⟩
  obtain ⟨W0, hW0⟩ : ∃ W0, W0 = w.alloc (.cells #[.slice a l.length c] 24) := ⟨_, rfl⟩
  have hn0 : W0.heap[w.heap.size]? = some (.cells #[.slice a l.length c] 24 (0, 0)) := by rw [hW0]; exact heap_alloc_new w _
  have hz0 := (Array.getElem?_eq_some_iff.1 hn0).1
  obtain ⟨hB0, hX0⟩ := tab_box hW0
  have HMy : Hid (Calls Tryd.prog 11 #[.agg #[.slice a l.length c], .slice b xs.length d] W0 fun e w' => e = .returned (.bool t) ∧ Below W0.heap.size W0 w') := May_any l a c xs b d t W0 (hG.t.below hB0) (hA.below hB0) hm (by omega) (hX.below hB0) hxl ht
  obtain ⟨x0, xz⟩ := hX0 _ (Below.refl _ _)
  have HB0 := Lib.hid hB0
  cases t with
  | false =>
    have hr : idlL l xs = [] := by unfold idlL; rw [ht]; rfl
    rw [hr]
    clear hn0 hX0 hB0 hA hX hG hm ht hr hok
    go_enter Tryd.func13, Tryd.ntmps13
    go_wp2_with fail
    rw [← hW0]
    clear hW0
    refine HMy.out.mono ?_
    rintro e w1 ⟨rfl, hb1⟩
    have HB1 := Lib.hid (HB0.out.trans (hb1.mono HB0.out.size))
    clear hb1
    go_wp2_with fail
    go_ret
    exact ⟨_, rfl, row_nil _ _, HB1.out⟩
  | true =>
    have hr : idlL l xs = xs.filter (fun x => idlB l (x / 2)) := by unfold idlL; rw [ht]; rfl
    rw [hr]
    have HT : Hid (∀ V, Below W0.heap.size W0 V → Calls Tryd.prog 28 #[.slice b xs.length d, .func (.func 31) #[] #[.pointer (some ⟨w.heap.size, 0, none⟩)]] V fun e w' => ∃ v, e = .returned v ∧ RowO w' V.heap.size (xs.filter (fun x => idlB l (x / 2))) v ∧ Below V.heap.size V w') := fun V hV => by
      have hVw := hB0.trans (hV.mono hB0.size)
      refine toldI_any (fun x => idlB l (x / 2)) w.heap.size xs b d V (hX.below hVw) hxl (fun U x hU hx => ?_)
      obtain ⟨k, hk, hkl, _⟩ := mayL_at ht hx
      have hUw := hVw.trans (hU.mono hVw.size)
      rw [hk]
      exact idl1_any l a c w.heap.size k U (hG.below hUw) (hA.below hUw) hok hl hkl ((hU.block _ (Nat.lt_of_lt_of_le hz0 hV.size)).trans ((hV.block _ hz0).trans hn0))
    clear hn0 hX0 hB0 hA hX hG hm ht hr hok
    go_enter Tryd.func13, Tryd.ntmps13
    go_wp2_with fail
    rw [← hW0]
    clear hW0
    refine HMy.out.mono ?_
    rintro e w1 ⟨rfl, hb1⟩
    have HB1 := Lib.hid hb1
    clear hb1
    go_wp2_with fail
    refine (HT.out _ HB1.out).mono ?_
    rintro e w2 ⟨v, rfl, hr2, hb2⟩
    have HR2 := Lib.hid hr2
    have hs : w.heap.size ≤ w1.heap.size := Nat.le_trans HB0.out.size HB1.out.size
    have HB2 : Hid (Below w.heap.size w w2) := HB0.out.trans ((HB1.out.trans (hb2.mono HB1.out.size)).mono HB0.out.size)
    obtain ⟨a9, c9, rfl, _⟩ := own_at hr2
    clear hr2 hb2
    go_wp2_with fail
    go_ret
    exact ⟨_, rfl, HR2.out.base hs, HB2.out⟩
set_option maxRecDepth 100000 in
set_option maxHeartbeats 2000000 in
theorem Euf_any (l : List NodeA) (a : Option Addr) (c : Nat) (xs : List Int) (b : Option Addr) (d : Nat) (w : World) (hG : GK w) (hA : TabR w l a c) (hm : mayT l = true) (hl : l.length ≤ 2000) (hX : IntsR w xs b d) (hxl : xs.length ≤ 3000) :
    Calls Tryd.prog 12 #[.agg #[.slice a l.length c], .slice b xs.length d] w fun e w' => ∃ v, e = .returned v ∧ RowO w' w.heap.size (eufL l xs) v ∧ Below w.heap.size w w' := by
  have hok := (mayT_ok hm).2
  have hl2 := mayT_len hm
  obtain ⟨t, ht⟩ : ∃ t, mayL l xs = t := ⟨_, rfl⟩
  obtain ⟨W0, hW0⟩ : ∃ W0, W0 = w.alloc (.cells #[.slice a l.length c] 24) := ⟨_, rfl⟩
  have hn0 : W0.heap[w.heap.size]? = some (.cells #[.slice a l.length c] 24 (0, 0)) := by rw [hW0]; exact heap_alloc_new w _
  have hz0 := (Array.getElem?_eq_some_iff.1 hn0).1
  obtain ⟨hB0, hX0⟩ := tab_box hW0
  have HMy : Hid (Calls Tryd.prog 11 #[.agg #[.slice a l.length c], .slice b xs.length d] W0 fun e w' => e = .returned (.bool t) ∧ Below W0.heap.size W0 w') := May_any l a c xs b d t W0 (hG.t.below hB0) (hA.below hB0) hm (by omega) (hX.below hB0) hxl ht
  obtain ⟨x0, xz⟩ := hX0 _ (Below.refl _ _)
  have HX0 := Lib.hid hX0
  have HB0 := Lib.hid hB0
  cases t with
  | false =>
    have hr : eufL l xs = [] := by unfold eufL; rw [ht]; rfl
    rw [hr]
    clear hn0 hX0 hB0 hA hX hG hm ht hr hok hl2
    go_enter Tryd.func12, Tryd.ntmps12
    go_wp2_with fail
    rw [← hW0]
    clear hW0
    refine HMy.out.mono ?_
    rintro e w1 ⟨rfl, hb1⟩
    have HB1 := Lib.hid (HB0.out.trans (hb1.mono HB0.out.size))
    clear hb1
    go_wp2_with fail
    go_ret
    exact ⟨_, rfl, row_nil _ _, HB1.out⟩
  | true =>
    have hr : eufL l xs = xs.filter (fun x => eufB l (x / 2)) := by unfold eufL; rw [ht]; rfl
    rw [hr]
    have HAr : Hid (∀ V, Below W0.heap.size W0 V → Calls Tryd.prog 27 #[.agg #[.slice a l.length c]] V fun e w' => e = .returned (.slice (some ⟨V.heap.size + 1, 0, none⟩) l.length l.length) ∧ w'.heap[V.heap.size + 1]? = some (.cells (boolRow (argB l)) 4 (0, 0)) ∧ Below V.heap.size V w') := fun V hV => arguments_any l a c V (hA.below (hB0.trans (hV.mono hB0.size))) hok hl (by omega)
    have HT : Hid (∀ V S C, Below W0.heap.size W0 V → V.heap[C]? = some (.cells #[.slice (some ⟨S, 0, none⟩) l.length l.length] 52 (0, 0)) → V.heap[S]? = some (.cells (boolRow (argB l)) 4 (0, 0)) → Calls Tryd.prog 28 #[.slice b xs.length d, .func (.func 29) #[] #[.pointer (some ⟨w.heap.size, 0, none⟩), .pointer (some ⟨C, 0, none⟩)]] V fun e w' => ∃ v, e = .returned v ∧ RowO w' V.heap.size (xs.filter (fun x => eufB l (x / 2))) v ∧ Below V.heap.size V w') := fun V S C hV hC hS => by
      have hVw := hB0.trans (hV.mono hB0.size)
      refine toldE_any (fun x => eufB l (x / 2)) w.heap.size C xs b d V (hX.below hVw) hxl (fun U x hU hx => ?_)
      obtain ⟨k, hk, hkl, _⟩ := mayL_at ht hx
      have hUw := hVw.trans (hU.mono hVw.size)
      rw [hk]
      exact euf1_any l a c w.heap.size C S k U (hG.below hUw) (hA.below hUw) hok hl hkl ((hU.block _ (Nat.lt_of_lt_of_le hz0 hV.size)).trans ((hV.block _ hz0).trans hn0)) ((hU.block _ (Array.getElem?_eq_some_iff.1 hC).1).trans hC) ((hU.block _ (Array.getElem?_eq_some_iff.1 hS).1).trans hS)
    clear hn0 hX0 hB0 hA hX hG hm ht hr hok hl2
    go_enter Tryd.func12, Tryd.ntmps12
    go_wp2_with fail
    rw [← hW0]
    clear hW0
    refine HMy.out.mono ?_
    rintro e w1 ⟨rfl, hb1⟩
    have HB1 := Lib.hid hb1
    clear hb1 x0 xz
    obtain ⟨x0, xz⟩ := HX0.out _ HB1.out
    go_wp2_with fail
    refine (HAr.out _ HB1.out).mono ?_
    rintro e w2 ⟨rfl, hr2, hb2⟩
    obtain ⟨W3, hW3⟩ : ∃ W3, W3 = w2.alloc (.cells #[.slice (some ⟨w1.heap.size + 1, 0, none⟩) l.length l.length] 52) := ⟨_, rfl⟩
    have hC3 : W3.heap[w2.heap.size]? = some (.cells #[.slice (some ⟨w1.heap.size + 1, 0, none⟩) l.length l.length] 52 (0, 0)) := by rw [hW3]; exact heap_alloc_new _ _
    have hS3 : W3.heap[w1.heap.size + 1]? = some (.cells (boolRow (argB l)) 4 (0, 0)) := by rw [hW3]; exact (Below.heap_alloc _ _ _ (Array.getElem?_eq_some_iff.1 hr2).1).trans hr2
    have hb02 : Below W0.heap.size W0 w2 := HB1.out.trans (hb2.mono HB1.out.size)
    have HB3 : Hid (Below W0.heap.size W0 W3) := by show Below _ _ _; rw [hW3]; exact hb02.alloc hb02.size _
    have HT3 := Lib.hid (HT.out _ _ _ HB3.out hC3 hS3)
    clear hb2 hr2 hb02 hC3 hS3 HT x0 xz
    go_wp2_with fail
    rw [← hW3]
    clear hW3
    refine HT3.out.mono ?_
    rintro e w4 ⟨v, rfl, hr4, hb4⟩
    have HR4 := Lib.hid hr4
    have hs : w.heap.size ≤ W3.heap.size := Nat.le_trans HB0.out.size HB3.out.size
    have HB4 : Hid (Below w.heap.size w w4) := HB0.out.trans ((HB3.out.trans (hb4.mono HB3.out.size)).mono HB0.out.size)
    obtain ⟨a9, c9, rfl, _⟩ := own_at hr4
    clear hr4 hb4
    go_wp2_with fail
    go_ret
    exact ⟨_, rfl, HR4.out.base hs, HB4.out⟩
end Go.Proofs.YtaiabpbcipnjaaaDoor.Tm
