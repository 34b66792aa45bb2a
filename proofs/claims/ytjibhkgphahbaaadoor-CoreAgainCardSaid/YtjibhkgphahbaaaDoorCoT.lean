/- Core: arePlaces. -/
import Derived.Test.YtjibhkgphahbaaaDoorCoR
namespace Go.Proofs.YtjibhkgphahbaaaDoor.Tm
open Go.RowKit
set_option linter.unusedVariables false
def badP (N : Nat) (x : Int) : Bool := if x < 0 then true else decide ((N : Int) ≤ x)
theorem anyG_take {α : Type} {p : α → Bool} {l : List α} {k : Nat} {x : α} (h : l[k]? = some x) : (l.take (k + 1)).any p = ((l.take k).any p || p x) := by
  rw [List.take_add_one, h, List.any_append]; simp
theorem anyG_mem {α : Type} {p : α → Bool} {l : List α} {k : Nat} {x : α} (h : l[k]? = some x) (hp : p x = true) : l.any p = true := List.any_eq_true.2 ⟨x, List.mem_of_getElem? h, hp⟩
set_option maxRecDepth 100000 in
set_option maxHeartbeats 2000000 in
theorem cloP_any (a : Option Addr) (N c B : Nat) (x : Int) (w : World) (hx : I64 x) (hN : N ≤ 3000) (hB : w.heap[B]? = some (.cells #[.slice a N c] 22 (0, 0))) :
    Calls Tryd.prog 31 #[.int .i64 x, .pointer (some ⟨B, 0, none⟩)] w fun e w' => e = .returned (.bool (badP N x)) ∧ Below w.heap.size w w' := by
  have b0 : w.cell? ⟨B, 0, none⟩ = some (.slice a N c) := (cell_of_row _ _ 0 _ _ _ hB).trans rfl
  have bz := (Array.getElem?_eq_some_iff.1 hB).1
  clear hB
  by_cases h0 : x < 0
  · have hb : badP N x = true := if_pos h0
    have e0 : decide (x < 0) = true := decide_eq_true h0
    rw [hb]
    clear hb
    go_enter Tryd.func31, Tryd.ntmps31
    go_wp2_with fail
    go_ret
    exact ⟨rfl, Below.refl _ _⟩
  · have hb : badP N x = decide ((N : Int) ≤ x) := if_neg h0
    have e0 : decide (x < 0) = false := decide_eq_false h0
    rw [hb]
    clear hb
    obtain ⟨t, ht⟩ : ∃ t, decide ((N : Int) ≤ x) = t := ⟨_, rfl⟩
    rw [ht]
    go_enter Tryd.func31, Tryd.ntmps31
    go_wp2_with fail
    go_ret
    exact ⟨rfl, Below.refl _ _⟩
set_option maxRecDepth 100000 in
set_option maxHeartbeats 2000000 in
theorem IndexP_any (N : Nat) (bs : Option Addr) (bc : Nat) (xs : List Int) (a : Option Addr) (c B : Nat) (w : World) (hA : IntsR w xs a c) (hN : N ≤ 3000) (hl : xs.length ≤ 3000) (hB : w.heap[B]? = some (.cells #[.slice bs N bc] 22 (0, 0))) :
    Calls Tryd.prog 46 #[.slice a xs.length c, .func (.func 31) #[] #[.pointer (some ⟨B, 0, none⟩)]] w fun e w' => (∃ i : Int, e = .returned (.int .i64 i) ∧ ((xs.any (badP N) = true ∧ 0 ≤ i) ∨ (xs.any (badP N) = false ∧ i = -1))) ∧ Below w.heap.size w w' := by
  obtain ⟨q, hq⟩ : ∃ q, xs.any (badP N) = q := ⟨_, rfl⟩
  rw [hq]
  have HQ := Lib.hid hq
  have HC : Hid (∀ (V : World) (k : Nat) (x : Int), Below w.heap.size w V → xs[k]? = some x → Calls Tryd.prog 31 #[.int .i64 x, .pointer (some ⟨B, 0, none⟩)] V fun e w' => e = .returned (.bool (badP N x)) ∧ Below V.heap.size V w') := fun V k x hV hn => cloP_any bs N bc B x V (hA.ok x (List.mem_of_getElem? hn)) hN ((hV.block _ (Array.getElem?_eq_some_iff.1 hB).1).trans hB)
  have HA := Lib.hid hA
  have hcap := hA.le
  have hmx : xs.length ≤ 9223372036854775807 := by omega
  clear hA hB hq
  go_enter Tryd.func46, Tryd.ntmps46
  go_wp2
  go_loopw [8] (fun i wr => ∃ k : Nat, k ≤ xs.length ∧ i = .int .i64 k ∧ Hid (Below w.heap.size w wr) ∧ Hid ((xs.take k).any (badP N) = false)) (fun i _ => xs.length - (intOf i).toNat)
  case atStart => exact ⟨0, Nat.zero_le _, rfl, Below.refl _ _, by show _ = _; rw [List.take_zero]; rfl⟩
  case round =>
    obtain ⟨k, hkl, rfl, HW, HE⟩ := hrel
    by_cases hlt : k < xs.length
    · obtain ⟨x, hn⟩ : ∃ n, xs[k]? = some n := ⟨_, List.getElem?_eq_getElem hlt⟩
      obtain ⟨g, o, rfl, hg, q0⟩ := (HA.out.below HW.out).cell hn
      have HN := Lib.hid hn
      obtain ⟨t, ht⟩ : ∃ t, badP N x = t := ⟨_, rfl⟩
      have HCn : Hid (Calls Tryd.prog 31 #[.int .i64 x, .pointer (some ⟨B, 0, none⟩)] wr fun e w' => e = .returned (.bool t) ∧ Below wr.heap.size wr w') := by show Calls _ _ _ _ _; rw [← ht]; exact HC.out wr k x HW.out hn
      have HT := Lib.hid ht
      clear hn ht
      cases t with
      | true =>
        go_wp2_with (go_at_call 31; refine HCn.out.mono ?_; rintro e w1 ⟨rfl, hb1⟩)
        go_ret
        exact ⟨⟨_, rfl, .inl ⟨HQ.out.symm.trans (anyG_mem HN.out HT.out), by omega⟩⟩, HW.out.trans (hb1.mono HW.out.size)⟩
      | false =>
        go_wp2_with (go_at_call 31; refine HCn.out.mono ?_; rintro e w1 ⟨rfl, hb1⟩)
        go_roundw
        case rel => exact ⟨k + 1, by omega, by go_num, HW.out.trans (hb1.mono HW.out.size), by show _ = _; rw [anyG_take HN.out, HE.out, HT.out]; rfl⟩
        case measure => simp [intOf]; omega
    · obtain rfl : k = xs.length := by omega
      go_wp2
      go_ret
      exact ⟨⟨_, rfl, .inr ⟨by rw [← HQ.out]; have := HE.out; rwa [List.take_length] at this, rfl⟩⟩, HW.out⟩
set_option maxRecDepth 100000 in
theorem ContainsP_any (N : Nat) (bs : Option Addr) (bc : Nat) (xs : List Int) (a : Option Addr) (c B : Nat) (q : Bool) (w : World) (hA : IntsR w xs a c) (hN : N ≤ 3000) (hl : xs.length ≤ 3000) (hB : w.heap[B]? = some (.cells #[.slice bs N bc] 22 (0, 0))) (hq : xs.any (badP N) = q) :
    Calls Tryd.prog 30 #[.slice a xs.length c, .func (.func 31) #[] #[.pointer (some ⟨B, 0, none⟩)]] w fun e w' => e = .returned (.bool q) ∧ Below w.heap.size w w' := by
  have HI : Hid (Calls Tryd.prog 46 #[.slice a xs.length c, .func (.func 31) #[] #[.pointer (some ⟨B, 0, none⟩)]] w fun e w' => (∃ i : Int, e = .returned (.int .i64 i) ∧ decide (0 ≤ i) = q) ∧ Below w.heap.size w w') := by
    refine (IndexP_any N bs bc xs a c B w hA hN hl hB).mono ?_
    rintro e w' ⟨⟨i, rfl, hi⟩, hb⟩
    refine ⟨⟨i, rfl, ?_⟩, hb⟩
    rcases hi with ⟨h1, h2⟩ | ⟨h1, rfl⟩
    · rw [← hq, h1]; exact decide_eq_true h2
    · rw [← hq, h1]; rfl
  clear hA hB hq
  go_enter Tryd.func30, Tryd.ntmps30
  go_wp2_with fail
  refine HI.out.mono ?_
  rintro e w1 ⟨⟨i, rfl, hi⟩, hb1⟩
  have HB1 := Lib.hid hb1
  clear hb1
  cases q with
  | true =>
    have hi := of_decide_eq_true hi
    go_wp2_with fail
    go_ret
    exact ⟨rfl, HB1.out⟩
  | false =>
    have hi := of_decide_eq_false hi
    go_wp2_with fail
    go_ret
    exact ⟨rfl, HB1.out⟩
set_option maxRecDepth 100000 in
theorem places_any (N : Nat) (bs : Option Addr) (bc : Nat) (xs : List Int) (a : Option Addr) (c : Nat) (q : Bool) (w : World) (hA : IntsR w xs a c) (hN : N ≤ 3000) (hl : xs.length ≤ 3000) (hq : xs.any (badP N) = q) :
    Calls Tryd.prog 15 #[.slice bs N bc, .slice a xs.length c] w fun e w' => e = .returned (.bool (!q)) ∧ Below w.heap.size w w' := by
  obtain ⟨W0, hW0⟩ : ∃ W0, W0 = w.alloc (.cells #[.slice bs N bc] 22) := ⟨_, rfl⟩
  have hB0 : Below w.heap.size w W0 := by rw [hW0]; exact (Below.refl _ w).alloc (Nat.le_refl _) _
  have hn0 : W0.heap[w.heap.size]? = some (.cells #[.slice bs N bc] 22 (0, 0)) := by rw [hW0]; exact heap_alloc_new w _
  have b0 : W0.cell? ⟨w.heap.size, 0, none⟩ = some (.slice bs N bc) := (cell_of_row _ _ 0 _ _ _ hn0).trans rfl
  have bz := (Array.getElem?_eq_some_iff.1 hn0).1
  have HC : Hid (Calls Tryd.prog 30 #[.slice a xs.length c, .func (.func 31) #[] #[.pointer (some ⟨w.heap.size, 0, none⟩)]] W0 fun e w' => e = .returned (.bool q) ∧ Below W0.heap.size W0 w') := ContainsP_any N bs bc xs a c w.heap.size q W0 (hA.below hB0) hN hl hn0 hq
  have HB0 := Lib.hid hB0
  clear hB0 hn0 hA hq
  go_enter Tryd.func15, Tryd.ntmps15
  go_wp2_with fail
  rw [← hW0]
  clear hW0
  refine HC.out.mono ?_
  rintro e w1 ⟨rfl, hb1⟩
  have HB1 := Lib.hid (HB0.out.trans (hb1.mono HB0.out.size))
  clear hb1
  cases q with
  | true =>
    go_wp2_with fail
    go_ret
    exact ⟨rfl, HB1.out⟩
  | false =>
    go_wp2_with fail
    go_ret
    exact ⟨rfl, HB1.out⟩
end Go.Proofs.YtjibhkgphahbaaaDoor.Tm
