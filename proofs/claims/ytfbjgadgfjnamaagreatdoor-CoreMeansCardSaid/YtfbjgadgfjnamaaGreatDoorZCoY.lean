/- Core: newWalk. -/
import Derived.Test.YtfbjgadgfjnamaaGreatDoorZCoR
import Derived.Laws.CopyOwn
import Derived.Laws.MakeOwn
import Derived.Laws.EntriesVeiled
import Derived.Deep.RegionHeld3
namespace Go.Proofs.YtfbjgadgfjnamaaGreatDoor.Tm
open Go.RowKit
set_option linter.unusedVariables false
def badP (N : Nat) (x : Int) : Bool := if x < 0 then true else decide ((N : Int) ≤ x)
theorem anyG_take {α : Type} {p : α → Bool} {l : List α} {k : Nat} {x : α} (h : l[k]? = some x) : (l.take (k + 1)).any p = ((l.take k).any p || p x) := by
  rw [List.take_add_one, h, List.any_append]; simp
theorem anyG_mem {α : Type} {p : α → Bool} {l : List α} {k : Nat} {x : α} (h : l[k]? = some x) (hp : p x = true) : l.any p = true := List.any_eq_true.2 ⟨x, List.mem_of_getElem? h, hp⟩
set_option maxRecDepth 100000 in
set_option maxHeartbeats 2000000 in
theorem cloP_any (a : Option Addr) (N c B : Nat) (x : Int) (w : World) (hx : I64 x) (hN : N ≤ 3000) (hB : w.heap[B]? = some (.cells #[.slice a N c] 31 (0, 0))) :
    Calls Tryz.prog 68 #[.int .i64 x, .pointer (some ⟨B, 0, none⟩)] w fun e w' => e = .returned (.bool (badP N x)) ∧ Below w.heap.size w w' := by
  have b0 : w.cell? ⟨B, 0, none⟩ = some (.slice a N c) := (cell_of_row _ _ 0 _ _ _ hB).trans rfl
  have bz := (Array.getElem?_eq_some_iff.1 hB).1
  clear hB
  by_cases h0 : x < 0
  · have hb : badP N x = true := if_pos h0
    have e0 : decide (x < 0) = true := decide_eq_true h0
    rw [hb]
    clear hb
    go_enter Tryz.func68, Tryz.ntmps68
    go_wp2_with fail
    go_ret
    exact ⟨rfl, Below.refl _ _⟩
  · have hb : badP N x = decide ((N : Int) ≤ x) := if_neg h0
    have e0 : decide (x < 0) = false := decide_eq_false h0
    rw [hb]
    clear hb
    obtain ⟨t, ht⟩ : ∃ t, decide ((N : Int) ≤ x) = t := ⟨_, rfl⟩
    rw [ht]
    go_enter Tryz.func68, Tryz.ntmps68
    go_wp2_with fail
    go_ret
    exact ⟨rfl, Below.refl _ _⟩
set_option maxRecDepth 100000 in
set_option maxHeartbeats 2000000 in
theorem IndexP_any (N : Nat) (bs : Option Addr) (bc : Nat) (xs : List Int) (a : Option Addr) (c B : Nat) (w : World) (hA : IntsR w xs a c) (hN : N ≤ 3000) (hl : xs.length ≤ 3000) (hB : w.heap[B]? = some (.cells #[.slice bs N bc] 31 (0, 0))) :
    Calls Tryz.prog 96 #[.slice a xs.length c, .func (.func 68) #[] #[.pointer (some ⟨B, 0, none⟩)]] w fun e w' => (∃ i : Int, e = .returned (.int .i64 i) ∧ ((xs.any (badP N) = true ∧ 0 ≤ i) ∨ (xs.any (badP N) = false ∧ i = -1))) ∧ Below w.heap.size w w' := by
  obtain ⟨q, hq⟩ : ∃ q, xs.any (badP N) = q := ⟨_, rfl⟩
  rw [hq]
  have HQ := Lib.hid hq
  have HC : Hid (∀ (V : World) (k : Nat) (x : Int), Below w.heap.size w V → xs[k]? = some x → Calls Tryz.prog 68 #[.int .i64 x, .pointer (some ⟨B, 0, none⟩)] V fun e w' => e = .returned (.bool (badP N x)) ∧ Below V.heap.size V w') := fun V k x hV hn => cloP_any bs N bc B x V (hA.ok x (List.mem_of_getElem? hn)) hN ((hV.block _ (Array.getElem?_eq_some_iff.1 hB).1).trans hB)
  have HA := Lib.hid hA
  have hcap := hA.le
  have hmx : xs.length ≤ 9223372036854775807 := by omega
  clear hA hB hq
  go_enter Tryz.func96, Tryz.ntmps96
  go_wp2
  go_loopw [8] (fun i wr => ∃ k : Nat, k ≤ xs.length ∧ i = .int .i64 k ∧ Hid (Below w.heap.size w wr) ∧ Hid ((xs.take k).any (badP N) = false)) (fun i _ => xs.length - (intOf i).toNat)
  case atStart => exact ⟨0, Nat.zero_le _, rfl, Below.refl _ _, by show _ = _; rw [List.take_zero]; rfl⟩
  case round =>
    obtain ⟨k, hkl, rfl, HW, HE⟩ := hrel
    by_cases hlt : k < xs.length
    · obtain ⟨x, hn⟩ : ∃ n, xs[k]? = some n := ⟨_, List.getElem?_eq_getElem hlt⟩
      obtain ⟨g, o, rfl, hg, q0⟩ := (HA.out.below HW.out).cell hn
      have HN := Lib.hid hn
      obtain ⟨t, ht⟩ : ∃ t, badP N x = t := ⟨_, rfl⟩
      have HCn : Hid (Calls Tryz.prog 68 #[.int .i64 x, .pointer (some ⟨B, 0, none⟩)] wr fun e w' => e = .returned (.bool t) ∧ Below wr.heap.size wr w') := by show Calls _ _ _ _ _; rw [← ht]; exact HC.out wr k x HW.out hn
      have HT := Lib.hid ht
      clear hn ht
      cases t with
      | true =>
        go_wp2_with (go_at_call 68; refine HCn.out.mono ?_; rintro e w1 ⟨rfl, hb1⟩)
        go_ret
        exact ⟨⟨_, rfl, .inl ⟨HQ.out.symm.trans (anyG_mem HN.out HT.out), by omega⟩⟩, HW.out.trans (hb1.mono HW.out.size)⟩
      | false =>
        go_wp2_with (go_at_call 68; refine HCn.out.mono ?_; rintro e w1 ⟨rfl, hb1⟩)
        go_roundw
        case rel => exact ⟨k + 1, by omega, by go_num, HW.out.trans (hb1.mono HW.out.size), by show _ = _; rw [anyG_take HN.out, HE.out, HT.out]; rfl⟩
        case measure => simp [intOf]; omega
    · obtain rfl : k = xs.length := by omega
      go_wp2
      go_ret
      exact ⟨⟨_, rfl, .inr ⟨by rw [← HQ.out]; have := HE.out; rwa [List.take_length] at this, rfl⟩⟩, HW.out⟩
set_option maxRecDepth 100000 in
theorem ContainsP_any (N : Nat) (bs : Option Addr) (bc : Nat) (xs : List Int) (a : Option Addr) (c B : Nat) (q : Bool) (w : World) (hA : IntsR w xs a c) (hN : N ≤ 3000) (hl : xs.length ≤ 3000) (hB : w.heap[B]? = some (.cells #[.slice bs N bc] 31 (0, 0))) (hq : xs.any (badP N) = q) :
    Calls Tryz.prog 67 #[.slice a xs.length c, .func (.func 68) #[] #[.pointer (some ⟨B, 0, none⟩)]] w fun e w' => e = .returned (.bool q) ∧ Below w.heap.size w w' := by
  have HI : Hid (Calls Tryz.prog 96 #[.slice a xs.length c, .func (.func 68) #[] #[.pointer (some ⟨B, 0, none⟩)]] w fun e w' => (∃ i : Int, e = .returned (.int .i64 i) ∧ decide (0 ≤ i) = q) ∧ Below w.heap.size w w') := by
    refine (IndexP_any N bs bc xs a c B w hA hN hl hB).mono ?_
    rintro e w' ⟨⟨i, rfl, hi⟩, hb⟩
    refine ⟨⟨i, rfl, ?_⟩, hb⟩
    rcases hi with ⟨h1, h2⟩ | ⟨h1, rfl⟩
    · rw [← hq, h1]; exact decide_eq_true h2
    · rw [← hq, h1]; rfl
  clear hA hB hq
  go_enter Tryz.func67, Tryz.ntmps67
  go_wp2_with fail
  refine HI.out.mono ?_
  rintro e w1 ⟨⟨i, rfl, hi⟩, hb1⟩
  have HB1 := Lib.hid hb1
  clear hb1
  cases q with
  | true =>
    have hi := of_decide_eq_true hi
    go_wp2_with fail
    go_ret
    exact ⟨rfl, HB1.out⟩
  | false =>
    have hi := of_decide_eq_false hi
    go_wp2_with fail
    go_ret
    exact ⟨rfl, HB1.out⟩
set_option maxRecDepth 100000 in
theorem places_any (N : Nat) (bs : Option Addr) (bc : Nat) (xs : List Int) (a : Option Addr) (c : Nat) (q : Bool) (w : World) (hA : IntsR w xs a c) (hN : N ≤ 3000) (hl : xs.length ≤ 3000) (hq : xs.any (badP N) = q) :
    Calls Tryz.prog 34 #[.slice bs N bc, .slice a xs.length c] w fun e w' => e = .returned (.bool (!q)) ∧ Below w.heap.size w w' := by
  obtain ⟨W0, hW0⟩ : ∃ W0, W0 = w.alloc (.cells #[.slice bs N bc] 31) := ⟨_, rfl⟩
  have hB0 : Below w.heap.size w W0 := by rw [hW0]; exact (Below.refl _ w).alloc (Nat.le_refl _) _
  have hn0 : W0.heap[w.heap.size]? = some (.cells #[.slice bs N bc] 31 (0, 0)) := by rw [hW0]; exact heap_alloc_new w _
  have b0 : W0.cell? ⟨w.heap.size, 0, none⟩ = some (.slice bs N bc) := (cell_of_row _ _ 0 _ _ _ hn0).trans rfl
  have bz := (Array.getElem?_eq_some_iff.1 hn0).1
  have HC : Hid (Calls Tryz.prog 67 #[.slice a xs.length c, .func (.func 68) #[] #[.pointer (some ⟨w.heap.size, 0, none⟩)]] W0 fun e w' => e = .returned (.bool q) ∧ Below W0.heap.size W0 w') := ContainsP_any N bs bc xs a c w.heap.size q W0 (hA.below hB0) hN hl hn0 hq
  have HB0 := Lib.hid hB0
  clear hB0 hn0 hA hq
  go_enter Tryz.func34, Tryz.ntmps34
  go_wp2_with fail
  rw [← hW0]
  clear hW0
  refine HC.out.mono ?_
  rintro e w1 ⟨rfl, hb1⟩
  have HB1 := Lib.hid (HB0.out.trans (hb1.mono HB0.out.size))
  clear hb1
  cases q with
  | true =>
    go_wp2_with fail
    go_ret
    exact ⟨rfl, HB1.out⟩
  | false =>
    go_wp2_with fail
    go_ret
    exact ⟨rfl, HB1.out⟩
end Go.Proofs.YtfbjgadgfjnamaaGreatDoor.Tm
namespace Go.Proofs.YtfbjgadgfjnamaaGreatDoor.Tm
open Go.RowKit
set_option linter.unusedVariables false
theorem u64_low (n : Int) (h0 : 0 ≤ n) (h1 : n < 4294967296) : bits .and .u64 n 4294967295 = n := by
  have h2 : (BitVec.ofInt 64 4294967295).toNat = 2 ^ 32 - 1 := by decide
  have key : (BitVec.ofInt 64 n &&& BitVec.ofInt 64 4294967295).toNat = (n % ((2 ^ 64 : Nat) : Int)).toNat % 2 ^ 32 := by
    rw [BitVec.toNat_and, BitVec.toNat_ofInt, h2, Nat.and_two_pow_sub_one_eq_mod]
  show IntKind.u64.wrap ((BitVec.ofInt 64 n &&& BitVec.ofInt 64 4294967295).toNat : Nat) = n
  rw [key, IntKind.wrap_u64]
  omega
theorem u64_wrap (n : Int) (h0 : 0 ≤ n) (h1 : n < 4294967296) : IntKind.u64.wrap n = n := by
  rw [IntKind.wrap_u64]; omega
theorem Mul64_one (n : Nat) (w : World) (hn : n ≤ 3000) : Calls Tryz.prog 149 #[.int .u64 1, .int .u64 n] w fun e w' => e = .returned (.tuple #[.int .u64 0, .int .u64 n]) ∧ w = w' := by
  have b0 := u64_low 0 (by omega) (by omega)
  have b1 := u64_low 1 (by omega) (by omega)
  have b2 := u64_low n (by omega) (by omega)
  have d0 : (n : Int) / 4294967296 = 0 := by omega
  have d1 : IntKind.u64.wrap (n : Int) = n := u64_wrap n (by omega) (by omega)
  have d2 : IntKind.u64.wrap 0 = 0 := u64_wrap 0 (by omega) (by omega)
  go_enter Tryz.func149, Tryz.ntmps149
  go_wp2
  go_ret2
  exact ⟨rfl, rfl⟩
theorem Mul_one (n : Nat) (w : World) (hn : n ≤ 3000) : Calls Tryz.prog 108 #[.int .u64 1, .int .u64 n] w fun e w' => e = .returned (.tuple #[.int .u64 0, .int .u64 n]) ∧ w = w' := by
  have HM := Lib.hid (Mul64_one n w hn)
  go_enter Tryz.func108, Tryz.ntmps108
  go_wp2_with (go_at_call 149; refine HM.out.mono ?_; rintro e w' ⟨rfl, rfl⟩)
  go_ret2
  exact ⟨rfl, rfl⟩
def repL (j n : Nat) : List Value := List.replicate j (.int .i64 (-1)) ++ List.replicate (n - j) (.int .i64 0)
theorem repL_len (j n : Nat) (h : j ≤ n) : (repL j n).length = n := by simp [repL]; omega
theorem repL_splice (j m n : Nat) (h : j + m ≤ n) : splice (repL j n) j (List.replicate m (.int .i64 (-1))) = repL (j + m) n := by
  unfold splice repL
  rw [List.take_append_of_le_length (by simp), List.take_of_length_le (by simp), List.length_replicate, List.drop_append, List.drop_eq_nil_of_le (by simp)]
  simp only [List.nil_append, List.length_replicate, List.drop_replicate]
  rw [← List.append_assoc, List.replicate_append_replicate, show n - j - (j + m - j) = n - (j + m) by omega]
theorem made_rep (k : Nat) : madeCells (Value.int .i64 0).cells (k * 1) = (repL 0 k).toArray := by
  apply Array.ext
  · simp [size_madeCells, repL]
  · intro i h1 h2
    simp [madeCells, repL, Value.cells, Nat.mod_one]
theorem make_rep (k : Nat) (hk : k ≤ 3000) (w : World) : (Instr.makeSlice 27 (.int .i64 k) (.int .i64 k)).run Tryz.prog w = .ok (.slice (some ⟨w.heap.size, 0, none⟩) k k) (w.alloc (.cells (repL 0 k).toArray 3)) := by
  obtain ⟨i0, hi, hz0, hz1, hz2⟩ := info_parts info_int
  have := run_make (P := Tryz.prog) w 27 3 i0 _ Tryz.underlying27 hi hz0 .i64 .i64 k k (by omega) (by omega) (by rw [hz2]; omega) (by omega)
  rw [hz1, Int.toNat_natCast, made_rep] at this
  exact this
end Go.Proofs.YtfbjgadgfjnamaaGreatDoor.Tm
namespace Go.Proofs.YtfbjgadgfjnamaaGreatDoor.Tm
open Go.RowKit
set_option linter.unusedVariables false
def kindsA : Array Value := #[fnV 98, fnV 99, fnV 98, fnV 98, fnV 100, fnV 101, fnV 102, fnV 103, fnV 104, fnV 105, fnV 98, fnV 106, fnV 107, fnV 98]
def nilsA : Array Value := #[.nilFunc, .nilFunc, .nilFunc, .nilFunc, .nilFunc, .nilFunc, .nilFunc, .nilFunc, .nilFunc, .nilFunc, .nilFunc, .nilFunc, .nilFunc, .nilFunc]
theorem kndSize : (Tryz.prog.info? 91).map (·.size) = some 14 := by kernel_rfl
theorem set14 {w : World} {b : Nat} {t : TypeId} {x0 x1 x2 x3 x4 x5 x6 x7 x8 x9 x10 x11 x12 x13 v0 v1 v2 v3 v4 v5 v6 v7 v8 v9 v10 v11 v12 v13 : Value} (h : w.heap[b]? = some (.cells #[x0, x1, x2, x3, x4, x5, x6, x7, x8, x9, x10, x11, x12, x13] t (0, 0))) :
    ((((((((((((((w.setCell ⟨b, 0, none⟩ v0).setCell ⟨b, 1, none⟩ v1).setCell ⟨b, 2, none⟩ v2).setCell ⟨b, 3, none⟩ v3).setCell ⟨b, 4, none⟩ v4).setCell ⟨b, 5, none⟩ v5).setCell ⟨b, 6, none⟩ v6).setCell ⟨b, 7, none⟩ v7).setCell ⟨b, 8, none⟩ v8).setCell ⟨b, 9, none⟩ v9).setCell ⟨b, 10, none⟩ v10).setCell ⟨b, 11, none⟩ v11).setCell ⟨b, 12, none⟩ v12).setCell ⟨b, 13, none⟩ v13).heap[b]? = some (.cells #[v0, v1, v2, v3, v4, v5, v6, v7, v8, v9, v10, v11, v12, v13] t (0, 0)) := by
  simp [World.setCell, Array.getElem?_modify, h]
theorem below_set {n b i : Nat} {w V : World} {v : Value} (h : Below n w V) (hb : n ≤ b) : Below n w (V.setCell ⟨b, i, none⟩ v) := h.setCell (p := ⟨b, i, none⟩) hb v
set_option maxRecDepth 100000 in
theorem kinds_any (w : World) : Calls Tryz.prog 72 #[] w fun e w' => e = .returned (.agg kindsA) ∧ Below w.heap.size w w' := by
  obtain ⟨W0, hW0⟩ : ∃ W0, W0 = w.alloc (.cells nilsA 91) := ⟨_, rfl⟩
  have hB0 : Below w.heap.size w W0 := by rw [hW0]; exact (Below.refl _ w).alloc (Nat.le_refl _) _
  have hn0 : W0.heap[w.heap.size]? = some (.cells nilsA 91 (0, 0)) := by rw [hW0]; exact heap_alloc_new w _
  have c0 : W0.cell? ⟨w.heap.size, 0, none⟩ = some .nilFunc := (cell_of_row _ _ 0 _ _ _ hn0).trans rfl
  have c1 : W0.cell? ⟨w.heap.size, 1, none⟩ = some .nilFunc := (cell_of_row _ _ 1 _ _ _ hn0).trans rfl
  have c2 : W0.cell? ⟨w.heap.size, 2, none⟩ = some .nilFunc := (cell_of_row _ _ 2 _ _ _ hn0).trans rfl
  have c3 : W0.cell? ⟨w.heap.size, 3, none⟩ = some .nilFunc := (cell_of_row _ _ 3 _ _ _ hn0).trans rfl
  have c4 : W0.cell? ⟨w.heap.size, 4, none⟩ = some .nilFunc := (cell_of_row _ _ 4 _ _ _ hn0).trans rfl
  have c5 : W0.cell? ⟨w.heap.size, 5, none⟩ = some .nilFunc := (cell_of_row _ _ 5 _ _ _ hn0).trans rfl
  have c6 : W0.cell? ⟨w.heap.size, 6, none⟩ = some .nilFunc := (cell_of_row _ _ 6 _ _ _ hn0).trans rfl
  have c7 : W0.cell? ⟨w.heap.size, 7, none⟩ = some .nilFunc := (cell_of_row _ _ 7 _ _ _ hn0).trans rfl
  have c8 : W0.cell? ⟨w.heap.size, 8, none⟩ = some .nilFunc := (cell_of_row _ _ 8 _ _ _ hn0).trans rfl
  have c9 : W0.cell? ⟨w.heap.size, 9, none⟩ = some .nilFunc := (cell_of_row _ _ 9 _ _ _ hn0).trans rfl
  have c10 : W0.cell? ⟨w.heap.size, 10, none⟩ = some .nilFunc := (cell_of_row _ _ 10 _ _ _ hn0).trans rfl
  have c11 : W0.cell? ⟨w.heap.size, 11, none⟩ = some .nilFunc := (cell_of_row _ _ 11 _ _ _ hn0).trans rfl
  have c12 : W0.cell? ⟨w.heap.size, 12, none⟩ = some .nilFunc := (cell_of_row _ _ 12 _ _ _ hn0).trans rfl
  have c13 : W0.cell? ⟨w.heap.size, 13, none⟩ = some .nilFunc := (cell_of_row _ _ 13 _ _ _ hn0).trans rfl
  have hz : w.heap.size < W0.heap.size := (Array.getElem?_eq_some_iff.1 hn0).1
  have hf : ∀ i, W0.frozen? ⟨w.heap.size, i, none⟩ = false := fun i => by simp [World.frozen?, hn0]
  have HB0 := Lib.hid hB0
  have HN0 := Lib.hid hn0
  clear hB0 hn0
  unfold nilsA at hW0
  have hA := hW0.symm
  clear hW0
  go_enter Tryz.func72, Tryz.ntmps72
  go_wp2_with fail
  refine bodyPost_ret (results_cell_row rfl _ _ w.heap.size 91 kindsA (0, 0) _ rfl (set14 HN0.out) Tryz.underlying91 rfl kndSize) rfl ?_
  exact ⟨rfl, below_set (below_set (below_set (below_set (below_set (below_set (below_set (below_set (below_set (below_set (below_set (below_set (below_set (below_set HB0.out (Nat.le_refl _)) (Nat.le_refl _)) (Nat.le_refl _)) (Nat.le_refl _)) (Nat.le_refl _)) (Nat.le_refl _)) (Nat.le_refl _)) (Nat.le_refl _)) (Nat.le_refl _)) (Nat.le_refl _)) (Nat.le_refl _)) (Nat.le_refl _)) (Nat.le_refl _)) (Nat.le_refl _)⟩
end Go.Proofs.YtfbjgadgfjnamaaGreatDoor.Tm
namespace Go.Proofs.YtfbjgadgfjnamaaGreatDoor.Tm
open Go.RowKit
set_option linter.unusedVariables false
theorem make_mp (w : World) : (Instr.makeMap 88 none).run Tryz.prog w = .ok (.map (some w.heap.size)) (w.alloc (.map #[] 0)) := by
  simp [Instr.makeMap]
theorem own_base0 {w : World} {base size n : Nat} {E : TypeId} {v : Value} {L : List Value} (h : w.ownsRow base E size v n L) {b2 : Nat} (hb : b2 ≤ base) : w.ownsRow b2 E size v n L := by
  refine ⟨h.1, ?_⟩
  rcases h.2 with h1 | ⟨g, cap, cur, rfl, h1, h2⟩
  · exact .inl h1
  · exact .inr ⟨g, cap, cur, rfl, Nat.le_trans hb h1, h2⟩
/-- A maker as it is made: its map has the first k nodes. -/
structure NmR (w wr : World) (M b : Nat) (most : Int) (l : List NodeA) (a : Option Addr) (c k : Nat) : Prop where
  below : Below w.heap.size w wr
  box : wr.heap[M]? = some (.cells (mkC a l.length c b most 0) 93 (0, 0))
  own : wr.ownsRow w.heap.size 47 8 (.slice a l.length c) l.length (l.flatMap nodeC)
  map : MapI wr b (l.take k)
  geM : w.heap.size ≤ M
  geb : w.heap.size ≤ b
theorem NmR.ne_b {w wr : World} {M b : Nat} {most : Int} {l : List NodeA} {a : Option Addr} {c k : Nat} (h : NmR w wr M b most l a c k) : M ≠ b := fun e' => by
  obtain ⟨D, ⟨es, clock, hb, _⟩, _⟩ := h.map
  rw [← e', h.box] at hb
  cases hb
theorem NmR.ne_own {w wr : World} {M b : Nat} {most : Int} {l : List NodeA} {a : Option Addr} {c k : Nat} (h : NmR w wr M b most l a c k) {g : Nat} (hg : (Value.slice a l.length c).ownBlock = some g) : g ≠ b := fun e' => by
  obtain ⟨cur, hc⟩ := own_type h.own hg
  obtain ⟨D, ⟨es, clock, hb, _⟩, _⟩ := h.map
  rw [e', hb] at hc
  cases hc
theorem NmR.next {w wr V : World} {M b : Nat} {most : Int} {l : List NodeA} {a : Option Addr} {c k : Nat} {o : Obj} (h : NmR w wr M b most l a c k) (hg : (wr.alloc o).drew.grownBy V (some b)) (hm : MapI V b (l.take (k + 1))) : NmR w V M b most l a c (k + 1) := by
  have hsz : (wr.alloc o).drew.heap.size = wr.heap.size + 1 := by show (wr.alloc o).heap.size = _; simp
  have hk : ∀ j, j < wr.heap.size → j ≠ b → V.heap[j]? = wr.heap[j]? := fun j h1 h2 => (hg.block j (by omega) (fun e => h2 (Option.some.inj e))).trans (Below.heap_alloc wr o j h1)
  have h1 := h.below.size
  have h2 := h.geb
  have h3 := hg.size
  refine ⟨⟨hg.os.trans h.below.os, hg.tape.trans h.below.tape, hg.output.trans h.below.output, by omega, fun j hj => (hk j (by omega) (by omega)).trans (h.below.block j hj)⟩, (hk M (Array.getElem?_eq_some_iff.1 h.box).1 h.ne_b).trans h.box, own_blk h.own (fun g hg' => hk g (own_lt h.own hg').2 (h.ne_own hg')), hm, h.geM, h.geb⟩
theorem NmR.done {w wr : World} {M b : Nat} {most : Int} {l : List NodeA} {a : Option Addr} {c : Nat} (h : NmR w wr M b most l a c l.length) (h0 : mayT l = true) (hl : l.length ≤ 2000) (hok : ∀ n ∈ l, NodeOk n) : MkR wr (fun k => k < w.heap.size) M most ⟨l, 0⟩ := by
  have hm := h.map
  rw [List.take_length] at hm
  refine ⟨a, c, b, h.box, own_base0 h.own (Nat.zero_le _), hm, fun k hk => ?_, ⟨h0, hl, hok, .inl rfl⟩⟩
  have h1 := h.below.size
  have h2 := h.geM
  have h3 := h.geb
  refine ⟨by omega, by omega, by omega, fun e => ?_⟩
  have := (own_lt h.own e).1
  omega
set_option maxRecDepth 100000 in
set_option maxHeartbeats 4000000 in
theorem newMaker_any (l : List NodeA) (a : Option Addr) (c : Nat) (most : Int) (w : World) (hA : TabR w l a c) (h0 : mayT l = true) (hl : l.length ≤ 2000) :
    Calls Tryz.prog 36 #[.agg #[.slice a l.length c], .int .i64 most] w fun e w' => ∃ M, e = .returned (.pointer (some ⟨M, 0, none⟩)) ∧ w.heap.size ≤ M ∧ MkR w' (fun k => k < w.heap.size) M most ⟨l, 0⟩ ∧ Below w.heap.size w w' := by
  have hok : okFrom [] l = true := by
    unfold mayT at h0
    rw [Bool.and_eq_true] at h0
    exact h0.2
  have HUq : Hid (∀ (k : Nat) (n : NodeA), l[k]? = some n → n ∉ l.take k) := fun k n hn hm => by
    obtain ⟨j, hj, e⟩ := List.mem_iff_getElem.1 hm
    have hjk : j < k := by simp at hj; omega
    refine (ok_at hok hn).2 j hjk ?_
    rw [← List.getElem?_take_of_lt hjk, List.getElem?_eq_getElem hj, e]
  obtain ⟨W0, hW0⟩ : ∃ W0, W0 = w.alloc (.cells #[.slice a l.length c] 33) := ⟨_, rfl⟩
  have hB0 : Below w.heap.size w W0 := by rw [hW0]; exact (Below.refl _ w).alloc (Nat.le_refl _) _
  have hn0 : W0.heap[w.heap.size]? = some (.cells #[.slice a l.length c] 33 (0, 0)) := by rw [hW0]; exact heap_alloc_new w _
  have b0 : W0.cell? ⟨w.heap.size, 0, none⟩ = some (.slice a l.length c) := (cell_of_row _ _ 0 _ _ _ hn0).trans rfl
  have hbz := (Array.getElem?_eq_some_iff.1 hn0).1
  have h2 := mayT_len h0
  have HC : Hid (Calls Tryz.prog 71 #[.slice a l.length c] W0 (RowPost W0 l)) := Clone_any l a c W0 (hA.below hB0) (by omega) (by omega)
  have HA := Lib.hid hA
  have HB0 := Lib.hid hB0
  have HN0 := Lib.hid hn0
  have HMay := Lib.hid h0
  clear hA hB0 hn0 hok h0
  go_enter Tryz.func36, Tryz.ntmps36
  go_wp2_with fail
  rw [← hW0]
  clear hW0
  refine HC.out.mono ?_
  rintro e w1 ⟨v, rfl, hown, hb1⟩
  obtain ⟨a', c', rfl, hc1, hc2, _⟩ := own_at hown
  have HW1 : Hid (Below w.heap.size w w1) := HB0.out.trans (hb1.mono HB0.out.size)
  have HO1 : Hid (w1.ownsRow w.heap.size 47 8 (.slice a' l.length c') l.length (l.flatMap nodeC)) := own_base0 hown HB0.out.size
  have HT1 : Hid (w1.heap[w.heap.size]? = some (.cells #[.slice a l.length c] 33 (0, 0))) := (hb1.block _ hbz).trans HN0.out
  have hz1 : w.heap.size < w1.heap.size := Nat.lt_of_lt_of_le hbz hb1.size
  have hmp := make_mp w1
  have HK : Hid (∀ V, Calls Tryz.prog 72 #[] V fun e w' => e = .returned (.agg #[.func (.func 98) #[] #[], .func (.func 99) #[] #[], .func (.func 98) #[] #[], .func (.func 98) #[] #[], .func (.func 100) #[] #[], .func (.func 101) #[] #[], .func (.func 102) #[] #[], .func (.func 103) #[] #[], .func (.func 104) #[] #[], .func (.func 105) #[] #[], .func (.func 98) #[] #[], .func (.func 106) #[] #[], .func (.func 107) #[] #[], .func (.func 98) #[] #[]]) ∧ Below V.heap.size V w') := fun V => kinds_any V
  have HMp : Hid (MapI (w1.alloc (.map #[] 0)) w1.heap.size []) := ⟨.map [], World.ownsMap_made (H := Unit) w1 Tryz.prog 47 (plainElem Tryz.prog 3), fun y _ => rfl, fun k y hk => by simp at hk⟩
  clear hown hb1 b0 hbz
  go_wp2_with (go_at_call 72; refine (HK.out _).mono ?_; rintro e w2 ⟨rfl, hb2⟩; obtain ⟨W3, hA3⟩ : ∃ W3, w2.alloc (.cells #[.slice a' l.length c', .map (some w1.heap.size), .int .i64 most, .func (.func 98) #[] #[], .func (.func 99) #[] #[], .func (.func 98) #[] #[], .func (.func 98) #[] #[], .func (.func 100) #[] #[], .func (.func 101) #[] #[], .func (.func 102) #[] #[], .func (.func 103) #[] #[], .func (.func 104) #[] #[], .func (.func 105) #[] #[], .func (.func 98) #[] #[], .func (.func 106) #[] #[], .func (.func 107) #[] #[], .func (.func 98) #[] #[], .int .i64 0] 93) = W3 := ⟨_, rfl⟩; have hW2 : Below w1.heap.size w1 w2 := ((Below.refl _ w1).alloc (Nat.le_refl _) _).trans (hb2.mono (by simp)); have hW3 : Below w1.heap.size w1 W3 := (by rw [← hA3]; exact hW2.alloc hW2.size _); have HN3 : Hid (NmR w W3 w2.heap.size w1.heap.size most l a' c' 0) := ⟨HW1.out.trans (hW3.mono HW1.out.size), by rw [← hA3]; exact heap_alloc_new w2 _, own_blk HO1.out (fun g hg => hW3.block g (own_lt HO1.out hg).2), by rw [List.take_zero, ← hA3]; exact (HMp.out.below hb2).below ((Below.refl _ w2).alloc (Nat.le_refl _) _), Nat.le_trans HW1.out.size hW2.size, HW1.out.size⟩; have t3 : W3.cell? ⟨w.heap.size, 0, none⟩ = some (.slice a l.length c) := (cell_of_row _ _ 0 _ _ _ ((hW3.block _ hz1).trans HT1.out)).trans rfl; have hz3 : w.heap.size < W3.heap.size := Nat.lt_of_lt_of_le hz1 hW3.size; clear hb2 hW2 hW3)
  clear t3 hz3 hmp hA3
  go_loopw [19] (fun i wr => ∃ k : Nat, k ≤ l.length ∧ i = .int .i64 k ∧ Hid (NmR w wr w2.heap.size w1.heap.size most l a' c' k)) (fun i _ => l.length - (intOf i).toNat)
  case atStart => exact ⟨0, Nat.zero_le _, rfl, HN3⟩
  case round =>
    clear HN3
    obtain ⟨k, hkl, rfl, HR⟩ := hrel
    by_cases hlt : k < l.length
    · obtain ⟨n, hn⟩ : ∃ n, l[k]? = some n := ⟨_, List.getElem?_eq_getElem hlt⟩
      obtain ⟨g, o, rfl, hg, q0, q1, q2, q3, q4, q5, q6, q7⟩ := (HA.out.below HR.out.below).node hn
      obtain ⟨W1, hW1⟩ : ∃ W1, wr.alloc (.cells #[.int .i8 n.op, .int .i8 n.len, .int .i64 n.a0, .int .i64 n.a1, .int .i64 n.a2, .int .i64 n.sort, .int .i64 n.fn, .int .i64 n.num] 47) = W1 := ⟨_, rfl⟩
      have hn1 : W1.heap[wr.heap.size]? = some (.cells #[.int .i8 n.op, .int .i8 n.len, .int .i64 n.a0, .int .i64 n.a1, .int .i64 n.a2, .int .i64 n.sort, .int .i64 n.fn, .int .i64 n.num] 47 (0, 0)) := by rw [← hW1]; exact heap_alloc_new wr _
      obtain ⟨V2, hup, hm2, hg2⟩ := MapI.upd (w := W1.drew) (MapI.heap (w := wr) (w' := W1.drew) HR.out.map (by show W1.heap[_]? = _; rw [← hW1]; exact Below.heap_alloc wr _ _ HR.out.map.lt)) (fun m hm => HA.out.ok m (List.mem_of_mem_take hm)) (HA.out.ok n (List.mem_of_getElem? hn)) (HUq.out k n hn) (by simp; omega)
      rw [List.length_take, Nat.min_eq_left hkl] at hup
      have HNx : Hid (NmR w V2 w2.heap.size w1.heap.size most l a' c' (k + 1)) := HR.out.next (o := .cells #[.int .i8 n.op, .int .i8 n.len, .int .i64 n.a0, .int .i64 n.a1, .int .i64 n.a2, .int .i64 n.sort, .int .i64 n.fn, .int .i64 n.num] 47) (by rw [hW1]; exact hg2) (by rw [List.take_add_one, hn]; exact hm2)
      have hbx : W1.heap[w2.heap.size]? = some (.cells (mkC a' l.length c' w1.heap.size most 0) 93 (0, 0)) := by rw [← hW1]; exact (Below.heap_alloc wr _ _ (Array.getElem?_eq_some_iff.1 HR.out.box).1).trans HR.out.box
      have m1 : W1.cell? ⟨w2.heap.size, 1, none⟩ = some (.map (some w1.heap.size)) := (cell_of_row _ _ 1 _ _ _ hbx).trans rfl
      have mz := (Array.getElem?_eq_some_iff.1 hbx).1
      obtain ⟨n0, n1, n2, n3, n4, n5, n6, n7, zn⟩ := node_box hn1
      clear hn hn1 hm2 hg2 hbx
      go_wp2_with fail
      go_region
      all_goals
        go_wp2_with fail
        go_roundw
        case rel => exact ⟨k + 1, by omega, by go_num, HNx⟩
        case measure => simp [intOf]; omega
    · obtain rfl : k = l.length := by omega
      have HFin := Lib.hid (HR.out.done HMay.out hl HA.out.ok)
      have hge := HR.out.geM
      go_wp2_with fail
      go_ret
      exact ⟨w2.heap.size, rfl, hge, HFin.out, HR.out.below⟩
end Go.Proofs.YtfbjgadgfjnamaaGreatDoor.Tm
namespace Go.Proofs.YtfbjgadgfjnamaaGreatDoor.Tm
open Go.RowKit
set_option linter.unusedVariables false
set_option maxRecDepth 100000 in
set_option maxHeartbeats 2000000 in
theorem Repeat_any (n b : Nat) (w : World) (h0 : 0 < n) (hn : n ≤ 3000) (hb : w.cell? ⟨b, 0, none⟩ = some (.int .i64 (-1))) (hbz : b < w.heap.size) : Calls Tryz.prog 73 #[.slice (some ⟨b, 0, none⟩) 1 1, .int .i64 n] w fun e w' => e = .returned (.slice (some ⟨w.heap.size, 0, none⟩) n n) ∧ w'.heap[w.heap.size]? = some (.cells (repL n n).toArray 3 (0, 0)) ∧ Below w.heap.size w w' := by
  have HM : Hid (∀ V, Calls Tryz.prog 108 #[.int .u64 1, .int .u64 n] V fun e w' => e = .returned (.tuple #[.int .u64 0, .int .u64 n]) ∧ V = w') := fun V => Mul_one n V hn
  have d1 : IntKind.u64.wrap (n : Int) = n := u64_wrap n (by omega) (by omega)
  obtain ⟨W0, hW0⟩ : ∃ W0, W0 = w.alloc (.cells (repL 0 n).toArray 3) := ⟨_, rfl⟩
  have hmk : (Instr.makeSlice 27 (.int .i64 n) (.int .i64 n)).run Tryz.prog w = .ok (.slice (some ⟨w.heap.size, 0, none⟩) n n) W0 := by rw [hW0]; exact make_rep n hn w
  have hB0 : Below w.heap.size w W0 := by rw [hW0]; exact (Below.refl _ w).alloc (Nat.le_refl _) _
  have hg0 : W0.heap[w.heap.size]? = some (.cells (repL 0 n).toArray 3 (0, 0)) := by rw [hW0]; exact heap_alloc_new w _
  have hc0 : W0.cell? ⟨b, 0, none⟩ = some (.int .i64 (-1)) := (hB0.cell (p := ⟨b, 0, none⟩) hbz).trans hb
  have HB0 := Lib.hid hB0
  have HG0 := Lib.hid hg0
  have HC0 := Lib.hid hc0
  clear hW0 hB0 hg0 hc0 hb
  go_enter Tryz.func73, Tryz.ntmps73
  go_wp2_with (first | (go_at_call 108; refine (HM.out _).mono ?_; rintro e w' ⟨rfl, rfl⟩) | (refine wpList_copy_splice rfl _ _ _ _ rfl 3 Tryz.underlying27 intSz _ _ n n 1 1 rfl rfl w.heap.size 0 (repL 0 n) 3 HG0.out [.int .i64 (-1)] (by show (1 : Nat) = min 1 n; omega) (fun _ => ⟨rfl, _, rfl, fun j v hv => by cases j with | zero => (cases hv; exact HC0.out) | succ j => simp at hv⟩) (by rw [repL_len _ _ (Nat.zero_le _)]; simp; omega) (by simp [Value.oneCell']) w.heap.size _ HB0.out (Nat.le_refl _) ?_; intro w3 hg3 hb3; have HG3 : Hid (w3.heap[w.heap.size]? = some (.cells (repL 1 n).toArray 3 (0, 0))) := (by have h := hg3.out; rw [show [Value.int .i64 (-1)] = List.replicate 1 (.int .i64 (-1)) from rfl, repL_splice 0 1 n (by omega)] at h; exact h); have HB3 := Lib.hid hb3; clear hg3 hb3))
  go_loopw [8] (fun i wr => ∃ j : Nat, 1 ≤ j ∧ j ≤ n ∧ i = .int .i64 j ∧ Hid (wr.heap[w.heap.size]? = some (.cells (repL j n).toArray 3 (0, 0))) ∧ Hid (Below w.heap.size w wr)) (fun i _ => n - (intOf i).toNat)
  case atStart => exact ⟨1, Nat.le_refl _, h0, rfl, HG3, HB3⟩
  case round =>
    clear HG3 HB3 HG0 HB0 HC0 hmk HM d1
    obtain ⟨j, h1, hj, rfl, HG, HB⟩ := hrel
    by_cases hlt : j < n
    · obtain ⟨m, hm⟩ : ∃ m, min j (n - j) = m := ⟨_, rfl⟩
      have hmj : m ≤ j := by omega
      have hmn : j + m ≤ n := by omega
      have hm1 : 1 ≤ m := by omega
      have hne : ¬ n = j := by omega
      have HMin := Lib.hid hm
      have hjn : (j : Int) < (n : Int) := by omega
      have hwr : IntKind.i64.wrap ((j : Int) + (m : Int)) = (j : Int) + (m : Int) := by rw [IntKind.wrap_i64]; omega
      have HSrc : Hid (∀ (u : Nat) (v : Value), (List.replicate m (Value.int .i64 (-1)))[u]? = some v → wr.cell? ((⟨w.heap.size, 0, none⟩ : Addr).add u) = some v) := fun u v hu => by
        rw [Addr.add_lit]
        rw [List.getElem?_replicate] at hu
        split at hu
        · cases hu
          refine (cell_of_row _ _ _ _ _ _ HG.out).trans ?_
          rw [List.getElem?_toArray, repL, List.getElem?_append_left (by simp; omega), List.getElem?_replicate, if_pos (by omega)]
        · cases hu
      clear hm
      obtain ⟨V2, hV2⟩ : ∃ V2, V2 = wr.drew.setRow w.heap.size ((repL j n).toArray.toList.take j ++ List.replicate m (Value.int .i64 (-1)) ++ (repL j n).toArray.toList.drop (j + (List.replicate m (Value.int .i64 (-1))).length)).toArray := ⟨_, rfl⟩
      have hcp : (Builtin.copy_ #[27, 27] 3 #[.slice (some ⟨w.heap.size, j, none⟩) (n - j) (n - j), .slice (some ⟨w.heap.size, 0, none⟩) j n]).run Tryz.prog wr.drew = .ok (.int .i64 (m : Int)) V2 := by
        have h := run_copy_row (P := Tryz.prog) wr.drew 27 27 3 3 w.heap.size j (n - j) (n - j) ⟨w.heap.size, 0, none⟩ j n (repL j n).toArray 3 (List.replicate m (.int .i64 (-1))) Tryz.underlying27 intSz HG.out (by rw [List.length_replicate]; exact HMin.out.symm) HSrc.out (by show _ ≤ (repL j n).toArray.size; rw [List.size_toArray, repL_len _ _ hj, List.length_replicate]; exact hmn) (by simp [Value.oneCell'])
        rw [h, ← hV2, List.length_replicate]; rfl
      have HB4 : Hid (Below w.heap.size w V2) := by
        show Below _ _ _
        rw [hV2]
        exact below_setRow (w := wr.drew) ⟨HB.out.os, HB.out.tape, HB.out.output, HB.out.size, HB.out.block⟩ (Nat.le_refl _) _
      have HG4 : Hid (V2.heap[w.heap.size]? = some (.cells (repL (j + m) n).toArray 3 (0, 0))) := by
        show _ = _
        have h := setRow_heap wr.drew w.heap.size (repL j n).toArray ((repL j n).toArray.toList.take j ++ List.replicate m (Value.int .i64 (-1)) ++ (repL j n).toArray.toList.drop (j + (List.replicate m (Value.int .i64 (-1))).length)).toArray 3 (0, 0) HG.out
        rw [← hV2] at h
        rw [h, ← repL_splice j m n hmn]
        simp [splice]
      clear hV2
      go_wp2_with fail
      go_region
      all_goals
        go_wp2_with fail
        go_roundw
        case rel => exact ⟨j + m, by omega, hmn, by go_num, HG4, HB4⟩
        case measure => simp [intOf]; omega
    · obtain rfl : j = n := by omega
      go_wp2_with fail
      go_ret
      exact ⟨rfl, HG.out, HB.out⟩
end Go.Proofs.YtfbjgadgfjnamaaGreatDoor.Tm
namespace Go.Proofs.YtfbjgadgfjnamaaGreatDoor.Tm
open Go.RowKit
set_option linter.unusedVariables false
theorem cell_new1 (w : World) (v : Value) (t : TypeId) : (w.alloc (.cells #[v] t)).cell? ⟨w.heap.size, 0, none⟩ = some v := (cell_of_row _ _ 0 _ _ _ (heap_alloc_new w _)).trans rfl
theorem newWk_end {w w1 : World} {I M n : Nat} {l : List NodeA} {a : Option Addr} {c : Nat} (hA : TabR w l a c) (hb : Below w.heap.size w w1) (hI : w1.heap[I]? = some (.cells (repL l.length l.length).toArray 3 (0, 0))) :
    WkR (w1.alloc (.cells #[.slice a l.length c, .slice (some ⟨I, 0, none⟩) l.length l.length, .func (.func 39) #[.pointer (some ⟨M, 0, none⟩)] #[]] 139)) w1.heap.size I M l a c (List.replicate l.length (-1)) := by
  have hlt := (Array.getElem?_eq_some_iff.1 hI).1
  refine ⟨heap_alloc_new w1 _, ?_, by simp, (hA.below hb).below ((Below.refl _ w1).alloc (Nat.le_refl _) _), by omega⟩
  refine (Below.heap_alloc w1 _ _ hlt).trans (hI.trans ?_)
  have e : repL l.length l.length = (List.replicate l.length (-1 : Int)).map (Value.int .i64) := by simp [repL]
  rw [e]
set_option maxRecDepth 100000 in
set_option maxHeartbeats 4000000 in
theorem newWalk_any (l : List NodeA) (a : Option Addr) (c M : Nat) (w : World) (hA : TabR w l a c) (h0 : 0 < l.length) (hl : l.length ≤ 3000) :
    Calls Tryz.prog 38 #[.agg #[.slice a l.length c], .func (.func 39) #[.pointer (some ⟨M, 0, none⟩)] #[]] w fun e w' => ∃ X I, e = .returned (.pointer (some ⟨X, 0, none⟩)) ∧ w.heap.size ≤ I ∧ w.heap.size ≤ X ∧ X < w'.heap.size ∧ WkR w' X I M l a c (List.replicate l.length (-1)) ∧ Below w.heap.size w w' := by
  obtain ⟨W0, hW0⟩ : ∃ W0, W0 = w.alloc (.cells #[.slice a l.length c] 33) := ⟨_, rfl⟩
  have hB0 : Below w.heap.size w W0 := by rw [hW0]; exact (Below.refl _ w).alloc (Nat.le_refl _) _
  have hn0 : W0.heap[w.heap.size]? = some (.cells #[.slice a l.length c] 33 (0, 0)) := by rw [hW0]; exact heap_alloc_new w _
  have b0 : W0.cell? ⟨w.heap.size, 0, none⟩ = some (.slice a l.length c) := (cell_of_row _ _ 0 _ _ _ hn0).trans rfl
  have hbz := (Array.getElem?_eq_some_iff.1 hn0).1
  have HS : Hid (∀ V, Below W0.heap.size W0 V → V.cell? ⟨w.heap.size, 0, none⟩ = some (.slice a l.length c)) := fun V hV => (hV.cell (p := ⟨w.heap.size, 0, none⟩) hbz).trans b0
  have HD : Hid (Below W0.heap.size W0 W0.drew) := ⟨rfl, rfl, rfl, Nat.le_refl _, fun _ _ => rfl⟩
  have HDa : Hid (∀ o, Below W0.heap.size W0 (W0.drew.alloc o)) := fun o => HD.out.alloc (Nat.le_refl _) o
  have HDb : Hid (∀ o, Below W0.heap.size W0 (W0.alloc o).drew) := fun o => ⟨rfl, rfl, rfl, by show _ ≤ (W0.alloc o).heap.size; simp, fun k hk => Below.heap_alloc W0 o k hk⟩
  have HR : Hid (∀ (V : World) (b : Nat), V.cell? ⟨b, 0, none⟩ = some (.int .i64 (-1)) → b < V.heap.size → Calls Tryz.prog 73 #[.slice (some ⟨b, 0, none⟩) 1 1, .int .i64 l.length] V fun e w' => e = .returned (.slice (some ⟨V.heap.size, 0, none⟩) l.length l.length) ∧ w'.heap[V.heap.size]? = some (.cells (repL l.length l.length).toArray 3 (0, 0)) ∧ Below V.heap.size V w') := fun V b hb hz => Repeat_any l.length b V h0 hl hb hz
  have HRd : Hid (Calls Tryz.prog 73 #[.slice (some ⟨W0.heap.size, 0, none⟩) 1 1, .int .i64 l.length] (W0.drew.alloc (.cells #[.int .i64 (-1)] 3)) fun e w' => e = .returned (.slice (some ⟨W0.heap.size + 1, 0, none⟩) l.length l.length) ∧ w'.heap[W0.heap.size + 1]? = some (.cells (repL l.length l.length).toArray 3 (0, 0)) ∧ Below (W0.heap.size + 1) (W0.drew.alloc (.cells #[.int .i64 (-1)] 3)) w') := by
    have h := HR.out (W0.drew.alloc (.cells #[.int .i64 (-1)] 3)) W0.heap.size (cell_new1 W0.drew _ _) (by rw [World.size_alloc]; exact Nat.lt_succ_self _)
    rw [World.size_alloc] at h
    exact h
  have HA := Lib.hid hA
  have HB0 := Lib.hid hB0
  clear hB0 hn0 hA b0
  go_enter Tryz.func38, Tryz.ntmps38
  go_wp2_with fail
  rw [← hW0]
  clear hW0
  go_region_held3 (fun V => V.cell? ⟨w.heap.size, 0, none⟩ = some (.slice a l.length c))
    (first | with_reducible exact HS.out _ HD.out | with_reducible exact HS.out _ (HDa.out _) | with_reducible exact HS.out _ (HDb.out _) | with_reducible exact HS.out _ HK1.out | with_reducible exact HS.out _ (HK1a.out _))
    (first | (go_at_call 73; refine HRd.out.mono ?_; rintro e w1 ⟨rfl, hg1, hb1⟩; have HG1 := Lib.hid hg1; have HK1 := Lib.hid ((HDa.out _).trans (hb1.mono (Nat.le_succ _))); have HK1a : Hid (∀ o, Below W0.heap.size W0 (w1.alloc o)) := Lib.hid (fun o => HK1.out.alloc HK1.out.size o); clear hg1 hb1))
  all_goals
    have hW1 : Below w.heap.size w w1 := HB0.out.trans (HK1.out.mono HB0.out.size)
    have HW := Lib.hid (newWk_end (M := M) (n := 0) HA.out hW1 HG1.out)
    have HBf := Lib.hid hW1
    have hs1 := hW1.size
    have hs0 := HB0.out.size
    clear hW1
    go_wp2_with fail
    go_ret
    exact ⟨_, _, rfl, by omega, hs1, by rw [World.size_alloc]; exact Nat.lt_succ_self _, HW.out, HBf.out.alloc hs1 _⟩
end Go.Proofs.YtfbjgadgfjnamaaGreatDoor.Tm
