/- The law SexprSpaces: its walk, in the card's form. -/
import Derived.Test.YthbgigjjmojgfaaDoorSexHt
import Derived.Test.YthbgigjjmojgfaaDoorSexWk
import Derived.Test.YthbgigjjmojgfaaDoorSexSkip
import Derived.Laws.BitsLemmas
import Derived.Test.YthbgigjjmojgfaaDoorSexGlobs
namespace Go.Proofs.YthbgigjjmojgfaaDoor
open Go.RowKit
set_option linter.unusedVariables false
theorem contR_stop (L : List UInt8) : ∀ (f : Nat) (s : RS) (k N : Nat), k ≤ L.length → (OkS N s ∨ (∃ t, s = .fin t) ∨ s = .deep 0) → (contR L f s k).stop ≤ L.length := by
  intro f
  induction f with
  | zero =>
    intro s k N hk hs
    rcases hs with hs | ⟨t, rfl⟩ | rfl
    · cases s with
      | fin t => exact hs.elim
      | run st => exact Nat.zero_le _
      | deep n =>
        obtain ⟨n, rfl⟩ : ∃ m, n = m + 1 := ⟨n - 1, by have := hs.2; omega⟩
        exact Nat.zero_le _
    · rw [contR_fin]; exact hk
    · rw [contR_deep]; exact hk
  | succ f ih =>
    intro s k N hk hs
    rcases hs with hs | ⟨t, rfl⟩ | rfl
    · rw [contR_go L f s k N hs]
      have hsk := (skipA_le (l := L) hk).2
      by_cases herr : (nextL L k).err ≠ 0
      · rw [if_pos herr]
        obtain ⟨_, _, hx, _⟩ := nextL_err herr
        rw [hx]; exact hsk
      · rw [if_neg herr]
        cases hok : (nextL L k).ok with
        | false => rw [if_pos rfl]; exact Nat.le_refl _
        | true =>
          rw [if_neg (by simp)]
          obtain ⟨hs1, hs2, _⟩ := nextL_stop hk hok
          cases htk : takeS s (nextL L k).tok.kind (nextL L k).tok.text with
          | none =>
            obtain ⟨kd, t, m, htok, hx⟩ := nextL_ok hok
            rw [hx]; exact hsk
          | some s' =>
            refine ih s' _ (N + 1) hs2 ?_
            rcases takeS_ok hs htk with h | h | h
            · exact .inl h.1
            · exact .inr (.inl h)
            · exact .inr (.inr h)
    · rw [contR_fin]; exact hk
    · rw [contR_deep]; exact hk
theorem readL_stop (L : List UInt8) {k : Nat} (hk : k ≤ L.length) : (readL L k).stop ≤ L.length := contR_stop L _ (.run []) k 0 hk (.inl ok_start)
theorem and3 (a : Int) : ∃ j : Nat, j < 4 ∧ Go.bits .and .i64 a 3 = (j : Int) := by
  refine ⟨(BitVec.ofInt 64 a).toNat % 4, by omega, ?_⟩
  have h3 : (BitVec.ofInt 64 (3 : Int)).toNat = 2 ^ 2 - 1 := by decide
  have hb : Go.bits .and .i64 a 3 = IntKind.i64.wrap (((BitVec.ofInt 64 a) &&& (BitVec.ofInt 64 (3 : Int))).toNat : Int) := rfl
  rw [hb, BitVec.toNat_and, h3, Nat.and_two_pow_sub_one_eq_mod, IntKind.wrap_i64]
  have := Nat.mod_lt (BitVec.ofInt 64 a).toNat (show 0 < 2 ^ 2 by decide)
  omega
theorem white_0 (L : List UInt8) : skipN false ([32] ++ L) = [32].length + skipN false L := by
  rw [List.cons_append, List.nil_append, skipN_yes (by decide)]; simp [cmt]; omega
theorem white_1 (L : List UInt8) : skipN false ([10, 9] ++ L) = [10, 9].length + skipN false L := by
  rw [List.cons_append, List.cons_append, List.nil_append, skipN_yes (by decide), show cmt false 10 = false from rfl, skipN_yes (by decide), show cmt false 9 = false from rfl]; simp; omega
theorem white_2 (L : List UInt8) : skipN false ([59, 32, 40, 97, 10] ++ L) = [59, 32, 40, 97, 10].length + skipN false L := by
  simp only [List.cons_append, List.nil_append]
  rw [skipN_yes (by decide), show cmt false 59 = true from rfl, skipN_yes (by decide), show cmt true 32 = true from rfl, skipN_yes (by decide), show cmt true 40 = true from rfl, skipN_yes (by decide), show cmt true 97 = true from rfl, skipN_yes (by decide), show cmt true 10 = false from rfl]
  simp; omega
theorem white_3 (L : List UInt8) : skipN false (([] : List UInt8) ++ L) = ([] : List UInt8).length + skipN false L := by simp
/-- Read's answer, in parts. -/
theorem read_to (s : ByteArray) (X : RdR) (hs : s.size ≤ 2000) (hX : readL s.data.toList 0 = X) (W : World) (hG : Globs W) (hK : Kinds W) :
    Calls Tryd.prog 9 #[.string s, .int .i64 0] W fun e w' => ∃ a cap, e = .returned (.tuple #[.agg #[.int .i8 X.t.kind, .string (bytesL X.t.text), .slice a X.t.kids.length cap], .int .i64 X.stop, .int .i64 X.err]) ∧ RdOut W.heap.size w' X.t (.agg #[.int .i8 X.t.kind, .string (bytesL X.t.text), .slice a X.t.kids.length cap]) ∧ Below W.heap.size W w' := by
  refine (Read_is s 0 0 X W hG hK (by omega) rfl (by decide) (by omega) hX).mono ?_
  rintro e w' ⟨v, rfl, h1, h2⟩
  obtain ⟨a, cap, rfl⟩ := h1.parts
  exact ⟨a, cap, rfl, h1, h2⟩
theorem same_to (B B' : Nat) (t : Tree) (va vb : Value) (W : World) (h : hT t ≤ 60) (ha : RdOut B W t va) (hb : RdOut B' W t vb) :
    Calls Tryd.prog 21 #[va, vb] W fun e w' => e = .returned (.bool true) ∧ Below W.heap.size W w' := by
  refine (Same_out B B' t t va vb W h ha hb).mono ?_
  rintro e w' ⟨⟨r, rfl, hr⟩, hb⟩
  exact ⟨by rw [hr.2 rfl], hb⟩
end Go.Proofs.YthbgigjjmojgfaaDoor
namespace Go.Proofs.YthbgigjjmojgfaaDoor
open Go.RowKit
set_option linter.unusedVariables false
set_option maxHeartbeats 4000000 in
theorem spaces_0 (s : ByteArray) (ahead : Int) (w : World) (hs : s.size ≤ 1000) (hj : Go.bits .and .i64 ahead 3 = 0) (hG : Globs w) (hK : Kinds w) :
    Calls Tryd.prog 6 #[.string s, .int .i64 ahead] w fun e w' => e = .returned (.bool true) ∧ Below w.heap.size w w' := by
  have HL : Hid (s.data.toList.length = s.size) := by show _ = _; simp
  obtain ⟨X, hX⟩ : ∃ X, readL s.data.toList 0 = X := ⟨_, rfl⟩
  have hht : hT X.t ≤ 60 := by rw [← hX]; exact readL_ht _ _
  have HHT := Lib.hid hht
  have hY : readL ((ByteArray.mk #[32]) ++ s).data.toList 0 = ⟨X.t, 1 + X.stop, X.err⟩ := by
    have e : ((ByteArray.mk #[32]) ++ s).data.toList = [32] ++ s.data.toList := by simp
    rw [e, readL_ahead (white_0 _), hX]; rfl
  have hbeh : X.err = 0 → readL (s ++ (ByteArray.mk #[10]) ++ (ByteArray.mk #[32])).data.toList 0 = X ∧ X.stop ≤ s.size ∧ skipA s.data.toList 0 < X.stop := fun h0 => by
    have e : (s ++ (ByteArray.mk #[10]) ++ (ByteArray.mk #[32])).data.toList = s.data.toList ++ 10 :: [32] := by simp
    obtain ⟨q1, q2, q3⟩ := readL_behind (a := s.data.toList) (b := [32]) (k := 0) (Nat.zero_le _) (by rw [hX]; exact h0)
    rw [hX] at q1 q2 q3
    rw [HL.out] at q2
    exact ⟨by rw [e]; exact q1, q2, q3⟩
  have hz1 : ((ByteArray.mk #[32]) ++ s).size ≤ 2000 := by rw [ByteArray.size_append]; show 1 + s.size ≤ 2000; omega
  have hz2 : (s ++ (ByteArray.mk #[10]) ++ (ByteArray.mk #[32])).size ≤ 2000 := by rw [ByteArray.size_append, ByteArray.size_append]; show s.size + 1 + 1 ≤ 2000; omega
  have HR1 := Lib.hid (fun W h1 h2 => read_to s X (by omega) hX W h1 h2)
  have HR2 := Lib.hid (fun W h1 h2 => read_to _ _ hz1 hY W h1 h2)
  have HG := Lib.hid hG
  have HK := Lib.hid hK
  have HBE := Lib.hid hbeh
  have HZ2 := Lib.hid hz2
  obtain ⟨W0, hW0⟩ : ∃ W0, W0 = w := ⟨_, rfl⟩
  have hSK : Hid (∀ W : World, Calls Tryd.prog 24 #[.string s, .int .i64 0] W fun e w' => e = .returned (.int .i64 (skipA s.data.toList 0 : Nat)) ∧ W = w') := fun W => by
    have := RSkip_any s 0 W (by omega)
    rw [show clampN 0 s.size = 0 from rfl] at this
    exact this
  have hstop : X.stop ≤ 1000 := by rw [← hX]; have := readL_stop s.data.toList (Nat.zero_le _); rw [HL.out] at this; omega
  clear hX hht hY hbeh hz1 hz2 hG hK hW0
  by_cases herr : X.err = 0
  · obtain ⟨hZ, hst, hsk⟩ := HBE.out herr
    have HR3 := Lib.hid (fun W h1 h2 => read_to _ _ HZ2.out hZ W h1 h2)
    have e1 := ne_false (x := (X.err : Int)) (y := 0) (by omega)
    have e2 := eq_true_ (x := (X.err : Int)) (y := 0) (by omega)
    have d1 : decide ((X.stop : Int) ≤ (s.size : Int)) = true := by simp; omega
    obtain ⟨q, hq⟩ : ∃ q, q = skipA s.data.toList 0 := ⟨_, rfl⟩
    rw [← hq] at hsk hSK
    have d2 : decide ((q : Int) < (X.stop : Int)) = true := by simp; omega
    clear herr hZ hq
    go_enter Tryd.func6, Tryd.ntmps6
    go_wp2_with fail
    have HB0 : Hid (Below w.heap.size w (w.alloc (.cells #[.string ⟨#[32]⟩, .string ⟨#[10, 9]⟩, .string ⟨#[59, 32, 40, 97, 10]⟩, .string ⟨#[]⟩] 9))) := (Below.refl _ _).alloc (Nat.le_refl _) _
    refine (HR1.out _ (HG.out.below HB0.out) (HK.out.below HB0.out HK.out.lt)).mono ?_
    rintro e w1 ⟨a1, cap1, rfl, ho1, hb1⟩
    have HO1 := Lib.hid ho1
    have HW1 : Hid (Below w.heap.size w w1) := HB0.out.trans (hb1.mono HB0.out.size)
    clear ho1 hb1
    have HA1 : Hid (Below w1.heap.size w1 (w1.alloc (.cells #[.int .i8 X.t.kind, .string (bytesL X.t.text), .slice a1 X.t.kids.length cap1] 26))) := (Below.refl _ _).alloc (Nat.le_refl _) _
    have HV1 : Hid (Below w.heap.size w (w1.alloc (.cells #[.int .i8 X.t.kind, .string (bytesL X.t.text), .slice a1 X.t.kids.length cap1] 26))) := HW1.out.trans (HA1.out.mono HW1.out.size)
    go_wp2_with fail
    refine (HR2.out _ (HG.out.below HV1.out) (HK.out.below HV1.out HK.out.lt)).mono ?_
    rintro e w2 ⟨a2, cap2, rfl, ho2, hb2⟩
    have HO2 := Lib.hid ho2
    have HW2 : Hid (Below w1.heap.size w1 w2) := HA1.out.trans (hb2.mono HA1.out.size)
    have hx2 : w2.heap[w1.heap.size]? = some (.cells #[.int .i8 X.t.kind, .string (bytesL X.t.text), .slice a1 X.t.kids.length cap1] 26 (0, 0)) := (hb2.block _ (by simp)).trans (heap_alloc_new w1 _)
    have x0 := cell_of_row _ _ 0 _ _ _ hx2
    have x1 := cell_of_row _ _ 1 _ _ _ hx2
    have x2 := cell_of_row _ _ 2 _ _ _ hx2
    simp only [List.getElem?_toArray, List.getElem?_cons_zero, List.getElem?_cons_succ] at x0 x1 x2
    have hz2 : w1.heap.size < w2.heap.size := by have := hb2.size; simp at this; omega
    have HX2 := Lib.hid hx2
    clear ho2 hb2 hx2
    have HA2 : Hid (Below w2.heap.size w2 (w2.alloc (.cells #[.int .i8 X.t.kind, .string (bytesL X.t.text), .slice a2 X.t.kids.length cap2] 26))) := (Below.refl _ _).alloc (Nat.le_refl _) _
    have HV2 : Hid (Below w1.heap.size w1 (w2.alloc (.cells #[.int .i8 X.t.kind, .string (bytesL X.t.text), .slice a2 X.t.kids.length cap2] 26))) := HW2.out.trans (HA2.out.mono HW2.out.size)
    go_wp2_with fail
    refine (same_to _ _ X.t _ _ _ HHT.out (HO1.out.keep HV2.out) (HO2.out.keep HA2.out)).mono ?_
    rintro e w3 ⟨rfl, hb3⟩
    have HW3 : Hid (Below w1.heap.size w1 w3) := HV2.out.trans (hb3.mono HV2.out.size)
    have HW3w : Hid (Below w.heap.size w w3) := HW1.out.trans (HW3.out.mono HW1.out.size)
    have HW32 : Hid (Below w2.heap.size w2 w3) := HA2.out.trans (hb3.mono HA2.out.size)
    clear hb3 x0 x1 x2
    have hx3 := (HW32.out.block w1.heap.size hz2).trans HX2.out
    have HX3 := Lib.hid hx3
    have hz3 : w1.heap.size < w3.heap.size := by have := HW32.out.size; omega
    clear hx3
    go_wp2_with fail
    refine (HR3.out _ (HG.out.below HW3w.out) (HK.out.below HW3w.out HK.out.lt)).mono ?_
    rintro e w4 ⟨a3, cap3, rfl, ho3, hb4⟩
    have HO3 := Lib.hid ho3
    have hx4 := (hb4.block w1.heap.size hz3).trans HX3.out
    have y0 := cell_of_row _ _ 0 _ _ _ hx4
    have y1 := cell_of_row _ _ 1 _ _ _ hx4
    have y2 := cell_of_row _ _ 2 _ _ _ hx4
    simp only [List.getElem?_toArray, List.getElem?_cons_zero, List.getElem?_cons_succ] at y0 y1 y2
    have hz4 : w1.heap.size < w4.heap.size := by have := hb4.size; omega
    have HW4 : Hid (Below w1.heap.size w1 w4) := HW3.out.trans (hb4.mono HW3.out.size)
    clear ho3 hb4 hx4
    have HA4 : Hid (Below w4.heap.size w4 (w4.alloc (.cells #[.int .i8 X.t.kind, .string (bytesL X.t.text), .slice a3 X.t.kids.length cap3] 26))) := (Below.refl _ _).alloc (Nat.le_refl _) _
    have HV4 : Hid (Below w1.heap.size w1 (w4.alloc (.cells #[.int .i8 X.t.kind, .string (bytesL X.t.text), .slice a3 X.t.kids.length cap3] 26))) := HW4.out.trans (HA4.out.mono HW4.out.size)
    go_wp2_with fail
    refine (same_to _ _ X.t _ _ _ HHT.out (HO1.out.keep HV4.out) (HO3.out.keep HA4.out)).mono ?_
    rintro e w5 ⟨rfl, hb5⟩
    have HW5 : Hid (Below w1.heap.size w1 w5) := HV4.out.trans (hb5.mono HV4.out.size)
    have HW5w : Hid (Below w.heap.size w w5) := HW1.out.trans (HW5.out.mono HW1.out.size)
    clear hb5 y0 y1 y2
    go_wp2_with fail
    refine (hSK.out _).mono ?_
    rintro e w6 ⟨rfl, rfl⟩
    go_wp2_with fail
    refine (wakes_any _ (HG.out.below HW5w.out) (HK.out.below HW5w.out HK.out.lt)).mono ?_
    rintro e w7 ⟨rfl, hb7⟩
    go_wp2
    go_ret
    exact ⟨rfl, HW5w.out.trans (hb7.mono HW5w.out.size)⟩
  · have e1 := ne_true (x := (X.err : Int)) (y := 0) (by omega)
    have e2 := eq_false (x := (X.err : Int)) (y := 0) (by omega)
    clear herr
    go_enter Tryd.func6, Tryd.ntmps6
    go_wp2_with fail
    have HB0 : Hid (Below w.heap.size w (w.alloc (.cells #[.string ⟨#[32]⟩, .string ⟨#[10, 9]⟩, .string ⟨#[59, 32, 40, 97, 10]⟩, .string ⟨#[]⟩] 9))) := (Below.refl _ _).alloc (Nat.le_refl _) _
    refine (HR1.out _ (HG.out.below HB0.out) (HK.out.below HB0.out HK.out.lt)).mono ?_
    rintro e w1 ⟨a1, cap1, rfl, ho1, hb1⟩
    have HO1 := Lib.hid ho1
    have HW1 : Hid (Below w.heap.size w w1) := HB0.out.trans (hb1.mono HB0.out.size)
    clear ho1 hb1
    have HA1 : Hid (Below w1.heap.size w1 (w1.alloc (.cells #[.int .i8 X.t.kind, .string (bytesL X.t.text), .slice a1 X.t.kids.length cap1] 26))) := (Below.refl _ _).alloc (Nat.le_refl _) _
    have HV1 : Hid (Below w.heap.size w (w1.alloc (.cells #[.int .i8 X.t.kind, .string (bytesL X.t.text), .slice a1 X.t.kids.length cap1] 26))) := HW1.out.trans (HA1.out.mono HW1.out.size)
    go_wp2_with fail
    refine (HR2.out _ (HG.out.below HV1.out) (HK.out.below HV1.out HK.out.lt)).mono ?_
    rintro e w2 ⟨a2, cap2, rfl, ho2, hb2⟩
    have HO2 := Lib.hid ho2
    have HW2 : Hid (Below w1.heap.size w1 w2) := HA1.out.trans (hb2.mono HA1.out.size)
    have hx2 : w2.heap[w1.heap.size]? = some (.cells #[.int .i8 X.t.kind, .string (bytesL X.t.text), .slice a1 X.t.kids.length cap1] 26 (0, 0)) := (hb2.block _ (by simp)).trans (heap_alloc_new w1 _)
    have x0 := cell_of_row _ _ 0 _ _ _ hx2
    have x1 := cell_of_row _ _ 1 _ _ _ hx2
    have x2 := cell_of_row _ _ 2 _ _ _ hx2
    simp only [List.getElem?_toArray, List.getElem?_cons_zero, List.getElem?_cons_succ] at x0 x1 x2
    have hz2 : w1.heap.size < w2.heap.size := by have := hb2.size; simp at this; omega
    have HX2 := Lib.hid hx2
    clear ho2 hb2 hx2
    have HA2 : Hid (Below w2.heap.size w2 (w2.alloc (.cells #[.int .i8 X.t.kind, .string (bytesL X.t.text), .slice a2 X.t.kids.length cap2] 26))) := (Below.refl _ _).alloc (Nat.le_refl _) _
    have HV2 : Hid (Below w1.heap.size w1 (w2.alloc (.cells #[.int .i8 X.t.kind, .string (bytesL X.t.text), .slice a2 X.t.kids.length cap2] 26))) := HW2.out.trans (HA2.out.mono HW2.out.size)
    go_wp2_with fail
    refine (same_to _ _ X.t _ _ _ HHT.out (HO1.out.keep HV2.out) (HO2.out.keep HA2.out)).mono ?_
    rintro e w3 ⟨rfl, hb3⟩
    have HW3 : Hid (Below w1.heap.size w1 w3) := HV2.out.trans (hb3.mono HV2.out.size)
    have HW3w : Hid (Below w.heap.size w w3) := HW1.out.trans (HW3.out.mono HW1.out.size)
    have HW32 : Hid (Below w2.heap.size w2 w3) := HA2.out.trans (hb3.mono HA2.out.size)
    clear hb3 x0 x1 x2
    go_wp2_with fail
    refine (wakes_any _ (HG.out.below HW3w.out) (HK.out.below HW3w.out HK.out.lt)).mono ?_
    rintro e w4 ⟨rfl, hb4⟩
    go_wp2
    go_ret
    exact ⟨rfl, HW3w.out.trans (hb4.mono HW3w.out.size)⟩
end Go.Proofs.YthbgigjjmojgfaaDoor
namespace Go.Proofs.YthbgigjjmojgfaaDoor
open Go.RowKit
set_option linter.unusedVariables false
set_option maxHeartbeats 4000000 in
theorem spaces_1 (s : ByteArray) (ahead : Int) (w : World) (hs : s.size ≤ 1000) (hj : Go.bits .and .i64 ahead 3 = 1) (hG : Globs w) (hK : Kinds w) :
    Calls Tryd.prog 6 #[.string s, .int .i64 ahead] w fun e w' => e = .returned (.bool true) ∧ Below w.heap.size w w' := by
  have HL : Hid (s.data.toList.length = s.size) := by show _ = _; simp
  obtain ⟨X, hX⟩ : ∃ X, readL s.data.toList 0 = X := ⟨_, rfl⟩
  have hht : hT X.t ≤ 60 := by rw [← hX]; exact readL_ht _ _
  have HHT := Lib.hid hht
  have hY : readL ((ByteArray.mk #[10, 9]) ++ s).data.toList 0 = ⟨X.t, 2 + X.stop, X.err⟩ := by
    have e : ((ByteArray.mk #[10, 9]) ++ s).data.toList = [10, 9] ++ s.data.toList := by simp
    rw [e, readL_ahead (white_1 _), hX]; rfl
  have hbeh : X.err = 0 → readL (s ++ (ByteArray.mk #[10]) ++ (ByteArray.mk #[10, 9])).data.toList 0 = X ∧ X.stop ≤ s.size ∧ skipA s.data.toList 0 < X.stop := fun h0 => by
    have e : (s ++ (ByteArray.mk #[10]) ++ (ByteArray.mk #[10, 9])).data.toList = s.data.toList ++ 10 :: [10, 9] := by simp
    obtain ⟨q1, q2, q3⟩ := readL_behind (a := s.data.toList) (b := [10, 9]) (k := 0) (Nat.zero_le _) (by rw [hX]; exact h0)
    rw [hX] at q1 q2 q3
    rw [HL.out] at q2
    exact ⟨by rw [e]; exact q1, q2, q3⟩
  have hz1 : ((ByteArray.mk #[10, 9]) ++ s).size ≤ 2000 := by rw [ByteArray.size_append]; show 2 + s.size ≤ 2000; omega
  have hz2 : (s ++ (ByteArray.mk #[10]) ++ (ByteArray.mk #[10, 9])).size ≤ 2000 := by rw [ByteArray.size_append, ByteArray.size_append]; show s.size + 1 + 2 ≤ 2000; omega
  have HR1 := Lib.hid (fun W h1 h2 => read_to s X (by omega) hX W h1 h2)
  have HR2 := Lib.hid (fun W h1 h2 => read_to _ _ hz1 hY W h1 h2)
  have HG := Lib.hid hG
  have HK := Lib.hid hK
  have HBE := Lib.hid hbeh
  have HZ2 := Lib.hid hz2
  obtain ⟨W0, hW0⟩ : ∃ W0, W0 = w := ⟨_, rfl⟩
  have hSK : Hid (∀ W : World, Calls Tryd.prog 24 #[.string s, .int .i64 0] W fun e w' => e = .returned (.int .i64 (skipA s.data.toList 0 : Nat)) ∧ W = w') := fun W => by
    have := RSkip_any s 0 W (by omega)
    rw [show clampN 0 s.size = 0 from rfl] at this
    exact this
  have hstop : X.stop ≤ 1000 := by rw [← hX]; have := readL_stop s.data.toList (Nat.zero_le _); rw [HL.out] at this; omega
  clear hX hht hY hbeh hz1 hz2 hG hK hW0
  by_cases herr : X.err = 0
  · obtain ⟨hZ, hst, hsk⟩ := HBE.out herr
    have HR3 := Lib.hid (fun W h1 h2 => read_to _ _ HZ2.out hZ W h1 h2)
    have e1 := ne_false (x := (X.err : Int)) (y := 0) (by omega)
    have e2 := eq_true_ (x := (X.err : Int)) (y := 0) (by omega)
    have d1 : decide ((X.stop : Int) ≤ (s.size : Int)) = true := by simp; omega
    obtain ⟨q, hq⟩ : ∃ q, q = skipA s.data.toList 0 := ⟨_, rfl⟩
    rw [← hq] at hsk hSK
    have d2 : decide ((q : Int) < (X.stop : Int)) = true := by simp; omega
    clear herr hZ hq
    go_enter Tryd.func6, Tryd.ntmps6
    go_wp2_with fail
    have HB0 : Hid (Below w.heap.size w (w.alloc (.cells #[.string ⟨#[32]⟩, .string ⟨#[10, 9]⟩, .string ⟨#[59, 32, 40, 97, 10]⟩, .string ⟨#[]⟩] 9))) := (Below.refl _ _).alloc (Nat.le_refl _) _
    refine (HR1.out _ (HG.out.below HB0.out) (HK.out.below HB0.out HK.out.lt)).mono ?_
    rintro e w1 ⟨a1, cap1, rfl, ho1, hb1⟩
    have HO1 := Lib.hid ho1
    have HW1 : Hid (Below w.heap.size w w1) := HB0.out.trans (hb1.mono HB0.out.size)
    clear ho1 hb1
    have HA1 : Hid (Below w1.heap.size w1 (w1.alloc (.cells #[.int .i8 X.t.kind, .string (bytesL X.t.text), .slice a1 X.t.kids.length cap1] 26))) := (Below.refl _ _).alloc (Nat.le_refl _) _
    have HV1 : Hid (Below w.heap.size w (w1.alloc (.cells #[.int .i8 X.t.kind, .string (bytesL X.t.text), .slice a1 X.t.kids.length cap1] 26))) := HW1.out.trans (HA1.out.mono HW1.out.size)
    go_wp2_with fail
    refine (HR2.out _ (HG.out.below HV1.out) (HK.out.below HV1.out HK.out.lt)).mono ?_
    rintro e w2 ⟨a2, cap2, rfl, ho2, hb2⟩
    have HO2 := Lib.hid ho2
    have HW2 : Hid (Below w1.heap.size w1 w2) := HA1.out.trans (hb2.mono HA1.out.size)
    have hx2 : w2.heap[w1.heap.size]? = some (.cells #[.int .i8 X.t.kind, .string (bytesL X.t.text), .slice a1 X.t.kids.length cap1] 26 (0, 0)) := (hb2.block _ (by simp)).trans (heap_alloc_new w1 _)
    have x0 := cell_of_row _ _ 0 _ _ _ hx2
    have x1 := cell_of_row _ _ 1 _ _ _ hx2
    have x2 := cell_of_row _ _ 2 _ _ _ hx2
    simp only [List.getElem?_toArray, List.getElem?_cons_zero, List.getElem?_cons_succ] at x0 x1 x2
    have hz2 : w1.heap.size < w2.heap.size := by have := hb2.size; simp at this; omega
    have HX2 := Lib.hid hx2
    clear ho2 hb2 hx2
    have HA2 : Hid (Below w2.heap.size w2 (w2.alloc (.cells #[.int .i8 X.t.kind, .string (bytesL X.t.text), .slice a2 X.t.kids.length cap2] 26))) := (Below.refl _ _).alloc (Nat.le_refl _) _
    have HV2 : Hid (Below w1.heap.size w1 (w2.alloc (.cells #[.int .i8 X.t.kind, .string (bytesL X.t.text), .slice a2 X.t.kids.length cap2] 26))) := HW2.out.trans (HA2.out.mono HW2.out.size)
    go_wp2_with fail
    refine (same_to _ _ X.t _ _ _ HHT.out (HO1.out.keep HV2.out) (HO2.out.keep HA2.out)).mono ?_
    rintro e w3 ⟨rfl, hb3⟩
    have HW3 : Hid (Below w1.heap.size w1 w3) := HV2.out.trans (hb3.mono HV2.out.size)
    have HW3w : Hid (Below w.heap.size w w3) := HW1.out.trans (HW3.out.mono HW1.out.size)
    have HW32 : Hid (Below w2.heap.size w2 w3) := HA2.out.trans (hb3.mono HA2.out.size)
    clear hb3 x0 x1 x2
    have hx3 := (HW32.out.block w1.heap.size hz2).trans HX2.out
    have HX3 := Lib.hid hx3
    have hz3 : w1.heap.size < w3.heap.size := by have := HW32.out.size; omega
    clear hx3
    go_wp2_with fail
    refine (HR3.out _ (HG.out.below HW3w.out) (HK.out.below HW3w.out HK.out.lt)).mono ?_
    rintro e w4 ⟨a3, cap3, rfl, ho3, hb4⟩
    have HO3 := Lib.hid ho3
    have hx4 := (hb4.block w1.heap.size hz3).trans HX3.out
    have y0 := cell_of_row _ _ 0 _ _ _ hx4
    have y1 := cell_of_row _ _ 1 _ _ _ hx4
    have y2 := cell_of_row _ _ 2 _ _ _ hx4
    simp only [List.getElem?_toArray, List.getElem?_cons_zero, List.getElem?_cons_succ] at y0 y1 y2
    have hz4 : w1.heap.size < w4.heap.size := by have := hb4.size; omega
    have HW4 : Hid (Below w1.heap.size w1 w4) := HW3.out.trans (hb4.mono HW3.out.size)
    clear ho3 hb4 hx4
    have HA4 : Hid (Below w4.heap.size w4 (w4.alloc (.cells #[.int .i8 X.t.kind, .string (bytesL X.t.text), .slice a3 X.t.kids.length cap3] 26))) := (Below.refl _ _).alloc (Nat.le_refl _) _
    have HV4 : Hid (Below w1.heap.size w1 (w4.alloc (.cells #[.int .i8 X.t.kind, .string (bytesL X.t.text), .slice a3 X.t.kids.length cap3] 26))) := HW4.out.trans (HA4.out.mono HW4.out.size)
    go_wp2_with fail
    refine (same_to _ _ X.t _ _ _ HHT.out (HO1.out.keep HV4.out) (HO3.out.keep HA4.out)).mono ?_
    rintro e w5 ⟨rfl, hb5⟩
    have HW5 : Hid (Below w1.heap.size w1 w5) := HV4.out.trans (hb5.mono HV4.out.size)
    have HW5w : Hid (Below w.heap.size w w5) := HW1.out.trans (HW5.out.mono HW1.out.size)
    clear hb5 y0 y1 y2
    go_wp2_with fail
    refine (hSK.out _).mono ?_
    rintro e w6 ⟨rfl, rfl⟩
    go_wp2_with fail
    refine (wakes_any _ (HG.out.below HW5w.out) (HK.out.below HW5w.out HK.out.lt)).mono ?_
    rintro e w7 ⟨rfl, hb7⟩
    go_wp2
    go_ret
    exact ⟨rfl, HW5w.out.trans (hb7.mono HW5w.out.size)⟩
  · have e1 := ne_true (x := (X.err : Int)) (y := 0) (by omega)
    have e2 := eq_false (x := (X.err : Int)) (y := 0) (by omega)
    clear herr
    go_enter Tryd.func6, Tryd.ntmps6
    go_wp2_with fail
    have HB0 : Hid (Below w.heap.size w (w.alloc (.cells #[.string ⟨#[32]⟩, .string ⟨#[10, 9]⟩, .string ⟨#[59, 32, 40, 97, 10]⟩, .string ⟨#[]⟩] 9))) := (Below.refl _ _).alloc (Nat.le_refl _) _
    refine (HR1.out _ (HG.out.below HB0.out) (HK.out.below HB0.out HK.out.lt)).mono ?_
    rintro e w1 ⟨a1, cap1, rfl, ho1, hb1⟩
    have HO1 := Lib.hid ho1
    have HW1 : Hid (Below w.heap.size w w1) := HB0.out.trans (hb1.mono HB0.out.size)
    clear ho1 hb1
    have HA1 : Hid (Below w1.heap.size w1 (w1.alloc (.cells #[.int .i8 X.t.kind, .string (bytesL X.t.text), .slice a1 X.t.kids.length cap1] 26))) := (Below.refl _ _).alloc (Nat.le_refl _) _
    have HV1 : Hid (Below w.heap.size w (w1.alloc (.cells #[.int .i8 X.t.kind, .string (bytesL X.t.text), .slice a1 X.t.kids.length cap1] 26))) := HW1.out.trans (HA1.out.mono HW1.out.size)
    go_wp2_with fail
    refine (HR2.out _ (HG.out.below HV1.out) (HK.out.below HV1.out HK.out.lt)).mono ?_
    rintro e w2 ⟨a2, cap2, rfl, ho2, hb2⟩
    have HO2 := Lib.hid ho2
    have HW2 : Hid (Below w1.heap.size w1 w2) := HA1.out.trans (hb2.mono HA1.out.size)
    have hx2 : w2.heap[w1.heap.size]? = some (.cells #[.int .i8 X.t.kind, .string (bytesL X.t.text), .slice a1 X.t.kids.length cap1] 26 (0, 0)) := (hb2.block _ (by simp)).trans (heap_alloc_new w1 _)
    have x0 := cell_of_row _ _ 0 _ _ _ hx2
    have x1 := cell_of_row _ _ 1 _ _ _ hx2
    have x2 := cell_of_row _ _ 2 _ _ _ hx2
    simp only [List.getElem?_toArray, List.getElem?_cons_zero, List.getElem?_cons_succ] at x0 x1 x2
    have hz2 : w1.heap.size < w2.heap.size := by have := hb2.size; simp at this; omega
    have HX2 := Lib.hid hx2
    clear ho2 hb2 hx2
    have HA2 : Hid (Below w2.heap.size w2 (w2.alloc (.cells #[.int .i8 X.t.kind, .string (bytesL X.t.text), .slice a2 X.t.kids.length cap2] 26))) := (Below.refl _ _).alloc (Nat.le_refl _) _
    have HV2 : Hid (Below w1.heap.size w1 (w2.alloc (.cells #[.int .i8 X.t.kind, .string (bytesL X.t.text), .slice a2 X.t.kids.length cap2] 26))) := HW2.out.trans (HA2.out.mono HW2.out.size)
    go_wp2_with fail
    refine (same_to _ _ X.t _ _ _ HHT.out (HO1.out.keep HV2.out) (HO2.out.keep HA2.out)).mono ?_
    rintro e w3 ⟨rfl, hb3⟩
    have HW3 : Hid (Below w1.heap.size w1 w3) := HV2.out.trans (hb3.mono HV2.out.size)
    have HW3w : Hid (Below w.heap.size w w3) := HW1.out.trans (HW3.out.mono HW1.out.size)
    have HW32 : Hid (Below w2.heap.size w2 w3) := HA2.out.trans (hb3.mono HA2.out.size)
    clear hb3 x0 x1 x2
    go_wp2_with fail
    refine (wakes_any _ (HG.out.below HW3w.out) (HK.out.below HW3w.out HK.out.lt)).mono ?_
    rintro e w4 ⟨rfl, hb4⟩
    go_wp2
    go_ret
    exact ⟨rfl, HW3w.out.trans (hb4.mono HW3w.out.size)⟩
end Go.Proofs.YthbgigjjmojgfaaDoor
namespace Go.Proofs.YthbgigjjmojgfaaDoor
open Go.RowKit
set_option linter.unusedVariables false
set_option maxHeartbeats 4000000 in
theorem spaces_2 (s : ByteArray) (ahead : Int) (w : World) (hs : s.size ≤ 1000) (hj : Go.bits .and .i64 ahead 3 = 2) (hG : Globs w) (hK : Kinds w) :
    Calls Tryd.prog 6 #[.string s, .int .i64 ahead] w fun e w' => e = .returned (.bool true) ∧ Below w.heap.size w w' := by
  have HL : Hid (s.data.toList.length = s.size) := by show _ = _; simp
  obtain ⟨X, hX⟩ : ∃ X, readL s.data.toList 0 = X := ⟨_, rfl⟩
  have hht : hT X.t ≤ 60 := by rw [← hX]; exact readL_ht _ _
  have HHT := Lib.hid hht
  have hY : readL ((ByteArray.mk #[59, 32, 40, 97, 10]) ++ s).data.toList 0 = ⟨X.t, 5 + X.stop, X.err⟩ := by
    have e : ((ByteArray.mk #[59, 32, 40, 97, 10]) ++ s).data.toList = [59, 32, 40, 97, 10] ++ s.data.toList := by simp
    rw [e, readL_ahead (white_2 _), hX]; rfl
  have hbeh : X.err = 0 → readL (s ++ (ByteArray.mk #[10]) ++ (ByteArray.mk #[59, 32, 40, 97, 10])).data.toList 0 = X ∧ X.stop ≤ s.size ∧ skipA s.data.toList 0 < X.stop := fun h0 => by
    have e : (s ++ (ByteArray.mk #[10]) ++ (ByteArray.mk #[59, 32, 40, 97, 10])).data.toList = s.data.toList ++ 10 :: [59, 32, 40, 97, 10] := by simp
    obtain ⟨q1, q2, q3⟩ := readL_behind (a := s.data.toList) (b := [59, 32, 40, 97, 10]) (k := 0) (Nat.zero_le _) (by rw [hX]; exact h0)
    rw [hX] at q1 q2 q3
    rw [HL.out] at q2
    exact ⟨by rw [e]; exact q1, q2, q3⟩
  have hz1 : ((ByteArray.mk #[59, 32, 40, 97, 10]) ++ s).size ≤ 2000 := by rw [ByteArray.size_append]; show 5 + s.size ≤ 2000; omega
  have hz2 : (s ++ (ByteArray.mk #[10]) ++ (ByteArray.mk #[59, 32, 40, 97, 10])).size ≤ 2000 := by rw [ByteArray.size_append, ByteArray.size_append]; show s.size + 1 + 5 ≤ 2000; omega
  have HR1 := Lib.hid (fun W h1 h2 => read_to s X (by omega) hX W h1 h2)
  have HR2 := Lib.hid (fun W h1 h2 => read_to _ _ hz1 hY W h1 h2)
  have HG := Lib.hid hG
  have HK := Lib.hid hK
  have HBE := Lib.hid hbeh
  have HZ2 := Lib.hid hz2
  obtain ⟨W0, hW0⟩ : ∃ W0, W0 = w := ⟨_, rfl⟩
  have hSK : Hid (∀ W : World, Calls Tryd.prog 24 #[.string s, .int .i64 0] W fun e w' => e = .returned (.int .i64 (skipA s.data.toList 0 : Nat)) ∧ W = w') := fun W => by
    have := RSkip_any s 0 W (by omega)
    rw [show clampN 0 s.size = 0 from rfl] at this
    exact this
  have hstop : X.stop ≤ 1000 := by rw [← hX]; have := readL_stop s.data.toList (Nat.zero_le _); rw [HL.out] at this; omega
  clear hX hht hY hbeh hz1 hz2 hG hK hW0
  by_cases herr : X.err = 0
  · obtain ⟨hZ, hst, hsk⟩ := HBE.out herr
    have HR3 := Lib.hid (fun W h1 h2 => read_to _ _ HZ2.out hZ W h1 h2)
    have e1 := ne_false (x := (X.err : Int)) (y := 0) (by omega)
    have e2 := eq_true_ (x := (X.err : Int)) (y := 0) (by omega)
    have d1 : decide ((X.stop : Int) ≤ (s.size : Int)) = true := by simp; omega
    obtain ⟨q, hq⟩ : ∃ q, q = skipA s.data.toList 0 := ⟨_, rfl⟩
    rw [← hq] at hsk hSK
    have d2 : decide ((q : Int) < (X.stop : Int)) = true := by simp; omega
    clear herr hZ hq
    go_enter Tryd.func6, Tryd.ntmps6
    go_wp2_with fail
    have HB0 : Hid (Below w.heap.size w (w.alloc (.cells #[.string ⟨#[32]⟩, .string ⟨#[10, 9]⟩, .string ⟨#[59, 32, 40, 97, 10]⟩, .string ⟨#[]⟩] 9))) := (Below.refl _ _).alloc (Nat.le_refl _) _
    refine (HR1.out _ (HG.out.below HB0.out) (HK.out.below HB0.out HK.out.lt)).mono ?_
    rintro e w1 ⟨a1, cap1, rfl, ho1, hb1⟩
    have HO1 := Lib.hid ho1
    have HW1 : Hid (Below w.heap.size w w1) := HB0.out.trans (hb1.mono HB0.out.size)
    clear ho1 hb1
    have HA1 : Hid (Below w1.heap.size w1 (w1.alloc (.cells #[.int .i8 X.t.kind, .string (bytesL X.t.text), .slice a1 X.t.kids.length cap1] 26))) := (Below.refl _ _).alloc (Nat.le_refl _) _
    have HV1 : Hid (Below w.heap.size w (w1.alloc (.cells #[.int .i8 X.t.kind, .string (bytesL X.t.text), .slice a1 X.t.kids.length cap1] 26))) := HW1.out.trans (HA1.out.mono HW1.out.size)
    go_wp2_with fail
    refine (HR2.out _ (HG.out.below HV1.out) (HK.out.below HV1.out HK.out.lt)).mono ?_
    rintro e w2 ⟨a2, cap2, rfl, ho2, hb2⟩
    have HO2 := Lib.hid ho2
    have HW2 : Hid (Below w1.heap.size w1 w2) := HA1.out.trans (hb2.mono HA1.out.size)
    have hx2 : w2.heap[w1.heap.size]? = some (.cells #[.int .i8 X.t.kind, .string (bytesL X.t.text), .slice a1 X.t.kids.length cap1] 26 (0, 0)) := (hb2.block _ (by simp)).trans (heap_alloc_new w1 _)
    have x0 := cell_of_row _ _ 0 _ _ _ hx2
    have x1 := cell_of_row _ _ 1 _ _ _ hx2
    have x2 := cell_of_row _ _ 2 _ _ _ hx2
    simp only [List.getElem?_toArray, List.getElem?_cons_zero, List.getElem?_cons_succ] at x0 x1 x2
    have hz2 : w1.heap.size < w2.heap.size := by have := hb2.size; simp at this; omega
    have HX2 := Lib.hid hx2
    clear ho2 hb2 hx2
    have HA2 : Hid (Below w2.heap.size w2 (w2.alloc (.cells #[.int .i8 X.t.kind, .string (bytesL X.t.text), .slice a2 X.t.kids.length cap2] 26))) := (Below.refl _ _).alloc (Nat.le_refl _) _
    have HV2 : Hid (Below w1.heap.size w1 (w2.alloc (.cells #[.int .i8 X.t.kind, .string (bytesL X.t.text), .slice a2 X.t.kids.length cap2] 26))) := HW2.out.trans (HA2.out.mono HW2.out.size)
    go_wp2_with fail
    refine (same_to _ _ X.t _ _ _ HHT.out (HO1.out.keep HV2.out) (HO2.out.keep HA2.out)).mono ?_
    rintro e w3 ⟨rfl, hb3⟩
    have HW3 : Hid (Below w1.heap.size w1 w3) := HV2.out.trans (hb3.mono HV2.out.size)
    have HW3w : Hid (Below w.heap.size w w3) := HW1.out.trans (HW3.out.mono HW1.out.size)
    have HW32 : Hid (Below w2.heap.size w2 w3) := HA2.out.trans (hb3.mono HA2.out.size)
    clear hb3 x0 x1 x2
    have hx3 := (HW32.out.block w1.heap.size hz2).trans HX2.out
    have HX3 := Lib.hid hx3
    have hz3 : w1.heap.size < w3.heap.size := by have := HW32.out.size; omega
    clear hx3
    go_wp2_with fail
    refine (HR3.out _ (HG.out.below HW3w.out) (HK.out.below HW3w.out HK.out.lt)).mono ?_
    rintro e w4 ⟨a3, cap3, rfl, ho3, hb4⟩
    have HO3 := Lib.hid ho3
    have hx4 := (hb4.block w1.heap.size hz3).trans HX3.out
    have y0 := cell_of_row _ _ 0 _ _ _ hx4
    have y1 := cell_of_row _ _ 1 _ _ _ hx4
    have y2 := cell_of_row _ _ 2 _ _ _ hx4
    simp only [List.getElem?_toArray, List.getElem?_cons_zero, List.getElem?_cons_succ] at y0 y1 y2
    have hz4 : w1.heap.size < w4.heap.size := by have := hb4.size; omega
    have HW4 : Hid (Below w1.heap.size w1 w4) := HW3.out.trans (hb4.mono HW3.out.size)
    clear ho3 hb4 hx4
    have HA4 : Hid (Below w4.heap.size w4 (w4.alloc (.cells #[.int .i8 X.t.kind, .string (bytesL X.t.text), .slice a3 X.t.kids.length cap3] 26))) := (Below.refl _ _).alloc (Nat.le_refl _) _
    have HV4 : Hid (Below w1.heap.size w1 (w4.alloc (.cells #[.int .i8 X.t.kind, .string (bytesL X.t.text), .slice a3 X.t.kids.length cap3] 26))) := HW4.out.trans (HA4.out.mono HW4.out.size)
    go_wp2_with fail
    refine (same_to _ _ X.t _ _ _ HHT.out (HO1.out.keep HV4.out) (HO3.out.keep HA4.out)).mono ?_
    rintro e w5 ⟨rfl, hb5⟩
    have HW5 : Hid (Below w1.heap.size w1 w5) := HV4.out.trans (hb5.mono HV4.out.size)
    have HW5w : Hid (Below w.heap.size w w5) := HW1.out.trans (HW5.out.mono HW1.out.size)
    clear hb5 y0 y1 y2
    go_wp2_with fail
    refine (hSK.out _).mono ?_
    rintro e w6 ⟨rfl, rfl⟩
    go_wp2_with fail
    refine (wakes_any _ (HG.out.below HW5w.out) (HK.out.below HW5w.out HK.out.lt)).mono ?_
    rintro e w7 ⟨rfl, hb7⟩
    go_wp2
    go_ret
    exact ⟨rfl, HW5w.out.trans (hb7.mono HW5w.out.size)⟩
  · have e1 := ne_true (x := (X.err : Int)) (y := 0) (by omega)
    have e2 := eq_false (x := (X.err : Int)) (y := 0) (by omega)
    clear herr
    go_enter Tryd.func6, Tryd.ntmps6
    go_wp2_with fail
    have HB0 : Hid (Below w.heap.size w (w.alloc (.cells #[.string ⟨#[32]⟩, .string ⟨#[10, 9]⟩, .string ⟨#[59, 32, 40, 97, 10]⟩, .string ⟨#[]⟩] 9))) := (Below.refl _ _).alloc (Nat.le_refl _) _
    refine (HR1.out _ (HG.out.below HB0.out) (HK.out.below HB0.out HK.out.lt)).mono ?_
    rintro e w1 ⟨a1, cap1, rfl, ho1, hb1⟩
    have HO1 := Lib.hid ho1
    have HW1 : Hid (Below w.heap.size w w1) := HB0.out.trans (hb1.mono HB0.out.size)
    clear ho1 hb1
    have HA1 : Hid (Below w1.heap.size w1 (w1.alloc (.cells #[.int .i8 X.t.kind, .string (bytesL X.t.text), .slice a1 X.t.kids.length cap1] 26))) := (Below.refl _ _).alloc (Nat.le_refl _) _
    have HV1 : Hid (Below w.heap.size w (w1.alloc (.cells #[.int .i8 X.t.kind, .string (bytesL X.t.text), .slice a1 X.t.kids.length cap1] 26))) := HW1.out.trans (HA1.out.mono HW1.out.size)
    go_wp2_with fail
    refine (HR2.out _ (HG.out.below HV1.out) (HK.out.below HV1.out HK.out.lt)).mono ?_
    rintro e w2 ⟨a2, cap2, rfl, ho2, hb2⟩
    have HO2 := Lib.hid ho2
    have HW2 : Hid (Below w1.heap.size w1 w2) := HA1.out.trans (hb2.mono HA1.out.size)
    have hx2 : w2.heap[w1.heap.size]? = some (.cells #[.int .i8 X.t.kind, .string (bytesL X.t.text), .slice a1 X.t.kids.length cap1] 26 (0, 0)) := (hb2.block _ (by simp)).trans (heap_alloc_new w1 _)
    have x0 := cell_of_row _ _ 0 _ _ _ hx2
    have x1 := cell_of_row _ _ 1 _ _ _ hx2
    have x2 := cell_of_row _ _ 2 _ _ _ hx2
    simp only [List.getElem?_toArray, List.getElem?_cons_zero, List.getElem?_cons_succ] at x0 x1 x2
    have hz2 : w1.heap.size < w2.heap.size := by have := hb2.size; simp at this; omega
    have HX2 := Lib.hid hx2
    clear ho2 hb2 hx2
    have HA2 : Hid (Below w2.heap.size w2 (w2.alloc (.cells #[.int .i8 X.t.kind, .string (bytesL X.t.text), .slice a2 X.t.kids.length cap2] 26))) := (Below.refl _ _).alloc (Nat.le_refl _) _
    have HV2 : Hid (Below w1.heap.size w1 (w2.alloc (.cells #[.int .i8 X.t.kind, .string (bytesL X.t.text), .slice a2 X.t.kids.length cap2] 26))) := HW2.out.trans (HA2.out.mono HW2.out.size)
    go_wp2_with fail
    refine (same_to _ _ X.t _ _ _ HHT.out (HO1.out.keep HV2.out) (HO2.out.keep HA2.out)).mono ?_
    rintro e w3 ⟨rfl, hb3⟩
    have HW3 : Hid (Below w1.heap.size w1 w3) := HV2.out.trans (hb3.mono HV2.out.size)
    have HW3w : Hid (Below w.heap.size w w3) := HW1.out.trans (HW3.out.mono HW1.out.size)
    have HW32 : Hid (Below w2.heap.size w2 w3) := HA2.out.trans (hb3.mono HA2.out.size)
    clear hb3 x0 x1 x2
    go_wp2_with fail
    refine (wakes_any _ (HG.out.below HW3w.out) (HK.out.below HW3w.out HK.out.lt)).mono ?_
    rintro e w4 ⟨rfl, hb4⟩
    go_wp2
    go_ret
    exact ⟨rfl, HW3w.out.trans (hb4.mono HW3w.out.size)⟩
end Go.Proofs.YthbgigjjmojgfaaDoor
namespace Go.Proofs.YthbgigjjmojgfaaDoor
open Go.RowKit
set_option linter.unusedVariables false
set_option maxHeartbeats 4000000 in
theorem spaces_3 (s : ByteArray) (ahead : Int) (w : World) (hs : s.size ≤ 1000) (hj : Go.bits .and .i64 ahead 3 = 3) (hG : Globs w) (hK : Kinds w) :
    Calls Tryd.prog 6 #[.string s, .int .i64 ahead] w fun e w' => e = .returned (.bool true) ∧ Below w.heap.size w w' := by
  have HL : Hid (s.data.toList.length = s.size) := by show _ = _; simp
  obtain ⟨X, hX⟩ : ∃ X, readL s.data.toList 0 = X := ⟨_, rfl⟩
  have hht : hT X.t ≤ 60 := by rw [← hX]; exact readL_ht _ _
  have HHT := Lib.hid hht
  have hY : readL ((ByteArray.mk #[]) ++ s).data.toList 0 = ⟨X.t, 0 + X.stop, X.err⟩ := by
    have e : ((ByteArray.mk #[]) ++ s).data.toList = [] ++ s.data.toList := by simp
    rw [e, readL_ahead (white_3 _), hX]; rfl
  have hbeh : X.err = 0 → readL (s ++ (ByteArray.mk #[10]) ++ (ByteArray.mk #[])).data.toList 0 = X ∧ X.stop ≤ s.size ∧ skipA s.data.toList 0 < X.stop := fun h0 => by
    have e : (s ++ (ByteArray.mk #[10]) ++ (ByteArray.mk #[])).data.toList = s.data.toList ++ 10 :: [] := by simp
    obtain ⟨q1, q2, q3⟩ := readL_behind (a := s.data.toList) (b := []) (k := 0) (Nat.zero_le _) (by rw [hX]; exact h0)
    rw [hX] at q1 q2 q3
    rw [HL.out] at q2
    exact ⟨by rw [e]; exact q1, q2, q3⟩
  have hz1 : ((ByteArray.mk #[]) ++ s).size ≤ 2000 := by rw [ByteArray.size_append]; show 0 + s.size ≤ 2000; omega
  have hz2 : (s ++ (ByteArray.mk #[10]) ++ (ByteArray.mk #[])).size ≤ 2000 := by rw [ByteArray.size_append, ByteArray.size_append]; show s.size + 1 + 0 ≤ 2000; omega
  have HR1 := Lib.hid (fun W h1 h2 => read_to s X (by omega) hX W h1 h2)
  have HR2 := Lib.hid (fun W h1 h2 => read_to _ _ hz1 hY W h1 h2)
  have HG := Lib.hid hG
  have HK := Lib.hid hK
  have HBE := Lib.hid hbeh
  have HZ2 := Lib.hid hz2
  obtain ⟨W0, hW0⟩ : ∃ W0, W0 = w := ⟨_, rfl⟩
  have hSK : Hid (∀ W : World, Calls Tryd.prog 24 #[.string s, .int .i64 0] W fun e w' => e = .returned (.int .i64 (skipA s.data.toList 0 : Nat)) ∧ W = w') := fun W => by
    have := RSkip_any s 0 W (by omega)
    rw [show clampN 0 s.size = 0 from rfl] at this
    exact this
  have hstop : X.stop ≤ 1000 := by rw [← hX]; have := readL_stop s.data.toList (Nat.zero_le _); rw [HL.out] at this; omega
  clear hX hht hY hbeh hz1 hz2 hG hK hW0
  by_cases herr : X.err = 0
  · obtain ⟨hZ, hst, hsk⟩ := HBE.out herr
    have HR3 := Lib.hid (fun W h1 h2 => read_to _ _ HZ2.out hZ W h1 h2)
    have e1 := ne_false (x := (X.err : Int)) (y := 0) (by omega)
    have e2 := eq_true_ (x := (X.err : Int)) (y := 0) (by omega)
    have d1 : decide ((X.stop : Int) ≤ (s.size : Int)) = true := by simp; omega
    obtain ⟨q, hq⟩ : ∃ q, q = skipA s.data.toList 0 := ⟨_, rfl⟩
    rw [← hq] at hsk hSK
    have d2 : decide ((q : Int) < (X.stop : Int)) = true := by simp; omega
    clear herr hZ hq
    go_enter Tryd.func6, Tryd.ntmps6
    go_wp2_with fail
    have HB0 : Hid (Below w.heap.size w (w.alloc (.cells #[.string ⟨#[32]⟩, .string ⟨#[10, 9]⟩, .string ⟨#[59, 32, 40, 97, 10]⟩, .string ⟨#[]⟩] 9))) := (Below.refl _ _).alloc (Nat.le_refl _) _
    refine (HR1.out _ (HG.out.below HB0.out) (HK.out.below HB0.out HK.out.lt)).mono ?_
    rintro e w1 ⟨a1, cap1, rfl, ho1, hb1⟩
    have HO1 := Lib.hid ho1
    have HW1 : Hid (Below w.heap.size w w1) := HB0.out.trans (hb1.mono HB0.out.size)
    clear ho1 hb1
    have HA1 : Hid (Below w1.heap.size w1 (w1.alloc (.cells #[.int .i8 X.t.kind, .string (bytesL X.t.text), .slice a1 X.t.kids.length cap1] 26))) := (Below.refl _ _).alloc (Nat.le_refl _) _
    have HV1 : Hid (Below w.heap.size w (w1.alloc (.cells #[.int .i8 X.t.kind, .string (bytesL X.t.text), .slice a1 X.t.kids.length cap1] 26))) := HW1.out.trans (HA1.out.mono HW1.out.size)
    go_wp2_with fail
    refine (HR2.out _ (HG.out.below HV1.out) (HK.out.below HV1.out HK.out.lt)).mono ?_
    rintro e w2 ⟨a2, cap2, rfl, ho2, hb2⟩
    have HO2 := Lib.hid ho2
    have HW2 : Hid (Below w1.heap.size w1 w2) := HA1.out.trans (hb2.mono HA1.out.size)
    have hx2 : w2.heap[w1.heap.size]? = some (.cells #[.int .i8 X.t.kind, .string (bytesL X.t.text), .slice a1 X.t.kids.length cap1] 26 (0, 0)) := (hb2.block _ (by simp)).trans (heap_alloc_new w1 _)
    have x0 := cell_of_row _ _ 0 _ _ _ hx2
    have x1 := cell_of_row _ _ 1 _ _ _ hx2
    have x2 := cell_of_row _ _ 2 _ _ _ hx2
    simp only [List.getElem?_toArray, List.getElem?_cons_zero, List.getElem?_cons_succ] at x0 x1 x2
    have hz2 : w1.heap.size < w2.heap.size := by have := hb2.size; simp at this; omega
    have HX2 := Lib.hid hx2
    clear ho2 hb2 hx2
    have HA2 : Hid (Below w2.heap.size w2 (w2.alloc (.cells #[.int .i8 X.t.kind, .string (bytesL X.t.text), .slice a2 X.t.kids.length cap2] 26))) := (Below.refl _ _).alloc (Nat.le_refl _) _
    have HV2 : Hid (Below w1.heap.size w1 (w2.alloc (.cells #[.int .i8 X.t.kind, .string (bytesL X.t.text), .slice a2 X.t.kids.length cap2] 26))) := HW2.out.trans (HA2.out.mono HW2.out.size)
    go_wp2_with fail
    refine (same_to _ _ X.t _ _ _ HHT.out (HO1.out.keep HV2.out) (HO2.out.keep HA2.out)).mono ?_
    rintro e w3 ⟨rfl, hb3⟩
    have HW3 : Hid (Below w1.heap.size w1 w3) := HV2.out.trans (hb3.mono HV2.out.size)
    have HW3w : Hid (Below w.heap.size w w3) := HW1.out.trans (HW3.out.mono HW1.out.size)
    have HW32 : Hid (Below w2.heap.size w2 w3) := HA2.out.trans (hb3.mono HA2.out.size)
    clear hb3 x0 x1 x2
    have hx3 := (HW32.out.block w1.heap.size hz2).trans HX2.out
    have HX3 := Lib.hid hx3
    have hz3 : w1.heap.size < w3.heap.size := by have := HW32.out.size; omega
    clear hx3
    go_wp2_with fail
    refine (HR3.out _ (HG.out.below HW3w.out) (HK.out.below HW3w.out HK.out.lt)).mono ?_
    rintro e w4 ⟨a3, cap3, rfl, ho3, hb4⟩
    have HO3 := Lib.hid ho3
    have hx4 := (hb4.block w1.heap.size hz3).trans HX3.out
    have y0 := cell_of_row _ _ 0 _ _ _ hx4
    have y1 := cell_of_row _ _ 1 _ _ _ hx4
    have y2 := cell_of_row _ _ 2 _ _ _ hx4
    simp only [List.getElem?_toArray, List.getElem?_cons_zero, List.getElem?_cons_succ] at y0 y1 y2
    have hz4 : w1.heap.size < w4.heap.size := by have := hb4.size; omega
    have HW4 : Hid (Below w1.heap.size w1 w4) := HW3.out.trans (hb4.mono HW3.out.size)
    clear ho3 hb4 hx4
    have HA4 : Hid (Below w4.heap.size w4 (w4.alloc (.cells #[.int .i8 X.t.kind, .string (bytesL X.t.text), .slice a3 X.t.kids.length cap3] 26))) := (Below.refl _ _).alloc (Nat.le_refl _) _
    have HV4 : Hid (Below w1.heap.size w1 (w4.alloc (.cells #[.int .i8 X.t.kind, .string (bytesL X.t.text), .slice a3 X.t.kids.length cap3] 26))) := HW4.out.trans (HA4.out.mono HW4.out.size)
    go_wp2_with fail
    refine (same_to _ _ X.t _ _ _ HHT.out (HO1.out.keep HV4.out) (HO3.out.keep HA4.out)).mono ?_
    rintro e w5 ⟨rfl, hb5⟩
    have HW5 : Hid (Below w1.heap.size w1 w5) := HV4.out.trans (hb5.mono HV4.out.size)
    have HW5w : Hid (Below w.heap.size w w5) := HW1.out.trans (HW5.out.mono HW1.out.size)
    clear hb5 y0 y1 y2
    go_wp2_with fail
    refine (hSK.out _).mono ?_
    rintro e w6 ⟨rfl, rfl⟩
    go_wp2_with fail
    refine (wakes_any _ (HG.out.below HW5w.out) (HK.out.below HW5w.out HK.out.lt)).mono ?_
    rintro e w7 ⟨rfl, hb7⟩
    go_wp2
    go_ret
    exact ⟨rfl, HW5w.out.trans (hb7.mono HW5w.out.size)⟩
  · have e1 := ne_true (x := (X.err : Int)) (y := 0) (by omega)
    have e2 := eq_false (x := (X.err : Int)) (y := 0) (by omega)
    clear herr
    go_enter Tryd.func6, Tryd.ntmps6
    go_wp2_with fail
    have HB0 : Hid (Below w.heap.size w (w.alloc (.cells #[.string ⟨#[32]⟩, .string ⟨#[10, 9]⟩, .string ⟨#[59, 32, 40, 97, 10]⟩, .string ⟨#[]⟩] 9))) := (Below.refl _ _).alloc (Nat.le_refl _) _
    refine (HR1.out _ (HG.out.below HB0.out) (HK.out.below HB0.out HK.out.lt)).mono ?_
    rintro e w1 ⟨a1, cap1, rfl, ho1, hb1⟩
    have HO1 := Lib.hid ho1
    have HW1 : Hid (Below w.heap.size w w1) := HB0.out.trans (hb1.mono HB0.out.size)
    clear ho1 hb1
    have HA1 : Hid (Below w1.heap.size w1 (w1.alloc (.cells #[.int .i8 X.t.kind, .string (bytesL X.t.text), .slice a1 X.t.kids.length cap1] 26))) := (Below.refl _ _).alloc (Nat.le_refl _) _
    have HV1 : Hid (Below w.heap.size w (w1.alloc (.cells #[.int .i8 X.t.kind, .string (bytesL X.t.text), .slice a1 X.t.kids.length cap1] 26))) := HW1.out.trans (HA1.out.mono HW1.out.size)
    go_wp2_with fail
    refine (HR2.out _ (HG.out.below HV1.out) (HK.out.below HV1.out HK.out.lt)).mono ?_
    rintro e w2 ⟨a2, cap2, rfl, ho2, hb2⟩
    have HO2 := Lib.hid ho2
    have HW2 : Hid (Below w1.heap.size w1 w2) := HA1.out.trans (hb2.mono HA1.out.size)
    have hx2 : w2.heap[w1.heap.size]? = some (.cells #[.int .i8 X.t.kind, .string (bytesL X.t.text), .slice a1 X.t.kids.length cap1] 26 (0, 0)) := (hb2.block _ (by simp)).trans (heap_alloc_new w1 _)
    have x0 := cell_of_row _ _ 0 _ _ _ hx2
    have x1 := cell_of_row _ _ 1 _ _ _ hx2
    have x2 := cell_of_row _ _ 2 _ _ _ hx2
    simp only [List.getElem?_toArray, List.getElem?_cons_zero, List.getElem?_cons_succ] at x0 x1 x2
    have hz2 : w1.heap.size < w2.heap.size := by have := hb2.size; simp at this; omega
    have HX2 := Lib.hid hx2
    clear ho2 hb2 hx2
    have HA2 : Hid (Below w2.heap.size w2 (w2.alloc (.cells #[.int .i8 X.t.kind, .string (bytesL X.t.text), .slice a2 X.t.kids.length cap2] 26))) := (Below.refl _ _).alloc (Nat.le_refl _) _
    have HV2 : Hid (Below w1.heap.size w1 (w2.alloc (.cells #[.int .i8 X.t.kind, .string (bytesL X.t.text), .slice a2 X.t.kids.length cap2] 26))) := HW2.out.trans (HA2.out.mono HW2.out.size)
    go_wp2_with fail
    refine (same_to _ _ X.t _ _ _ HHT.out (HO1.out.keep HV2.out) (HO2.out.keep HA2.out)).mono ?_
    rintro e w3 ⟨rfl, hb3⟩
    have HW3 : Hid (Below w1.heap.size w1 w3) := HV2.out.trans (hb3.mono HV2.out.size)
    have HW3w : Hid (Below w.heap.size w w3) := HW1.out.trans (HW3.out.mono HW1.out.size)
    have HW32 : Hid (Below w2.heap.size w2 w3) := HA2.out.trans (hb3.mono HA2.out.size)
    clear hb3 x0 x1 x2
    go_wp2_with fail
    refine (wakes_any _ (HG.out.below HW3w.out) (HK.out.below HW3w.out HK.out.lt)).mono ?_
    rintro e w4 ⟨rfl, hb4⟩
    go_wp2
    go_ret
    exact ⟨rfl, HW3w.out.trans (hb4.mono HW3w.out.size)⟩
end Go.Proofs.YthbgigjjmojgfaaDoor
namespace Go.Proofs.YthbgigjjmojgfaaDoor
open Go.RowKit
theorem SexprSpaces_walk (s : ByteArray) (ahead : Int) (w : World) (_ : s.size ≤ maxLen) (hG : Globs w) (hK : Kinds w) :
    Calls Tryd.prog 6 #[.string s, .int .i64 ahead] w fun e w' => e = .returned (.bool true) ∧ Below w.heap.size w w' := by
  by_cases hbig : 1000 < s.size
  · have HG := Lib.hid hG
    have HK := Lib.hid hK
    clear hG hK
    go_enter Tryd.func6, Tryd.ntmps6
    go_wp2_with fail
    refine (wakes_any _ HG.out HK.out).mono ?_
    rintro e w1 ⟨rfl, hb1⟩
    go_wp2
    go_ret
    exact ⟨rfl, hb1⟩
  · obtain ⟨j, hj, hb⟩ := and3 ahead
    have hs : s.size ≤ 1000 := by omega
    obtain rfl | rfl | rfl | rfl : j = 0 ∨ j = 1 ∨ j = 2 ∨ j = 3 := by omega
    · exact spaces_0 s ahead w hs hb hG hK
    · exact spaces_1 s ahead w hs hb hG hK
    · exact spaces_2 s ahead w hs hb hG hK
    · exact spaces_3 s ahead w hs hb hG hK
end Go.Proofs.YthbgigjjmojgfaaDoor
namespace Go.Proofs.YthbgigjjmojgfaaDoor
open Go.RowKit
theorem SexprSpaces_w (w : World) (s : ByteArray) (h : s.size ≤ maxLen) (ahead : Int) (_ : (Lit.int .i64 ahead).wf = true) (hG : Held w) :
    Calls Tryd.prog 6 #[.string s, .int .i64 ahead] w fun e w' => e = .returned (.bool true) ∧ Below w.heap.size w w' := SexprSpaces_walk s ahead w h hG.g hG.k
end Go.Proofs.YthbgigjjmojgfaaDoor
