/- The function Text of package num and of the document gives the numeral of a number that may be. -/
import Derived.Test.YtgbpepkhdjcnbaaNumParse
namespace Go.Proofs.Ytgbpepkhdjcnbaa
open Go.RowKit
theorem digit_put (A B p : Nat) (d : Int) (v : Value) (w : World) (hab : A ≠ B) (h2 : p < 19) (d1 : 0 ≤ d) (d2 : d ≤ 9)
    (hc : w.cell? ⟨A, 0, none⟩ = some (.int .i64 ((p : Int) + 1))) (hf : w.frozen? ⟨A, 0, none⟩ = false)
    (hb : w.cell? ⟨B, p, none⟩ = some v) (hg : w.frozen? ⟨B, p, none⟩ = false) :
    Calls Try.prog 25 #[.int .u64 d, .pointer (some ⟨A, 0, none⟩), .pointer (some ⟨B, 0, none⟩)] w fun e w' => e = .returned (.tuple #[]) ∧ (w.setCell ⟨A, 0, none⟩ (.int .i64 p)).setCell ⟨B, p, none⟩ (.int .u8 (48 + d)) = w' := by
  go_enter Try.func25, Try.ntmps25
  go_wp2
  go_end0
  exact ⟨rfl, rfl⟩
/-- What the loop over n's digits keeps: block B + 1 holds the place, block B the digits written so far. -/
def NumInv (n : Nat) (B : Nat) (cur : Nat) (w : World) : Prop :=
  ∃ (p : Nat) (t : List UInt8) (cs : Array Value), p + t.length = 19 ∧ 0 < t.length ∧ dec n = decP cur ++ t ∧ cs.size = 19 ∧
    w.heap[B]? = some (.cells cs 45 (0, 0)) ∧ w.heap[B + 1]? = some (.cells #[.int .i64 p] 3 (0, 0)) ∧ ∀ j (h : j < t.length), cs[p + j]? = some (.int .u8 (t[j].toNat : Int))
theorem blk_cell {w : World} {b : Nat} {cs : Array Value} {t : TypeId} (h : w.heap[b]? = some (.cells cs t (0, 0))) (i : Nat) : w.cell? ⟨b, i, none⟩ = cs[i]? := cell_of_row w b i cs t (0, 0) h
theorem blk_free {w : World} {b : Nat} {cs : Array Value} {t : TypeId} (h : w.heap[b]? = some (.cells cs t (0, 0))) (i : Nat) : w.frozen? ⟨b, i, none⟩ = false := by simp [World.frozen?, h]
theorem blk_set {w : World} {b : Nat} {cs : Array Value} {t : TypeId} (h : w.heap[b]? = some (.cells cs t (0, 0))) (i : Nat) (u : Value) : (w.setCell ⟨b, i, none⟩ u).heap[b]? = some (.cells (cs.setIfInBounds i u) t (0, 0)) := by
  simp [World.setCell, Array.getElem?_modify, h]
theorem blk_far {w : World} {b : Nat} {o : Option Obj} (h : w.heap[b]? = o) {p : Addr} (hp : b ≠ p.block) (u : Value) : (w.setCell p u).heap[b]? = o := (Below.heap_setCell w p u b hp).trans h
theorem num_step {n B cur : Nat} {w : World} (hn : n ≤ 4611686018427387904) (h : NumInv n B cur w) (hbig : 10 ≤ cur) :
    ∃ (q : Nat) (v : Value), q < 19 ∧ w.cell? ⟨B + 1, 0, none⟩ = some (.int .i64 ((q : Int) + 1)) ∧ w.frozen? ⟨B + 1, 0, none⟩ = false ∧ w.cell? ⟨B, q, none⟩ = some v ∧ w.frozen? ⟨B, q, none⟩ = false ∧
      NumInv n B (cur / 10) ((w.setCell ⟨B + 1, 0, none⟩ (.int .i64 q)).setCell ⟨B, q, none⟩ (.int .u8 (48 + (cur : Int) / 10 % 10))) := by
  obtain ⟨p, t, cs, hp, ht, hdec, hcs, hB, hA, hcells⟩ := h
  have hl : (dec n).length ≤ 19 := dec_length 18 n (by omega)
  rw [hdec, decP_big hbig, List.length_append] at hl
  have hpos := dec_pos (cur / 10)
  obtain ⟨q, rfl⟩ : ∃ q, p = q + 1 := ⟨p - 1, by omega⟩
  have hq : q < cs.size := by omega
  refine ⟨q, cs[q], by omega, by simpa using cell_of_one hA, free_of_one hA, by rw [blk_cell hB, Array.getElem?_eq_getElem hq], blk_free hB q, ?_⟩
  refine ⟨q, dig (cur / 10) :: t, cs.setIfInBounds q (.int .u8 (48 + (cur : Int) / 10 % 10)), by simp; omega, by simp, ?_, by simpa using hcs, ?_, ?_, ?_⟩
  · rw [hdec, decP_big hbig, dec_eq (cur / 10)]; simp
  · exact blk_set (blk_far hB (p := ⟨B + 1, 0, none⟩) (by simp) _) q _
  · exact blk_far (one_setCell hA) (p := ⟨B, q, none⟩) (by simp) _
  · intro j hj
    cases j with
    | zero =>
      rw [Nat.add_zero, Array.getElem?_setIfInBounds_self_of_lt (by simpa using hq)]
      simp only [List.getElem_cons_zero]
      rw [digit_toNat]
      congr 2
    | succ j =>
      have hj' : j < t.length := by simpa using hj
      rw [Array.getElem?_setIfInBounds_ne (by omega)]
      simp only [List.getElem_cons_succ]
      rw [← hcells j hj']
      congr 1
      omega
theorem arr_under : Try.prog.underlying 45 = some (.array (Try.prog.arrayLen 45) (Try.prog.elem 45)) := by kernel_rfl
theorem arr_len : Try.prog.arrayLen 45 = 19 := by kernel_rfl
theorem arr_size (w : World) : (sizeOf (Try.prog.elem 45)).run Try.prog w = .ok 1 w := by kernel_rfl
theorem arr_slice (B p : Nat) (w : World) (hp : p < 19) :
    (Instr.sliceAt 45 (.pointer (some ⟨B, 0, none⟩)) (some (.int .i64 (p : Int))) none none).run Try.prog w = .ok (.slice (some ⟨B, p, none⟩) (19 - p) (19 - p)) w := by
  rw [run_sliceAt_array_l w 45 ⟨B, 0, none⟩ arr_under .i64 p (by omega) (by rw [arr_len]; omega), arr_size]
  simp only [Result.andThen, slicedAt, arr_len, Int.toNat_natCast, Nat.mul_one]
  rw [if_neg (by omega)]
  have : (⟨B, 0, none⟩ : Addr).add p = ⟨B, p, none⟩ := by unfold Addr.add; split <;> simp_all
  rw [this]
theorem num_done {n B cur : Nat} {w : World} (h : NumInv n B cur w) (hs : ¬ 10 ≤ cur) :
    ∃ p : Nat, p < 19 ∧ w.cell? ⟨B + 1, 0, none⟩ = some (.int .i64 (p : Int)) ∧ (convert 43 9 (.slice (some ⟨B, p, none⟩) (19 - p) (19 - p))).run Try.prog w = .ok (.string ⟨(dec n).toArray⟩) w := by
  obtain ⟨p, t, cs, hp, ht, hdec, hcs, hB, hA, hcells⟩ := h
  refine ⟨p, by omega, cell_of_one hA, ?_⟩
  rw [decP_small (by omega), List.nil_append] at hdec
  rw [hdec, show 19 - p = t.length from by omega]
  refine run_convert_bytes_back w 43 9 5 ⟨B, p, none⟩ t.length t Try.underlying43 Try.underlying5 Try.underlying9 fun j hj => ?_
  have : (⟨B, p, none⟩ : Addr).add j = ⟨B, p + j, none⟩ := by unfold Addr.add; split <;> simp_all
  rw [this, blk_cell hB, hcells j hj]
/-- The nineteen places behind the first digit. -/
def row19 (n : Nat) : Array Value := #[.int .u8 0, .int .u8 0, .int .u8 0, .int .u8 0, .int .u8 0, .int .u8 0, .int .u8 0, .int .u8 0, .int .u8 0, .int .u8 0, .int .u8 0, .int .u8 0, .int .u8 0, .int .u8 0, .int .u8 0, .int .u8 0, .int .u8 0, .int .u8 0, .int .u8 (48 + (n : Int) % 10)]
theorem num_start (n : Nat) (w : World) : NumInv n w.heap.size n ((w.alloc (.cells (row19 n) 45)).alloc (.cells #[.int .i64 18] 3)) := by
  refine ⟨18, [dig n], row19 n, by simp, by simp, dec_eq n, rfl, (Below.heap_alloc _ _ _ (by simp)).trans (heap_alloc_new w _), ?_, ?_⟩
  · have := heap_alloc_new (w.alloc (.cells (row19 n) 45)) (.cells #[.int .i64 18] 3)
    simpa using this
  · intro j hj
    obtain rfl : j = 0 := by simpa using hj
    simp [digit_toNat, row19]
theorem numeral_any (n : Nat) (w : World) (h2 : n ≤ 4611686018427387904) :
    Calls Try.prog 24 #[.int .u64 n] w fun e w' => e = .returned (.string ⟨(dec n).toArray⟩) ∧ Below w.heap.size w w' := by
  go_enter Try.func24, Try.ntmps24
  go_wp2_with (go_at_call 25; refine (digit_put _ _ 18 _ (.int .u8 0) _ (by omega) (by omega) (by omega) (by omega) (by simp) (by simp) (by simp) (by simp)).mono ?_; rintro e w' ⟨rfl, rfl⟩)
  go_loopw [0] (fun c wr => ∃ cur : Nat, cur ≤ n ∧ c = .int .u64 cur ∧ NumInv n w.heap.size cur wr ∧ Below w.heap.size w wr) (fun c _ => (intOf c).toNat)
  case atStart =>
    refine ⟨n, Nat.le_refl _, rfl, ?_, ?_⟩
    · exact num_start n w
    · exact ((Below.refl _ _).alloc (Nat.le_refl _) _).alloc (by simp) _
  case round =>
    obtain ⟨cur, hcur, rfl, hinv, hbel⟩ := hrel
    have HI := Lib.hid hinv
    clear hinv
    by_cases hbig : 10 ≤ cur
    · obtain ⟨q, v, hq, c1, f1, c2, f2, hnext⟩ := num_step h2 HI.out hbig
      have HX := Lib.hid hnext
      clear hnext
      go_wp2_with (go_at_call 25; refine (digit_put _ _ q _ v _ (by omega) hq (by omega) (by omega) c1 f1 c2 f2).mono ?_; rintro e w' ⟨rfl, rfl⟩)
      go_roundw
      case rel => exact ⟨cur / 10, by omega, by simp, HX.out, (hbel.setCell (by simp) _).setCell (by simp) _⟩
      case measure => simp [intOf]; omega
    · obtain ⟨p, hp, c1, hconv⟩ := num_done HI.out hbig
      have hsl := arr_slice w.heap.size p wr hp
      go_wp2
      go_ret
      exact ⟨rfl, hbel⟩
def textV (a : Int) : List UInt8 := if mayB a = true then (if a < 0 then [40, 45, 32] ++ dec (-a).toNat ++ [41] else dec a.toNat) else []
def textE (a : Int) : Int := if mayB a = true then 0 else 10
theorem textV_neg {a : Int} (h : mayB a = true) (hn : a < 0) : (⟨#[40, 45, 32]⟩ ++ ⟨(dec (-a).toNat).toArray⟩ ++ ⟨#[41]⟩ : ByteArray) = ⟨(textV a).toArray⟩ := by
  unfold textV
  rw [if_pos h, if_pos hn]
  apply ByteArray.ext
  simp
theorem textV_pos {a : Int} (h : mayB a = true) (hn : ¬ a < 0) : (⟨(dec a.toNat).toArray⟩ : ByteArray) = ⟨(textV a).toArray⟩ := by
  unfold textV
  rw [if_pos h, if_neg hn]
theorem textV_size {a : Int} (h : mayB a = true) : (textV a).length ≤ 24 := by
  have := mayB_true.1 h
  have h1 : (dec (-a).toNat).length ≤ 19 := dec_length 18 _ (by omega)
  have h2 : (dec a.toNat).length ≤ 19 := dec_length 18 _ (by omega)
  unfold textV
  rw [if_pos h]
  split
  · simp; omega
  · omega
theorem allMay1_yes (b : Nat) (n : Int) (w : World) (h : mayB n = true) (hc : w.cell? ⟨b, 0, none⟩ = some (.int .i64 n)) :
    Calls Try.prog 21 #[.slice (some ⟨b, 0, none⟩) 1 1] w fun e w' => e = .returned (.bool true) ∧ w = w' := by
  have hn : I64 n := by rw [mayB_true] at h; exact ⟨by omega, by omega⟩
  have := allMay1 b n w hn hc; rw [h] at this; exact this
theorem allMay1_no (b : Nat) (n : Int) (w : World) (hn : I64 n) (h : mayB n = false) (hc : w.cell? ⟨b, 0, none⟩ = some (.int .i64 n)) :
    Calls Try.prog 21 #[.slice (some ⟨b, 0, none⟩) 1 1] w fun e w' => e = .returned (.bool false) ∧ w = w' := by
  have := allMay1 b n w hn hc; rw [h] at this; exact this
theorem numeral_int (m : Int) (w : World) (h1 : 0 ≤ m) (h2 : m ≤ 4611686018427387904) :
    Calls Try.prog 24 #[.int .u64 m] w fun e w' => e = .returned (.string ⟨(dec m.toNat).toArray⟩) ∧ Below w.heap.size w w' := by
  obtain ⟨n, rfl⟩ := Int.eq_ofNat_of_zero_le h1
  rw [Int.toNat_natCast]
  exact numeral_any n w (by omega)
theorem Text_any (a : Int) (w : World) (ha : I64 a) :
    Calls Try.prog 15 #[.int .i64 a] w fun e w' => e = .returned (.tuple #[.string ⟨(textV a).toArray⟩, .int .i64 (textE a)]) ∧ Below w.heap.size w w' := by
  cases hm : mayB a with
  | false =>
    have HM := Lib.hid hm; clear hm
    go_enter Try.func15, Try.ntmps15
    go_wp2_with (go_at_call 21; refine (allMay1_no _ a _ ha HM.out (by simp)).mono ?_; rintro e w' ⟨rfl, rfl⟩)
    go_ret2
    exact ⟨ret_two (val_str (by simp [textV, HM.out])) (val_int (by simp [textE, HM.out])), (Below.refl _ _).alloc (Nat.le_refl _) _⟩
  | true =>
    have HM := Lib.hid hm
    obtain ⟨lo, hi⟩ := mayB_true.1 hm
    clear hm ha
    by_cases hneg : a < 0
    · have hl : (dec (-a).toNat).length ≤ 19 := dec_length 18 _ (by omega)
      go_enter Try.func15, Try.ntmps15
      go_wp2_with (first | (go_at_call 21; refine (allMay1_yes _ a _ HM.out (by simp)).mono ?_; rintro e w' ⟨rfl, rfl⟩) | (go_at_call 24; refine (numeral_int _ _ (by omega) (by omega)).mono ?_; rintro e w' ⟨rfl, hb⟩))
      go_ret2
      exact ⟨ret_two (val_str (textV_neg HM.out hneg)) (val_int (by simp [textE, HM.out])), ((Below.refl _ _).alloc (Nat.le_refl _) _).trans (hb.mono (by simp))⟩
    · have HN := Lib.hid hneg
      go_enter Try.func15, Try.ntmps15
      go_wp2_with (first | (go_at_call 21; refine (allMay1_yes _ a _ HM.out (by simp)).mono ?_; rintro e w' ⟨rfl, rfl⟩) | (go_at_call 24; refine (numeral_int _ _ (by omega) (by omega)).mono ?_; rintro e w' ⟨rfl, hb⟩))
      go_ret2
      exact ⟨ret_two (val_str (textV_pos HM.out (by have := HN.out; omega))) (val_int (by simp [textE, HM.out])), ((Below.refl _ _).alloc (Nat.le_refl _) _).trans (hb.mono (by simp))⟩
theorem conv_one (w : World) (n : Nat) :
    (convert 43 9 (.slice (some ⟨w.heap.size, 0, none⟩) 1 1)).run Try.prog (w.alloc (.cells #[.int .u8 (48 + (n : Int) % 10)] 5)) = .ok (.string ⟨#[dig n]⟩) (w.alloc (.cells #[.int .u8 (48 + (n : Int) % 10)] 5)) := by
  refine run_convert_bytes_back _ 43 9 5 ⟨w.heap.size, 0, none⟩ 1 [dig n] Try.underlying43 Try.underlying5 Try.underlying9 fun j hj => ?_
  obtain rfl : j = 0 := by simpa using hj
  simp [Addr.add, digit_toNat]
theorem RText_nat (n : Nat) (w : World) (hn : n ≤ 4611686018427387904) :
    Calls Try.prog 16 #[.int .i64 n] w fun e w' => e = .returned (.tuple #[.string ⟨(dec n).toArray⟩, .int .i64 0]) ∧ Below w.heap.size w w' := by
  have HM := Lib.hid ((mayB_true (n := (n : Int))).2 ⟨by omega, by omega⟩)
  have hlen := dec_length 18 n (by omega)
  go_enter Try.func16, Try.ntmps16
  go_wp2_with (go_at_call 20; refine (RMay_yes _ _ HM.out).mono ?_; rintro e w' ⟨rfl, rfl⟩)
  go_loopw [0, 6] (fun c s wr => ∃ (cur : Nat) (t : List UInt8), cur ≤ n ∧ t.length ≤ 19 ∧ c = .int .i64 cur ∧ s = .string ⟨t.toArray⟩ ∧ Hid (dec n = dec cur ++ t) ∧ Below w.heap.size w wr) (fun c _ _ => (intOf c).toNat)
  case atStart => exact ⟨n, [], Nat.le_refl _, by simp, rfl, rfl, by show _ = _; simp, Below.refl _ _⟩
  case round =>
    obtain ⟨cur, t, hcur, ht, rfl, rfl, HD, hbel⟩ := hrel
    have hconv := conv_one wr cur
    have ht2 : t.length + 1 ≤ 19 := by
      have := HD.out
      have h2 := dec_pos cur
      rw [this] at hlen
      simp at hlen
      omega
    have hcat : (⟨#[dig cur]⟩ ++ ⟨t.toArray⟩ : ByteArray) = ⟨(dig cur :: t).toArray⟩ := by apply ByteArray.ext; simp
    have HC := Lib.hid hcat
    clear hcat
    by_cases hbig : 10 ≤ cur
    · have hz : ((cur : Int) / 10 == 0) = false := by simp; omega
      go_wp2
      go_roundw
      case rel =>
        refine ⟨cur / 10, dig cur :: t, by omega, by simpa using ht2, by simp, by rw [HC.out], ?_, hbel.alloc hbel.size _⟩
        show _ = _
        rw [HD.out, dec_eq cur, decP_big hbig]; simp
      case measure => simp [intOf]; omega
    · have hz : ((cur : Int) / 10 == 0) = true := by simp; omega
      go_wp2
      go_ret2
      exact ⟨ret_two (val_str (by rw [HC.out, HD.out, dec_eq cur, decP_small (by omega)]; simp)) rfl, hbel.alloc hbel.size _⟩
theorem RText_int (m : Int) (w : World) (h1 : 0 ≤ m) (h2 : m ≤ 4611686018427387904) :
    Calls Try.prog 16 #[.int .i64 m] w fun e w' => e = .returned (.tuple #[.string ⟨(dec m.toNat).toArray⟩, .int .i64 0]) ∧ Below w.heap.size w w' := by
  obtain ⟨n, rfl⟩ := Int.eq_ofNat_of_zero_le h1
  rw [Int.toNat_natCast]
  exact RText_nat n w (by omega)
theorem RText_any (a : Int) (w : World) :
    Calls Try.prog 16 #[.int .i64 a] w fun e w' => e = .returned (.tuple #[.string ⟨(textV a).toArray⟩, .int .i64 (textE a)]) ∧ Below w.heap.size w w' := by
  cases hm : mayB a with
  | false =>
    have HM := Lib.hid hm; clear hm
    go_enter Try.func16, Try.ntmps16
    go_wp2_with (go_at_call 20; refine (RMay_no _ _ HM.out).mono ?_; rintro e w' ⟨rfl, rfl⟩)
    go_ret2
    exact ⟨ret_two (val_str (by simp [textV, HM.out])) (val_int (by simp [textE, HM.out])), Below.refl _ _⟩
  | true =>
    obtain ⟨lo, hi⟩ := mayB_true.1 hm
    have HM := Lib.hid hm
    clear hm
    by_cases hneg : a < 0
    · have hl : (dec (-a).toNat).length ≤ 19 := dec_length 18 _ (by omega)
      go_enter Try.func16, Try.ntmps16
      go_wp2_with (first | (go_at_call 20; refine (RMay_yes _ _ HM.out).mono ?_; rintro e w' ⟨rfl, rfl⟩) | (go_at_call 16; refine (RText_int _ _ (by omega) (by omega)).mono ?_; rintro e w' ⟨rfl, hb⟩))
      go_ret2
      exact ⟨ret_two (val_str (textV_neg HM.out hneg)) (val_int (by simp [textE, HM.out])), hb⟩
    · refine (RText_int a w (by omega) (by omega)).mono fun e w' ⟨he, hb⟩ => ⟨?_, hb⟩
      rw [he]
      exact ret_two (val_str (textV_pos HM.out hneg)) (val_int (by simp [textE, HM.out]))
end Go.Proofs.Ytgbpepkhdjcnbaa
