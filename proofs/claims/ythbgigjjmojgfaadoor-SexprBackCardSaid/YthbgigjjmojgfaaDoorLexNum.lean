/- The reader of numerals of package lex. -/
import Derived.Test.YthbgigjjmojgfaaDoorLexRead
namespace Go.Proofs.YthbgigjjmojgfaaDoor
open Go.RowKit
theorem all_yes (a0 a1 a2 a3 : Int) (p : UInt8 → Bool) (hS : SetIs a0 a1 a2 a3 p) (s : ByteArray) (w : World) (hs : s.size ≤ 9223372036854775807) (h : s.data.toList.all p = true) :
    Calls Tryd.prog 69 #[.agg #[.int .u64 a0, .int .u64 a1, .int .u64 a2, .int .u64 a3], .string s] w fun e w' => e = .returned (.bool true) ∧ Below w.heap.size w w' := by
  have := all_any a0 a1 a2 a3 p hS s w hs; rw [h] at this; exact this
theorem all_no (a0 a1 a2 a3 : Int) (p : UInt8 → Bool) (hS : SetIs a0 a1 a2 a3 p) (s : ByteArray) (w : World) (hs : s.size ≤ 9223372036854775807) (h : s.data.toList.all p = false) :
    Calls Tryd.prog 69 #[.agg #[.int .u64 a0, .int .u64 a1, .int .u64 a2, .int .u64 a3], .string s] w fun e w' => e = .returned (.bool false) ∧ Below w.heap.size w w' := by
  have := all_any a0 a1 a2 a3 p hS s w hs; rw [h] at this; exact this
theorem numeral_any (s : ByteArray) (n j : Nat) (w : World) (hG : Globs w) (hn : n < s.size) (hs : s.size ≤ 9223372036854775807) (hj : n + spanN isSign (s.data.toList.drop n) = j) (hjn : n < j) :
    Calls Tryd.prog 76 #[.agg #[.string s, .int .i64 n]] w fun e w' => e = .returned (.tuple #[.string (s.extract n j), .int .i64 j, .bool (numOk (s.extract n j).data.toList)]) ∧ Below w.heap.size w w' := by
  obtain ⟨g0, c0, c1, c2, c3⟩ := hG.signs
  obtain ⟨gd0, d0, d1, d2, d3⟩ := hG.digits
  have hj1 := span_end (by omega) hj
  have HJ := Lib.hid hj
  clear hj hG
  have hT0 : 0 < (s.extract n j).size := by simp; omega
  have hT1 : (s.extract n j).size ≤ 9223372036854775807 := by simp; omega
  go_enter Tryd.func76, Tryd.ntmps76
  go_wp2_with fail
  refine (span_to _ _ _ _ isSign signsIs s _ n j _ (by omega) (by omega) hs HJ.out).mono ?_
  rintro e w1 ⟨rfl, hb1⟩
  obtain ⟨hc1, hf1⟩ := bcell hb1
  have hz : w.heap.size < w1.heap.size := by have := hb1.size; simp at this; omega
  go_wp2_with fail
  revert hT0 hT1
  generalize hT : s.extract n j = T
  intro hT0 hT1
  have HT := Lib.hid hT
  clear hT
  cases hall : T.data.toList.all isDg with
  | false =>
    have HA := Lib.hid hall
    clear hall
    refine (all_no _ _ _ _ isDg digitsIs T _ hT1 HA.out).mono ?_
    rintro e w2 ⟨rfl, hb2⟩
    go_wp2
    go_ret3
    exact ⟨ret_three (val_str HT.out.symm) rfl (val_bool (by rw [HT.out]; simp [numOk, HA.out])), (((Below.refl _ _).alloc (Nat.le_refl _) _).trans (hb1.mono (by simp))).trans (hb2.mono (by omega))⟩
  | true =>
    have HA := Lib.hid hall
    clear hall
    refine (all_yes _ _ _ _ isDg digitsIs T _ hT1 HA.out).mono ?_
    rintro e w2 ⟨rfl, hb2⟩
    by_cases h48 : (T[0].toNat : Int) = 48
    · have e1 := ne_false h48
      have H48 := Lib.hid h48
      clear h48
      go_wp2
      go_ret3
      refine ⟨ret_three (val_str HT.out.symm) rfl (val_bool ?_), (((Below.refl _ _).alloc (Nat.le_refl _) _).trans (hb1.mono (by simp))).trans (hb2.mono (by omega))⟩
      rw [HT.out]
      have h1 : T.toList = T.data.toList := ByteArray.toList_eq T
      have h2 : T.data.toList.head? = some 48 := by
        rw [List.head?_eq_getElem?, List.getElem?_eq_getElem (by simpa using hT0)]
        congr 1
        exact UInt8.toNat_inj.1 (by have := H48.out; have h3 : T[0].toNat = 48 := by omega
                                    exact h3)
      unfold numOk
      rw [HA.out, h1, h2]
      simp
    · have e1 := ne_true h48
      have H48 := Lib.hid h48
      clear h48
      go_wp2
      go_ret3
      refine ⟨ret_three (val_str HT.out.symm) rfl (val_bool ?_), (((Below.refl _ _).alloc (Nat.le_refl _) _).trans (hb1.mono (by simp))).trans (hb2.mono (by omega))⟩
      rw [HT.out]
      unfold numOk
      rw [HA.out]
      have : T.data.toList.head? ≠ some 48 := by
        intro h
        apply H48.out
        have h2 : T.data.toList[0]? = some 48 := by rw [← List.head?_eq_getElem?]; exact h
        obtain ⟨h3, h4⟩ := List.getElem?_eq_some_iff.1 h2
        have h5 : T[0] = 48 := h4
        rw [h5]; rfl
      simp [this]
end Go.Proofs.YthbgigjjmojgfaaDoor
