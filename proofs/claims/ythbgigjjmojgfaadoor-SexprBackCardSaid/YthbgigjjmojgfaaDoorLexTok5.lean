/- The method token of package lex's places: keywords, and no token. -/
import Derived.Test.YthbgigjjmojgfaaDoorLexTok2
namespace Go.Proofs.YthbgigjjmojgfaaDoor
open Go.RowKit
set_option linter.unusedVariables false
set_option maxHeartbeats 1000000 in
theorem token_4 (s : ByteArray) (n : Nat) (T : ByteArray) (E : Int) (w : World) (hG : Globs w) (hn : n < s.size) (hs : s.size ≤ 9223372036854775807) (hk : kindN s[n] = some 4)
    (hr : ReadsAs 77 s n T E true) (ht : T.size ≤ 100) :
    Calls Tryd.prog 39 #[.agg #[.string s, .int .i64 n]] w fun e w' => e = .returned (tokenV 4 T n E true) ∧ Below w.heap.size w w' := by
  have HK := Lib.hid hk
  have HR := Lib.hid hr
  have HG := Lib.hid hG
  clear hk hr hG
  have hb0 : Below w.heap.size w ((w.alloc (.cells #[.string s, .int .i64 n] 63)).alloc (.cells #[.int .i8 0, .string ⟨#[]⟩, .int .i64 0, .int .i64 0] 47)) := ((Below.refl _ _).alloc (Nat.le_refl _) _).alloc (by simp) _
  have HB := Lib.hid hb0
  clear hb0
  have hidx := readers_at_4
  go_enter Tryd.func39, Tryd.ntmps39
  go_wp2_with fail
  refine (kind_at s[n] 4 4 _ (HG.out.below HB.out) HK.out rfl).mono ?_
  rintro e w1 ⟨rfl, hb1⟩
  obtain ⟨hc1, hf1⟩ := bcell hb1
  have HG1 := Lib.hid ((HG.out.below HB.out).below hb1)
  have c0 : w1.cell? ⟨w.heap.size, 0, none⟩ = some (.string s) := by rw [hc1 _ _ (by simp; omega)]; simp
  have c1 : w1.cell? ⟨w.heap.size, 1, none⟩ = some (.int .i64 n) := by rw [hc1 _ _ (by simp; omega)]; simp
  have hz : w.heap.size + 1 < w1.heap.size := by have := hb1.size; simp at this; omega
  have hz0 : w.heap.size < w1.heap.size := by omega
  go_wp2
  go_region_held3 (fun w' => w'.cell? ⟨w.heap.size, 0, none⟩ = some (.string s) ∧ w'.cell? ⟨w.heap.size, 1, none⟩ = some (.int .i64 n))
    (first | exact ⟨(hc3 _ _ hz3).trans ((hc2 _ _ hz0).trans c0), (hc3 _ _ hz3).trans ((hc2 _ _ hz0).trans c1)⟩ | exact ⟨(hc2 _ _ hz0).trans c0, (hc2 _ _ hz0).trans c1⟩ | go_keep)
    (first
      | (go_at_call 57; refine (readers_any _).mono ?_; rintro e w2 ⟨rfl, hb2⟩; obtain ⟨hc2, hf2⟩ := bcell hb2; have hz3 : w.heap.size < w2.heap.size := Nat.lt_of_lt_of_le hz0 hb2.size; have HG2 := Lib.hid (HG1.out.drew.below hb2))
      | (go_at_call 77; refine (HR.out _ HG2.out).mono ?_; rintro e w3 ⟨rfl, hb3⟩; obtain ⟨hc3, hf3⟩ := bcell hb3))
  have hb13 := (hb1.drew.trans (hb2.mono (by simpa using hb1.size))).trans (hb3.mono (Nat.le_trans (by simpa using hb1.size) hb2.size))
  clear hc1 hf1 hc2 hf2 hc3 hf3 c0 c1
  obtain ⟨hc, hf⟩ := bcell hb13
  have hbw : Below w.heap.size w w3 := HB.out.trans (hb13.mono HB.out.size)
  have HBW := Lib.hid hbw
  clear hbw
  go_wp2
  exact bodyPost_ret (v := tokenV 4 T n E true) (by simp [results, Tryd.results39, go_sem, tokenV, hc]) rfl ⟨rfl, (((HBW.out.setCell (by simp) _).setCell (by simp) _).setCell (by simp) _).setCell (by simp) _⟩
set_option maxHeartbeats 1000000 in
theorem token_4_no (s : ByteArray) (n : Nat) (T : ByteArray) (E : Int) (w : World) (hG : Globs w) (hn : n < s.size) (hs : s.size ≤ 9223372036854775807) (hk : kindN s[n] = some 4)
    (hr : ReadsAs 77 s n T E false) :
    Calls Tryd.prog 39 #[.agg #[.string s, .int .i64 n]] w fun e w' => e = .returned (tokenV 0 ⟨#[]⟩ 0 0 false) ∧ Below w.heap.size w w' := by
  have HK := Lib.hid hk
  have HR := Lib.hid hr
  have HG := Lib.hid hG
  clear hk hr hG
  have hb0 : Below w.heap.size w ((w.alloc (.cells #[.string s, .int .i64 n] 63)).alloc (.cells #[.int .i8 0, .string ⟨#[]⟩, .int .i64 0, .int .i64 0] 47)) := ((Below.refl _ _).alloc (Nat.le_refl _) _).alloc (by simp) _
  have HB := Lib.hid hb0
  clear hb0
  have hidx := readers_at_4
  go_enter Tryd.func39, Tryd.ntmps39
  go_wp2_with fail
  refine (kind_at s[n] 4 4 _ (HG.out.below HB.out) HK.out rfl).mono ?_
  rintro e w1 ⟨rfl, hb1⟩
  obtain ⟨hc1, hf1⟩ := bcell hb1
  have HG1 := Lib.hid ((HG.out.below HB.out).below hb1)
  have c0 : w1.cell? ⟨w.heap.size, 0, none⟩ = some (.string s) := by rw [hc1 _ _ (by simp; omega)]; simp
  have c1 : w1.cell? ⟨w.heap.size, 1, none⟩ = some (.int .i64 n) := by rw [hc1 _ _ (by simp; omega)]; simp
  have hz : w.heap.size + 1 < w1.heap.size := by have := hb1.size; simp at this; omega
  have hz0 : w.heap.size < w1.heap.size := by omega
  go_wp2
  go_region_held3 (fun w' => w'.cell? ⟨w.heap.size, 0, none⟩ = some (.string s) ∧ w'.cell? ⟨w.heap.size, 1, none⟩ = some (.int .i64 n))
    (first | exact ⟨(hc3 _ _ hz3).trans ((hc2 _ _ hz0).trans c0), (hc3 _ _ hz3).trans ((hc2 _ _ hz0).trans c1)⟩ | exact ⟨(hc2 _ _ hz0).trans c0, (hc2 _ _ hz0).trans c1⟩ | go_keep)
    (first
      | (go_at_call 57; refine (readers_any _).mono ?_; rintro e w2 ⟨rfl, hb2⟩; obtain ⟨hc2, hf2⟩ := bcell hb2; have hz3 : w.heap.size < w2.heap.size := Nat.lt_of_lt_of_le hz0 hb2.size; have HG2 := Lib.hid (HG1.out.drew.below hb2))
      | (go_at_call 77; refine (HR.out _ HG2.out).mono ?_; rintro e w3 ⟨rfl, hb3⟩; obtain ⟨hc3, hf3⟩ := bcell hb3))
  have hb13 := (hb1.drew.trans (hb2.mono (by simpa using hb1.size))).trans (hb3.mono (Nat.le_trans (by simpa using hb1.size) hb2.size))
  clear hc1 hf1 hc2 hf2 hc3 hf3 c0 c1
  obtain ⟨hc, hf⟩ := bcell hb13
  have hbw : Below w.heap.size w w3 := HB.out.trans (hb13.mono HB.out.size)
  have HBW := Lib.hid hbw
  clear hbw
  go_wp2
  exact bodyPost_ret (v := tokenV 0 ⟨#[]⟩ 0 0 false) (by simp [results, Tryd.results39, go_sem, tokenV, hc]) rfl ⟨rfl, (((HBW.out.setCell (by simp) _).setCell (by simp) _).setCell (by simp) _).setCell (by simp) _⟩
set_option maxHeartbeats 1000000 in
theorem token_4_long (s : ByteArray) (n : Nat) (T : ByteArray) (E : Int) (w : World) (hG : Globs w) (hn : n < s.size) (hs : s.size ≤ 9223372036854775807) (hk : kindN s[n] = some 4)
    (hr : ReadsAs 77 s n T E true) (ht : 100 < T.size) :
    Calls Tryd.prog 39 #[.agg #[.string s, .int .i64 n]] w fun e w' => e = .returned (tokenV 0 ⟨#[]⟩ 0 0 false) ∧ Below w.heap.size w w' := by
  have HK := Lib.hid hk
  have HR := Lib.hid hr
  have HG := Lib.hid hG
  clear hk hr hG
  have hb0 : Below w.heap.size w ((w.alloc (.cells #[.string s, .int .i64 n] 63)).alloc (.cells #[.int .i8 0, .string ⟨#[]⟩, .int .i64 0, .int .i64 0] 47)) := ((Below.refl _ _).alloc (Nat.le_refl _) _).alloc (by simp) _
  have HB := Lib.hid hb0
  clear hb0
  have hidx := readers_at_4
  go_enter Tryd.func39, Tryd.ntmps39
  go_wp2_with fail
  refine (kind_at s[n] 4 4 _ (HG.out.below HB.out) HK.out rfl).mono ?_
  rintro e w1 ⟨rfl, hb1⟩
  obtain ⟨hc1, hf1⟩ := bcell hb1
  have HG1 := Lib.hid ((HG.out.below HB.out).below hb1)
  have c0 : w1.cell? ⟨w.heap.size, 0, none⟩ = some (.string s) := by rw [hc1 _ _ (by simp; omega)]; simp
  have c1 : w1.cell? ⟨w.heap.size, 1, none⟩ = some (.int .i64 n) := by rw [hc1 _ _ (by simp; omega)]; simp
  have hz : w.heap.size + 1 < w1.heap.size := by have := hb1.size; simp at this; omega
  have hz0 : w.heap.size < w1.heap.size := by omega
  go_wp2
  go_region_held3 (fun w' => w'.cell? ⟨w.heap.size, 0, none⟩ = some (.string s) ∧ w'.cell? ⟨w.heap.size, 1, none⟩ = some (.int .i64 n))
    (first | exact ⟨(hc3 _ _ hz3).trans ((hc2 _ _ hz0).trans c0), (hc3 _ _ hz3).trans ((hc2 _ _ hz0).trans c1)⟩ | exact ⟨(hc2 _ _ hz0).trans c0, (hc2 _ _ hz0).trans c1⟩ | go_keep)
    (first
      | (go_at_call 57; refine (readers_any _).mono ?_; rintro e w2 ⟨rfl, hb2⟩; obtain ⟨hc2, hf2⟩ := bcell hb2; have hz3 : w.heap.size < w2.heap.size := Nat.lt_of_lt_of_le hz0 hb2.size; have HG2 := Lib.hid (HG1.out.drew.below hb2))
      | (go_at_call 77; refine (HR.out _ HG2.out).mono ?_; rintro e w3 ⟨rfl, hb3⟩; obtain ⟨hc3, hf3⟩ := bcell hb3))
  have hb13 := (hb1.drew.trans (hb2.mono (by simpa using hb1.size))).trans (hb3.mono (Nat.le_trans (by simpa using hb1.size) hb2.size))
  clear hc1 hf1 hc2 hf2 hc3 hf3 c0 c1
  obtain ⟨hc, hf⟩ := bcell hb13
  have hbw : Below w.heap.size w w3 := HB.out.trans (hb13.mono HB.out.size)
  have HBW := Lib.hid hbw
  clear hbw
  go_wp2
  exact bodyPost_ret (v := tokenV 0 ⟨#[]⟩ 0 0 false) (by simp [results, Tryd.results39, go_sem, tokenV, hc]) rfl ⟨rfl, (((HBW.out.setCell (by simp) _).setCell (by simp) _).setCell (by simp) _).setCell (by simp) _⟩
theorem token_none (s : ByteArray) (n : Nat) (w : World) (hG : Globs w) (hn : n < s.size) (hs : s.size ≤ 9223372036854775807) (hk : kindN s[n] = none) :
    Calls Tryd.prog 39 #[.agg #[.string s, .int .i64 n]] w fun e w' => e = .returned (tokenV 0 ⟨#[]⟩ 0 0 false) ∧ Below w.heap.size w w' := by
  have HK := Lib.hid hk
  have HG := Lib.hid hG
  clear hk hG
  have hb0 : Below w.heap.size w ((w.alloc (.cells #[.string s, .int .i64 n] 63)).alloc (.cells #[.int .i8 0, .string ⟨#[]⟩, .int .i64 0, .int .i64 0] 47)) := ((Below.refl _ _).alloc (Nat.le_refl _) _).alloc (by simp) _
  have HB := Lib.hid hb0
  clear hb0
  go_enter Tryd.func39, Tryd.ntmps39
  go_wp2_with fail
  refine (kind_not s[n] _ (HG.out.below HB.out) HK.out).mono ?_
  rintro e w1 ⟨rfl, hb1⟩
  obtain ⟨hc, hf⟩ := bcell hb1
  have hbw : Below w.heap.size w w1 := HB.out.trans (hb1.mono HB.out.size)
  have HBW := Lib.hid hbw
  clear hbw
  have hz : w.heap.size + 1 < w1.heap.size := by have := hb1.size; simp at this; omega
  go_wp2
  exact bodyPost_ret (v := tokenV 0 ⟨#[]⟩ 0 0 false) (by simp [results, Tryd.results39, go_sem, tokenV, hc]) rfl ⟨rfl, (((HBW.out.setCell (by simp) _).setCell (by simp) _).setCell (by simp) _).setCell (by simp) _⟩
end Go.Proofs.YthbgigjjmojgfaaDoor
