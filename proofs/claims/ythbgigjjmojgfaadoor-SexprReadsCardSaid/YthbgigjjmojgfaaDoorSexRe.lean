/- The law SexprReads: its walk, in the card's form. -/
import Derived.Test.YthbgigjjmojgfaaDoorSexRa
import Derived.Test.YthbgigjjmojgfaaDoorSexGlobs
namespace Go.Proofs.YthbgigjjmojgfaaDoor
open Go.RowKit
set_option linter.unusedVariables false
theorem ReadPost.parts {w w' : World} {X : RdR} {e : Ending} (h : ReadPost w X e w') : ∃ a cap, e = .returned (.tuple #[.agg #[.int .i8 X.t.kind, .string (bytesL X.t.text), .slice a X.t.kids.length cap], .int .i64 X.stop, .int .i64 X.err]) ∧ RdOut w.heap.size w' X.t (.agg #[.int .i8 X.t.kind, .string (bytesL X.t.text), .slice a X.t.kids.length cap]) ∧ Below w.heap.size w w' := by
  obtain ⟨v, rfl, h1, h2⟩ := h
  obtain ⟨a, cap, rfl⟩ := h1.parts
  exact ⟨a, cap, rfl, h1, h2⟩
/-- Both Reads answer alike. -/
theorem reads_two (s : ByteArray) (at_ : Int) (hs : s.size < 900000) (h63 : at_ < 9223372036854775808) : ∃ X : RdR, (∀ W : World, Globs W → Kinds W → Calls Tryd.prog 9 #[.string s, .int .i64 at_] W (ReadPost W X)) ∧ ∀ W : World, Calls Tryd.prog 10 #[.string s, .int .i64 at_] W (ReadPost W X) := by
  by_cases ha : at_ < 0
  · exact ⟨_, fun W _ _ => Read_neg s at_ W ha, fun W => RRead_neg s at_ W ha⟩
  · exact ⟨_, fun W hG hK => Read_nat s at_ W hG hK hs (by omega) h63, fun W => RRead_nat s at_ _ _ W hs (by omega) rfl rfl⟩
theorem RSame_el (t : Tree) (va vb : Value) (w : World) (ha : ElT w t va) (hb : ElT w t vb) :
    Calls Tryd.prog 11 #[va, vb] w fun e w' => e = .returned (.bool true) ∧ Below w.heap.size w w' := by
  obtain ⟨bad, q1, q2, q3⟩ := ha
  obtain ⟨bad', q1', q2', q3'⟩ := hb
  exact RSame_any t va vb w q2.sx q2'.sx
set_option maxHeartbeats 8000000 in
theorem reads_small (s : ByteArray) (at_ : Int) (w : World) (hs : s.size ≤ 1000) (ha : at_ ≤ 2000) (hG : Globs w) (hK : Kinds w) :
    Calls Tryd.prog 3 #[.string s, .int .i64 at_] w fun e w' => e = .returned (.bool true) ∧ Below w.heap.size w w' := by
  obtain ⟨X, h1, h2⟩ := reads_two s at_ (by omega) (by omega)
  have HR1 := Lib.hid h1
  have HR2 := Lib.hid h2
  obtain ⟨Y, hY⟩ : ∃ Y, allS s.data.toList = Y := ⟨_, rfl⟩
  have HA1 := Lib.hid (fun W q1 q2 => all_to s Y (by omega) hY W q1 q2)
  have HA2 := Lib.hid (fun W => rall_to s Y (by omega) hY W)
  have hlen : Y.ts.length ≤ 1000 := by
    have := allS_len s.data.toList
    have hl : s.data.toList.length = s.size := by simp
    rw [hY] at this; omega
  have n1 : ((X.stop : Int) != (X.stop : Int)) = false := by simp
  have n2 : ((X.err : Int) != (X.err : Int)) = false := by simp
  have HG := Lib.hid hG
  have HK := Lib.hid hK
  clear h1 h2 hY hG hK
  go_enter Tryd.func3, Tryd.ntmps3
  go_wp2_with fail
  refine (HR1.out _ HG.out HK.out).mono ?_
  intro e w1 hp1
  obtain ⟨a1, cap1, rfl, ho1, hb1⟩ := hp1.parts
  have HO1 := Lib.hid ho1
  have HW1 : Hid (Below w.heap.size w w1) := hb1
  clear hp1 ho1 hb1
  have HA1b : Hid (Below w1.heap.size w1 (w1.alloc (.cells #[.int .i8 X.t.kind, .string (bytesL X.t.text), .slice a1 X.t.kids.length cap1] 26))) := (Below.refl _ _).alloc (Nat.le_refl _) _
  go_wp2_with fail
  refine (HR2.out _).mono ?_
  intro e w2 hp2
  obtain ⟨a2, cap2, rfl, ho2, hb2⟩ := hp2.parts
  have HO2 := Lib.hid ho2
  have HW2 : Hid (Below w1.heap.size w1 w2) := HA1b.out.trans (hb2.mono HA1b.out.size)
  have hx2 : w2.heap[w1.heap.size]? = some (.cells #[.int .i8 X.t.kind, .string (bytesL X.t.text), .slice a1 X.t.kids.length cap1] 26 (0, 0)) := (hb2.block _ (by simp)).trans (heap_alloc_new w1 _)
  have x0 := cell_of_row _ _ 0 _ _ _ hx2
  have x1 := cell_of_row _ _ 1 _ _ _ hx2
  have x2 := cell_of_row _ _ 2 _ _ _ hx2
  simp only [List.getElem?_toArray, List.getElem?_cons_zero, List.getElem?_cons_succ] at x0 x1 x2
  have hz2 : w1.heap.size < w2.heap.size := by have := hb2.size; simp at this; omega
  clear hp2 ho2 hb2 hx2
  have HA2b : Hid (Below w2.heap.size w2 (w2.alloc (.cells #[.int .i8 X.t.kind, .string (bytesL X.t.text), .slice a2 X.t.kids.length cap2] 26))) := (Below.refl _ _).alloc (Nat.le_refl _) _
  have HV2 : Hid (Below w1.heap.size w1 (w2.alloc (.cells #[.int .i8 X.t.kind, .string (bytesL X.t.text), .slice a2 X.t.kids.length cap2] 26))) := HW2.out.trans (HA2b.out.mono HW2.out.size)
  go_wp2_with fail
  refine (RSame_el X.t _ _ _ (HO1.out.keep HV2.out).el (HO2.out.keep HA2b.out).el).mono ?_
  rintro e w3 ⟨rfl, hb3⟩
  have HW3 : Hid (Below w.heap.size w w3) := HW1.out.trans ((HV2.out.trans (hb3.mono HV2.out.size)).mono HW1.out.size)
  clear hb3 x0 x1 x2
  go_wp2_with fail
  refine (HA1.out _ (HG.out.below HW3.out) (HK.out.below HW3.out HK.out.lt)).mono ?_
  rintro e w4 ⟨la, lc, rfl, hm4, hb4⟩
  have HW4 : Hid (Below w.heap.size w w4) := HW3.out.trans (hb4.mono HW3.out.size)
  have HM4 := Lib.hid hm4
  clear hm4 hb4
  go_wp2_with fail
  refine (HA2.out _).mono ?_
  rintro e w5 ⟨ka, kc, rfl, hm5, hb5⟩
  have HW5 : Hid (Below w.heap.size w w5) := HW4.out.trans (hb5.mono HW4.out.size)
  have HL5 := Lib.hid (HM4.out.keep hb5)
  have HK5 := Lib.hid hm5
  clear hm5 hb5
  have n3 : ((Y.ts.length : Int) != (Y.ts.length : Int)) = false := by simp
  have n4 : ((Y.stop : Int) != (Y.stop : Int)) = false := by simp
  have n5 : ((Y.err : Int) != (Y.err : Int)) = false := by simp
  go_wp2_with fail
  go_loopw [79] (fun i wr => ∃ k : Nat, k ≤ Y.ts.length ∧ i = .int .i64 k ∧ Hid (Below w5.heap.size w5 wr)) (fun i _ => Y.ts.length - (intOf i).toNat)
  case atStart => exact ⟨0, Nat.zero_le _, rfl, Below.refl _ _⟩
  case round =>
    obtain ⟨k, hk, rfl, HBr⟩ := hrel
    by_cases hlt : k < Y.ts.length
    · obtain ⟨c, hcc⟩ : ∃ c, Y.ts[k]? = some c := ⟨_, List.getElem?_eq_getElem hlt⟩
      obtain ⟨g, ca, cc, rfl, hg, c0, c1, c2, he⟩ := (HL5.out.keep HBr.out).get hcc
      obtain ⟨g', da, dc, rfl, hg', d0, d1, d2, he'⟩ := (HK5.out.keep HBr.out).get hcc
      have HCALL : Hid (∀ W : World, Below wr.heap.size wr W → Calls Tryd.prog 11 #[.agg #[.int .i8 c.kind, .string (bytesL c.text), .slice ca c.kids.length cc], .agg #[.int .i8 c.kind, .string (bytesL c.text), .slice da c.kids.length dc]] W fun e w' => e = .returned (.bool true) ∧ Below W.heap.size W w') := fun W hW => RSame_el c _ _ W (he.below hW) (he'.below hW)
      have H0 := Lib.hid (And.intro c0 (And.intro c1 (And.intro c2 (And.intro d0 (And.intro d1 d2)))))
      clear he he' hcc c0 c1 c2 d0 d1 d2
      go_wp2
      go_region_held3 (fun w' => w'.cell? ⟨g, k * 3, none⟩ = some (.int .i8 c.kind) ∧ w'.cell? ⟨g, k * 3 + 1, none⟩ = some (.string (bytesL c.text)) ∧ w'.cell? ⟨g, k * 3 + 2, none⟩ = some (.slice ca c.kids.length cc) ∧ w'.cell? ⟨g', k * 3, none⟩ = some (.int .i8 c.kind) ∧ w'.cell? ⟨g', k * 3 + 1, none⟩ = some (.string (bytesL c.text)) ∧ w'.cell? ⟨g', k * 3 + 2, none⟩ = some (.slice da c.kids.length dc))
        (first | exact H0.out | exact ⟨(hc1 _ _ hg).trans H0.out.1, (hc1 _ _ hg).trans H0.out.2.1, (hc1 _ _ hg).trans H0.out.2.2.1, (hc1 _ _ hg').trans H0.out.2.2.2.1, (hc1 _ _ hg').trans H0.out.2.2.2.2.1, (hc1 _ _ hg').trans H0.out.2.2.2.2.2⟩ | go_keep)
        (first | (go_at_call 11; refine (HCALL.out _ (by first | exact (Below.refl _ _).drew | exact Below.refl _ _)).mono ?_; rintro e w6 ⟨rfl, hb6⟩; obtain ⟨hc1, hf1⟩ := bcell hb6))
      have hw6 : Below wr.heap.size wr w6 := (Below.refl _ wr).drew.trans (hb6.mono (Nat.le_refl _))
      have HB6 : Hid (Below w5.heap.size w5 w6) := HBr.out.trans (hw6.mono HBr.out.size)
      clear hb6 hw6 hc1 hf1
      go_wp2_with fail
      go_roundw
      case rel => exact ⟨k + 1, by omega, by go_num, HB6.out⟩
      case measure => simp [intOf]; omega
    · obtain rfl : k = Y.ts.length := by omega
      have HW6 : Hid (Below w.heap.size w wr) := HW5.out.trans (HBr.out.mono HW5.out.size)
      go_wp2_with fail
      refine (wakes_any _ (HG.out.below HW6.out) (HK.out.below HW6.out HK.out.lt)).mono ?_
      rintro e w7 ⟨rfl, hb7⟩
      go_wp2
      go_ret
      exact ⟨rfl, HW6.out.trans (hb7.mono HW6.out.size)⟩
theorem SexprReads_walk (s : ByteArray) (at_ : Int) (w : World) (hG : Globs w) (hK : Kinds w) :
    Calls Tryd.prog 3 #[.string s, .int .i64 at_] w fun e w' => e = .returned (.bool true) ∧ Below w.heap.size w w' := by
  by_cases hbig : 1000 < s.size
  · have HG := Lib.hid hG
    have HK := Lib.hid hK
    clear hG hK
    go_enter Tryd.func3, Tryd.ntmps3
    go_wp2_with fail
    refine (wakes_any _ HG.out HK.out).mono ?_
    rintro e w1 ⟨rfl, hb1⟩
    go_wp2
    go_ret
    exact ⟨rfl, hb1⟩
  · by_cases ha : 2000 < at_
    · have HG := Lib.hid hG
      have HK := Lib.hid hK
      have d1 : decide (2000 < at_) = true := by simp [ha]
      clear hG hK
      go_enter Tryd.func3, Tryd.ntmps3
      go_wp2_with fail
      refine (wakes_any _ HG.out HK.out).mono ?_
      rintro e w1 ⟨rfl, hb1⟩
      go_wp2
      go_ret
      exact ⟨rfl, hb1⟩
    · exact reads_small s at_ w (by omega) (by omega) hG hK
theorem SexprReads_w (w : World) (s : ByteArray) (h : s.size ≤ maxLen) (at_ : Int) (_ : (Lit.int .i64 at_).wf = true) (hG : Held w) :
    Calls Tryd.prog 3 #[.string s, .int .i64 at_] w fun e w' => e = .returned (.bool true) ∧ Below w.heap.size w w' := SexprReads_walk s at_ w hG.g hG.k
end Go.Proofs.YthbgigjjmojgfaaDoor
