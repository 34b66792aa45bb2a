/- CommandText: a command's text is read as its list, and that parsed as it. -/
import Derived.Test.YtodonngnigbpaaaGreatDoorCmWk
import Derived.Test.YtodonngnigbpaaaGreatDoorCmX
import Derived.Test.YtodonngnigbpaaaGreatDoorCmY2
import Derived.Test.YtodonngnigbpaaaGreatDoorSexRa
import Derived.Test.YtodonngnigbpaaaGreatDoorSexBa
namespace Go.Proofs.YtodonngnigbpaaaGreatDoor
open Go.RowKit
set_option linter.unusedVariables false
theorem rows_node {k : Int} {s : List UInt8} {l : List Tree} (h : l.length ≤ 1000) (hl : ∀ t ∈ l, RowsT t) : RowsT (.node k s l) := by
  unfold RowsT
  exact ⟨by omega, hl⟩
theorem rows_leaves {α : Type} (l : List α) (f : α → Tree) (h : l.length ≤ 1000) (hf : ∀ a ∈ l, RowsT (f a)) : RowsT (rowT (l.map f)) :=
  rows_node (by simpa using h) (fun t ht => by
    obtain ⟨a, ha, rfl⟩ := List.mem_map.1 ht
    exact hf a ha)
theorem rows_list {c : CmdA} (hF : Fine c) (hs : Small c) : RowsT (listT c) := by
  obtain ⟨s1, s2, s3, s4⟩ := hs
  unfold listT
  split
  · refine rows_node ?_ ?_
    · have : (partsT c).length ≤ 50 := by
        unfold partsT
        repeat' split
        all_goals first | (simp; done) | (simp; omega) | omega
      simp only [List.length_cons]
      omega
    · intro t ht
      rcases List.mem_cons.1 ht with rfl | ht
      · exact rows_leaf _ _
      · unfold partsT at ht
        have hset : RowsT (setT c) := by
          unfold setT
          split
          · exact rows_leaves _ _ (by omega) (fun n _ => rows_leaf _ _)
          · exact rows_leaf _ _
        have hargs : RowsT (rowT (c.args.map symT)) := rows_leaves _ _ (by omega) (fun n _ => rows_leaf _ _)
        have hpars : RowsT (rowT (c.params.map pairT)) := rows_leaves _ _ (by omega) (fun p _ => rows_node (by simp) (fun t ht => by
          simp only [List.mem_cons, List.not_mem_nil, or_false] at ht
          rcases ht with rfl | rfl <;> exact rows_leaf _ _))
        have hterms : RowsT (rowT c.terms) := rows_node (by omega) hF.ti
        repeat' split at ht
        all_goals try simp only [List.mem_cons, List.mem_append, List.not_mem_nil, or_false] at ht
        · rw [ht]; exact rows_leaf _ _
        · rcases ht with rfl | rfl
          · exact rows_leaf _ _
          · exact hset
        · rcases ht with rfl | rfl <;> exact rows_leaf _ _
        · rcases ht with rfl | rfl | rfl
          · exact rows_leaf _ _
          · exact hargs
          · exact rows_leaf _ _
        · rcases ht with (rfl | rfl | rfl) | ht
          · exact rows_leaf _ _
          · exact hpars
          · exact rows_leaf _ _
          · exact hF.ti t ht
        · exact hF.ti t ht
        · rw [ht]; exact rows_leaf _ _
        · rw [ht]; exact hterms
  · exact rows_leaf _ _
theorem read_text {t : Tree} (h : mayT t = true) : readL (textT t) 0 = ⟨t, (textT t).length, 0⟩ := by
  rw [may_fit, Bool.and_eq_true] at h
  have := back_read h.1 (of_decide_eq_true h.2) (L := textT t) (p := 0) (rest := []) (by simp) (.inl rfl)
  rw [Nat.zero_add] at this
  exact this
/-- Read and Parse of a command's text, handed on. -/
theorem text_back (c : CmdA) (w W : World) (hG : GH w) (hW : Below w.heap.size w W) (hm : mayT (listT c) = true) (hp : parse0 (listT c) = some c) (hRT : RowsT (listT c)) (h8 : (textT (listT c)).length ≤ 8192) :
    Calls Tryz.prog 8 #[.string (bytesL (textT (listT c))), .int .i64 0] W fun e w7 => ∃ a cap, e = .returned (.tuple #[.agg #[.int .i8 (listT c).kind, .string (bytesL (listT c).text), .slice a (listT c).kids.length cap], .int .i64 (textT (listT c)).length, .int .i64 0]) ∧ Below w.heap.size w w7 ∧ Below W.heap.size W w7 ∧
      Hid (∀ W', Below w7.heap.size w7 W' → Calls Tryz.prog 9 #[.agg #[.int .i8 (listT c).kind, .string (bytesL (listT c).text), .slice a (listT c).kids.length cap]] W' fun e w8 => ∃ d : CmdV, d.c = c ∧ e = .returned (.tuple #[.agg #[.int .i8 d.c.kind, .string (bytesL d.c.name), .int .i64 d.c.n, .slice d.la d.c.l.length d.lc, .slice d.aa d.c.args.length d.ac, .slice d.pa d.c.params.length d.pc, .string (bytesL d.c.res), .slice d.ta d.c.terms.length d.tc], .int .i64 0]) ∧ CmdS w8 d ∧ Below W'.heap.size W' w8) := by
  refine (rread_at (bytesL (textT (listT c))) 0 ⟨listT c, (textT (listT c)).length, 0⟩ (by rw [bytesL_size]; omega) (Nat.zero_le _) (by rw [bytesL_list]; exact read_text hm) W).mono ?_
  rintro e w7 ⟨a, cap, rfl, hr, hb⟩
  have hbw := hW.trans (hb.mono hW.size)
  refine ⟨a, cap, rfl, hbw, hb, fun W' hW' => ?_⟩
  have hsk : SxK w7 (listT c) _ := hr.use
  have hsk' := hsk.below hW'
  have hbw' := hbw.trans (hW'.mono hbw.size)
  have hsx : Sx W' (listT c) (.agg #[.int .i8 (listT c).kind, .string (bytesL (listT c).text), .slice a (listT c).kids.length cap]) := by
    obtain ⟨bad, _, h2, _⟩ := hsk'
    exact h2.sx
  refine (cparse_any True (listT c) _ W' (hG.below hbw') hsx hRT (fun _ => hsk')).mono ?_
  rintro e w8 ⟨r, h1, h2, hb8, h3⟩
  have hr := h2 trivial hm
  rw [hp] at hr
  subst hr
  obtain ⟨d, hd, he, hn⟩ := h3
  exact ⟨d, hd, he, hn.s, hb8⟩
set_option maxRecDepth 100000 in
set_option maxHeartbeats 4000000 in
theorem CommandText_w (w : World) (x : CmdV) (hx : CmdS w x) (hF : Fine x.c) (hG : GH w) :
    Calls Tryz.prog 3 #[.agg #[.int .i8 x.c.kind, .string (bytesL x.c.name), .int .i64 x.c.n, .slice x.la x.c.l.length x.lc, .slice x.aa x.c.args.length x.ac, .slice x.pa x.c.params.length x.pc, .string (bytesL x.c.res), .slice x.ta x.c.terms.length x.tc]] w fun e w' => e = .returned (.bool true) ∧ Below w.heap.size w w' := by
  obtain ⟨W1, hW1⟩ : ∃ W1, W1 = w.alloc (.cells #[.int .i8 x.c.kind, .string (bytesL x.c.name), .int .i64 x.c.n, .slice x.la x.c.l.length x.lc, .slice x.aa x.c.args.length x.ac, .slice x.pa x.c.params.length x.pc, .string (bytesL x.c.res), .slice x.ta x.c.terms.length x.tc] 28) := ⟨_, rfl⟩
  have hB1 : Below w.heap.size w W1 := by rw [hW1]; exact (Below.refl _ _).alloc (Nat.le_refl _) _
  have hX1 : Box8 W1 w.heap.size x := by rw [hW1]; exact heap_alloc_new w _
  have hsz : W1.heap.size = w.heap.size + 1 := by rw [hW1]; simp
  have HL := Lib.hid hW1
  have HX : Hid (∀ W, Below W1.heap.size W1 W → Box8 W w.heap.size x) := fun W hW => (hW.block _ (by omega)).trans hX1
  have HGr : Hid (Calls Tryz.prog 5 #[.agg #[.int .i8 x.c.kind, .string (bytesL x.c.name), .int .i64 x.c.n, .slice x.la x.c.l.length x.lc, .slice x.aa x.c.args.length x.ac, .slice x.pa x.c.params.length x.pc, .string (bytesL x.c.res), .slice x.ta x.c.terms.length x.tc]] W1 fun e w' => (∃ r, e = .returned (.bool r) ∧ (r = false → Small x.c)) ∧ Below W1.heap.size W1 w') := great_any x W1 (hx.below hB1) hF
  have HWk : Hid (∀ W, Below W1.heap.size W1 W → Calls Tryz.prog 6 #[] W fun e w' => e = .returned (.bool true) ∧ Below W1.heap.size W1 w') := fun W hW => by
    refine (wakes_any W (hG.below (hB1.trans (hW.mono hB1.size)))).mono ?_
    rintro e w' ⟨rfl, hb⟩
    exact ⟨rfl, hW.trans (hb.mono hW.size)⟩
  have HTx : Hid (Small x.c → ∀ W, Below W1.heap.size W1 W → Calls Tryz.prog 7 #[.agg #[.int .i8 x.c.kind, .string (bytesL x.c.name), .int .i64 x.c.n, .slice x.la x.c.l.length x.lc, .slice x.aa x.c.args.length x.ac, .slice x.pa x.c.params.length x.pc, .string (bytesL x.c.res), .slice x.ta x.c.terms.length x.tc]] W fun e w' => Below W1.heap.size W1 w' ∧ ((∃ k : Nat, ¬ k = 0 ∧ e = .returned (.tuple #[.string ⟨#[]⟩, .int .i64 k])) ∨ ∃ t : ByteArray, e = .returned (.tuple #[.string t, .int .i64 0]) ∧
      Hid (∀ W, Below w'.heap.size w' W → Calls Tryz.prog 8 #[.string t, .int .i64 0] W fun e w7 => ∃ k0 s0 a n0 cap, e = .returned (.tuple #[.agg #[.int .i8 k0, .string s0, .slice a n0 cap], .int .i64 t.size, .int .i64 0]) ∧ Below W1.heap.size W1 w7 ∧
        Hid (∀ W', Below w7.heap.size w7 W' → Calls Tryz.prog 9 #[.agg #[.int .i8 k0, .string s0, .slice a n0 cap]] W' fun e w8 => ∃ d : CmdV, e = .returned (.tuple #[.agg #[.int .i8 d.c.kind, .string (bytesL d.c.name), .int .i64 d.c.n, .slice d.la d.c.l.length d.lc, .slice d.aa d.c.args.length d.ac, .slice d.pa d.c.params.length d.pc, .string (bytesL d.c.res), .slice d.ta d.c.terms.length d.tc], .int .i64 0]) ∧ Below W1.heap.size W1 w8 ∧
          Hid (∀ W'', Below w8.heap.size w8 W'' → Calls Tryz.prog 10 #[.agg #[.int .i8 x.c.kind, .string (bytesL x.c.name), .int .i64 x.c.n, .slice x.la x.c.l.length x.lc, .slice x.aa x.c.args.length x.ac, .slice x.pa x.c.params.length x.pc, .string (bytesL x.c.res), .slice x.ta x.c.terms.length x.tc], .agg #[.int .i8 d.c.kind, .string (bytesL d.c.name), .int .i64 d.c.n, .slice d.la d.c.l.length d.lc, .slice d.aa d.c.args.length d.ac, .slice d.pa d.c.params.length d.pc, .string (bytesL d.c.res), .slice d.ta d.c.terms.length d.tc]] W'' fun e w9 => e = .returned (.bool true) ∧ Below W1.heap.size W1 w9))))) := fun hSm W hW => by
    have hbW := hB1.trans (hW.mono hB1.size)
    refine (ctext_two False x W (hG.below hbW) (hx.below hbW) (list_ok x W (hG.below hbW) (hx.below hbW) (hF.fair hSm)) (rows_list hF hSm)).mono ?_
    rintro e w' ⟨⟨l, k, rfl, h1, h2, _⟩, hb⟩
    have hb1 := hW.trans (hb.mono hW.size)
    refine ⟨hb1, ?_⟩
    by_cases hk : k = 0
    · subst hk
      obtain ⟨hm, hp, rfl, h8⟩ := h1 rfl
      refine .inr ⟨_, rfl, fun W2 hW2 => ?_⟩
      have hb2 := hb1.trans (hW2.mono hb1.size)
      refine (text_back x.c W1 W2 (hG.below hB1) hb2 hm hp (rows_list hF hSm) h8).mono ?_
      rintro e w7 ⟨a, cap, rfl, hb7, _, hPa⟩
      refine ⟨_, _, a, _, cap, by rw [bytesL_size], hb7, fun W3 hW3 => ?_⟩
      refine (hPa.out W3 hW3).mono ?_
      rintro e w8 ⟨d, hd, rfl, hds, hb8⟩
      have hb18 := (hb7.trans (hW3.mono hb7.size)).trans (hb8.mono (hb7.trans (hW3.mono hb7.size)).size)
      refine ⟨d, rfl, hb18, fun W4 hW4 => ?_⟩
      have hb14 := hb18.trans (hW4.mono hb18.size)
      refine (RSame8 x d W4 (hx.below (hB1.trans (hb14.mono hB1.size))) (hds.below hW4)).mono ?_
      rintro e w9 ⟨⟨r, rfl, hr⟩, hb9⟩
      exact ⟨by rw [hr.2 hd.symm], hb14.trans (hb9.mono hb14.size)⟩
    · obtain rfl := h2 hk
      exact .inl ⟨k, hk, rfl⟩
  have HB1 := Lib.hid hB1
  obtain ⟨a0, a1, a2, a3, a4, a5, a6, a7⟩ := hX1.cells
  clear hx hF hG hW1 hB1 hX1
  go_enter Tryz.func3, Tryz.ntmps3
  go_wp2_with fail
  rw [← HL.out]
  clear HL
  refine HGr.out.mono ?_
  rintro e w2 ⟨⟨r, rfl, hr⟩, hb2⟩
  have HR := Lib.hid hr
  have HB2 := Lib.hid hb2
  clear HGr a0 a1 a2 a3 a4 a5 a6 a7 hr hb2
  cases r with
  | true =>
    go_wp2_with fail
    refine (HWk.out _ HB2.out).mono ?_
    rintro e w3 ⟨rfl, hb3⟩
    have HB3 := Lib.hid hb3
    clear hb3
    go_wp2
    go_ret
    exact ⟨rfl, HB1.out.trans (HB3.out.mono HB1.out.size)⟩
  | false =>
    have HSm : Hid (Small x.c) := by first | exact HR.out rfl | exact HR.out trivial
    obtain ⟨a0, a1, a2, a3, a4, a5, a6, a7⟩ := (HX.out _ HB2.out).cells
    go_wp2_with fail
    refine (HTx.out HSm.out _ HB2.out).mono ?_
    rintro e w3 ⟨hb3, hor⟩
    have HB3 := Lib.hid hb3
    clear HTx a0 a1 a2 a3 a4 a5 a6 a7 hb3
    rcases hor with ⟨k, hk, rfl⟩ | ⟨t, rfl, HRd⟩
    · have n1 := ne_true (x := (k : Int)) (y := 0) (by omega)
      clear hk
      go_wp2_with fail
      refine (HWk.out _ HB3.out).mono ?_
      rintro e w4 ⟨rfl, hb4⟩
      have HB4 := Lib.hid hb4
      clear hb4
      go_wp2
      go_ret
      exact ⟨rfl, HB1.out.trans (HB4.out.mono HB1.out.size)⟩
    · go_wp2_with fail
      refine (HRd.out _ (Below.refl _ _)).mono ?_
      rintro e w4 ⟨k0, s0, a, n0, cap, rfl, hb4, HPa⟩
      have HB4 := Lib.hid hb4
      clear hb4 HRd
      go_wp2_with fail
      refine (HPa.out _ ((Below.refl _ _).alloc (Nat.le_refl _) _)).mono ?_
      rintro e w5 ⟨d, rfl, hb5, HSa⟩
      have HB5 := Lib.hid hb5
      have hlt : w.heap.size < w5.heap.size := by have := hb5.size; omega
      clear hb5 HPa
      obtain ⟨a0, a1, a2, a3, a4, a5, a6, a7⟩ := (HX.out _ HB5.out).cells
      go_wp2_with fail
      refine (HSa.out _ ((Below.refl _ _).alloc (Nat.le_refl _) _)).mono ?_
      rintro e w6 ⟨rfl, hb6⟩
      have HB6 := Lib.hid hb6
      clear hb6 HSa a0 a1 a2 a3 a4 a5 a6 a7
      go_wp2_with fail
      refine (HWk.out _ HB6.out).mono ?_
      rintro e w7 ⟨rfl, hb7⟩
      have HB7 := Lib.hid hb7
      clear hb7
      go_wp2
      go_ret
      exact ⟨rfl, HB1.out.trans (HB7.out.mono HB1.out.size)⟩
end Go.Proofs.YtodonngnigbpaaaGreatDoor
