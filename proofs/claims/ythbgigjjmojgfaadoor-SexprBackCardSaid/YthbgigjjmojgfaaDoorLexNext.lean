/- The method token and the function Next of package lex answer what the plain facts say. -/
import Derived.Test.YthbgigjjmojgfaaDoorLexTok3
import Derived.Test.YthbgigjjmojgfaaDoorLexTok4
import Derived.Test.YthbgigjjmojgfaaDoorLexTok5
namespace Go.Proofs.YthbgigjjmojgfaaDoor
open Go.RowKit
def bytesL (t : List UInt8) : ByteArray := ⟨t.toArray⟩
theorem bytesL_size (t : List UInt8) : (bytesL t).size = t.length := by show t.toArray.size = _; simp
theorem bytesL_list (t : List UInt8) : (bytesL t).data.toList = t := by simp [bytesL]
theorem extract_bytes (s : ByteArray) (a m : Nat) : s.extract a (a + m) = bytesL ((s.data.toList.drop a).take m) := by
  apply ByteArray.ext
  apply Array.toList_inj.1
  rw [Lib.extract_data, bytesL_list]
  congr 1; omega
theorem at_get (s : ByteArray) (n : Nat) (hn : n < s.size) : s.data.toList[n]? = some s[n] := by
  rw [List.getElem?_eq_getElem (by simpa using hn)]; rfl
/-- What the readers answer, by the plain facts. -/
theorem token_yes (s : ByteArray) (n k m : Nat) (t : List UInt8) (w : World) (hG : Globs w) (hn : n < s.size) (hs : s.size ≤ 9223372036854775807) (h : tokN (s.data.toList.drop n) = some (k, t, m)) :
    Calls Tryd.prog 39 #[.agg #[.string s, .int .i64 n]] w fun e w' => e = .returned (tokenV k (bytesL t) n ((n + m : Nat) : Int) true) ∧ Below w.heap.size w w' := by
  obtain ⟨c, r, hc, hk, hok, rfl, rfl, hlen⟩ := tokN_some h
  rw [drop_cons s n hn] at hc
  obtain ⟨rfl, rfl⟩ := List.cons.inj hc
  rw [drop_cons s n hn] at hok hlen ⊢
  clear hc h
  match k, kindN_le hk with
  | 0, _ => exact token_0 s n _ _ w hG hn hs hk (fun W _ => by simpa [readR, bytesL] using paren_any s n W hn hs) (by rw [bytesL_size]; exact hlen)
  | 1, _ => exact token_1 s n _ _ w hG hn hs hk (fun W _ => by simpa [readR, bytesL] using paren_any s n W hn hs) (by rw [bytesL_size]; exact hlen)
  | 2, _ =>
    simp only [readR] at hok hlen ⊢
    by_cases h124 : s[n].toNat = 124
    · rw [nameR_bar h124] at hok hlen ⊢
      by_cases hb : (s.data.toList.drop (n + 1))[spanN inBar (s.data.toList.drop (n + 1))]? = some 124
      · rw [barR_yes hb] at hok hlen ⊢
        rw [List.getElem?_drop] at hb
        obtain ⟨hlt, hb'⟩ := List.getElem?_eq_some_iff.1 hb
        have hlt' : n + 1 + spanN inBar (s.data.toList.drop (n + 1)) < s.size := by simpa using hlt
        have hj : s[n + 1 + spanN inBar (s.data.toList.drop (n + 1))].toNat = 124 := by
          have : s[n + 1 + spanN inBar (s.data.toList.drop (n + 1))] = 124 := hb'
          rw [this]; rfl
        refine token_2 s n _ _ w hG hn hs hk (fun W hW => ?_) (by rw [bytesL_size]; exact hlen)
        have := name_bar_yes s n _ W hW hn hs rfl hlt' hj h124
        rw [extract_bytes] at this
        refine this.mono fun e w' ⟨he, hb⟩ => ⟨by rw [he]; exact ret_three rfl (val_int (by simp; omega)) rfl, hb⟩
      · rw [barR_no hb] at hok; cases hok
    · rw [nameR_sign h124] at hlen ⊢
      refine token_2 s n _ _ w hG hn hs hk (fun W hW => ?_) (by rw [bytesL_size]; exact hlen)
      have := name_sign s n _ W hW hn hs rfl h124
      rw [extract_bytes, drop_cons s n hn] at this
      exact this
  | 3, _ =>
    simp only [readR, numR] at hok hlen ⊢
    refine token_3 s n _ _ w hG hn hs hk (fun W hW => ?_) (by rw [bytesL_size]; exact hlen)
    have hp := spanN_pos (r := s.data.toList.drop (n + 1)) (isDg_sign (kindN_num hk))
    have := numeral_any s n _ W hW hn hs rfl (by rw [drop_cons s n hn]; omega)
    rw [extract_bytes, drop_cons s n hn, bytesL_list, hok] at this
    exact this
  | 4, _ =>
    simp only [readR, keyR, List.tail_cons] at hok hlen ⊢
    refine token_4 s n _ _ w hG hn hs hk (fun W hW => ?_) (by rw [bytesL_size]; exact hlen)
    have := keyword_any s n _ W hW hn hs rfl
    rw [extract_bytes, ByteArray.toList_eq, bytesL_list, hok] at this
    refine this.mono fun e w' ⟨he, hb⟩ => ⟨by rw [he]; exact ret_three rfl (val_int (by simp; omega)) rfl, hb⟩
theorem token_nope (s : ByteArray) (n : Nat) (w : World) (hG : Globs w) (hn : n < s.size) (hs : s.size ≤ 9223372036854775807) (h : tokN (s.data.toList.drop n) = none) :
    Calls Tryd.prog 39 #[.agg #[.string s, .int .i64 n]] w fun e w' => e = .returned (tokenV 0 ⟨#[]⟩ 0 0 false) ∧ Below w.heap.size w w' := by
  rw [drop_cons s n hn] at h
  cases hk : kindN s[n] with
  | none => exact token_none s n w hG hn hs hk
  | some k =>
    have hbad : (readR k (s[n] :: s.data.toList.drop (n + 1))).2.2 = false ∨ 100 < (readR k (s[n] :: s.data.toList.drop (n + 1))).1.length := by
      simp only [tokN, hk] at h
      split at h
      · cases h
      · rename_i hx
        cases hy : (readR k (s[n] :: s.data.toList.drop (n + 1))).2.2 with
        | false => exact .inl rfl
        | true => exact .inr (by rw [hy] at hx; simp at hx; omega)
    clear h
    match k, kindN_le hk with
    | 0, _ => simp [readR] at hbad
    | 1, _ => simp [readR] at hbad
    | 2, _ =>
      simp only [readR] at hbad
      by_cases h124 : s[n].toNat = 124
      · rw [nameR_bar h124] at hbad
        by_cases hb : (s.data.toList.drop (n + 1))[spanN inBar (s.data.toList.drop (n + 1))]? = some 124
        · rw [barR_yes hb] at hbad
          rw [List.getElem?_drop] at hb
          obtain ⟨hlt, hb'⟩ := List.getElem?_eq_some_iff.1 hb
          have hlt' : n + 1 + spanN inBar (s.data.toList.drop (n + 1)) < s.size := by simpa using hlt
          have hj : s[n + 1 + spanN inBar (s.data.toList.drop (n + 1))].toNat = 124 := by
            have : s[n + 1 + spanN inBar (s.data.toList.drop (n + 1))] = 124 := hb'
            rw [this]; rfl
          rcases hbad with hbad | hbad
          · cases hbad
          · refine token_2_long s n _ _ w hG hn hs hk (fun W hW => name_bar_yes s n _ W hW hn hs rfl hlt' hj h124) (by rw [extract_bytes, bytesL_size]; exact hbad)
        · refine token_2_no s n _ _ w hG hn hs hk (fun W hW => name_bar_no s n _ W hW hn hs rfl (fun hlt h => hb ?_) h124)
          rw [List.getElem?_drop, at_get s _ hlt]
          exact congrArg some (UInt8.toNat_inj.1 h)
      · rw [nameR_sign h124] at hbad
        rcases hbad with hbad | hbad
        · cases hbad
        · refine token_2_long s n _ _ w hG hn hs hk (fun W hW => name_sign s n _ W hW hn hs rfl h124) (by rw [extract_bytes, bytesL_size, drop_cons s n hn]; exact hbad)
    | 3, _ =>
      simp only [readR, numR] at hbad
      have hp := spanN_pos (r := s.data.toList.drop (n + 1)) (isDg_sign (kindN_num hk))
      cases hy : numOk ((s[n] :: s.data.toList.drop (n + 1)).take (spanN isSign (s[n] :: s.data.toList.drop (n + 1)))) with
      | false =>
        refine token_3_no s n (bytesL ((s[n] :: s.data.toList.drop (n + 1)).take (spanN isSign (s[n] :: s.data.toList.drop (n + 1))))) ((n + spanN isSign (s[n] :: s.data.toList.drop (n + 1)) : Nat) : Int) w hG hn hs hk (fun W hW => ?_)
        have := numeral_any s n _ W hW hn hs rfl (by rw [drop_cons s n hn]; omega)
        rw [extract_bytes, drop_cons s n hn, bytesL_list, hy] at this
        exact this
      | true =>
        rcases hbad with hbad | hbad
        · rw [hbad] at hy; cases hy
        · refine token_3_long s n (bytesL ((s[n] :: s.data.toList.drop (n + 1)).take (spanN isSign (s[n] :: s.data.toList.drop (n + 1))))) ((n + spanN isSign (s[n] :: s.data.toList.drop (n + 1)) : Nat) : Int) w hG hn hs hk (fun W hW => ?_) (by rw [bytesL_size]; exact hbad)
          have := numeral_any s n _ W hW hn hs rfl (by rw [drop_cons s n hn]; omega)
          rw [extract_bytes, drop_cons s n hn, bytesL_list, hy] at this
          exact this
    | 4, _ =>
      simp only [readR, keyR, List.tail_cons] at hbad
      cases hy : !((s.data.toList.drop (n + 1)).take (spanN isSign (s.data.toList.drop (n + 1)))).isEmpty with
      | false =>
        refine token_4_no s n (bytesL ((s.data.toList.drop (n + 1)).take (spanN isSign (s.data.toList.drop (n + 1))))) ((n + 1 + spanN isSign (s.data.toList.drop (n + 1)) : Nat) : Int) w hG hn hs hk (fun W hW => ?_)
        have := keyword_any s n _ W hW hn hs rfl
        rw [extract_bytes, ByteArray.toList_eq, bytesL_list, hy] at this
        exact this
      | true =>
        rcases hbad with hbad | hbad
        · rw [hbad] at hy; cases hy
        · refine token_4_long s n (bytesL ((s.data.toList.drop (n + 1)).take (spanN isSign (s.data.toList.drop (n + 1))))) ((n + 1 + spanN isSign (s.data.toList.drop (n + 1)) : Nat) : Int) w hG hn hs hk (fun W hW => ?_) (by rw [bytesL_size]; exact hbad)
          have := keyword_any s n _ W hW hn hs rfl
          rw [extract_bytes, ByteArray.toList_eq, bytesL_list, hy] at this
          exact this
/-- A token, as the program holds it. -/
def tokV (t : Tok) : Value := .agg #[.int .i8 t.kind, .string (bytesL t.text), .int .i64 t.pos, .int .i64 t.stop]
def nxtV (x : Nxt) : Value := .tuple #[tokV x.tok, .bool x.ok, .int .i64 x.err]
theorem tokV_at (k : Nat) (t : List UInt8) (n m : Nat) : tokV ⟨k, t, n, m⟩ = .agg #[.int .i8 k, .string (bytesL t), .int .i64 n, .int .i64 m] := rfl
theorem nextA_end {l : List UInt8} {n : Nat} (h : n = l.length) : nextA l n = ⟨⟨0, [], 0, 0⟩, false, 0⟩ := by unfold nextA; rw [if_pos h]
theorem nextA_bad {l : List UInt8} {n : Nat} (h : ¬ n = l.length) (h2 : tokN (l.drop n) = none) : nextA l n = ⟨⟨0, [], n, 0⟩, false, 20⟩ := by unfold nextA; rw [if_neg h, h2]
theorem nextA_ok {l : List UInt8} {n k m : Nat} {t : List UInt8} (h : ¬ n = l.length) (h2 : tokN (l.drop n) = some (k, t, m)) : nextA l n = ⟨⟨k, t, n, n + m⟩, true, 0⟩ := by unfold nextA; rw [if_neg h, h2]
theorem set4 {w : World} {b : Nat} {t : TypeId} {a0 a1 a2 a3 v0 v1 v2 v3 : Value} (h : w.heap[b]? = some (.cells #[a0, a1, a2, a3] t (0, 0))) :
    ((((w.setCell ⟨b, 0, none⟩ v0).setCell ⟨b, 1, none⟩ v1).setCell ⟨b, 2, none⟩ v2).setCell ⟨b, 3, none⟩ v3).heap[b]? = some (.cells #[v0, v1, v2, v3] t (0, 0)) := by
  simp [World.setCell, Array.getElem?_modify, h]
set_option maxHeartbeats 1000000 in
theorem Next_any (s : ByteArray) (at_ : Int) (w : World) (hG : Globs w) (hs : s.size ≤ 9223372036854775807) :
    Calls Tryd.prog 25 #[.string s, .int .i64 at_] w fun e w' => e = .returned (nxtV (nextL s.data.toList (clampN at_ s.size))) ∧ Below w.heap.size w w' := by
  have HL : Hid (s.data.toList.length = s.size) := by show _ = _; simp
  have hle := (skipA_le (l := s.data.toList) (k := clampN at_ s.size) (by rw [HL.out]; exact clampN_le _ _)).2
  rw [HL.out] at hle
  obtain ⟨n, hn⟩ : ∃ n, n = skipA s.data.toList (clampN at_ s.size) := ⟨_, rfl⟩
  unfold nextL
  have HS : Hid (∀ W : World, Globs W → Calls Tryd.prog 28 #[.string s, .int .i64 at_] W fun e w' => e = .returned (.int .i64 (n : Int)) ∧ Below W.heap.size W w') := by
    rw [hn]; exact fun W hW => Skip_any s at_ W hW hs
  rw [← hn] at hle ⊢
  have HG := Lib.hid hG
  have hb0 : Below w.heap.size w (w.alloc (.cells #[.int .i8 0, .string ⟨#[]⟩, .int .i64 0, .int .i64 0] 47)) := (Below.refl _ _).alloc (Nat.le_refl _) _
  have HB := Lib.hid hb0
  clear hb0 hG hn
  by_cases hend : n = s.size
  · rw [nextA_end (by rw [HL.out]; exact hend)]
    have e1 := eq_true_ (x := (n : Int)) (y := (s.size : Int)) (by omega)
    clear hend
    go_enter Tryd.func25, Tryd.ntmps25
    go_wp2_with fail
    refine (HS.out _ (HG.out.below HB.out)).mono ?_
    rintro e w1 ⟨rfl, hb1⟩
    obtain ⟨hc, hf⟩ := bcell hb1
    have hz : w.heap.size < w1.heap.size := by have := hb1.size; simp at this; omega
    have hbw : Below w.heap.size w w1 := HB.out.trans (hb1.mono HB.out.size)
    have HBW := Lib.hid hbw
    clear hbw
    go_wp2
    exact bodyPost_ret (v := nxtV ⟨⟨0, [], 0, 0⟩, false, 0⟩) (by simp [results, Tryd.results25, go_sem, nxtV, tokV, bytesL, hc]) rfl ⟨rfl, (((HBW.out.setCell (by simp) _).setCell (by simp) _).setCell (by simp) _).setCell (by simp) _⟩
  · have e1 := eq_false (x := (n : Int)) (y := (s.size : Int)) (by omega)
    have hlt : n < s.size := by omega
    have hne : ¬ n = s.data.toList.length := by rw [HL.out]; exact hend
    cases htok : tokN (s.data.toList.drop n) with
    | none =>
      rw [nextA_bad hne htok]
      have HT := Lib.hid htok
      clear htok hend hne
      go_enter Tryd.func25, Tryd.ntmps25
      go_wp2_with fail
      refine (HS.out _ (HG.out.below HB.out)).mono ?_
      rintro e w1 ⟨rfl, hb1⟩
      have HG1 := Lib.hid ((HG.out.below HB.out).below hb1)
      go_wp2_with fail
      refine (token_nope s n _ HG1.out hlt hs HT.out).mono ?_
      rintro e w2 ⟨rfl, hb2⟩
      have hb12 := hb1.trans (hb2.mono hb1.size)
      obtain ⟨hc, hf⟩ := bcell hb12
      have hz : w.heap.size < w2.heap.size := by have := hb12.size; simp at this; omega
      have hbw : Below w.heap.size w w2 := HB.out.trans (hb12.mono HB.out.size)
      have HBW := Lib.hid hbw
      clear hbw
      have hB2 : w2.heap[w.heap.size]? = some (.cells #[.int .i8 0, .string ⟨#[]⟩, .int .i64 0, .int .i64 0] 47 (0, 0)) := (hb12.block _ (by simp)).trans (heap_alloc_new w _)
      have HB2 := Lib.hid hB2
      clear hB2
      unfold tokenV
      go_wp2
      clear hc hf
      refine bodyPost_ret (v := nxtV ⟨⟨0, [], n, 0⟩, false, 20⟩) (by
        have h8 := set4 (v0 := .int .i8 0) (v1 := .string ⟨#[]⟩) (v2 := .int .i64 n) (v3 := .int .i64 0) (set4 (v0 := .int .i8 0) (v1 := .string ⟨#[]⟩) (v2 := .int .i64 0) (v3 := .int .i64 0) HB2.out)
        have r0 := cell_of_row _ _ 0 _ _ _ h8
        have r1 := cell_of_row _ _ 1 _ _ _ h8
        have r2 := cell_of_row _ _ 2 _ _ _ h8
        have r3 := cell_of_row _ _ 3 _ _ _ h8
        simp [results, Tryd.results25, go_sem, nxtV, tokV, bytesL, r0, r1, r2, r3]) rfl ⟨rfl, (((((((HBW.out.setCell (by simp) _).setCell (by simp) _).setCell (by simp) _).setCell (by simp) _).setCell (by simp) _).setCell (by simp) _).setCell (by simp) _).setCell (by simp) _⟩
    | some x =>
      obtain ⟨k, t, m⟩ := x
      rw [nextA_ok hne htok]
      have HT := Lib.hid htok
      clear htok hend hne
      go_enter Tryd.func25, Tryd.ntmps25
      go_wp2_with fail
      refine (HS.out _ (HG.out.below HB.out)).mono ?_
      rintro e w1 ⟨rfl, hb1⟩
      have HG1 := Lib.hid ((HG.out.below HB.out).below hb1)
      go_wp2_with fail
      refine (token_yes s n k m t _ HG1.out hlt hs HT.out).mono ?_
      rintro e w2 ⟨rfl, hb2⟩
      have hb12 := hb1.trans (hb2.mono hb1.size)
      obtain ⟨hc, hf⟩ := bcell hb12
      have hz : w.heap.size < w2.heap.size := by have := hb12.size; simp at this; omega
      have hbw : Below w.heap.size w w2 := HB.out.trans (hb12.mono HB.out.size)
      have HBW := Lib.hid hbw
      clear hbw
      have hB2 : w2.heap[w.heap.size]? = some (.cells #[.int .i8 0, .string ⟨#[]⟩, .int .i64 0, .int .i64 0] 47 (0, 0)) := (hb12.block _ (by simp)).trans (heap_alloc_new w _)
      have HB2 := Lib.hid hB2
      clear hB2
      unfold tokenV
      go_wp2
      clear hc hf
      refine bodyPost_ret (v := nxtV ⟨⟨k, t, n, n + m⟩, true, 0⟩) (by
        have h8 := set4 (v0 := .int .i8 k) (v1 := .string (bytesL t)) (v2 := .int .i64 n) (v3 := .int .i64 ((n : Int) + m)) (set4 (v0 := .int .i8 k) (v1 := .string (bytesL t)) (v2 := .int .i64 n) (v3 := .int .i64 ((n : Int) + m)) HB2.out)
        have r0 := cell_of_row _ _ 0 _ _ _ h8
        have r1 := cell_of_row _ _ 1 _ _ _ h8
        have r2 := cell_of_row _ _ 2 _ _ _ h8
        have r3 := cell_of_row _ _ 3 _ _ _ h8
        simp [results, Tryd.results25, go_sem, nxtV, tokV, r0, r1, r2, r3]) rfl ⟨rfl, (((((((HBW.out.setCell (by simp) _).setCell (by simp) _).setCell (by simp) _).setCell (by simp) _).setCell (by simp) _).setCell (by simp) _).setCell (by simp) _).setCell (by simp) _⟩
theorem Next_nat (s : ByteArray) (k : Nat) (w : World) (hG : Globs w) (hs : s.size ≤ 9223372036854775807) (hk : k ≤ s.size) :
    Calls Tryd.prog 25 #[.string s, .int .i64 k] w fun e w' => e = .returned (nxtV (nextL s.data.toList k)) ∧ Below w.heap.size w w' := by
  have := Next_any s k w hG hs
  rw [clampN_nat hk] at this
  exact this
end Go.Proofs.YthbgigjjmojgfaaDoor
