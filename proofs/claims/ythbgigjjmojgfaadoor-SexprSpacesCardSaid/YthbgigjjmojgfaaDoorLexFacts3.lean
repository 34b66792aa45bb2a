/- Plain facts on two texts with a line's end between: no Go program is named here. -/
import Derived.Test.YthbgigjjmojgfaaDoorLexFacts2
namespace Go.Proofs.YthbgigjjmojgfaaDoor
def shiftT (d : Nat) (t : Tok) : Tok := ⟨t.kind, t.text, t.pos + d, t.stop + d⟩
theorem sign10 : isSign 10 = false := by decide
theorem span_glue {z : UInt8} (hz : isSign z = false) (l y : List UInt8) : spanN isSign (l ++ z :: y) = spanN isSign l := spanN_append_stop (fun c h => by simp at h; subst h; exact hz)
theorem take_glue {l z : List UInt8} {n : Nat} (h : n ≤ l.length) : (l ++ z).take n = l.take n := List.take_append_of_le_length h
theorem readR_glue {z c : UInt8} {r y : List UInt8} {k : Nat} (hz : isSign z = false) (hk : kindN c = some k) (hok : (readR k (c :: r)).2.2 = true) : readR k (c :: r ++ z :: y) = readR k (c :: r) := by
  have hk4 := kindN_le hk
  match k, hk4 with
  | 0, _ => rfl
  | 1, _ => rfl
  | 2, _ =>
    simp only [readR, List.cons_append] at hok ⊢
    by_cases h : c.toNat = 124
    · rw [nameR_bar h] at hok ⊢
      rw [nameR_bar h]
      by_cases hb : r[spanN inBar r]? = some 124
      · obtain ⟨hlt, _⟩ := List.getElem?_eq_some_iff.1 hb
        have hs : spanN inBar (r ++ z :: y) = spanN inBar r := spanN_append_lt hlt
        have hb2 : (r ++ z :: y)[spanN inBar (r ++ z :: y)]? = some 124 := by rw [hs, List.getElem?_append_left hlt]; exact hb
        rw [barR_yes hb, barR_yes hb2, hs, take_glue (by omega)]
      · rw [barR_no hb] at hok; cases hok
    · rw [nameR_sign h, nameR_sign h]
      simp only [signR]
      have hs := span_glue hz (c :: r) y
      rw [List.cons_append] at hs
      rw [hs, ← List.cons_append, take_glue (spanN_le _ _)]
  | 3, _ =>
    simp only [readR, numR]
    rw [span_glue hz, take_glue (spanN_le _ _)]
  | 4, _ =>
    simp only [readR, keyR, List.cons_append, List.tail_cons]
    rw [span_glue hz, take_glue (spanN_le _ _)]
theorem tokN_glue {z : UInt8} {x y : List UInt8} {k m : Nat} {t : List UInt8} (hz : isSign z = false) (h : tokN x = some (k, t, m)) : tokN (x ++ z :: y) = some (k, t, m) := by
  obtain ⟨c, r, rfl, hk, hok, rfl, rfl, hlen⟩ := tokN_some h
  have hr := readR_glue (y := y) hz hk hok
  rw [List.cons_append] at hr ⊢
  rw [tokN_of hk (by rw [hr]; exact hok) (by rw [hr]; exact hlen), hr]
theorem skipN_glue_lt {cm : Bool} {x z : List UInt8} (h : skipN cm x < x.length) : skipN cm (x ++ z) = skipN cm x := by
  induction x generalizing cm with
  | nil => simp at h
  | cons c r ih =>
    cases hc : (cmt cm c || isWhite c) with
    | true =>
      rw [skipN_yes hc] at h ⊢
      rw [List.cons_append, skipN_yes hc, ih (by simpa using h)]
    | false => rw [skipN_no hc, List.cons_append, skipN_no hc]
theorem cmt10 (cm : Bool) : cmt cm 10 = false := by simp [cmt]
theorem skipN_glue_all {cm : Bool} {x y : List UInt8} (h : skipN cm x = x.length) : skipN cm (x ++ 10 :: y) = x.length + 1 + skipN false y := by
  induction x generalizing cm with
  | nil =>
    have hw : (cmt cm 10 || isWhite 10) = true := by rw [cmt10]; decide
    rw [List.nil_append, skipN_yes hw, cmt10]; simp; omega
  | cons c r ih =>
    cases hc : (cmt cm c || isWhite c) with
    | true =>
      rw [skipN_yes hc] at h
      rw [List.cons_append, skipN_yes hc, ih (by simpa using h)]
      simp; omega
    | false => rw [skipN_no hc] at h; simp at h
theorem drop_glue {a b : List UInt8} {k : Nat} (h : k ≤ a.length) : (a ++ 10 :: b).drop k = a.drop k ++ 10 :: b := List.drop_append_of_le_length h
theorem drop_glue2 (a b : List UInt8) (j : Nat) : (a ++ 10 :: b).drop (a.length + 1 + j) = b.drop j := by
  rw [List.drop_append, List.drop_eq_nil_of_le (by omega), List.nil_append, show a.length + 1 + j - a.length = j + 1 from by omega, List.drop_succ_cons]
theorem skipA_glue_lt {a b : List UInt8} {k : Nat} (hk : k ≤ a.length) (h : skipA a k < a.length) : skipA (a ++ 10 :: b) k = skipA a k := by
  unfold skipA at h ⊢
  rw [drop_glue hk, skipN_glue_lt (by simp; omega)]
theorem skipA_glue2 (a b : List UInt8) (j : Nat) : skipA (a ++ 10 :: b) (a.length + 1 + j) = skipA b j + (a.length + 1) := by
  unfold skipA
  rw [drop_glue2]; omega
theorem skipA_glue_all {a b : List UInt8} {k : Nat} (hk : k ≤ a.length) (h : skipA a k = a.length) : skipA (a ++ 10 :: b) k = skipA (a ++ 10 :: b) (a.length + 1 + 0) := by
  rw [skipA_glue2]
  unfold skipA at h ⊢
  rw [drop_glue hk, skipN_glue_all (by simp; omega), List.drop_zero]
  simp; omega
theorem allL_congr {l : List UInt8} {k k' : Nat} (hk : k ≤ l.length) (hk' : k' ≤ l.length) (h : skipA l k = skipA l k') : allL l k = allL l k' := by
  have hn : nextL l k = nextL l k' := by unfold nextL; rw [h]
  cases hok : (nextL l k).ok with
  | true => rw [allL_ok hk hok, allL_ok hk' (by rw [← hn]; exact hok), hn]
  | false =>
    by_cases he : (nextL l k).err = 0
    · rw [allL_end hk hok he, allL_end hk' (by rw [← hn]; exact hok) (by rw [← hn]; exact he)]
    · rw [allL_bad hk hok he, allL_bad hk' (by rw [← hn]; exact hok) (by rw [← hn]; exact he), hn]
/-- What a text whose tokens begin with t says. -/
theorem allL_head {l : List UInt8} {k : Nat} {t : Tok} {r : List Tok} {p e : Nat} (hk : k ≤ l.length) (h : allL l k = (t :: r, p, e)) :
    t.pos = skipA l k ∧ skipA l k ≠ l.length ∧ t.pos < t.stop ∧ t.stop ≤ l.length ∧ allL l t.stop = (r, p, e) ∧ tokN (l.drop (skipA l k)) = some (t.kind, t.text, t.stop - t.pos) := by
  obtain ⟨q1, q2, q3, q4, _⟩ := allL_cons hk h
  cases hok : (nextL l k).ok with
  | false =>
    by_cases he : (nextL l k).err = 0
    · rw [allL_end hk hok he] at h; cases h
    · rw [allL_bad hk hok he] at h; cases h
  | true =>
    rw [allL_ok hk hok] at h
    obtain ⟨h3, _⟩ := List.cons.inj (Prod.mk.inj h).1
    obtain ⟨kd, tx, m, hm, hn⟩ := nextL_ok hok
    rw [hn] at h3
    simp only at h3
    subst h3
    refine ⟨q1, by simp only at q2 q3; omega, q2, q3, q4, ?_⟩
    simp only [Nat.add_sub_cancel_left]
    exact hm
theorem allL_of_head {l : List UInt8} {k kd m : Nat} {tx : List UInt8} {r : List Tok} {p e : Nat} (hk : k ≤ l.length) (h1 : skipA l k ≠ l.length) (h2 : tokN (l.drop (skipA l k)) = some (kd, tx, m)) (h3 : allL l (skipA l k + m) = (r, p, e)) :
    allL l k = (⟨kd, tx, skipA l k, skipA l k + m⟩ :: r, p, e) := by
  have hn : nextL l k = ⟨⟨kd, tx, skipA l k, skipA l k + m⟩, true, 0⟩ := by
    unfold nextL nextA
    rw [if_neg h1, h2]
  rw [allL_ok hk (by rw [hn]), hn]
  simp only
  rw [h3]
theorem allL_of_end {l : List UInt8} {k : Nat} (hk : k ≤ l.length) (h : skipA l k = l.length) : allL l k = ([], l.length, 0) := by
  have hn : nextL l k = ⟨⟨0, [], 0, 0⟩, false, 0⟩ := by unfold nextL nextA; rw [if_pos h]
  exact allL_end hk (by rw [hn]) (by rw [hn])
theorem glue_right {a b : List UInt8} {tb : List Tok} {p : Nat} : ∀ j, j ≤ b.length → allL b j = (tb, p, 0) → allL (a ++ 10 :: b) (a.length + 1 + j) = (tb.map (shiftT (a.length + 1)), (a ++ 10 :: b).length, 0) := by
  induction tb with
  | nil =>
    intro j hj h
    obtain ⟨q1, q2⟩ := allL_nil hj h
    have : skipA b j = b.length := by rcases q2 with ⟨_, q⟩ | ⟨q, _⟩ <;> omega
    rw [allL_of_end (by simp; omega) (by rw [skipA_glue2, this]; simp; omega)]; rfl
  | cons t r ih =>
    intro j hj h
    obtain ⟨q1, q2, q3, q4, q5, q6⟩ := allL_head hj h
    have hsk := skipA_glue2 a b j
    have h3 := ih t.stop q4 q5
    have hL := allL_of_head (l := a ++ 10 :: b) (k := a.length + 1 + j) (kd := t.kind) (m := t.stop - t.pos) (tx := t.text) (r := r.map (shiftT (a.length + 1))) (p := (a ++ 10 :: b).length) (e := 0) (by simp; omega) (by rw [hsk]; have := (skipA_le hj).2; simp; omega)
      (by rw [hsk, Nat.add_comm (skipA b j), drop_glue2]; exact q6) (by rw [hsk, ← h3]; congr 1; omega)
    rw [hL, hsk]
    simp only [List.map_cons, shiftT]
    congr 3 <;> omega
theorem glue_left {a b : List UInt8} {ta tb : List Tok} {p q : Nat} (hb : allL b 0 = (tb, q, 0)) : ∀ k, k ≤ a.length → allL a k = (ta, p, 0) → allL (a ++ 10 :: b) k = (ta ++ tb.map (shiftT (a.length + 1)), (a ++ 10 :: b).length, 0) := by
  induction ta with
  | nil =>
    intro k hk h
    obtain ⟨q1, q2⟩ := allL_nil hk h
    have hs : skipA a k = a.length := by rcases q2 with ⟨_, q⟩ | ⟨q, _⟩ <;> omega
    rw [List.nil_append, ← glue_right 0 (Nat.zero_le _) hb]
    exact allL_congr (by simp; omega) (by simp) (skipA_glue_all hk hs)
  | cons t r ih =>
    intro k hk h
    obtain ⟨q1, q2, q3, q4, q5, q6⟩ := allL_head hk h
    have hlt : skipA a k < a.length := by have := (skipA_le hk).2; omega
    have hsk := skipA_glue_lt (b := b) hk hlt
    have h3 := ih t.stop q4 q5
    have hL := allL_of_head (l := a ++ 10 :: b) (k := k) (kd := t.kind) (m := t.stop - t.pos) (tx := t.text) (r := r ++ tb.map (shiftT (a.length + 1))) (p := (a ++ 10 :: b).length) (e := 0) (by simp; omega) (by rw [hsk]; simp; omega)
      (by rw [hsk, drop_glue (by omega)]; exact tokN_glue sign10 q6) (by rw [hsk, ← h3]; congr 1; omega)
    rw [hL, hsk, List.cons_append]
    congr 2
    obtain ⟨kd, tx, ps, st⟩ := t
    simp only at q1 q3 ⊢
    congr 1 <;> omega
end Go.Proofs.YthbgigjjmojgfaaDoor
