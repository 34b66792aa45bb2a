/- Plain facts on names that are written: no Go program is named here. -/
import Derived.Test.YtinogambkfihpaaDoorLexPlain
namespace Go.Proofs.YtinogambkfihpaaDoor
theorem cmt_false_of {cm : Bool} {c : UInt8} (h : (cmt cm c || isWhite c) = false) : (cmt false c || isWhite c) = false := by
  simp only [Bool.or_eq_false_iff, cmt, Bool.and_eq_false_iff, isWhite] at h ⊢
  obtain ⟨h1, h2⟩ := h
  refine ⟨?_, h2⟩
  rcases h1 with h1 | h1
  · exact .inl h1
  · exact .inr ⟨trivial, h1.2⟩
theorem skipN_idem (cm : Bool) (l : List UInt8) : skipN false (l.drop (skipN cm l)) = 0 := by
  induction l generalizing cm with
  | nil => simp [skipN]
  | cons c r ih =>
    cases h : (cmt cm c || isWhite c) with
    | true => rw [skipN_yes h, List.drop_succ_cons]; exact ih _
    | false => rw [skipN_no h, List.drop_zero, skipN_no (cmt_false_of h)]
theorem skipN_take (cm : Bool) (l : List UInt8) : skipN cm (l.take (skipN cm l)) = skipN cm l := by
  induction l generalizing cm with
  | nil => simp [skipN]
  | cons c r ih =>
    cases h : (cmt cm c || isWhite c) with
    | true => rw [skipN_yes h, List.take_succ_cons, skipN_yes h, ih]
    | false => rw [skipN_no h]; simp [skipN]
theorem skipA_idem {l : List UInt8} {k : Nat} : skipA l (skipA l k) = skipA l k := by
  have h := skipN_idem false (l.drop k)
  rw [List.drop_drop] at h
  show skipA l k + skipN false (l.drop (skipA l k)) = skipA l k
  unfold skipA
  rw [h]; rfl
theorem allL_skipped {x : List UInt8} (h : skipN false x = x.length) : allL x 0 = ([], x.length, 0) := by
  have hs : skipA x 0 = x.length := by unfold skipA; rw [List.drop_zero, h]; omega
  have hn : nextL x 0 = ⟨⟨0, [], 0, 0⟩, false, 0⟩ := by
    unfold nextL nextA
    rw [if_pos hs]
  exact allL_end (Nat.zero_le _) (by rw [hn]) (by rw [hn])
theorem skips_all {l : List UInt8} {m : Nat} (hm : m ≤ l.length) : allL ((l.drop m).take (skipA l m - m)) 0 = ([], skipA l m - m, 0) := by
  have hle := (skipA_le hm).2
  have e : skipA l m - m = skipN false (l.drop m) := by unfold skipA; omega
  have hlen : ((l.drop m).take (skipA l m - m)).length = skipA l m - m := by simp; omega
  have := allL_skipped (x := (l.drop m).take (skipA l m - m)) (by rw [hlen]; rw [e]; exact skipN_take _ _)
  rw [hlen] at this
  exact this
end Go.Proofs.YtinogambkfihpaaDoor
namespace Go.Proofs.YtinogambkfihpaaDoor
theorem span_take_self (p : UInt8 → Bool) (l : List UInt8) : spanN p (l.take (spanN p l)) = spanN p l := by
  rw [spanN_all (spanN_take p l), List.length_take]
  have := spanN_le p l
  omega
theorem span_take_more {p : UInt8 → Bool} {l : List UInt8} {d : UInt8} (h : l[spanN p l]? = some d) : spanN p (l.take (spanN p l + 1)) = spanN p l := by
  obtain ⟨hlt, hd⟩ := List.getElem?_eq_some_iff.1 h
  rw [List.take_succ_eq_append_getElem hlt, spanN_append (spanN_take p l), hd, spanN_no (spanN_stop h), List.length_take]
  omega
theorem kind_start {c : UInt8} {k : Nat} (h : kindN c = some k) : (cmt false c || isWhite c) = false := by
  have key : ∀ n : Fin 256, kindN (UInt8.ofNat n.val) ≠ none → (cmt false (UInt8.ofNat n.val) || isWhite (UInt8.ofNat n.val)) = false := by decide +kernel
  have := key ⟨c.toNat, c.toNat_lt⟩
  simp only [UInt8.ofNat_toNat] at this
  exact this (by rw [h]; exact fun e => by cases e)
theorem readR_take {c : UInt8} {r : List UInt8} {k : Nat} (hk : kindN c = some k) (hok : (readR k (c :: r)).2.2 = true) : readR k ((c :: r).take (readR k (c :: r)).2.1) = readR k (c :: r) := by
  have hk4 := kindN_le hk
  match k, hk4 with
  | 0, _ => rfl
  | 1, _ => rfl
  | 2, _ =>
    simp only [readR] at hok ⊢
    by_cases h : c.toNat = 124
    · rw [nameR_bar h] at hok ⊢
      by_cases hb : r[spanN inBar r]? = some 124
      · rw [barR_yes hb]
        simp only [List.take_succ_cons]
        rw [nameR_bar h]
        have hs := span_take_more hb
        have hb2 : (r.take (spanN inBar r + 1))[spanN inBar (r.take (spanN inBar r + 1))]? = some 124 := by
          rw [hs, List.getElem?_take_of_lt (by omega)]; exact hb
        rw [barR_yes hb2, hs, List.take_take, Nat.min_eq_left (by omega)]
      · rw [barR_no hb] at hok; cases hok
    · rw [nameR_sign h]
      rcases kindN_name hk with h' | h'
      · exact absurd h' h
      · simp only [signR]
        obtain ⟨j, hj⟩ : ∃ j, spanN isSign (c :: r) = j + 1 := ⟨spanN isSign r, spanN_yes h'⟩
        have hs := span_take_self isSign (c :: r)
        rw [hj] at hs ⊢
        rw [List.take_succ_cons] at hs ⊢
        rw [nameR_sign h]
        simp only [signR]
        rw [hs, List.take_succ_cons, List.take_take, Nat.min_self]
  | 3, _ =>
    simp only [readR, numR] at hok ⊢
    have hs := span_take_self isSign (c :: r)
    rw [hs, List.take_take, Nat.min_self]
  | 4, _ =>
    simp only [readR, keyR, List.tail_cons] at hok ⊢
    rw [List.take_succ_cons, List.tail_cons]
    have hs := span_take_self isSign r
    rw [hs, List.take_take, Nat.min_self]
theorem token_alone {x : List UInt8} {k m : Nat} {t : List UInt8} (h : tokN x = some (k, t, m)) : nextL (x.take m) 0 = ⟨⟨k, t, 0, m⟩, true, 0⟩ := by
  have hm := tokN_bounds h
  obtain ⟨c, r, rfl, hk, hok, rfl, rfl, hlen⟩ := tokN_some h
  have hr := readR_take hk hok
  obtain ⟨j, hj⟩ : ∃ j, (readR k (c :: r)).2.1 = j + 1 := ⟨(readR k (c :: r)).2.1 - 1, by omega⟩
  have hs : skipA ((c :: r).take (readR k (c :: r)).2.1) 0 = 0 := by
    unfold skipA
    rw [List.drop_zero, hj, List.take_succ_cons, skipN_no (kind_start hk)]
  unfold nextL
  rw [hs]
  unfold nextA
  have hl : ((c :: r).take (readR k (c :: r)).2.1).length = (readR k (c :: r)).2.1 := by rw [List.length_take]; omega
  rw [if_neg (by rw [hl]; omega), List.drop_zero]
  have ht : tokN ((c :: r).take (readR k (c :: r)).2.1) = some (k, (readR k (c :: r)).1, (readR k (c :: r)).2.1) := by
    conv => lhs; rw [hj, List.take_succ_cons]
    have e1 : c :: r.take j = (c :: r).take (readR k (c :: r)).2.1 := by rw [hj, List.take_succ_cons]
    rw [tokN_of hk (by rw [e1, hr]; exact hok) (by rw [e1, hr]; exact hlen), e1, hr]
  rw [ht]
  simp
/-- A step along the tokens. -/
theorem allL_cons {l : List UInt8} {k : Nat} {t : Tok} {r : List Tok} {p e : Nat} (hk : k ≤ l.length) (h : allL l k = (t :: r, p, e)) :
    t.pos = skipA l k ∧ t.pos < t.stop ∧ t.stop ≤ l.length ∧ allL l t.stop = (r, p, e) ∧ nextL ((l.drop t.pos).take (t.stop - t.pos)) 0 = ⟨⟨t.kind, t.text, 0, t.stop - t.pos⟩, true, 0⟩ := by
  cases hok : (nextL l k).ok with
  | false =>
    by_cases he : (nextL l k).err = 0
    · rw [allL_end hk hok he] at h; cases h
    · rw [allL_bad hk hok he] at h; cases h
  | true =>
    have hst := nextL_stop hk hok
    rw [allL_ok hk hok] at h
    obtain ⟨h1, h2⟩ := Prod.mk.inj h
    obtain ⟨h3, h4⟩ := List.cons.inj h1
    obtain ⟨kd, tx, m, hm, hn⟩ := nextL_ok hok
    have hb := tokN_bounds hm
    rw [hn] at h3 h4 h2 hst
    simp only at h3 h4 h2 hst
    subst h3
    simp only at hst ⊢
    refine ⟨trivial, by omega, hst.2.1, Prod.ext h4 h2, ?_⟩
    rw [Nat.add_sub_cancel_left]
    exact token_alone hm
theorem allL_nil {l : List UInt8} {k : Nat} {p e : Nat} (hk : k ≤ l.length) (h : allL l k = ([], p, e)) : p = skipA l k ∧ ((e = 0 ∧ p = l.length) ∨ (e = 20 ∧ p < l.length)) := by
  cases hok : (nextL l k).ok with
  | true => rw [allL_ok hk hok] at h; cases h
  | false =>
    by_cases he : (nextL l k).err = 0
    · rw [allL_end hk hok he] at h
      obtain ⟨h1, h2⟩ := nextL_end hok he
      cases h
      exact ⟨h1.symm, .inl ⟨rfl, rfl⟩⟩
    · rw [allL_bad hk hok he] at h
      obtain ⟨h1, h2, h3, h4⟩ := nextL_err he
      rw [h3] at h
      cases h
      have := (skipA_le hk).2
      exact ⟨rfl, .inr ⟨rfl, by show skipA l k < l.length; omega⟩⟩
end Go.Proofs.YtinogambkfihpaaDoor
namespace Go.Proofs.YtinogambkfihpaaDoor
def shiftT (d : Nat) (t : Tok) : Tok := ⟨t.kind, t.text, t.pos + d, t.stop + d⟩
theorem sign10 : isSign 10 = false := by decide
theorem span_glue {z : UInt8} (hz : isSign z = false) (l y : List UInt8) : spanN isSign (l ++ z :: y) = spanN isSign l := spanN_append_stop (fun c h => by simp at h; subst h; exact hz)
theorem take_glue {l z : List UInt8} {n : Nat} (h : n ≤ l.length) : (l ++ z).take n = l.take n := List.take_append_of_le_length h
theorem readR_glue {z c : UInt8} {r y : List UInt8} {k : Nat} (hz : isSign z = false) (hk : kindN c = some k) (hok : (readR k (c :: r)).2.2 = true) : readR k (c :: r ++ z :: y) = readR k (c :: r) := by
  have hk4 := kindN_le hk
  match k, hk4 with
  | 0, _ => rfl
  | 1, _ => rfl
  | 2, _ =>
    simp only [readR, List.cons_append] at hok ⊢
    by_cases h : c.toNat = 124
    · rw [nameR_bar h] at hok ⊢
      rw [nameR_bar h]
      by_cases hb : r[spanN inBar r]? = some 124
      · obtain ⟨hlt, _⟩ := List.getElem?_eq_some_iff.1 hb
        have hs : spanN inBar (r ++ z :: y) = spanN inBar r := spanN_append_lt hlt
        have hb2 : (r ++ z :: y)[spanN inBar (r ++ z :: y)]? = some 124 := by rw [hs, List.getElem?_append_left hlt]; exact hb
        rw [barR_yes hb, barR_yes hb2, hs, take_glue (by omega)]
      · rw [barR_no hb] at hok; cases hok
    · rw [nameR_sign h, nameR_sign h]
      simp only [signR]
      have hs := span_glue hz (c :: r) y
      rw [List.cons_append] at hs
      rw [hs, ← List.cons_append, take_glue (spanN_le _ _)]
  | 3, _ =>
    simp only [readR, numR]
    rw [span_glue hz, take_glue (spanN_le _ _)]
  | 4, _ =>
    simp only [readR, keyR, List.cons_append, List.tail_cons]
    rw [span_glue hz, take_glue (spanN_le _ _)]
theorem tokN_glue {z : UInt8} {x y : List UInt8} {k m : Nat} {t : List UInt8} (hz : isSign z = false) (h : tokN x = some (k, t, m)) : tokN (x ++ z :: y) = some (k, t, m) := by
  obtain ⟨c, r, rfl, hk, hok, rfl, rfl, hlen⟩ := tokN_some h
  have hr := readR_glue (y := y) hz hk hok
  rw [List.cons_append] at hr ⊢
  rw [tokN_of hk (by rw [hr]; exact hok) (by rw [hr]; exact hlen), hr]
theorem skipN_glue_lt {cm : Bool} {x z : List UInt8} (h : skipN cm x < x.length) : skipN cm (x ++ z) = skipN cm x := by
  induction x generalizing cm with
  | nil => simp at h
  | cons c r ih =>
    cases hc : (cmt cm c || isWhite c) with
    | true =>
      rw [skipN_yes hc] at h ⊢
      rw [List.cons_append, skipN_yes hc, ih (by simpa using h)]
    | false => rw [skipN_no hc, List.cons_append, skipN_no hc]
theorem cmt10 (cm : Bool) : cmt cm 10 = false := by simp [cmt]
theorem skipN_glue_all {cm : Bool} {x y : List UInt8} (h : skipN cm x = x.length) : skipN cm (x ++ 10 :: y) = x.length + 1 + skipN false y := by
  induction x generalizing cm with
  | nil =>
    have hw : (cmt cm 10 || isWhite 10) = true := by rw [cmt10]; decide
    rw [List.nil_append, skipN_yes hw, cmt10]; simp; omega
  | cons c r ih =>
    cases hc : (cmt cm c || isWhite c) with
    | true =>
      rw [skipN_yes hc] at h
      rw [List.cons_append, skipN_yes hc, ih (by simpa using h)]
      simp; omega
    | false => rw [skipN_no hc] at h; simp at h
theorem drop_glue {a b : List UInt8} {k : Nat} (h : k ≤ a.length) : (a ++ 10 :: b).drop k = a.drop k ++ 10 :: b := List.drop_append_of_le_length h
theorem drop_glue2 (a b : List UInt8) (j : Nat) : (a ++ 10 :: b).drop (a.length + 1 + j) = b.drop j := by
  rw [List.drop_append, List.drop_eq_nil_of_le (by omega), List.nil_append, show a.length + 1 + j - a.length = j + 1 from by omega, List.drop_succ_cons]
theorem skipA_glue_lt {a b : List UInt8} {k : Nat} (hk : k ≤ a.length) (h : skipA a k < a.length) : skipA (a ++ 10 :: b) k = skipA a k := by
  unfold skipA at h ⊢
  rw [drop_glue hk, skipN_glue_lt (by simp; omega)]
theorem skipA_glue2 (a b : List UInt8) (j : Nat) : skipA (a ++ 10 :: b) (a.length + 1 + j) = skipA b j + (a.length + 1) := by
  unfold skipA
  rw [drop_glue2]; omega
theorem skipA_glue_all {a b : List UInt8} {k : Nat} (hk : k ≤ a.length) (h : skipA a k = a.length) : skipA (a ++ 10 :: b) k = skipA (a ++ 10 :: b) (a.length + 1 + 0) := by
  rw [skipA_glue2]
  unfold skipA at h ⊢
  rw [drop_glue hk, skipN_glue_all (by simp; omega), List.drop_zero]
  simp; omega
theorem allL_congr {l : List UInt8} {k k' : Nat} (hk : k ≤ l.length) (hk' : k' ≤ l.length) (h : skipA l k = skipA l k') : allL l k = allL l k' := by
  have hn : nextL l k = nextL l k' := by unfold nextL; rw [h]
  cases hok : (nextL l k).ok with
  | true => rw [allL_ok hk hok, allL_ok hk' (by rw [← hn]; exact hok), hn]
  | false =>
    by_cases he : (nextL l k).err = 0
    · rw [allL_end hk hok he, allL_end hk' (by rw [← hn]; exact hok) (by rw [← hn]; exact he)]
    · rw [allL_bad hk hok he, allL_bad hk' (by rw [← hn]; exact hok) (by rw [← hn]; exact he), hn]
/-- What a text whose tokens begin with t says. -/
theorem allL_head {l : List UInt8} {k : Nat} {t : Tok} {r : List Tok} {p e : Nat} (hk : k ≤ l.length) (h : allL l k = (t :: r, p, e)) :
    t.pos = skipA l k ∧ skipA l k ≠ l.length ∧ t.pos < t.stop ∧ t.stop ≤ l.length ∧ allL l t.stop = (r, p, e) ∧ tokN (l.drop (skipA l k)) = some (t.kind, t.text, t.stop - t.pos) := by
  obtain ⟨q1, q2, q3, q4, _⟩ := allL_cons hk h
  cases hok : (nextL l k).ok with
  | false =>
    by_cases he : (nextL l k).err = 0
    · rw [allL_end hk hok he] at h; cases h
    · rw [allL_bad hk hok he] at h; cases h
  | true =>
    rw [allL_ok hk hok] at h
    obtain ⟨h3, _⟩ := List.cons.inj (Prod.mk.inj h).1
    obtain ⟨kd, tx, m, hm, hn⟩ := nextL_ok hok
    rw [hn] at h3
    simp only at h3
    subst h3
    refine ⟨q1, by simp only at q2 q3; omega, q2, q3, q4, ?_⟩
    simp only [Nat.add_sub_cancel_left]
    exact hm
theorem allL_of_head {l : List UInt8} {k kd m : Nat} {tx : List UInt8} {r : List Tok} {p e : Nat} (hk : k ≤ l.length) (h1 : skipA l k ≠ l.length) (h2 : tokN (l.drop (skipA l k)) = some (kd, tx, m)) (h3 : allL l (skipA l k + m) = (r, p, e)) :
    allL l k = (⟨kd, tx, skipA l k, skipA l k + m⟩ :: r, p, e) := by
  have hn : nextL l k = ⟨⟨kd, tx, skipA l k, skipA l k + m⟩, true, 0⟩ := by
    unfold nextL nextA
    rw [if_neg h1, h2]
  rw [allL_ok hk (by rw [hn]), hn]
  simp only
  rw [h3]
theorem allL_of_end {l : List UInt8} {k : Nat} (hk : k ≤ l.length) (h : skipA l k = l.length) : allL l k = ([], l.length, 0) := by
  have hn : nextL l k = ⟨⟨0, [], 0, 0⟩, false, 0⟩ := by unfold nextL nextA; rw [if_pos h]
  exact allL_end hk (by rw [hn]) (by rw [hn])
theorem glue_right {a b : List UInt8} {tb : List Tok} {p : Nat} : ∀ j, j ≤ b.length → allL b j = (tb, p, 0) → allL (a ++ 10 :: b) (a.length + 1 + j) = (tb.map (shiftT (a.length + 1)), (a ++ 10 :: b).length, 0) := by
  induction tb with
  | nil =>
    intro j hj h
    obtain ⟨q1, q2⟩ := allL_nil hj h
    have : skipA b j = b.length := by rcases q2 with ⟨_, q⟩ | ⟨q, _⟩ <;> omega
    rw [allL_of_end (by simp; omega) (by rw [skipA_glue2, this]; simp; omega)]; rfl
  | cons t r ih =>
    intro j hj h
    obtain ⟨q1, q2, q3, q4, q5, q6⟩ := allL_head hj h
    have hsk := skipA_glue2 a b j
    have h3 := ih t.stop q4 q5
    have hL := allL_of_head (l := a ++ 10 :: b) (k := a.length + 1 + j) (kd := t.kind) (m := t.stop - t.pos) (tx := t.text) (r := r.map (shiftT (a.length + 1))) (p := (a ++ 10 :: b).length) (e := 0) (by simp; omega) (by rw [hsk]; have := (skipA_le hj).2; simp; omega)
      (by rw [hsk, Nat.add_comm (skipA b j), drop_glue2]; exact q6) (by rw [hsk, ← h3]; congr 1; omega)
    rw [hL, hsk]
    simp only [List.map_cons, shiftT]
    congr 3 <;> omega
theorem glue_left {a b : List UInt8} {ta tb : List Tok} {p q : Nat} (hb : allL b 0 = (tb, q, 0)) : ∀ k, k ≤ a.length → allL a k = (ta, p, 0) → allL (a ++ 10 :: b) k = (ta ++ tb.map (shiftT (a.length + 1)), (a ++ 10 :: b).length, 0) := by
  induction ta with
  | nil =>
    intro k hk h
    obtain ⟨q1, q2⟩ := allL_nil hk h
    have hs : skipA a k = a.length := by rcases q2 with ⟨_, q⟩ | ⟨q, _⟩ <;> omega
    rw [List.nil_append, ← glue_right 0 (Nat.zero_le _) hb]
    exact allL_congr (by simp; omega) (by simp) (skipA_glue_all hk hs)
  | cons t r ih =>
    intro k hk h
    obtain ⟨q1, q2, q3, q4, q5, q6⟩ := allL_head hk h
    have hlt : skipA a k < a.length := by have := (skipA_le hk).2; omega
    have hsk := skipA_glue_lt (b := b) hk hlt
    have h3 := ih t.stop q4 q5
    have hL := allL_of_head (l := a ++ 10 :: b) (k := k) (kd := t.kind) (m := t.stop - t.pos) (tx := t.text) (r := r ++ tb.map (shiftT (a.length + 1))) (p := (a ++ 10 :: b).length) (e := 0) (by simp; omega) (by rw [hsk]; simp; omega)
      (by rw [hsk, drop_glue (by omega)]; exact tokN_glue sign10 q6) (by rw [hsk, ← h3]; congr 1; omega)
    rw [hL, hsk, List.cons_append]
    congr 2
    obtain ⟨kd, tx, ps, st⟩ := t
    simp only at q1 q3 ⊢
    congr 1 <;> omega
end Go.Proofs.YtinogambkfihpaaDoor
namespace Go.Proofs.YtinogambkfihpaaDoor
/-- A text that is one token alone; the same between white space and comments. -/
theorem one_alone {x t : List UInt8} (h : tokN x = some (2, t, x.length)) : allL x 0 = ([⟨2, t, 0, x.length⟩], x.length, 0) := by
  obtain ⟨c, r, hx, hk, _⟩ := tokN_some h
  have hs : skipA x 0 = 0 := by unfold skipA; rw [List.drop_zero, hx, skipN_no (kind_start hk)]
  have hl : 0 < x.length := (tokN_bounds h).1
  have he : skipA x x.length = x.length := by unfold skipA; rw [List.drop_length]; rfl
  have := allL_of_head (l := x) (k := 0) (kd := 2) (m := x.length) (tx := t) (r := []) (p := x.length) (e := 0) (Nat.zero_le _) (by omega) (by rw [hs, List.drop_zero]; exact h)
    (by rw [hs, Nat.zero_add]; exact allL_of_end (Nat.le_refl _) he)
  rw [this, hs, Nat.zero_add]
theorem one_within {x t : List UInt8} (h : tokN x = some (2, t, x.length)) : ∃ p q r, allL ([32, 9, 59, 32, 120] ++ 10 :: (x ++ [13, 59])) 0 = ([⟨2, t, p, q⟩], r, 0) := by
  obtain ⟨c, r, hx, hk, _⟩ := tokN_some h
  have hl : 0 < x.length := (tokN_bounds h).1
  have hs : skipA (x ++ [13, 59]) 0 = 0 := by unfold skipA; rw [List.drop_zero, hx, List.cons_append, skipN_no (kind_start hk)]
  have hd : (x ++ [13, 59]).drop x.length = [13, 59] := by simp
  have he : skipA (x ++ [13, 59]) x.length = (x ++ [13, 59]).length := by
    unfold skipA
    rw [hd, show skipN false [13, 59] = 2 from by decide]; simp
  have hb : allL (x ++ [13, 59]) 0 = ([⟨2, t, 0, x.length⟩], (x ++ [13, 59]).length, 0) := by
    have := allL_of_head (l := x ++ [13, 59]) (k := 0) (kd := 2) (m := x.length) (tx := t) (r := []) (p := (x ++ [13, 59]).length) (e := 0) (Nat.zero_le _) (by simp; omega) (by rw [hs, List.drop_zero]; exact tokN_glue (by decide) h)
      (by rw [hs, Nat.zero_add]; exact allL_of_end (by simp) he)
    rw [this, hs, Nat.zero_add]
  have ha : allL [32, 9, 59, 32, 120] 0 = ([], 5, 0) := by decide +kernel
  have := glue_left hb 0 (Nat.zero_le _) ha
  exact ⟨_, _, _, this⟩
/-- Is the name plain, but for being reserved? -/
def plainB (l : List UInt8) : Bool := !l.isEmpty && l.all isSign && !((l.head?.map isDg).getD false)
def quoteL (l : List UInt8) : List UInt8 := if plainB l = true then l else 124 :: (l ++ [124])
theorem sign_not_124 {c : UInt8} (h : isSign c = true) : ¬ c.toNat = 124 := fun e => by rw [not_sign_124 e] at h; cases h
theorem kindN_two {c : UInt8} (h : isSign c = true) (h2 : isDg c = false) : kindN c = some 2 := by
  have key : ∀ n : Fin 256, isSign (UInt8.ofNat n.val) = true → isDg (UInt8.ofNat n.val) = false → kindN (UInt8.ofNat n.val) = some 2 := by decide +kernel
  have := key ⟨c.toNat, c.toNat_lt⟩
  simp only [UInt8.ofNat_toNat] at this
  exact this h h2
theorem quote_tok {l : List UInt8} (hl : l.length ≤ 100) (hall : l.all inBar = true) : tokN (quoteL l) = some (2, l, (quoteL l).length) := by
  unfold quoteL
  by_cases hp : plainB l = true
  · rw [if_pos hp]
    unfold plainB at hp
    cases l with
    | nil => simp at hp
    | cons c r =>
      simp only [List.isEmpty_cons, Bool.not_false, Bool.true_and, List.head?_cons, Option.map_some, Option.getD_some, Bool.and_eq_true, Bool.not_eq_true'] at hp
      have hc : isSign c = true := (List.all_eq_true.1 hp.1) c (by simp)
      have hn := nameR_sign (r := r) (sign_not_124 hc)
      have hs : spanN isSign (c :: r) = (c :: r).length := spanN_all hp.1
      have hR : readR 2 (c :: r) = (c :: r, (c :: r).length, true) := by
        show nameR (c :: r) = _
        rw [hn]; unfold signR; rw [hs, List.take_length]
      rw [tokN_of (kindN_two hc hp.2) (by rw [hR]) (by rw [hR]; exact hl), hR]
  · rw [if_neg hp]
    have hs : spanN inBar (l ++ [124]) = l.length := by rw [spanN_append hall, spanN_no (by decide)]; rfl
    have hb : (l ++ [124])[spanN inBar (l ++ [124])]? = some 124 := by rw [hs]; simp
    have hR : readR 2 (124 :: (l ++ [124])) = (l, l.length + 2, true) := by
      show nameR (124 :: (l ++ [124])) = _
      rw [nameR_bar (by decide), barR_yes hb, hs]
      simp
    rw [tokN_of (k := 2) (by decide) (by rw [hR]) (by rw [hR]; exact hl), hR]
    simp
theorem isWhite_iff (c : UInt8) : isWhite c = (decide (c.toNat = 32) || decide (c.toNat = 9) || decide (c.toNat = 10) || decide (c.toNat = 13)) := by
  have key : ∀ n : Fin 256, isWhite (UInt8.ofNat n.val) = (decide (n.val = 32) || decide (n.val = 9) || decide (n.val = 10) || decide (n.val = 13)) := by decide +kernel
  have := key ⟨c.toNat, c.toNat_lt⟩
  simpa only [UInt8.ofNat_toNat] using this
theorem inBar_iff (c : UInt8) : inBar c = ((!decide (c.toNat = 124)) && (!decide (c.toNat = 92)) && ((decide (32 ≤ c.toNat) && decide (c.toNat ≤ 126)) || isWhite c)) := by
  have key : ∀ n : Fin 256, inBar (UInt8.ofNat n.val) = ((!decide (n.val = 124)) && (!decide (n.val = 92)) && ((decide (32 ≤ n.val) && decide (n.val ≤ 126)) || isWhite (UInt8.ofNat n.val))) := by decide +kernel
  have := key ⟨c.toNat, c.toNat_lt⟩
  simpa only [UInt8.ofNat_toNat] using this
def resB (l : List UInt8) : Bool := l == [95] || l == [33] || l == [97, 115] || l == [108, 101, 116] || l == [101, 120, 105, 115, 116, 115] || l == [102, 111, 114, 97, 108, 108] || l == [109, 97, 116, 99, 104] || l == [112, 97, 114]
end Go.Proofs.YtinogambkfihpaaDoor
