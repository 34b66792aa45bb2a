/- Plain facts on tokens, for the laws LexStands and LexGlue: no Go program is named here. -/
import Derived.Test.YthbgigjjmojgfaaDoorLexFacts
namespace Go.Proofs.YthbgigjjmojgfaaDoor
theorem span_take_self (p : UInt8 → Bool) (l : List UInt8) : spanN p (l.take (spanN p l)) = spanN p l := by
  rw [spanN_all (spanN_take p l), List.length_take]
  have := spanN_le p l
  omega
theorem span_take_more {p : UInt8 → Bool} {l : List UInt8} {d : UInt8} (h : l[spanN p l]? = some d) : spanN p (l.take (spanN p l + 1)) = spanN p l := by
  obtain ⟨hlt, hd⟩ := List.getElem?_eq_some_iff.1 h
  rw [List.take_succ_eq_append_getElem hlt, spanN_append (spanN_take p l), hd, spanN_no (spanN_stop h), List.length_take]
  omega
theorem kind_start {c : UInt8} {k : Nat} (h : kindN c = some k) : (cmt false c || isWhite c) = false := by
  have key : ∀ n : Fin 256, kindN (UInt8.ofNat n.val) ≠ none → (cmt false (UInt8.ofNat n.val) || isWhite (UInt8.ofNat n.val)) = false := by decide +kernel
  have := key ⟨c.toNat, c.toNat_lt⟩
  simp only [UInt8.ofNat_toNat] at this
  exact this (by rw [h]; exact fun e => by cases e)
theorem readR_take {c : UInt8} {r : List UInt8} {k : Nat} (hk : kindN c = some k) (hok : (readR k (c :: r)).2.2 = true) : readR k ((c :: r).take (readR k (c :: r)).2.1) = readR k (c :: r) := by
  have hk4 := kindN_le hk
  match k, hk4 with
  | 0, _ => rfl
  | 1, _ => rfl
  | 2, _ =>
    simp only [readR] at hok ⊢
    by_cases h : c.toNat = 124
    · rw [nameR_bar h] at hok ⊢
      by_cases hb : r[spanN inBar r]? = some 124
      · rw [barR_yes hb]
        simp only [List.take_succ_cons]
        rw [nameR_bar h]
        have hs := span_take_more hb
        have hb2 : (r.take (spanN inBar r + 1))[spanN inBar (r.take (spanN inBar r + 1))]? = some 124 := by
          rw [hs, List.getElem?_take_of_lt (by omega)]; exact hb
        rw [barR_yes hb2, hs, List.take_take, Nat.min_eq_left (by omega)]
      · rw [barR_no hb] at hok; cases hok
    · rw [nameR_sign h]
      rcases kindN_name hk with h' | h'
      · exact absurd h' h
      · simp only [signR]
        obtain ⟨j, hj⟩ : ∃ j, spanN isSign (c :: r) = j + 1 := ⟨spanN isSign r, spanN_yes h'⟩
        have hs := span_take_self isSign (c :: r)
        rw [hj] at hs ⊢
        rw [List.take_succ_cons] at hs ⊢
        rw [nameR_sign h]
        simp only [signR]
        rw [hs, List.take_succ_cons, List.take_take, Nat.min_self]
  | 3, _ =>
    simp only [readR, numR] at hok ⊢
    have hs := span_take_self isSign (c :: r)
    rw [hs, List.take_take, Nat.min_self]
  | 4, _ =>
    simp only [readR, keyR, List.tail_cons] at hok ⊢
    rw [List.take_succ_cons, List.tail_cons]
    have hs := span_take_self isSign r
    rw [hs, List.take_take, Nat.min_self]
theorem token_alone {x : List UInt8} {k m : Nat} {t : List UInt8} (h : tokN x = some (k, t, m)) : nextL (x.take m) 0 = ⟨⟨k, t, 0, m⟩, true, 0⟩ := by
  have hm := tokN_bounds h
  obtain ⟨c, r, rfl, hk, hok, rfl, rfl, hlen⟩ := tokN_some h
  have hr := readR_take hk hok
  obtain ⟨j, hj⟩ : ∃ j, (readR k (c :: r)).2.1 = j + 1 := ⟨(readR k (c :: r)).2.1 - 1, by omega⟩
  have hs : skipA ((c :: r).take (readR k (c :: r)).2.1) 0 = 0 := by
    unfold skipA
    rw [List.drop_zero, hj, List.take_succ_cons, skipN_no (kind_start hk)]
  unfold nextL
  rw [hs]
  unfold nextA
  have hl : ((c :: r).take (readR k (c :: r)).2.1).length = (readR k (c :: r)).2.1 := by rw [List.length_take]; omega
  rw [if_neg (by rw [hl]; omega), List.drop_zero]
  have ht : tokN ((c :: r).take (readR k (c :: r)).2.1) = some (k, (readR k (c :: r)).1, (readR k (c :: r)).2.1) := by
    conv => lhs; rw [hj, List.take_succ_cons]
    have e1 : c :: r.take j = (c :: r).take (readR k (c :: r)).2.1 := by rw [hj, List.take_succ_cons]
    rw [tokN_of hk (by rw [e1, hr]; exact hok) (by rw [e1, hr]; exact hlen), e1, hr]
  rw [ht]
  simp
/-- A step along the tokens. -/
theorem allL_cons {l : List UInt8} {k : Nat} {t : Tok} {r : List Tok} {p e : Nat} (hk : k ≤ l.length) (h : allL l k = (t :: r, p, e)) :
    t.pos = skipA l k ∧ t.pos < t.stop ∧ t.stop ≤ l.length ∧ allL l t.stop = (r, p, e) ∧ nextL ((l.drop t.pos).take (t.stop - t.pos)) 0 = ⟨⟨t.kind, t.text, 0, t.stop - t.pos⟩, true, 0⟩ := by
  cases hok : (nextL l k).ok with
  | false =>
    by_cases he : (nextL l k).err = 0
    · rw [allL_end hk hok he] at h; cases h
    · rw [allL_bad hk hok he] at h; cases h
  | true =>
    have hst := nextL_stop hk hok
    rw [allL_ok hk hok] at h
    obtain ⟨h1, h2⟩ := Prod.mk.inj h
    obtain ⟨h3, h4⟩ := List.cons.inj h1
    obtain ⟨kd, tx, m, hm, hn⟩ := nextL_ok hok
    have hb := tokN_bounds hm
    rw [hn] at h3 h4 h2 hst
    simp only at h3 h4 h2 hst
    subst h3
    simp only at hst ⊢
    refine ⟨trivial, by omega, hst.2.1, Prod.ext h4 h2, ?_⟩
    rw [Nat.add_sub_cancel_left]
    exact token_alone hm
theorem allL_nil {l : List UInt8} {k : Nat} {p e : Nat} (hk : k ≤ l.length) (h : allL l k = ([], p, e)) : p = skipA l k ∧ ((e = 0 ∧ p = l.length) ∨ (e = 20 ∧ p < l.length)) := by
  cases hok : (nextL l k).ok with
  | true => rw [allL_ok hk hok] at h; cases h
  | false =>
    by_cases he : (nextL l k).err = 0
    · rw [allL_end hk hok he] at h
      obtain ⟨h1, h2⟩ := nextL_end hok he
      cases h
      exact ⟨h1.symm, .inl ⟨rfl, rfl⟩⟩
    · rw [allL_bad hk hok he] at h
      obtain ⟨h1, h2, h3, h4⟩ := nextL_err he
      rw [h3] at h
      cases h
      have := (skipA_le hk).2
      exact ⟨rfl, .inr ⟨rfl, by show skipA l k < l.length; omega⟩⟩
end Go.Proofs.YthbgigjjmojgfaaDoor
