/- Plain facts on names that are written: no Go program is named here. -/
import Derived.Test.YthbgigjjmojgfaaDoorLexFacts3
namespace Go.Proofs.YthbgigjjmojgfaaDoor
/-- A text that is one token alone; the same between white space and comments. -/
theorem one_alone {x t : List UInt8} (h : tokN x = some (2, t, x.length)) : allL x 0 = ([⟨2, t, 0, x.length⟩], x.length, 0) := by
  obtain ⟨c, r, hx, hk, _⟩ := tokN_some h
  have hs : skipA x 0 = 0 := by unfold skipA; rw [List.drop_zero, hx, skipN_no (kind_start hk)]
  have hl : 0 < x.length := (tokN_bounds h).1
  have he : skipA x x.length = x.length := by unfold skipA; rw [List.drop_length]; rfl
  have := allL_of_head (l := x) (k := 0) (kd := 2) (m := x.length) (tx := t) (r := []) (p := x.length) (e := 0) (Nat.zero_le _) (by omega) (by rw [hs, List.drop_zero]; exact h)
    (by rw [hs, Nat.zero_add]; exact allL_of_end (Nat.le_refl _) he)
  rw [this, hs, Nat.zero_add]
theorem one_within {x t : List UInt8} (h : tokN x = some (2, t, x.length)) : ∃ p q r, allL ([32, 9, 59, 32, 120] ++ 10 :: (x ++ [13, 59])) 0 = ([⟨2, t, p, q⟩], r, 0) := by
  obtain ⟨c, r, hx, hk, _⟩ := tokN_some h
  have hl : 0 < x.length := (tokN_bounds h).1
  have hs : skipA (x ++ [13, 59]) 0 = 0 := by unfold skipA; rw [List.drop_zero, hx, List.cons_append, skipN_no (kind_start hk)]
  have hd : (x ++ [13, 59]).drop x.length = [13, 59] := by simp
  have he : skipA (x ++ [13, 59]) x.length = (x ++ [13, 59]).length := by
    unfold skipA
    rw [hd, show skipN false [13, 59] = 2 from by decide]; simp
  have hb : allL (x ++ [13, 59]) 0 = ([⟨2, t, 0, x.length⟩], (x ++ [13, 59]).length, 0) := by
    have := allL_of_head (l := x ++ [13, 59]) (k := 0) (kd := 2) (m := x.length) (tx := t) (r := []) (p := (x ++ [13, 59]).length) (e := 0) (Nat.zero_le _) (by simp; omega) (by rw [hs, List.drop_zero]; exact tokN_glue (by decide) h)
      (by rw [hs, Nat.zero_add]; exact allL_of_end (by simp) he)
    rw [this, hs, Nat.zero_add]
  have ha : allL [32, 9, 59, 32, 120] 0 = ([], 5, 0) := by decide +kernel
  have := glue_left hb 0 (Nat.zero_le _) ha
  exact ⟨_, _, _, this⟩
/-- Is the name plain, but for being reserved? -/
def plainB (l : List UInt8) : Bool := !l.isEmpty && l.all isSign && !((l.head?.map isDg).getD false)
def quoteL (l : List UInt8) : List UInt8 := if plainB l = true then l else 124 :: (l ++ [124])
theorem sign_not_124 {c : UInt8} (h : isSign c = true) : ¬ c.toNat = 124 := fun e => by rw [not_sign_124 e] at h; cases h
theorem kindN_two {c : UInt8} (h : isSign c = true) (h2 : isDg c = false) : kindN c = some 2 := by
  have key : ∀ n : Fin 256, isSign (UInt8.ofNat n.val) = true → isDg (UInt8.ofNat n.val) = false → kindN (UInt8.ofNat n.val) = some 2 := by decide +kernel
  have := key ⟨c.toNat, c.toNat_lt⟩
  simp only [UInt8.ofNat_toNat] at this
  exact this h h2
theorem quote_tok {l : List UInt8} (hl : l.length ≤ 100) (hall : l.all inBar = true) : tokN (quoteL l) = some (2, l, (quoteL l).length) := by
  unfold quoteL
  by_cases hp : plainB l = true
  · rw [if_pos hp]
    unfold plainB at hp
    cases l with
    | nil => simp at hp
    | cons c r =>
      simp only [List.isEmpty_cons, Bool.not_false, Bool.true_and, List.head?_cons, Option.map_some, Option.getD_some, Bool.and_eq_true, Bool.not_eq_true'] at hp
      have hc : isSign c = true := (List.all_eq_true.1 hp.1) c (by simp)
      have hn := nameR_sign (r := r) (sign_not_124 hc)
      have hs : spanN isSign (c :: r) = (c :: r).length := spanN_all hp.1
      have hR : readR 2 (c :: r) = (c :: r, (c :: r).length, true) := by
        show nameR (c :: r) = _
        rw [hn]; unfold signR; rw [hs, List.take_length]
      rw [tokN_of (kindN_two hc hp.2) (by rw [hR]) (by rw [hR]; exact hl), hR]
  · rw [if_neg hp]
    have hs : spanN inBar (l ++ [124]) = l.length := by rw [spanN_append hall, spanN_no (by decide)]; rfl
    have hb : (l ++ [124])[spanN inBar (l ++ [124])]? = some 124 := by rw [hs]; simp
    have hR : readR 2 (124 :: (l ++ [124])) = (l, l.length + 2, true) := by
      show nameR (124 :: (l ++ [124])) = _
      rw [nameR_bar (by decide), barR_yes hb, hs]
      simp
    rw [tokN_of (k := 2) (by decide) (by rw [hR]) (by rw [hR]; exact hl), hR]
    simp
theorem isWhite_iff (c : UInt8) : isWhite c = (decide (c.toNat = 32) || decide (c.toNat = 9) || decide (c.toNat = 10) || decide (c.toNat = 13)) := by
  have key : ∀ n : Fin 256, isWhite (UInt8.ofNat n.val) = (decide (n.val = 32) || decide (n.val = 9) || decide (n.val = 10) || decide (n.val = 13)) := by decide +kernel
  have := key ⟨c.toNat, c.toNat_lt⟩
  simpa only [UInt8.ofNat_toNat] using this
theorem inBar_iff (c : UInt8) : inBar c = ((!decide (c.toNat = 124)) && (!decide (c.toNat = 92)) && ((decide (32 ≤ c.toNat) && decide (c.toNat ≤ 126)) || isWhite c)) := by
  have key : ∀ n : Fin 256, inBar (UInt8.ofNat n.val) = ((!decide (n.val = 124)) && (!decide (n.val = 92)) && ((decide (32 ≤ n.val) && decide (n.val ≤ 126)) || isWhite (UInt8.ofNat n.val))) := by decide +kernel
  have := key ⟨c.toNat, c.toNat_lt⟩
  simpa only [UInt8.ofNat_toNat] using this
def resB (l : List UInt8) : Bool := l == [95] || l == [33] || l == [97, 115] || l == [108, 101, 116] || l == [101, 120, 105, 115, 116, 115] || l == [102, 111, 114, 97, 108, 108] || l == [109, 97, 116, 99, 104] || l == [112, 97, 114]
end Go.Proofs.YthbgigjjmojgfaaDoor
