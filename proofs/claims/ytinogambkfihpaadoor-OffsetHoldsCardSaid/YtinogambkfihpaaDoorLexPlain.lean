/- Plain facts on tokens: no Go program is named here. -/
import Derived.ProofKit
namespace Go.Proofs.YtinogambkfihpaaDoor
def isWhite (c : UInt8) : Bool := c == 32 || c == 9 || c == 10 || c == 13
def isDg (c : UInt8) : Bool := decide (48 ≤ c.toNat) && decide (c.toNat ≤ 57)
def isSign (c : UInt8) : Bool := isDg c || (decide (65 ≤ c.toNat) && decide (c.toNat ≤ 90)) || (decide (97 ≤ c.toNat) && decide (c.toNat ≤ 122)) ||
  [126, 33, 64, 36, 37, 94, 38, 42, 95, 45, 43, 61, 60, 62, 46, 63, 47].contains c.toNat
def inBar (c : UInt8) : Bool := (isWhite c || (decide (32 ≤ c.toNat) && decide (c.toNat ≤ 126))) && c != 124 && c != 92
/-- How many bytes at the head of l are in p. -/
def spanN (p : UInt8 → Bool) : List UInt8 → Nat
  | [] => 0
  | c :: r => if p c = true then spanN p r + 1 else 0
/-- Is one within a comment behind the byte c? -/
def cmt (cm : Bool) (c : UInt8) : Bool := c != 10 && (cm || c == 59)
/-- How many bytes are skipped; cm: within a comment. -/
def skipN (cm : Bool) : List UInt8 → Nat
  | [] => 0
  | c :: r => if (cmt cm c || isWhite c) = true then skipN (cmt cm c) r + 1 else 0
/-- A token's kind by its first byte. -/
def kindN (c : UInt8) : Option Nat :=
  if c.toNat = 40 then some 0 else if c.toNat = 41 then some 1 else if c.toNat = 58 then some 4 else if isDg c = true then some 3 else if c.toNat = 124 ∨ isSign c = true then some 2 else none
/-- What a reader answers: the text, how many bytes the token has, whether it is one. -/
def barR (r : List UInt8) : List UInt8 × Nat × Bool :=
  if r[spanN inBar r]? = some 124 then (r.take (spanN inBar r), spanN inBar r + 2, true) else ([], 0, false)
def signR (l : List UInt8) : List UInt8 × Nat × Bool := (l.take (spanN isSign l), spanN isSign l, true)
def nameR : List UInt8 → List UInt8 × Nat × Bool
  | [] => ([], 0, true)
  | c :: r => if c.toNat = 124 then barR r else signR (c :: r)
def numOk (t : List UInt8) : Bool := t.all isDg && (t.head? != some 48 || t == [48])
def numR (l : List UInt8) : List UInt8 × Nat × Bool := (l.take (spanN isSign l), spanN isSign l, numOk (l.take (spanN isSign l)))
def keyR (l : List UInt8) : List UInt8 × Nat × Bool := (l.tail.take (spanN isSign l.tail), spanN isSign l.tail + 1, !(l.tail.take (spanN isSign l.tail)).isEmpty)
def readR : Nat → List UInt8 → List UInt8 × Nat × Bool
  | 0, _ => ([], 1, true)
  | 1, _ => ([], 1, true)
  | 2, l => nameR l
  | 3, l => numR l
  | _, l => keyR l
/-- The token at the head of l: its kind, its text, how many bytes it has. -/
def tokN (l : List UInt8) : Option (Nat × List UInt8 × Nat) :=
  match l with
  | [] => none
  | c :: _ => match kindN c with
    | none => none
    | some k => if (readR k l).2.2 = true ∧ (readR k l).1.length ≤ 100 then some (k, (readR k l).1, (readR k l).2.1) else none
structure Tok where
  kind : Nat
  text : List UInt8
  pos : Nat
  stop : Nat
deriving DecidableEq
structure Nxt where
  tok : Tok
  ok : Bool
  err : Nat
deriving DecidableEq
/-- What Next answers at byte n, at which skipping ends. -/
def nextA (l : List UInt8) (n : Nat) : Nxt :=
  if n = l.length then ⟨⟨0, [], 0, 0⟩, false, 0⟩ else
  match tokN (l.drop n) with
  | none => ⟨⟨0, [], n, 0⟩, false, 20⟩
  | some (k, t, m) => ⟨⟨k, t, n, n + m⟩, true, 0⟩
/-- Where skipping from k on ends. -/
def skipA (l : List UInt8) (k : Nat) : Nat := k + skipN false (l.drop k)
def nextL (l : List UInt8) (k : Nat) : Nxt := nextA l (skipA l k)
def allF : Nat → List UInt8 → Nat → List Tok × Nat × Nat
  | 0, _, _ => ([], 0, 0)
  | f + 1, l, k => if (nextL l k).ok = true then ((nextL l k).tok :: (allF f l (nextL l k).tok.stop).1, (allF f l (nextL l k).tok.stop).2)
    else if (nextL l k).err = 0 then ([], l.length, 0) else ([], (nextL l k).tok.pos, (nextL l k).err)
def allL (l : List UInt8) (k : Nat) : List Tok × Nat × Nat := allF (l.length + 1 - k) l k

theorem spanN_le (p : UInt8 → Bool) (l : List UInt8) : spanN p l ≤ l.length := by
  induction l with
  | nil => simp [spanN]
  | cons c r ih => unfold spanN; split <;> simp; omega
theorem skipN_le (cm : Bool) (l : List UInt8) : skipN cm l ≤ l.length := by
  induction l generalizing cm with
  | nil => simp [skipN]
  | cons c r ih => unfold skipN; split <;> simp; exact ih _
theorem skipA_le {l : List UInt8} {k : Nat} (h : k ≤ l.length) : k ≤ skipA l k ∧ skipA l k ≤ l.length := by
  unfold skipA
  have := skipN_le false (l.drop k)
  simp at this
  omega
theorem spanN_yes {p : UInt8 → Bool} {c : UInt8} {r : List UInt8} (h : p c = true) : spanN p (c :: r) = spanN p r + 1 := by simp [spanN, h]
theorem spanN_no {p : UInt8 → Bool} {c : UInt8} {r : List UInt8} (h : p c = false) : spanN p (c :: r) = 0 := by simp [spanN, h]
theorem skipN_yes {cm : Bool} {c : UInt8} {r : List UInt8} (h : (cmt cm c || isWhite c) = true) : skipN cm (c :: r) = skipN (cmt cm c) r + 1 := by simp only [skipN, if_pos h]
theorem skipN_no {cm : Bool} {c : UInt8} {r : List UInt8} (h : (cmt cm c || isWhite c) = false) : skipN cm (c :: r) = 0 := by
  simp only [skipN]; rw [if_neg (by rw [h]; exact Bool.false_ne_true)]
/-- All of the span is in p, and what follows it is not. -/
theorem spanN_take (p : UInt8 → Bool) (l : List UInt8) : (l.take (spanN p l)).all p = true := by
  induction l with
  | nil => simp [spanN]
  | cons c r ih =>
    cases h : p c with
    | true => rw [spanN_yes h]; simp [h, ih]
    | false => rw [spanN_no h]; simp
theorem spanN_stop {p : UInt8 → Bool} {l : List UInt8} {c : UInt8} (h : l[spanN p l]? = some c) : p c = false := by
  induction l with
  | nil => simp [spanN] at h
  | cons d r ih =>
    cases hd : p d with
    | true => rw [spanN_yes hd] at h; simp at h; exact ih h
    | false => rw [spanN_no hd] at h; simp at h; subst h; exact hd
theorem spanN_all {p : UInt8 → Bool} {l : List UInt8} (h : l.all p = true) : spanN p l = l.length := by
  induction l with
  | nil => rfl
  | cons c r ih =>
    simp only [List.all_cons, Bool.and_eq_true] at h
    rw [spanN_yes h.1, ih h.2]; rfl
theorem spanN_eq_length {p : UInt8 → Bool} {l : List UInt8} : spanN p l = l.length ↔ l.all p = true := by
  constructor
  · intro h
    have := spanN_take p l
    rwa [h, List.take_length] at this
  · exact spanN_all
theorem spanN_append {p : UInt8 → Bool} {l r : List UInt8} (h : l.all p = true) : spanN p (l ++ r) = l.length + spanN p r := by
  induction l with
  | nil => simp
  | cons c t ih =>
    simp only [List.all_cons, Bool.and_eq_true] at h
    rw [List.cons_append, spanN_yes h.1, ih h.2]
    simp; omega
theorem spanN_append_lt {p : UInt8 → Bool} {l r : List UInt8} (h : spanN p l < l.length) : spanN p (l ++ r) = spanN p l := by
  induction l with
  | nil => simp at h
  | cons c t ih =>
    cases hc : p c with
    | true =>
      rw [spanN_yes hc] at h
      rw [List.cons_append, spanN_yes hc, spanN_yes hc, ih (by simpa using h)]
    | false => rw [List.cons_append, spanN_no hc, spanN_no hc]
/-- Behind l stands nothing that is in p: the span is l's own. -/
theorem spanN_append_stop {p : UInt8 → Bool} {l r : List UInt8} (h : ∀ c, r.head? = some c → p c = false) : spanN p (l ++ r) = spanN p l := by
  by_cases hl : spanN p l < l.length
  · exact spanN_append_lt hl
  · have hle := spanN_le p l
    have he : spanN p l = l.length := by omega
    rw [spanN_append (spanN_eq_length.1 he), he]
    cases r with
    | nil => simp [spanN]
    | cons d t => rw [spanN_no (h d rfl)]; rfl
theorem spanN_pos {p : UInt8 → Bool} {c : UInt8} {r : List UInt8} (h : p c = true) : 0 < spanN p (c :: r) := by rw [spanN_yes h]; omega

theorem kindN_le {c : UInt8} {k : Nat} (h : kindN c = some k) : k ≤ 4 := by
  unfold kindN at h
  repeat' split at h
  all_goals first | (cases h; omega) | cases h
theorem kindN_name {c : UInt8} (h : kindN c = some 2) : c.toNat = 124 ∨ isSign c = true := by
  unfold kindN at h
  repeat' split at h
  all_goals first | assumption | (cases h)
theorem kindN_num {c : UInt8} (h : kindN c = some 3) : isDg c = true := by
  unfold kindN at h
  repeat' split at h
  all_goals first | assumption | (cases h)
theorem isDg_sign {c : UInt8} (h : isDg c = true) : isSign c = true := by simp [isSign, h]
theorem not_sign_124 {c : UInt8} (h : c.toNat = 124) : isSign c = false := by simp [isSign, isDg, h]
theorem not_sign_10 {c : UInt8} (h : c.toNat = 10) : isSign c = false := by simp [isSign, isDg, h]
theorem barR_yes {r : List UInt8} (h : r[spanN inBar r]? = some 124) : barR r = (r.take (spanN inBar r), spanN inBar r + 2, true) := by unfold barR; rw [if_pos h]
theorem barR_no {r : List UInt8} (h : ¬ r[spanN inBar r]? = some 124) : barR r = ([], 0, false) := by unfold barR; rw [if_neg h]
theorem nameR_bar {c : UInt8} {r : List UInt8} (h : c.toNat = 124) : nameR (c :: r) = barR r := by simp only [nameR]; rw [if_pos h]
theorem nameR_sign {c : UInt8} {r : List UInt8} (h : ¬ c.toNat = 124) : nameR (c :: r) = signR (c :: r) := by simp only [nameR]; rw [if_neg h]
theorem nameR_bounds {c : UInt8} {r : List UInt8} (hk : kindN c = some 2) (hok : (nameR (c :: r)).2.2 = true) : 0 < (nameR (c :: r)).2.1 ∧ (nameR (c :: r)).2.1 ≤ (c :: r).length := by
  by_cases h : c.toNat = 124
  · rw [nameR_bar h] at hok ⊢
    by_cases hb : r[spanN inBar r]? = some 124
    · rw [barR_yes hb]
      obtain ⟨hlt, _⟩ := List.getElem?_eq_some_iff.1 hb
      simp; omega
    · rw [barR_no hb] at hok; cases hok
  · rw [nameR_sign h]
    rcases kindN_name hk with h' | h'
    · exact absurd h' h
    · exact ⟨spanN_pos h', spanN_le _ _⟩
/-- A token has one byte at least, and no more than there are. -/
theorem readR_bounds {c : UInt8} {r : List UInt8} {k : Nat} (hk : kindN c = some k) (hok : (readR k (c :: r)).2.2 = true) : 0 < (readR k (c :: r)).2.1 ∧ (readR k (c :: r)).2.1 ≤ (c :: r).length := by
  have hk4 := kindN_le hk
  match k, hk4 with
  | 0, _ => simp [readR]
  | 1, _ => simp [readR]
  | 2, _ => exact nameR_bounds hk hok
  | 3, _ => exact ⟨spanN_pos (isDg_sign (kindN_num hk)), spanN_le _ _⟩
  | 4, _ =>
    simp only [readR, keyR, List.tail_cons]
    have := spanN_le isSign r
    simp; omega
theorem tokN_some {l : List UInt8} {k m : Nat} {t : List UInt8} (h : tokN l = some (k, t, m)) : ∃ c r, l = c :: r ∧ kindN c = some k ∧ (readR k l).2.2 = true ∧ t = (readR k l).1 ∧ m = (readR k l).2.1 ∧ t.length ≤ 100 := by
  cases l with
  | nil => simp [tokN] at h
  | cons c r =>
    simp only [tokN] at h
    split at h
    · cases h
    · rename_i k' hk
      split at h
      · rename_i hb
        cases h
        exact ⟨c, r, rfl, hk, hb.1, rfl, rfl, hb.2⟩
      · cases h
theorem tokN_of {c : UInt8} {r : List UInt8} {k : Nat} (hk : kindN c = some k) (h1 : (readR k (c :: r)).2.2 = true) (h2 : (readR k (c :: r)).1.length ≤ 100) : tokN (c :: r) = some (k, (readR k (c :: r)).1, (readR k (c :: r)).2.1) := by
  simp only [tokN, hk]; rw [if_pos ⟨h1, h2⟩]
theorem tokN_none {c : UInt8} {r : List UInt8} {k : Nat} (hk : kindN c = some k) (h : (readR k (c :: r)).2.2 = false ∨ 100 < (readR k (c :: r)).1.length) : tokN (c :: r) = none := by
  simp only [tokN, hk]; rw [if_neg (by rcases h with h | h <;> simp [h])]
theorem tokN_kind {c : UInt8} {r : List UInt8} (hk : kindN c = none) : tokN (c :: r) = none := by simp [tokN, hk]
theorem tokN_bounds {l : List UInt8} {k m : Nat} {t : List UInt8} (h : tokN l = some (k, t, m)) : 0 < m ∧ m ≤ l.length := by
  obtain ⟨c, r, rfl, hk, hok, rfl, rfl, _⟩ := tokN_some h
  exact readR_bounds hk hok
theorem nextL_ok {l : List UInt8} {k : Nat} (h : (nextL l k).ok = true) : ∃ kd t m, tokN (l.drop (skipA l k)) = some (kd, t, m) ∧ nextL l k = ⟨⟨kd, t, skipA l k, skipA l k + m⟩, true, 0⟩ := by
  unfold nextL nextA at h ⊢
  split at h
  · cases h
  · rename_i hne
    rw [if_neg hne]
    split at h
    · cases h
    · rename_i kd t m hm
      exact ⟨kd, t, m, hm, rfl⟩
theorem nextL_stop {l : List UInt8} {k : Nat} (hk : k ≤ l.length) (h : (nextL l k).ok = true) : k < (nextL l k).tok.stop ∧ (nextL l k).tok.stop ≤ l.length ∧ (nextL l k).err = 0 := by
  obtain ⟨kd, t, m, hm, he⟩ := nextL_ok h
  have hs := skipA_le hk
  have := tokN_bounds hm
  simp at this
  rw [he]; simp; omega
theorem allF_enough : ∀ (f f' : Nat) (l : List UInt8) (k : Nat), k ≤ l.length → l.length + 1 - k ≤ f → l.length + 1 - k ≤ f' → allF f l k = allF f' l k := by
  intro f
  induction f with
  | zero => intro f' l k hk h _; omega
  | succ f ih =>
    intro f' l k hk h h'
    obtain ⟨g, rfl⟩ : ∃ g, f' = g + 1 := ⟨f' - 1, by omega⟩
    simp only [allF]
    by_cases ho : (nextL l k).ok = true
    · have hs := nextL_stop hk ho
      rw [if_pos ho, if_pos ho, ih g l _ hs.2.1 (by omega) (by omega)]
    · rw [if_neg ho, if_neg ho]
theorem allL_ok {l : List UInt8} {k : Nat} (hk : k ≤ l.length) (h : (nextL l k).ok = true) : allL l k = ((nextL l k).tok :: (allL l (nextL l k).tok.stop).1, (allL l (nextL l k).tok.stop).2) := by
  have hs := nextL_stop hk h
  unfold allL
  obtain ⟨g, hg⟩ : ∃ g, l.length + 1 - k = g + 1 := ⟨l.length - k, by omega⟩
  rw [hg]
  conv => lhs; unfold allF
  rw [if_pos h, allF_enough g (l.length + 1 - (nextL l k).tok.stop) l _ hs.2.1 (by omega) (Nat.le_refl _)]
theorem allL_end {l : List UInt8} {k : Nat} (hk : k ≤ l.length) (h : (nextL l k).ok = false) (he : (nextL l k).err = 0) : allL l k = ([], l.length, 0) := by
  unfold allL
  obtain ⟨g, hg⟩ : ∃ g, l.length + 1 - k = g + 1 := ⟨l.length - k, by omega⟩
  rw [hg]; unfold allF
  rw [if_neg (by rw [h]; exact Bool.false_ne_true), if_pos he]
theorem allL_bad {l : List UInt8} {k : Nat} (hk : k ≤ l.length) (h : (nextL l k).ok = false) (he : (nextL l k).err ≠ 0) : allL l k = ([], (nextL l k).tok.pos, (nextL l k).err) := by
  unfold allL
  obtain ⟨g, hg⟩ : ∃ g, l.length + 1 - k = g + 1 := ⟨l.length - k, by omega⟩
  rw [hg]; unfold allF
  rw [if_neg (by rw [h]; exact Bool.false_ne_true), if_neg he]
theorem nextL_err {l : List UInt8} {k : Nat} (h : (nextL l k).err ≠ 0) : (nextL l k).ok = false ∧ (nextL l k).err = 20 ∧ nextL l k = ⟨⟨0, [], skipA l k, 0⟩, false, 20⟩ ∧ skipA l k ≠ l.length := by
  unfold nextL nextA at h ⊢
  split at h
  · exact absurd rfl h
  · rename_i hne
    rw [if_neg hne]
    split at h
    · simp [hne]
    · exact absurd rfl h
theorem nextL_end {l : List UInt8} {k : Nat} (h : (nextL l k).ok = false) (he : (nextL l k).err = 0) : skipA l k = l.length ∧ nextL l k = ⟨⟨0, [], 0, 0⟩, false, 0⟩ := by
  unfold nextL nextA at h he ⊢
  split at h
  · rename_i hn
    rw [if_pos hn]; exact ⟨hn, rfl⟩
  · rename_i hne
    rw [if_neg hne] at he
    split at h
    · rename_i hm; rw [hm] at he; cases he
    · cases h
end Go.Proofs.YtinogambkfihpaaDoor
