/- Plain facts: of two numerals the longer one, or of alike ones the later one, is the greater number. -/
import Derived.Test.YtgbpepkhdjcnbaaNumPlain
namespace Go.Proofs.Ytgbpepkhdjcnbaa
open Go.RowKit
theorem foldl_split (l : List UInt8) : ∀ n : Nat, l.foldl (fun n c => n * 10 + (c.toNat - 48)) n = n * 10 ^ l.length + valN l := by
  induction l with
  | nil => intro n; simp [valN]
  | cons c l ih =>
    intro n
    have h1 := ih (n * 10 + (c.toNat - 48))
    have h2 := ih (0 * 10 + (c.toNat - 48))
    show l.foldl _ (n * 10 + (c.toNat - 48)) = n * 10 ^ (l.length + 1) + l.foldl _ (0 * 10 + (c.toNat - 48))
    rw [h1, h2, Nat.pow_succ, Nat.add_mul, Nat.zero_mul, Nat.zero_add, Nat.mul_assoc, Nat.mul_comm 10]
    omega
theorem valN_cons (c : UInt8) (l : List UInt8) : valN (c :: l) = (c.toNat - 48) * 10 ^ l.length + valN l := by
  show l.foldl _ (0 * 10 + (c.toNat - 48)) = _
  rw [foldl_split, Nat.zero_mul, Nat.zero_add]
theorem valN_lt : ∀ (l : List UInt8), l.all isD = true → valN l < 10 ^ l.length
  | [], _ => by simp [valN]
  | c :: l, h => by
    simp only [List.all_cons, Bool.and_eq_true] at h
    have h1 := valN_lt l h.2
    have h2 := isD_true.1 h.1
    rw [valN_cons, List.length_cons, Nat.pow_succ]
    have : (c.toNat - 48) * 10 ^ l.length ≤ 9 * 10 ^ l.length := Nat.mul_le_mul_right _ (by omega)
    omega
theorem valN_cmp : ∀ (s t : List UInt8), s.length = t.length → s.all isD = true → t.all isD = true →
    (Op.bytesLess s t = true → valN s < valN t) ∧ (Op.bytesLess s t = false → valN t ≤ valN s) ∧ (valN s = valN t → s = t)
  | [], [], _, _, _ => by simp [Op.bytesLess]
  | [], _ :: _, h, _, _ => by simp at h
  | _ :: _, [], h, _, _ => by simp at h
  | a :: x, b :: y, h, hs, ht => by
    simp only [List.all_cons, Bool.and_eq_true] at hs ht
    have hl : x.length = y.length := by simpa using h
    obtain ⟨i1, i2, i3⟩ := valN_cmp x y hl hs.2 ht.2
    have ha := isD_true.1 hs.1
    have hb := isD_true.1 ht.1
    have lx := valN_lt x hs.2
    have ly := valN_lt y ht.2
    rw [valN_cons, valN_cons, hl]
    rw [hl] at lx
    rcases Nat.lt_trichotomy a.toNat b.toNat with hab | hab | hab
    · have e : Op.bytesLess (a :: x) (b :: y) = true := by
        simp [Op.bytesLess, UInt8.lt_iff_toNat_lt, hab]
      have : (a.toNat - 48 + 1) * 10 ^ y.length ≤ (b.toNat - 48) * 10 ^ y.length := Nat.mul_le_mul_right _ (by omega)
      rw [Nat.add_mul] at this
      exact ⟨fun _ => by omega, fun h => (by rw [e] at h; cases h), fun h => by omega⟩
    · have hab' : a = b := UInt8.toNat_inj.1 hab
      subst hab'
      have e : Op.bytesLess (a :: x) (a :: y) = Op.bytesLess x y := by
        simp [Op.bytesLess]
      rw [e]
      exact ⟨fun h => by have := i1 h; omega, fun h => by have := i2 h; omega, fun h => by rw [i3 (by omega)]⟩
    · have e : Op.bytesLess (a :: x) (b :: y) = false := by
        have : ¬ a = b := fun h => by subst h; omega
        simp [Op.bytesLess, UInt8.lt_iff_toNat_lt, this]; omega
      have : (b.toNat - 48 + 1) * 10 ^ y.length ≤ (a.toNat - 48) * 10 ^ y.length := Nat.mul_le_mul_right _ (by omega)
      rw [Nat.add_mul] at this
      exact ⟨fun h => (by rw [e] at h; cases h), fun _ => by omega, fun h => by omega⟩
theorem valN_longer {s t : List UInt8} (hs : numB s = true) (ht : numB t = true) (h : s.length < t.length) : valN s < valN t := by
  have h1 := valN_lt s (numB_allD hs)
  have h0 : 0 < s.length := by cases s with | nil => simp [numB] at hs | cons c l => simp
  have hne : t[0].toNat ≠ 48 := fun e => by
    have := numB_no (l := t) (.inr ⟨by omega, e, by omega⟩)
    rw [ht] at this; cases this
  have h2 := valN_pos t (by omega) (numB_allD ht) hne
  have h3 : 10 ^ s.length ≤ 10 ^ (t.length - 1) := Nat.pow_le_pow_right (by omega) (by omega)
  omega
end Go.Proofs.Ytgbpepkhdjcnbaa
