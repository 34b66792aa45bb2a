/- The law SexprBack: its walk. -/
import Derived.Test.YtodonngnigbpaaaGreatDoorSexRp
import Derived.Test.YtodonngnigbpaaaGreatDoorSexRx
import Derived.Test.YtodonngnigbpaaaGreatDoorSexReadW
import Derived.Test.YtodonngnigbpaaaGreatDoorSexTm2
import Derived.Deep.RegionHeld3
namespace Go.Proofs.YtodonngnigbpaaaGreatDoor
open Go.RowKit
set_option linter.unusedVariables false
mutual
/-- Its fields are such as its kind has, and so is all within. -/
def fitT : Tree → Bool
  | .node k s l => fitsF k s l.length && fitL l
def fitL : List Tree → Bool
  | [] => true
  | t :: r => fitT t && fitL r
end
theorem fits_other {k : Int} {s : List UInt8} {n : Nat} (h3 : ¬ k = 3) (h : fitsF k s n = true) : n = 0 := by
  unfold fitsF at h
  rw [if_neg h3] at h
  split at h
  · simp only [Bool.and_eq_true, decide_eq_true_eq] at h; exact h.1
  · split at h
    · simp only [Bool.and_eq_true, decide_eq_true_eq] at h; exact h.1
    · split at h
      · simp only [Bool.and_eq_true, decide_eq_true_eq] at h; exact h.1
      · cases h
theorem dec_and (a b : Nat) (p : Bool) : ((decide (a ≤ 60) && p) && decide (b ≤ 60)) = (p && decide (max a b ≤ 60)) := by
  cases p with
  | false => simp
  | true => simp [Nat.max_le]
mutual
theorem pre_ok (d : Nat) : ∀ (t : Tree), (preT lis d t).all okP = (fitT t && decide (upD d (dT t) ≤ 60))
  | .node k s l => by
    by_cases h3 : k = 3
    · subst h3
      have e1 : preT lis d (.node 3 s l) = (d, .node 3 s l) :: preL lis (d + 1) l := by simp [preT, lis]
      have e2 : okP (d, .node 3 s l) = (fitsF 3 s l.length && decide (d + 1 ≤ 60)) := by
        show (fitsF 3 s l.length && !(decide ((3 : Int) = 3) && decide (60 ≤ d))) = _
        have : (!(decide ((3 : Int) = 3) && decide (60 ≤ d))) = decide (d + 1 ≤ 60) := by
          rw [Bool.eq_iff_iff]; simp; omega
        rw [this]
      rw [e1, List.all_cons, e2, pre_okL (d + 1) l]
      simp only [fitT, dT, if_true]
      rw [← upD_up]
      have hm : decide (max (d + 1) (upD (d + 1) (dL l)) ≤ 60) = (decide (d + 1 ≤ 60) && decide (upD (d + 1) (dL l) ≤ 60)) := by
        rw [Bool.eq_iff_iff]; simp only [decide_eq_true_eq, Bool.and_eq_true]; omega
      rw [hm]
      cases fitsF 3 s l.length <;> cases fitL l <;> simp
    · have hl : lis k = false := by simp [lis, h3]
      have e1 : preT lis d (.node k s l) = [(d, .node k s l)] := by simp [preT, hl]
      have e2 : okP (d, .node k s l) = fitsF k s l.length := by
        show (fitsF k s l.length && !(decide (k = 3) && decide (60 ≤ d))) = _
        simp [h3]
      rw [e1, List.all_cons, e2]
      simp only [List.all_nil, Bool.and_true, fitT, dT, h3, if_false]
      have hu : decide (upD d 0 ≤ 60) = true := by simp [upD]
      rw [hu, Bool.and_true]
      cases hf : fitsF k s l.length with
      | false => rfl
      | true =>
        have := List.eq_nil_of_length_eq_zero (fits_other h3 hf)
        subst this
        rfl
theorem pre_okL (d : Nat) : ∀ (l : List Tree), (preL lis d l).all okP = (fitL l && decide (upD d (dL l) ≤ 60))
  | [] => by simp [preL, fitL, dL, upD]
  | t :: r => by
    simp only [preL, List.all_append, fitL, dL]
    rw [pre_ok d t, pre_okL d r]
    have hw : upD d (max (dT t) (dL r)) ≤ 60 ↔ upD d (dT t) ≤ 60 ∧ upD d (dL r) ≤ 60 := by rw [← upD_max, Nat.max_le]
    rw [Bool.eq_iff_iff]
    simp only [Bool.and_eq_true, decide_eq_true_eq]
    constructor
    · rintro ⟨⟨a, b⟩, c, e⟩
      exact ⟨⟨a, c⟩, decide_eq_true (hw.2 ⟨b, e⟩)⟩
    · rintro ⟨⟨a, c⟩, e⟩
      exact ⟨⟨a, (hw.1 (of_decide_eq_true e)).1⟩, c, (hw.1 (of_decide_eq_true e)).2⟩
end
theorem may_fit (t : Tree) : mayT t = (fitT t && decide (dT t ≤ 60)) := by
  unfold mayT
  rw [pre_ok 0 t]
  congr 2
  unfold upD
  split <;> simp_all
theorem sign_bar {c : UInt8} (h : isSign c = true) : inBar c = true := by
  have key : ∀ n : Fin 256, isSign (UInt8.ofNat n.val) = true → inBar (UInt8.ofNat n.val) = true := by decide +kernel
  have := key ⟨c.toNat, c.toNat_lt⟩
  simp only [UInt8.ofNat_toNat] at this
  exact this h
theorem dg_sign {c : UInt8} (h : isDg c = true) : isSign c = true := sign_in c (.inl (dg_is h))
theorem all_imp {p q : UInt8 → Bool} (hpq : ∀ c, p c = true → q c = true) {l : List UInt8} (h : l.all p = true) : l.all q = true := by
  rw [List.all_eq_true] at h ⊢
  exact fun c hc => hpq c (h c hc)
theorem isD_dg : ∀ c, isD c = isDg c := fun c => by
  have key : ∀ n : Fin 256, isD (UInt8.ofNat n.val) = isDg (UInt8.ofNat n.val) := by decide +kernel
  have := key ⟨c.toNat, c.toNat_lt⟩
  simp only [UInt8.ofNat_toNat] at this
  exact this
theorem numB_ok (c : UInt8) (l : List UInt8) : numB (c :: l) = numOk (c :: l) := by
  have e : isD = isDg := funext isD_dg
  show (!(c == 48 && !l.isEmpty) && (c :: l).all isD) = ((c :: l).all isDg && ((c :: l).head? != some 48 || (c :: l) == [48]))
  rw [e, Bool.and_comm]
  congr 1
  cases l with
  | nil => cases h : (c == 48) <;> simp_all
  | cons d r => cases h : (c == 48) <;> simp_all
/-- A token's text fits its kind. -/
theorem tok_fits {l : List UInt8} {kd m : Nat} {t : List UInt8} (h : tokN l = some (kd, t, m)) (h2 : 2 ≤ kd) : fitsF ((kd : Int) - 2) t 0 = true := by
  obtain ⟨c, r, rfl, hk, hok, ht, _, hlen⟩ := tokN_some h
  have h4 := kindN_le hk
  obtain rfl | rfl | rfl : kd = 2 ∨ kd = 3 ∨ kd = 4 := by omega
  · show (decide (0 = 0) && mayN t) = true
    have hall : t.all inBar = true := by
      rw [ht]
      show (nameR (c :: r)).1.all inBar = true
      show (if c.toNat = 124 then barR r else signR (c :: r)).1.all inBar = true
      by_cases h124 : c.toNat = 124
      · rw [if_pos h124]
        unfold barR
        split
        · exact spanN_take inBar r
        · rfl
      · rw [if_neg h124]
        exact all_imp (fun c hc => sign_bar hc) (spanN_take isSign (c :: r))
    unfold mayN
    rw [hall]; simpa using hlen
  · show (decide (0 = 0) && nmlB t) = true
    have ht' : t = (c :: r).take (spanN isSign (c :: r)) := ht
    have hno : numOk t = true := by rw [ht']; exact hok
    have hc : isDg c = true := by
      unfold kindN at hk
      split at hk
      · cases hk
      · split at hk
        · cases hk
        · split at hk
          · cases hk
          · split at hk
            · assumption
            · split at hk <;> cases hk
    have hsp : spanN isSign (c :: r) = spanN isSign r + 1 := by rw [spanN, if_pos (dg_sign hc)]
    have hnc : t = c :: r.take (spanN isSign r) := by rw [ht', hsp, List.take_succ_cons]
    unfold nmlB
    rw [hnc, numB_ok, ← hnc, hno]
    simpa using hlen
  · show (decide (0 = 0) && keyB t) = true
    have ht' : t = r.take (spanN isSign r) := ht
    have hne : (!t.isEmpty) = true := by rw [ht']; exact hok
    unfold keyB
    rw [hne, ht', spanN_take isSign r, ← ht']
    simpa using hlen
/-- A leaf's text is one token. -/
theorem tok_leaf {k : Int} {s : List UInt8} (h3 : ¬ k = 3) (h : fitsF k s 0 = true) : ∃ kd : Nat, (kd : Int) - 2 = k ∧ 2 ≤ kd ∧ kd ≤ 4 ∧ tokN (textT (.node k s [])) = some (kd, s, (textT (.node k s [])).length) := by
  unfold fitsF at h
  by_cases h0 : k = 0
  · rw [if_pos h0] at h
    subst h0
    unfold mayN at h
    simp only [Bool.and_eq_true, decide_eq_true_eq] at h
    have e : textT (.node 0 s []) = quoteL s := by simp [textT]
    refine ⟨2, rfl, by omega, by omega, ?_⟩
    rw [e]
    exact quote_tok h.2.1 h.2.2
  · rw [if_neg h0] at h
    by_cases h1 : k = 1
    · rw [if_pos h1] at h
      subst h1
      have e : textT (.node 1 s []) = s := by simp [textT]
      refine ⟨3, rfl, by omega, by omega, ?_⟩
      rw [e]
      unfold nmlB at h
      simp only [Bool.and_eq_true, decide_eq_true_eq] at h
      cases s with
      | nil => have := h.2.1; simp [numB] at this
      | cons c r =>
        rw [numB_ok] at h
        have hall : (c :: r).all isDg = true := by have := h.2.1; unfold numOk at this; simp only [Bool.and_eq_true] at this; exact this.1
        have hsp : spanN isSign (c :: r) = (c :: r).length := spanN_all (all_imp (fun c hc => dg_sign hc) hall)
        have hc : isDg c = true := by simp only [List.all_cons, Bool.and_eq_true] at hall; exact hall.1
        have := tok_num_yes (r := r) hc (by rw [hsp]; exact h.2.2) (by rw [hsp, List.take_length]; exact h.2.1)
        rw [hsp, List.take_length] at this
        exact this
    · rw [if_neg h1] at h
      by_cases h2 : k = 2
      · rw [if_pos h2] at h
        subst h2
        have e : textT (.node 2 s []) = 58 :: s := by simp [textT]
        refine ⟨4, rfl, by omega, by omega, ?_⟩
        rw [e]
        unfold keyB at h
        simp only [Bool.and_eq_true, decide_eq_true_eq] at h
        have hsp : spanN isSign s = s.length := spanN_all h.2.1
        have hpos : 0 < s.length := by
          cases s with
          | nil => have := h.2.2.1; simp at this
          | cons c r => simp
        have := tok_key_yes (c := 58) (r := s) rfl (by omega) (by omega)
        rw [hsp, List.take_length] at this
        simpa using this
      · rw [if_neg h2, if_neg h3] at h; cases h
/-- A byte that is no sign, or none, comes next. -/
def NS (l : List UInt8) : Prop := l = [] ∨ ∃ z y, l = z :: y ∧ isSign z = false
theorem drop_at {L x rest : List UInt8} {p : Nat} (h : L.drop p = x ++ rest) (hx : x ≠ []) : p < L.length ∧ p + x.length ≤ L.length ∧ L.drop (p + x.length) = rest := by
  have hl := congrArg List.length h
  simp only [List.length_drop, List.length_append] at hl
  have hpos : 0 < x.length := List.length_pos_iff.2 hx
  refine ⟨by omega, by omega, ?_⟩
  rw [← List.drop_drop, h, List.drop_left]
/-- The token at a byte. -/
theorem next_at {L x rest : List UInt8} {p kd : Nat} {t : List UInt8} (h : L.drop p = x ++ rest) (hx : tokN x = some (kd, t, x.length)) (ht : tokN (x ++ rest) = some (kd, t, x.length)) : nextL L p = ⟨⟨kd, t, p, p + x.length⟩, true, 0⟩ := by
  obtain ⟨c, r, hcr, hk, _⟩ := tokN_some hx
  have hne : x ≠ [] := by rw [hcr]; simp
  obtain ⟨h1, h2, h3⟩ := drop_at h hne
  have hs : skipA L p = p := by
    unfold skipA
    rw [h, hcr, List.cons_append, skipN_no (kind_start hk)]; rfl
  unfold nextL
  rw [hs]
  unfold nextA
  rw [if_neg (by omega), h, ht]
theorem tok_ns {x rest : List UInt8} {kd : Nat} {t : List UInt8} (hx : tokN x = some (kd, t, x.length)) (hr : NS rest) : tokN (x ++ rest) = some (kd, t, x.length) := by
  rcases hr with rfl | ⟨z, y, rfl, hz⟩
  · rw [List.append_nil]; exact hx
  · exact tokN_glue hz hx
theorem contE_skip {L : List UInt8} {s : RS} {p q : Nat} (hs : Ok60 s) (hp : p ≤ L.length) (hq : q ≤ L.length) (h : skipA L p = skipA L q) (hpq : p ≤ q) : contE L s p = contE L s q := by
  obtain ⟨N, hN⟩ := hs.ok
  unfold contE
  rw [show L.length + 1 - p = (L.length - p) + 1 by omega, contR_same_skip hN h]
  exact contR_enough L _ _ s q N hq (by omega) (Nat.le_refl _) (.inl hN)
theorem ns_list (first : Bool) (l : List Tree) (rest : List UInt8) (h : first = false ∨ l = []) : NS (textL first l ++ 41 :: rest) := by
  cases l with
  | nil => exact .inr ⟨41, rest, rfl, by decide⟩
  | cons t r =>
    rcases h with rfl | h
    · exact .inr ⟨32, textT t ++ textL false r ++ 41 :: rest, by simp [textL], by decide⟩
    · cases h
mutual
theorem back_T (L : List UInt8) : ∀ (t : Tree) (s : RS) (p : Nat) (rest : List UInt8), fitT t = true → Ok60 s → L.drop p = textT t ++ rest → NS rest →
    textT t ≠ [] ∧ contE L s p = contE L (aft s t) (p + (textT t).length)
  | .node k x l => fun s p rest hf hs hd hr => by
    simp only [fitT, Bool.and_eq_true] at hf
    by_cases h3 : k = 3
    · subst h3
      have hx : x = [] := by
        have := hf.1
        unfold fitsF at this
        rw [if_neg (by decide), if_neg (by decide), if_neg (by decide), if_pos rfl] at this
        simpa using this
      subst hx
      have e : textT (.node 3 [] l) = [40] ++ (textL true l ++ [41]) := by simp [textT]
      rw [e] at hd ⊢
      have hd1 : L.drop p = [40] ++ (textL true l ++ 41 :: rest) := by rw [hd]; simp
      obtain ⟨q1, q2, q3⟩ := drop_at hd1 (by simp)
      have hn := next_at hd1 (kd := 0) (t := []) (tok_open (c := 40) (r := []) rfl) (tok_open (c := 40) rfl)
      have step1 : contE L s p = contE L (openS s []) (p + 1) := by
        have := contE_some (s' := openS s []) hs (Nat.le_of_lt q1) (by rw [hn]) (by rw [hn]) (by rw [hn]; exact tkS_open hs _)
        rw [hn] at this
        exact this
      have step2 := back_L L l [] s (p + 1) rest true hf.2 hs q3
      have hd2 : L.drop (p + 1 + (textL true l).length) = [41] ++ rest := by
        have q3' : L.drop (p + 1) = textL true l ++ 41 :: rest := q3
        rw [← List.drop_drop, q3', List.drop_left]; rfl
      obtain ⟨q4, q5, q6⟩ := drop_at hd2 (by simp)
      have hn2 := next_at hd2 (kd := 1) (t := []) (tok_close (c := 41) (r := []) rfl) (tok_close (c := 41) rfl)
      have step3 : contE L (openS s l) (p + 1 + (textL true l).length) = contE L (aft s (.node 3 [] l)) (p + 1 + (textL true l).length + 1) := by
        have := contE_some (s' := aft s (.node 3 [] l)) (openS_ok hs l) (Nat.le_of_lt q4) (by rw [hn2]) (by rw [hn2]) (by rw [hn2]; exact tkS_close hs l _)
        rw [hn2] at this
        exact this
      refine ⟨by simp, ?_⟩
      rw [step1, step2, List.nil_append, step3]
      congr 1
      simp; omega
    · have hl : l = [] := List.eq_nil_of_length_eq_zero (fits_other h3 hf.1)
      subst hl
      obtain ⟨kd, hkd, h2, h4, htok⟩ := tok_leaf h3 hf.1
      have hne : textT (.node k x []) ≠ [] := by
        obtain ⟨c, r, hcr, _⟩ := tokN_some htok
        rw [hcr]; simp
      obtain ⟨q1, q2, q3⟩ := drop_at hd hne
      have hn := next_at hd htok (tok_ns htok hr)
      refine ⟨hne, ?_⟩
      have := contE_some (s' := aft s (.node k x [])) hs (Nat.le_of_lt q1) (by rw [hn]) (by rw [hn]) (by rw [hn, ← hkd]; exact tkS_leaf hs h2 h4 x)
      rw [hn] at this
      exact this
theorem back_L (L : List UInt8) : ∀ (l acc : List Tree) (s : RS) (p : Nat) (rest : List UInt8) (first : Bool), fitL l = true → Ok60 s → L.drop p = textL first l ++ 41 :: rest →
    contE L (openS s acc) p = contE L (openS s (acc ++ l)) (p + (textL first l).length)
  | [] => fun acc s p rest first hf hs hd => by simp [textL]
  | t :: r => fun acc s p rest first hf hs hd => by
    simp only [fitL, Bool.and_eq_true] at hf
    have e : textL first (t :: r) = (if first = true then [] else [32]) ++ textT t ++ textL false r := by rw [textL]
    rw [e] at hd ⊢
    obtain ⟨b, hb⟩ : ∃ b : List UInt8, b = if first = true then [] else [32] := ⟨_, rfl⟩
    rw [← hb] at hd ⊢
    have hd1 : L.drop (p + b.length) = textT t ++ (textL false r ++ 41 :: rest) := by
      rw [← List.drop_drop, hd]
      simp only [List.append_assoc]
      rw [List.drop_left]
    have hpl : p + b.length ≤ L.length := by
      have hl := congrArg List.length hd
      simp only [List.length_drop, List.length_append] at hl
      simp only [List.length_cons] at hl
      omega
    have step0 : contE L (openS s acc) p = contE L (openS s acc) (p + b.length) := by
      cases first with
      | true => rw [hb]; rfl
      | false =>
        have hbb : b = [32] := hb
        rw [hbb] at hd ⊢
        refine contE_skip (openS_ok hs acc) (by rw [hbb] at hpl; simp at hpl; omega) (by rw [hbb] at hpl; exact hpl) ?_ (by omega)
        have hd2 : L.drop p = 32 :: L.drop (p + 1) := by
          have : L.drop (p + 1) = (L.drop p).drop 1 := by rw [List.drop_drop]
          rw [this, hd]; rfl
        unfold skipA
        rw [hd2, skipN_yes (by decide)]
        show p + (skipN false (L.drop (p + 1)) + 1) = p + 1 + skipN false (L.drop (p + 1))
        omega
    have step1 := (back_T L t (openS s acc) (p + b.length) _ hf.1 (openS_ok hs acc) hd1 (ns_list false r rest (.inl rfl))).2
    rw [aft_open hs] at step1
    have hd3 : L.drop (p + b.length + (textT t).length) = textL false r ++ 41 :: rest := by
      rw [← List.drop_drop, hd1, List.drop_left]
    have step2 := back_L L r (acc ++ [t]) s _ rest false hf.2 hs hd3
    rw [step0, step1, step2]
    congr 1
    · simp
    · simp; omega
end
end Go.Proofs.YtodonngnigbpaaaGreatDoor
namespace Go.Proofs.YtodonngnigbpaaaGreatDoor
open Go.RowKit
set_option linter.unusedVariables false
theorem text_start : ∀ (t : Tree), fitT t = true → ∃ c r, textT t = c :: r ∧ (cmt false c || isWhite c) = false
  | .node k x l => fun hf => by
    simp only [fitT, Bool.and_eq_true] at hf
    by_cases h3 : k = 3
    · subst h3
      exact ⟨40, textL true l ++ [41], by simp [textT], by decide⟩
    · have hl : l = [] := List.eq_nil_of_length_eq_zero (fits_other h3 hf.1)
      subst hl
      obtain ⟨kd, _, _, _, htok⟩ := tok_leaf h3 hf.1
      obtain ⟨c, r, hcr, hk, _⟩ := tokN_some htok
      exact ⟨c, r, hcr, kind_start hk⟩
theorem skip_text {L rest : List UInt8} {p : Nat} {t : Tree} (hf : fitT t = true) (h : L.drop p = textT t ++ rest) : skipA L p = p := by
  obtain ⟨c, r, hc, hw⟩ := text_start t hf
  unfold skipA
  rw [h, hc, List.cons_append, skipN_no hw]; rfl
theorem back_read {L rest : List UInt8} {p : Nat} {t : Tree} (hf : fitT t = true) (h60 : dT t ≤ 60) (hd : L.drop p = textT t ++ rest) (hr : NS rest) : readL L p = ⟨t, p + (textT t).length, 0⟩ := by
  have hok : Ok60 (.run []) := by show ([] : List (List Tree)).length ≤ 60; simp
  have h := (back_T L t (.run []) p rest hf hok hd hr).2
  have ha : aft (.run []) t = .fin t := by
    show (if _ then _ else _) = _
    rw [if_pos (by simp; omega)]; rfl
  show contE L (.run []) p = _
  rw [h, ha]
  exact contR_fin _ _ _ _
theorem back_one {t : Tree} (hf : fitT t = true) (h60 : dT t ≤ 60) : readL (textT t) 0 = ⟨t, (textT t).length, 0⟩ := by
  have := back_read (L := textT t) (p := 0) (rest := []) hf h60 (by simp) (.inl rfl)
  simpa using this
theorem back_two {x y : Tree} (hx : fitT x = true) (h60 : dT x ≤ 60) (hy : fitT y = true) (h60' : dT y ≤ 60) : allS (textT x ++ 32 :: textT y) = ⟨[x, y], (textT x).length + 1 + (textT y).length, 0⟩ := by
  obtain ⟨L, hL⟩ : ∃ L, L = textT x ++ 32 :: textT y := ⟨_, rfl⟩
  have hlen : L.length = (textT x).length + 1 + (textT y).length := by rw [hL]; simp; omega
  have d0 : L.drop 0 = textT x ++ 32 :: textT y := by rw [hL]; rfl
  have dm : L.drop (textT x).length = 32 :: textT y := by rw [hL, List.drop_left]
  have d1 : L.drop ((textT x).length + 1) = textT y ++ [] := by
    rw [← List.drop_drop, dm, List.append_nil]; rfl
  have r0 := back_read hx h60 d0 (.inr ⟨32, _, rfl, by decide⟩)
  have r1 := back_read hy h60' d1 (.inl rfl)
  have s0 : skipA L 0 = 0 := skip_text hx d0
  have s1 : skipA L ((textT x).length + 1) = (textT x).length + 1 := skip_text hy d1
  have s2 : skipA L (textT x).length = (textT x).length + 1 := by
    have e : skipN false (L.drop (textT x).length) = skipN false (L.drop ((textT x).length + 1)) + 1 := by
      rw [dm, d1, skipN_yes (by decide), List.append_nil]; rfl
    unfold skipA at s1 ⊢
    omega
  have s3 : skipA L L.length = L.length := by unfold skipA; rw [List.drop_length]; rfl
  obtain ⟨cy, ry, hcy, _⟩ := text_start y hy
  have hly : 0 < (textT y).length := by rw [hcy]; simp
  rw [← hL]
  unfold allS
  rw [s0]
  rw [show L.length + 1 = (L.length - 2) + 1 + 1 + 1 by omega]
  rw [allX_step (by omega) (by rw [r0])]
  rw [r0]
  simp only [Nat.zero_add]
  rw [s2, allX_step (by omega) (by rw [r1])]
  rw [r1]
  simp only
  rw [show (textT x).length + 1 + (textT y).length = L.length from hlen.symm, s3, allX_end (by omega)]
/-- The state's trees may be. -/
def FtS : RS → Prop
  | .run st => st.length ≤ 60 ∧ ∀ i (hi : i < st.length), ∀ t ∈ st[i], fitT t = true ∧ dT t + (st.length - i) ≤ 60
  | .fin t => fitT t = true ∧ dT t ≤ 60
  | .deep _ => True
theorem fitL_all {l : List Tree} (h : ∀ t ∈ l, fitT t = true) : fitL l = true := by
  induction l with
  | nil => rfl
  | cons t r ih => simp only [fitL]; rw [h t (by simp), ih (fun t ht => h t (by simp [ht]))]; rfl
theorem putS_fit {st : List (List Tree)} {t : Tree} (h : FtS (.run st)) (hf : fitT t = true) (ht : dT t + st.length ≤ 60) : FtS (putS st t) := by
  cases st with
  | nil => exact ⟨hf, by simpa using ht⟩
  | cons l r =>
    refine ⟨h.1, fun i hi y hy => ?_⟩
    cases i with
    | zero =>
      simp only [List.getElem_cons_zero, List.mem_append, List.mem_singleton] at hy
      rcases hy with hy | rfl
      · exact h.2 0 (by simp) y hy
      · exact ⟨hf, by simpa using ht⟩
    | succ i =>
      have := h.2 (i + 1) (by simpa using hi) y (by simpa using hy)
      simpa using this
theorem takeS_fit {k : Nat} {x : List UInt8} {s s' : RS} (h : FtS s) (hfx : 2 ≤ k → fitsF ((k : Int) - 2) x 0 = true ∧ k ≤ 4) (hs : takeS s k x = some s') : FtS s' := by
  unfold takeS at hs
  by_cases h0 : k = 0
  · rw [if_pos h0] at hs
    cases hs
    cases s with
    | fin t => exact h
    | deep n => trivial
    | run st =>
      simp only [pushS]
      split
      · trivial
      · rename_i hne
        refine ⟨by have := h.1; simp; omega, fun i hi y hy => ?_⟩
        cases i with
        | zero => simp at hy
        | succ i =>
          have := h.2 i (by simpa using hi) y (by simpa using hy)
          exact ⟨this.1, by have := this.2; simp; omega⟩
  · rw [if_neg h0] at hs
    by_cases h1 : k = 1
    · rw [if_pos h1] at hs
      cases s with
      | fin t => cases hs
      | deep n => simp only [Option.some.injEq] at hs; subst hs; trivial
      | run st =>
        cases st with
        | nil => cases hs
        | cons l r =>
          simp only [Option.some.injEq] at hs
          subst hs
          have hl := h.1
          simp only [List.length_cons] at hl
          refine putS_fit ⟨by omega, fun i hi y hy => ?_⟩ ?_ ?_
          · have := h.2 (i + 1) (by simp; omega) y (by simpa using hy)
            simp at this
            exact ⟨this.1, by omega⟩
          · simp only [fitT, Bool.and_eq_true]
            exact ⟨rfl, fitL_all (fun t ht => (h.2 0 (by simp) t (by simpa using ht)).1)⟩
          · have : dL l + (r.length + 1) ≤ 60 := by
              have hle : dL l ≤ 60 - (r.length + 1) := dL_le (fun t ht => by
                have := (h.2 0 (by simp) t (by simpa using ht)).2
                simp at this
                omega)
              omega
            simp only [dT, if_true]
            omega
    · rw [if_neg h1] at hs
      obtain ⟨hfx1, hk4⟩ := hfx (by omega)
      cases s with
      | fin t => cases hs
      | deep n => simp only [Option.some.injEq] at hs; subst hs; trivial
      | run st =>
        simp only [Option.some.injEq] at hs
        subst hs
        refine putS_fit h ?_ ?_
        · simp only [fitT, List.length_nil, hfx1, fitL, Bool.and_true]
        · simp only [dT]; rw [if_neg (by omega)]; have := h.1; omega
theorem contR_fit (L : List UInt8) : ∀ (f : Nat) (s : RS) (k N : Nat), FtS s → (OkS N s ∨ (∃ t, s = .fin t) ∨ s = .deep 0) → fitT (contR L f s k).t = true ∧ dT (contR L f s k).t ≤ 60 := by
  have he : fitT emptyT = true ∧ dT emptyT ≤ 60 := ⟨rfl, by unfold emptyT; simp only [dT]; rw [if_neg (by decide)]; omega⟩
  intro f
  induction f with
  | zero =>
    intro s k N h hs
    rcases hs with hs | ⟨t, rfl⟩ | rfl
    · cases s with
      | fin t => exact hs.elim
      | run st => exact he
      | deep n =>
        obtain ⟨n, rfl⟩ : ∃ m, n = m + 1 := ⟨n - 1, by have := hs.2; omega⟩
        exact he
    · rw [contR_fin]; exact h
    · rw [contR_deep]; exact he
  | succ f ih =>
    intro s k N h hs
    rcases hs with hs | ⟨t, rfl⟩ | rfl
    · rw [contR_go L f s k N hs]
      split
      · exact he
      · split
        · exact he
        · rename_i hok
          cases htk : takeS s (nextL L k).tok.kind (nextL L k).tok.text with
          | none => exact he
          | some s' =>
            have hok' : (nextL L k).ok = true := by simpa using hok
            refine ih s' _ (N + 1) (takeS_fit h (fun h2 => ?_) htk) ?_
            · obtain ⟨kd, t, m, htok, hx⟩ := nextL_ok hok'
              rw [hx] at h2 ⊢
              exact ⟨tok_fits htok h2, (tokN_kind4 htok).1⟩
            · rcases takeS_ok hs htk with h | h | h
              · exact .inl h.1
              · exact .inr (.inl h)
              · exact .inr (.inr h)
    · rw [contR_fin]; exact h
    · rw [contR_deep]; exact he
/-- What is read may be. -/
theorem readL_fit (L : List UInt8) (k : Nat) : fitT (readL L k).t = true ∧ dT (readL L k).t ≤ 60 := contR_fit L _ (.run []) k 0 ⟨by simp, fun i hi => by simp at hi⟩ (.inl ok_start)
theorem readL_may (L : List UInt8) (k : Nat) : mayT (readL L k).t = true := by
  rw [may_fit, (readL_fit L k).1, Bool.true_and]
  exact decide_eq_true (readL_fit L k).2
end Go.Proofs.YtodonngnigbpaaaGreatDoor
namespace Go.Proofs.YtodonngnigbpaaaGreatDoor
open Go.RowKit
set_option linter.unusedVariables false
theorem ite_int (p : Prop) [Decidable p] (a b : Int) : Value.int .i64 (if p then a else b) = Value.int .i64 (if p then a else b) := rfl
set_option maxHeartbeats 4000000 in
theorem GDepth_n : ∀ (n : Nat) (t : Tree) (v : Value) (w : World), szT t ≤ n → Sx w t v →
    Calls Tryz.prog 14 #[v] w fun e w' => (∃ d : Int, e = .returned (.int .i64 d)) ∧ Below w.heap.size w w' := by
  intro n
  induction n with
  | zero => intro t v w hn; rw [szT_kids] at hn; omega
  | succ n ih =>
    intro t v w hn hr
    have hkid : ∀ c ∈ t.kids, szT c ≤ n := fun c hc => by
      have := szL_mem hc
      rw [szT_kids] at hn
      omega
    obtain ⟨a, cap, rfl, hl, hc, hs, hk⟩ := hr.parts
    have HK := Lib.hid hk
    have HB0 : Hid (Below w.heap.size w (w.alloc (.cells #[.int .i8 t.kind, .string (bytesL t.text), .slice a t.kids.length cap] 35))) := (Below.refl _ _).alloc (Nat.le_refl _) _
    have HX0 : Hid ((w.alloc (.cells #[.int .i8 t.kind, .string (bytesL t.text), .slice a t.kids.length cap] 35)).heap[w.heap.size]? = some (.cells #[.int .i8 t.kind, .string (bytesL t.text), .slice a t.kids.length cap] 35 (0, 0))) := heap_alloc_new w _
    have HIH : Hid (∀ c ∈ t.kids, ∀ (v : Value) (W : World), Sx W c v → Calls Tryz.prog 14 #[v] W fun e w' => (∃ d : Int, e = .returned (.int .i64 d)) ∧ Below W.heap.size W w') := fun c hcm v W hv => ih c v W (hkid c hcm) hv
    have hkm : t.kids.length ≤ 9223372036854775807 := by simp only [maxLen] at hc; omega
    by_cases h3 : t.kind = 3
    · have e2 : ((3 : Int) != 3) = false := rfl
      rw [h3] at HB0 HX0 ⊢
      clear hr hk h3 ih hkid hn
      go_enter Tryz.func14, Tryz.ntmps14
      go_wp2
      obtain ⟨W0, hW0⟩ : ∃ W0, W0 = w.alloc (.cells #[.int .i8 3, .string (bytesL t.text), .slice a t.kids.length cap] 35) := ⟨_, rfl⟩
      rw [← hW0] at HB0 HX0 ⊢
      clear hW0
      go_loopw [3, 4] (fun d i wr => ∃ (k : Nat) (dv : Int), k ≤ t.kids.length ∧ i = .int .i64 k ∧ d = .int .i64 dv ∧ Hid (Below w.heap.size w wr) ∧ Hid (wr.heap[w.heap.size]? = some (.cells #[.int .i8 3, .string (bytesL t.text), .slice a t.kids.length cap] 35 (0, 0)))) (fun _ i _ => t.kids.length - (intOf i).toNat)
      case atStart => exact ⟨0, 0, Nat.zero_le _, rfl, rfl, HB0, HX0⟩
      case round =>
        obtain ⟨k, dv, hkl, rfl, rfl, HB, HX⟩ := hrel
        have x2 := cell_of_row _ _ 2 _ _ _ HX.out
        simp only [List.getElem?_toArray, List.getElem?_cons_zero, List.getElem?_cons_succ] at x2
        by_cases hlt : k < t.kids.length
        · obtain ⟨c, hcc⟩ : ∃ c, t.kids[k]? = some c := ⟨_, List.getElem?_eq_getElem hlt⟩
          have hks : SxL wr t.kids a := SxL.below HK.out HB.out
          obtain ⟨g, o, rfl, _, hg, _, _⟩ := hks.addr (by omega)
          obtain ⟨_, v0, v1, v2, c0, c1, c2, hrt⟩ := hks.get t.kids g o k c hcc
          obtain ⟨ca, cc, hv, _, _, _, _⟩ := hrt.parts
          simp only [Value.agg.injEq, Array.mk.injEq, List.cons.injEq, and_true] at hv
          obtain ⟨rfl, rfl, rfl⟩ := hv
          have c2' : wr.cell? ⟨g, o + k * 3 + 2, none⟩ = some (.slice ca c.kids.length cc) := c2
          have HCALL := Lib.hid (HIH.out c (List.mem_of_getElem? hcc) _ wr hrt.sx)
          have hzw : w.heap.size < wr.heap.size := (Array.getElem?_eq_some_iff.1 HX.out).1
          clear hks hrt hcc
          go_wp2_with fail
          refine HCALL.out.mono ?_
          rintro e w2 ⟨⟨m, rfl⟩, hb2⟩
          have HX2 := Lib.hid ((hb2.block _ hzw).trans HX.out)
          have HB2 : Hid (Below w.heap.size w w2) := HB.out.trans (hb2.mono (by omega))
          clear hb2
          go_wp2_with fail
          go_roundw
          case rel => exact ⟨k + 1, _, by omega, by go_num, by first | rfl | exact (ite_int _ _ _), HB2.out, HX2.out⟩
          case measure => simp [intOf]; omega
        · obtain rfl : k = t.kids.length := by omega
          go_wp2
          go_ret
          exact ⟨⟨_, rfl⟩, HB.out⟩
    · have e1 := ne_true h3
      clear hr hk h3 ih hkid hn
      go_enter Tryz.func14, Tryz.ntmps14
      go_wp2
      go_ret
      exact ⟨⟨_, rfl⟩, HB0.out⟩
end Go.Proofs.YtodonngnigbpaaaGreatDoor
namespace Go.Proofs.YtodonngnigbpaaaGreatDoor
open Go.RowKit
set_option linter.unusedVariables false
theorem Same_x (t : Tree) (va vb : Value) (w : World) (h : hT t ≤ 60) (ha : ElT w t va) (hb : Sx w t vb) :
    Calls Tryz.prog 59 #[va, vb] w fun e w' => e = .returned (.bool true) ∧ Below w.heap.size w w' := by
  obtain ⟨bad, q1, q2, q3⟩ := ha
  refine (Same_any t t va vb w (hT_deep h) bad q1 q2 q3 hb).mono ?_
  rintro e w' ⟨⟨r, rfl, hr⟩, hb⟩
  exact ⟨by rw [hr.2 rfl], hb⟩
theorem Text_x (t : Tree) (v : Value) (w : World) (hG : Globs w) (h : Sx w t v) :
    Calls Tryz.prog 17 #[v] w fun e w' => (∃ (l : List UInt8) (k : Nat), e = .returned (.tuple #[.string (bytesL l), .int .i64 k]) ∧ (k = 0 → mayT t = true ∧ l = textT t ∧ l.length ≤ 8192)) ∧ Below w.heap.size w w' :=
  Text_mk t v w hG (fun b => w.heap.size ≤ b) (fun b hb => by omega) h
end Go.Proofs.YtodonngnigbpaaaGreatDoor
