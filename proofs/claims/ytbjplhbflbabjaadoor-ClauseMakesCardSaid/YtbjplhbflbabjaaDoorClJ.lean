/- Clauses: plain facts. -/
import Derived.Test.YtbjplhbflbabjaaDoorClI
namespace Go.Proofs.YtbjplhbflbabjaaDoor.Tm
open Go.RowKit Go.Sort Go.Lib Go.Shelf
set_option linter.unusedVariables false
theorem range_mono (d : Array Int) (hs : d.toList.Pairwise (· ≤ ·)) : ∀ i j, i ≤ j → j < d.size → d[i]! ≤ d[j]! := fun i j hij hj => by
  rw [getElem!_pos d i (by omega), getElem!_pos d j hj]
  by_cases e : i = j
  · subst e; exact Int.le_refl _
  · have := List.pairwise_iff_getElem.1 hs i j (by simp; omega) (by simpa using hj) (by omega)
    simpa using this
theorem compact_strict (zs : List Int) (hs : zs.Pairwise (· ≤ ·)) : (Lib.compact zs).Pairwise (· < ·) := by
  unfold Lib.compact compactUpTo
  rw [List.pairwise_map]
  have hm := range_mono zs.toArray (by simpa using hs)
  have h1 : ((List.range zs.length).filter (keeps zs.toArray)).Pairwise (· < ·) := List.Pairwise.filter _ List.pairwise_lt_range
  refine List.Pairwise.imp_of_mem (fun {a b} ha hb hab => ?_) h1
  obtain ⟨hb1, hb2⟩ := List.mem_filter.1 hb
  have hbl : b < zs.length := by simpa using hb1
  have hne : zs.toArray[b]! ≠ zs.toArray[b - 1]! := by
    unfold keeps at hb2
    rcases of_decide_eq_true hb2 with h | h
    · omega
    · exact h
  have l1 := hm a (b - 1) (by omega) (by simp; omega)
  have l2 := hm (b - 1) b (by omega) (by simpa using hbl)
  omega
theorem compact_mem {zs : List Int} {x : Int} : x ∈ Lib.compact zs ↔ x ∈ zs := by
  unfold Lib.compact compactUpTo
  rw [List.mem_map]
  constructor
  · rintro ⟨i, hi, rfl⟩
    have hl : i < zs.length := by simpa using (List.mem_filter.1 hi).1
    rw [getElem!_pos zs.toArray i (by simpa using hl)]
    simp
  · intro hx
    have hex : ∃ i, i < zs.length ∧ zs.toArray[i]! = x := by
      obtain ⟨i, hi⟩ := List.getElem?_of_mem hx
      obtain ⟨hl, e⟩ := List.getElem?_eq_some_iff.1 hi
      exact ⟨i, hl, by rw [getElem!_pos zs.toArray i (by simpa using hl)]; simpa using e⟩
    obtain ⟨i, ⟨hi1, hi2⟩, hmin⟩ : ∃ i, (i < zs.length ∧ zs.toArray[i]! = x) ∧ ∀ j, j < i → ¬ (j < zs.length ∧ zs.toArray[j]! = x) := by
      obtain ⟨n, hn⟩ := hex
      induction n using Nat.strongRecOn with
      | _ n ih =>
        by_cases h : ∃ m, m < n ∧ (m < zs.length ∧ zs.toArray[m]! = x)
        · obtain ⟨m, hm, hm2⟩ := h
          exact ih m hm hm2
        · exact ⟨n, hn, fun j hj hh => h ⟨j, hj, hh⟩⟩
    refine ⟨i, List.mem_filter.2 ⟨by simpa using hi1, ?_⟩, hi2⟩
    unfold keeps
    refine decide_eq_true ?_
    by_cases h0 : i = 0
    · exact .inl h0
    · exact .inr (fun e => hmin (i - 1) (by omega) ⟨by omega, by rw [← e, hi2]⟩)
theorem makeM_mem {xs : List Int} {x : Int} : x ∈ makeM xs ↔ x ∈ xs ∧ 0 ≤ x := by
  unfold makeM
  rw [compact_mem, sortM_mem, List.mem_filter]
  simp
theorem makeM_strict (xs : List Int) : (makeM xs).Pairwise (· < ·) := compact_strict _ (sortM_sorted _)
theorem makeM_len (xs : List Int) : (makeM xs).length ≤ xs.length := by
  unfold makeM
  refine Nat.le_trans (Lib.compact_length_le _) ?_
  rw [sortM_len]
  exact List.length_filter_le _ _
theorem makeM_i64 {xs : List Int} (h : ∀ x ∈ xs, I64 x) : ∀ x ∈ makeM xs, I64 x := fun x hx => h x (makeM_mem.1 hx).1
theorem riseF_of : ∀ (l : List Int) (y : Int), (∀ x ∈ l, y < x) → l.Pairwise (· < ·) → riseF y l = true
  | [], _, _, _ => rfl
  | x :: r, y, h, hp => by
    unfold riseF
    rw [decide_eq_true (h x (by simp)), Bool.true_and]
    obtain ⟨h1, h2⟩ := List.pairwise_cons.1 hp
    exact riseF_of r x h1 h2
theorem isM_make (xs : List Int) : isM (makeM xs) = true := riseF_of _ _ (fun x hx => by have := (makeM_mem.1 hx).2; omega) (makeM_strict xs)
theorem strict_ext : ∀ (l m : List Int), l.Pairwise (· < ·) → m.Pairwise (· < ·) → (∀ x, x ∈ l ↔ x ∈ m) → l = m
  | [], [], _, _, _ => rfl
  | [], y :: s, _, _, h => absurd ((h y).2 (by simp)) (by simp)
  | x :: r, [], _, _, h => absurd ((h x).1 (by simp)) (by simp)
  | x :: r, y :: s, hl, hm, h => by
    obtain ⟨l1, l2⟩ := List.pairwise_cons.1 hl
    obtain ⟨m1, m2⟩ := List.pairwise_cons.1 hm
    have e : x = y := by
      have a := (h x).1 (by simp)
      have b := (h y).2 (by simp)
      rcases List.mem_cons.1 a with e | a
      · exact e
      · rcases List.mem_cons.1 b with e | b
        · exact e.symm
        · have := m1 x a; have := l1 y b; omega
    subst e
    congr 1
    refine strict_ext r s l2 m2 (fun z => ⟨fun hz => ?_, fun hz => ?_⟩)
    · rcases List.mem_cons.1 ((h z).1 (by simp [hz])) with e | a
      · subst e; have := l1 z hz; omega
      · exact a
    · rcases List.mem_cons.1 ((h z).2 (by simp [hz])) with e | a
      · subst e; have := m1 z hz; omega
      · exact a
theorem makeM_eq {xs ys : List Int} (h : ∀ x, 0 ≤ x → (x ∈ xs ↔ x ∈ ys)) : makeM xs = makeM ys :=
  strict_ext _ _ (makeM_strict _) (makeM_strict _) (fun x => by rw [makeM_mem, makeM_mem]; exact ⟨fun ⟨a, b⟩ => ⟨(h x b).1 a, b⟩, fun ⟨a, b⟩ => ⟨(h x b).2 a, b⟩⟩)
theorem makeM_again (xs : List Int) : makeM (makeM xs) = makeM xs := makeM_eq (fun x h => by rw [makeM_mem]; exact ⟨fun k => k.1, fun k => ⟨k, h⟩⟩)
theorem within_of {xs ys : List Int} (h : ∀ x ∈ xs, x ∈ ys) : withinM xs ys = true := by
  unfold withinM
  rw [List.all_eq_true]
  exact fun x hx => List.contains_iff_mem.2 (h x hx)
theorem stF_true {vs : List Int} : ∀ (xs : List Int) (p : Int × Int), (∃ x ∈ xs, valM vs x = 1) → stF vs xs p = (0, -1)
  | [], _, h => by obtain ⟨x, hx, _⟩ := h; simp at hx
  | x :: r, p, h => by
    unfold stF
    by_cases h1 : valM vs x = 1
    · rw [if_pos h1]
    · have h2 : ∃ y ∈ r, valM vs y = 1 := by
        obtain ⟨y, hy, e⟩ := h
        rcases List.mem_cons.1 hy with rfl | hy
        · exact absurd e h1
        · exact ⟨y, hy, e⟩
      rw [if_neg h1]
      split
      · exact stF_true r _ h2
      · exact stF_true r _ h2
theorem stF_not {vs : List Int} : ∀ (xs : List Int) (p : Int × Int), p.1 ≠ 0 → (∀ x ∈ xs, valM vs x ≠ 1) → (stF vs xs p).1 ≠ 0
  | [], p, hp, _ => hp
  | x :: r, p, hp, h => by
    unfold stF
    rw [if_neg (h x (by simp))]
    split
    · split
      · exact stF_not r _ (by first | decide | (show (2 : Int) ≠ 0; decide)) (fun y hy => h y (by simp [hy]))
      · exact stF_not r _ (by first | decide | (show (2 : Int) ≠ 0; decide)) (fun y hy => h y (by simp [hy]))
    · exact stF_not r _ hp (fun y hy => h y (by simp [hy]))
theorem stF_false {vs : List Int} : ∀ (xs : List Int) (p : Int × Int), (∀ x ∈ xs, valM vs x = 2) → stF vs xs p = p
  | [], _, _ => rfl
  | x :: r, p, h => by
    unfold stF
    have e := h x (by simp)
    rw [if_neg (by rw [e]; decide), if_neg (by rw [e]; decide)]
    exact stF_false r p (fun y hy => h y (by simp [hy]))
theorem st_true {vs xs : List Int} : (stM vs xs).1 = 0 ↔ ∃ x ∈ xs, valM vs x = 1 := by
  constructor
  · intro h
    refine Classical.byContradiction fun hn => stF_not xs (1, -1) (by decide) (fun x hx e => hn ⟨x, hx, e⟩) h
  · intro h
    unfold stM
    rw [stF_true xs _ h]
theorem holds_mem {vs : List Int} {rs : List (List Int)} : holdsM vs rs = true ↔ ∀ xs ∈ rs, ∃ x ∈ xs, valM vs x = 1 := by
  unfold holdsM
  rw [List.all_eq_true]
  exact ⟨fun h xs hx => st_true.1 (of_decide_eq_true (h xs hx)), fun h xs hx => decide_eq_true (st_true.2 (h xs hx))⟩
/-- A literal of a node that has a value. -/
theorem val_two {vs : List Int} {x : Int} (hv : ∀ v ∈ vs, v = 1 ∨ v = 2) (h0 : 0 ≤ x) (hl : x < 2 * (vs.length : Int)) : valM vs x = 1 ∧ valM vs (negM x) = 2 ∨ valM vs x = 2 ∧ valM vs (negM x) = 1 := by
  obtain ⟨v, hv1⟩ : ∃ v, vs[(x / 2).toNat]? = some v := ⟨_, List.getElem?_eq_getElem (by omega)⟩
  have hvv := hv v (List.mem_of_getElem? hv1)
  unfold valM
  rw [negM_half, hv1]
  simp only
  have hp : negM x % 2 = 1 - x % 2 := by unfold negM; split <;> omega
  rw [if_pos hvv, if_pos hvv, hp]
  have hx : x % 2 = 0 ∨ x % 2 = 1 := by omega
  rcases hvv with rfl | rfl <;> rcases hx with e | e <;> rw [e] <;> decide
theorem resolves {vs xs ys : List Int} {lit : Int} (hv : ∀ v ∈ vs, v = 1 ∨ v = 2) (h0 : 0 ≤ lit) (hl : lit < 2 * (vs.length : Int)) (hx : ∀ x ∈ xs, 0 ≤ x) (hy : ∀ x ∈ ys, 0 ≤ x) (h : holdsM vs [xs, ys] = true) : holdsM vs [makeM (resL xs ys lit)] = true := by
  have h1 := holds_mem.1 h
  obtain ⟨x, hxm, hxv⟩ := h1 xs (by simp)
  obtain ⟨y, hym, hyv⟩ := h1 ys (by simp)
  refine holds_mem.2 fun zs hz => ?_
  obtain rfl : zs = makeM (resL xs ys lit) := by simpa using hz
  by_cases e : x = lit
  · by_cases e2 : y = negM lit
    · subst e e2
      rcases val_two hv h0 hl with ⟨_, a⟩ | ⟨a, _⟩
      · rw [a] at hyv; cases hyv
      · rw [a] at hxv; cases hxv
    · exact ⟨y, makeM_mem.2 ⟨List.mem_append.2 (.inr (List.mem_filter.2 ⟨hym, by simpa using e2⟩)), hy y hym⟩, hyv⟩
  · exact ⟨x, makeM_mem.2 ⟨List.mem_append.2 (.inl (List.mem_filter.2 ⟨hxm, by simpa using e⟩)), hx x hxm⟩, hxv⟩
theorem idleF_to : ∀ (l : List Int) (p : Option Int), idleF p l = true → ∃ x, (p = some x ∨ x ∈ l) ∧ negM x ∈ l
  | [], p, h => by cases p <;> cases h
  | x :: r, p, h => by
    have h1 : (hitP p x || idleF (some x) r) = true := h
    rcases Bool.or_eq_true_iff.1 h1 with h2 | h2
    · cases p with
      | none => cases h2
      | some y => exact ⟨y, .inl rfl, by have h3 : (x == negM y) = true := h2
                                         have e : x = negM y := by simpa using h3
                                         rw [← e]; simp⟩
    · obtain ⟨y, hy, hn⟩ := idleF_to r (some x) h2
      refine ⟨y, .inr ?_, by simp [hn]⟩
      rcases hy with e | e
      · cases e; simp
      · simp [e]
theorem idleF_next : ∀ (l : List Int) (x : Int), x % 2 = 0 → l.Pairwise (· ≤ ·) → (∀ y ∈ l, x ≤ y) → x + 1 ∈ l → idleF (some x) l = true
  | [], _, _, _, _, h => by simp at h
  | b :: r, x, he, hp, hl, hm => by
    show ((b == negM x) || idleF (some b) r) = true
    have hn : negM x = x + 1 := by unfold negM; rw [if_pos he]
    obtain ⟨p1, p2⟩ := List.pairwise_cons.1 hp
    have hb := hl b (by simp)
    by_cases e : b = x + 1
    · rw [hn, e]; simp
    · have hm2 : x + 1 ∈ r := by
        rcases List.mem_cons.1 hm with h | h
        · exact absurd h.symm e
        · exact h
      have := p1 _ hm2
      obtain rfl : b = x := by omega
      rw [idleF_next r b he p2 (fun y hy => hl y (by simp [hy])) hm2, Bool.or_true]
theorem idleF_of : ∀ (l : List Int) (p : Option Int) (x : Int), x % 2 = 0 → l.Pairwise (· ≤ ·) → x ∈ l → x + 1 ∈ l → idleF p l = true
  | [], _, _, _, _, h, _ => by simp at h
  | a :: r, p, x, he, hp, h1, h2 => by
    show (hitP p a || idleF (some a) r) = true
    obtain ⟨p1, p2⟩ := List.pairwise_cons.1 hp
    have h2' : x + 1 ∈ r := by
      rcases List.mem_cons.1 h2 with e | h
      · rcases List.mem_cons.1 h1 with e' | h'
        · omega
        · have := p1 _ h'; omega
      · exact h
    rcases List.mem_cons.1 h1 with e | h
    · subst e
      rw [idleF_next r x he p2 p1 h2', Bool.or_true]
    · rw [idleF_of r (some a) x he p2 h h2', Bool.or_true]
theorem idle_iff {xs : List Int} : idleM xs = true ↔ ∃ x ∈ xs, negM x ∈ xs := by
  unfold idleM
  constructor
  · intro h
    obtain ⟨x, hx, hn⟩ := idleF_to _ _ h
    rcases hx with e | hx
    · cases e
    · exact ⟨x, sortM_mem.1 hx, sortM_mem.1 hn⟩
  · rintro ⟨x, hx, hn⟩
    by_cases he : x % 2 = 0
    · have e : negM x = x + 1 := by unfold negM; rw [if_pos he]
      exact idleF_of _ _ x he (sortM_sorted _) (sortM_mem.2 hx) (sortM_mem.2 (by rw [← e]; exact hn))
    · have e : negM x = x - 1 := by unfold negM; rw [if_neg he]
      exact idleF_of _ _ (x - 1) (by omega) (sortM_sorted _) (sortM_mem.2 (by rw [← e]; exact hn)) (sortM_mem.2 (by rw [show x - 1 + 1 = x by omega]; exact hx))
/-- The value that makes a literal false. -/
def lvM (x : Int) : Int := if x % 2 = 1 then 1 else 2
def agL : List Int → List Int → List Int
  | vs, [] => vs
  | vs, x :: r => agL (vs.set (x / 2).toNat (lvM x)) r
theorem agL_len : ∀ (xs vs : List Int), (agL vs xs).length = vs.length
  | [], _ => rfl
  | x :: r, vs => by unfold agL; rw [agL_len r, List.length_set]
theorem agL_ok : ∀ (xs vs : List Int), (∀ v ∈ vs, v = 1 ∨ v = 2) → ∀ v ∈ agL vs xs, v = 1 ∨ v = 2
  | [], _, h => h
  | x :: r, vs, h => by
    unfold agL
    refine agL_ok r _ (fun v hv => ?_)
    rcases List.mem_or_eq_of_mem_set hv with h1 | h1
    · exact h v h1
    · rw [h1]; unfold lvM; split <;> simp
theorem agL_keep : ∀ (xs vs : List Int) (x : Int), vs[(x / 2).toNat]? = some (lvM x) → (∀ y ∈ xs, (y / 2).toNat = (x / 2).toNat → y = x) → (agL vs xs)[(x / 2).toNat]? = some (lvM x)
  | [], _, _, h, _ => h
  | y :: r, vs, x, h, hs => by
    unfold agL
    refine agL_keep r _ x ?_ (fun z hz => hs z (by simp [hz]))
    by_cases e : (y / 2).toNat = (x / 2).toNat
    · obtain rfl := hs y (by simp) e
      rw [List.getElem?_set_self ((List.getElem?_eq_some_iff.1 h).1)]
    · rw [List.getElem?_set_ne e]
      exact h
theorem agL_at : ∀ (xs vs : List Int) (x : Int), x ∈ xs → (x / 2).toNat < vs.length → (∀ y ∈ xs, (y / 2).toNat = (x / 2).toNat → y = x) → (agL vs xs)[(x / 2).toNat]? = some (lvM x)
  | [], _, _, h, _, _ => by simp at h
  | y :: r, vs, x, h, hl, hs => by
    unfold agL
    by_cases e : y = x
    · subst e
      exact agL_keep r _ y (by rw [List.getElem?_set_self hl]) (fun z hz => hs z (by simp [hz]))
    · refine agL_at r _ x ?_ (by rw [List.length_set]; exact hl) (fun z hz => hs z (by simp [hz]))
      rcases List.mem_cons.1 h with h1 | h1
      · exact absurd h1.symm e
      · exact h1
theorem idle_not {xs vs : List Int} (hv : ∀ v ∈ vs, v = 1 ∨ v = 2) (hx : ∀ x ∈ xs, 0 ≤ x ∧ x < 2 * (vs.length : Int)) (h : idleM xs = false) : (stM (agL vs xs) xs).1 = 1 := by
  unfold stM
  rw [stF_false]
  intro x hxm
  have hb := hx x hxm
  have hat := agL_at xs vs x hxm (by omega) (fun y hy e => by
    have hy0 := hx y hy
    by_cases e2 : y = x
    · exact e2
    · exfalso
      have : y = negM x := by unfold negM; split <;> omega
      have hi : idleM xs = true := idle_iff.2 ⟨x, hxm, by rw [← this]; exact hy⟩
      rw [h] at hi; cases hi)
  unfold valM
  rw [hat]
  simp only
  unfold lvM
  have : x % 2 = 0 ∨ x % 2 = 1 := by omega
  rcases this with e | e <;> rw [e] <;> decide
theorem idle_true {xs vs : List Int} (hv : ∀ v ∈ vs, v = 1 ∨ v = 2) (hx : ∀ x ∈ xs, 0 ≤ x ∧ x < 2 * (vs.length : Int)) (h : idleM xs = true) : (stM vs xs).1 = 0 := by
  obtain ⟨x, hxm, hn⟩ := idle_iff.1 h
  have hb := hx x hxm
  refine st_true.2 ?_
  rcases val_two hv hb.1 hb.2 with ⟨a, _⟩ | ⟨_, a⟩
  · exact ⟨x, hxm, a⟩
  · exact ⟨negM x, hn, a⟩
theorem resB_turn {xs ys : List Int} {lit : Int} (h0 : 0 ≤ lit) : resB ys xs (negM lit) = resB xs ys lit := by
  unfold resB
  have := negM_nonneg h0
  rw [negM_neg, decide_eq_false (by omega), decide_eq_false (by omega), Bool.and_comm (ys.contains (negM lit))]
theorem resM_turn {xs ys : List Int} {lit : Int} (h0 : 0 ≤ lit) : resM ys xs (negM lit) = resM xs ys lit := by
  unfold resM
  rw [resB_turn h0]
  split
  · refine makeM_eq (fun x _ => ?_)
    unfold resL
    rw [negM_neg, List.mem_append, List.mem_append]
    exact Or.comm
  · rfl
theorem resM_mem {xs ys : List Int} {lit : Int} : ∀ x ∈ resM xs ys lit, x ∈ xs ++ ys := fun x hx => by
  unfold resM at hx
  split at hx
  · have h1 := (makeM_mem.1 hx).1
    unfold resL at h1
    rcases List.mem_append.1 h1 with h | h
    · exact List.mem_append.2 (.inl (List.mem_filter.1 h).1)
    · exact List.mem_append.2 (.inr (List.mem_filter.1 h).1)
  · simp at hx
theorem resM_len (xs ys : List Int) (lit : Int) : (resM xs ys lit).length ≤ xs.length + ys.length := by
  unfold resM
  split
  · refine Nat.le_trans (makeM_len _) ?_
    unfold resL
    rw [List.length_append]
    have := List.length_filter_le (fun y => !(y == lit)) xs
    have := List.length_filter_le (fun y => !(y == negM lit)) ys
    omega
  · exact Nat.zero_le _
theorem resM_is {xs ys : List Int} {lit : Int} (h : resB xs ys lit = true) : isM (resM xs ys lit) = true := by
  unfold resM
  rw [if_pos h]
  exact isM_make _
end Go.Proofs.YtbjplhbflbabjaaDoor.Tm
