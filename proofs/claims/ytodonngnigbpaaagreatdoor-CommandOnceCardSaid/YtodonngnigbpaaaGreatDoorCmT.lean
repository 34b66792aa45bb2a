/- What package sexpr's Text answers; how deep a command's terms are. -/
import Derived.Test.YtodonngnigbpaaaGreatDoorCmQ2
import Derived.Test.YtodonngnigbpaaaGreatDoorCmS
import Derived.Test.YtodonngnigbpaaaGreatDoorSexTm2
import Derived.Test.YtodonngnigbpaaaGreatDoorSexBa
namespace Go.Proofs.YtodonngnigbpaaaGreatDoor
open Go.RowKit
set_option linter.unusedVariables false
theorem Text_mk2 (t : Tree) (v : Value) (w : World) (hG : Globs w) (bad : Nat → Prop) (hbd : ∀ b, ¬ bad b → b < w.heap.size) (hr : Rd w bad t v) :
    Calls Tryz.prog 17 #[v] w fun e w' => (∃ (l : List UInt8) (k : Nat), e = .returned (.tuple #[.string (bytesL l), .int .i64 k]) ∧ (k = 0 → mayT t = true ∧ l = textT t ∧ l.length ≤ 8192) ∧ (¬ k = 0 → l = [])) ∧ Below w.heap.size w w' := by
  obtain ⟨a, cap, rfl, hl, hc, hs, hk⟩ := hr.parts
  have hb0 : Below w.heap.size w (w.alloc (.cells #[.int .i8 t.kind, .string (bytesL t.text), .slice a t.kids.length cap] 35)) := (Below.refl _ _).alloc (Nat.le_refl _) _
  have HC : Hid (Calls Tryz.prog 22 #[.agg #[.int .i8 t.kind, .string (bytesL t.text), .slice a t.kids.length cap]] (w.alloc (.cells #[.int .i8 t.kind, .string (bytesL t.text), .slice a t.kids.length cap] 35)) fun e w' => (∃ r, e = .returned (.bool r) ∧ (r = true → mayT t = true)) ∧ Below (w.heap.size + 1) (w.alloc (.cells #[.int .i8 t.kind, .string (bytesL t.text), .slice a t.kids.length cap] 35)) w') := by
    have := May_mk t _ (w.alloc (.cells #[.int .i8 t.kind, .string (bytesL t.text), .slice a t.kids.length cap] 35)) (hG.below hb0) bad (fun b hb => by have := hbd b hb; simp; omega) (Rd.keep (fun b hb hlt => hb0.block b hlt) t _ hr)
    rw [World.size_alloc] at this
    exact this
  have HB0 := Lib.hid hb0
  have HG := Lib.hid hG
  have HR := Lib.hid hr.sx
  clear hb0 hG hr hbd hl hc hs hk
  go_enter Tryz.func17, Tryz.ntmps17
  go_wp2_with fail
  refine HC.out.mono ?_
  rintro e w1 ⟨⟨rb, rfl, hrb⟩, hb1⟩
  cases rb with
  | false =>
    clear hrb
    go_wp2
    go_ret2
    exact ⟨⟨[], 2, rfl, fun h => (by cases h), fun _ => rfl⟩, HB0.out.trans (hb1.mono (Nat.le_succ _))⟩
  | true =>
    have hm := hrb rfl
    have HOK : Hid ((preT lis 0 t).all okP = true) := hm
    have HM := Lib.hid hm
    clear hrb hm
    have HB1 : Hid (Below w.heap.size w w1) := HB0.out.trans (hb1.mono (Nat.le_succ _))
    have hx1 : w1.heap[w.heap.size]? = some (.cells #[.int .i8 t.kind, .string (bytesL t.text), .slice a t.kids.length cap] 35 (0, 0)) := (hb1.block _ (Nat.lt_succ_self _)).trans (heap_alloc_new w _)
    have x0 := cell_of_row _ _ 0 _ _ _ hx1
    have x1 := cell_of_row _ _ 1 _ _ _ hx1
    have x2 := cell_of_row _ _ 2 _ _ _ hx1
    simp only [List.getElem?_toArray, List.getElem?_cons_zero, List.getElem?_cons_succ] at x0 x1 x2
    have hz1 : w.heap.size < w1.heap.size := by have := hb1.size; simp at this; omega
    clear hb1 hx1
    go_wp2_with fail
    have HB2 : Hid (Below w.heap.size w (w1.alloc (.cells #[.slice none 0 0] 61))) := HB1.out.alloc (by omega) _
    have HW : Hid (WT (w1.alloc (.cells #[.slice none 0 0] 61)) w.heap.size w1.heap.size (fun b => b < w.heap.size) []) :=
      ⟨.slice none 0 0, heap_alloc_new w1 _, World.ownsRow_nil _ _ _ _, by omega, fun b hb => ⟨by simp; omega, by omega, by simp [Value.ownBlock], fun h => by omega⟩, fun b hb => hb⟩
    refine (write_any w w.heap.size w1.heap.size HG.out rfl _ t (Nat.le_refl _) 0 _ HOK.out HR.out (by omega) _ [] _ HB2.out (HG.out.below HB2.out) HW.out (by simp; omega) (by simp)).mono ?_
    rintro e w2 ⟨rfl, ⟨l', hw2, hwr⟩, hk2⟩
    have HW2 := Lib.hid hw2
    have HWR := Lib.hid hwr
    have HB3 : Hid (Below w.heap.size w w2) := HB2.out.trans (hk2.below (fun k hk => hk))
    clear hw2 hwr hk2
    by_cases hlg : 8192 < l'.length
    · have HE5 : Hid (decide (8192 < l'.length) = true) := by show _ = _; simpa using hlg
      clear hlg
      go_wp2_with fail
      refine (long_any _ _ _ l' true _ HW2.out HE5.out).mono ?_
      rintro e w5 ⟨rfl, rfl⟩
      go_wp2
      go_ret2
      exact ⟨⟨[], 41, rfl, fun h => (by cases h), fun _ => rfl⟩, HB3.out⟩
    · have HE5 : Hid (decide (8192 < l'.length) = false) := by show _ = _; simpa using hlg
      have hl' : l' = textT t := by
        rcases HWR.out.2 with h | ⟨h, _⟩
        · simpa using h
        · omega
      have HLL := Lib.hid hl'
      have HLG : Hid (l'.length ≤ 8192) := by show _ ≤ _; omega
      clear hlg hl'
      obtain ⟨vt, h1, h2, _⟩ := HW2.out
      obtain ⟨a2, cap2, rfl⟩ := own_slice h2
      have c0 := cell_of_row _ _ 0 _ _ _ h1
      simp only [List.getElem?_toArray, List.getElem?_cons_zero] at c0
      have hcv := conv_own h2
      clear h1 h2
      go_wp2_with fail
      refine (long_any _ _ _ l' false _ HW2.out HE5.out).mono ?_
      rintro e w5 ⟨rfl, rfl⟩
      go_wp2
      go_ret2
      exact ⟨⟨l', 0, rfl, fun _ => ⟨HM.out, HLL.out, HLG.out⟩, fun h => absurd rfl h⟩, HB3.out⟩
theorem text_two (t : Tree) (v : Value) (w : World) (hG : Globs w) (hr : Sx w t v) (sure : Prop) (hs : sure → SxK w t v) :
    Calls Tryz.prog 17 #[v] w fun e w' => (∃ (l : List UInt8) (k : Nat), e = .returned (.tuple #[.string (bytesL l), .int .i64 k]) ∧ (k = 0 → mayT t = true ∧ l = textT t ∧ l.length ≤ 8192) ∧ (¬ k = 0 → l = []) ∧ (sure → mayT t = true → (textT t).length ≤ 8192 → k = 0)) ∧ Below w.heap.size w w' := by
  by_cases h : sure
  · obtain ⟨bad, h1, h2, h3⟩ := hs h
    refine (Text_any t v w hG bad h1 h2 h3).mono ?_
    rintro e w' ⟨rfl, hb⟩
    refine ⟨⟨(textR t).1, (textR t).2, rfl, ?_, ?_, ?_⟩, hb⟩
    · unfold textR
      cases mayT t with
      | false => simp
      | true => by_cases hl : 8192 < (textT t).length <;> simp [hl] <;> omega
    · unfold textR
      cases mayT t with
      | false => simp
      | true => by_cases hl : 8192 < (textT t).length <;> simp [hl]
    · intro _ hm hl
      unfold textR
      simp only [hm, if_true, if_neg (show ¬ 8192 < (textT t).length by omega)]
  · refine (Text_mk2 t v w hG (fun b => w.heap.size ≤ b) (fun b hb => by omega) hr).mono ?_
    rintro e w' ⟨⟨l, k, rfl, h1, h2⟩, hb⟩
    exact ⟨⟨l, k, rfl, h1, h2, fun h' => absurd h' h⟩, hb⟩
mutual
theorem fit_ht : ∀ (t : Tree), fitT t = true → hT t ≤ dT t
  | .node k s l, h => by
    simp only [fitT, Bool.and_eq_true] at h
    by_cases h3 : k = 3
    · have := fit_htL l h.2
      rw [hT, dT, if_pos h3]
      omega
    · have := List.eq_nil_of_length_eq_zero (fits_other h3 h.1)
      subst this
      rw [hT, hL]
      omega
theorem fit_htL : ∀ (l : List Tree), fitL l = true → hL l ≤ dL l + 1
  | [], _ => by rw [hL]; omega
  | t :: r, h => by
    simp only [fitL, Bool.and_eq_true] at h
    have h1 := fit_ht t h.1
    have h2 := fit_htL r h.2
    rw [hL, dL]
    omega
end
theorem may_ht {t : Tree} (h : mayT t = true) : hT t ≤ 60 := by
  rw [may_fit, Bool.and_eq_true] at h
  have := fit_ht t h.1
  have h2 := of_decide_eq_true h.2
  omega
theorem ht_kid {t c : Tree} {n : Nat} (h : hT t ≤ n) (hc : c ∈ t.kids) : hT c ≤ n := by
  cases t with
  | node k s l =>
    rw [hT] at h
    have := hL_mem (l := l) (t := c) hc
    omega
theorem all_terms {n : Nat} {l out : List Tree} (h : allM termM l = some out) (hl : ∀ t ∈ l, hT t ≤ n) : ∀ t ∈ out, hT t ≤ n := by
  rw [allM_term] at h
  cases h
  exact hl
theorem part_ht {n : Nat} {p : PartM} (hp : p ∈ [pName, pKey, pRes, pZero, pMarks, pSet, pArgs, pPars, pOne, pTerms]) {c c' : CmdA} {y : Tree} (h : p c y = some c') (hc : ∀ t ∈ c.terms, hT t ≤ n) (hy : hT y ≤ n) : ∀ t ∈ c'.terms, hT t ≤ n := by
  simp only [List.mem_cons, List.not_mem_nil, or_false] at hp
  have hm : ∀ {α : Type} {o : Option α} {f : α → CmdA}, o.map f = some c' → (∀ a, (f a).terms = c.terms) → ∀ t ∈ c'.terms, hT t ≤ n := by
    intro α o f h1 h2
    obtain ⟨a, _, rfl⟩ := Option.map_eq_some_iff.1 h1
    rw [h2]
    exact hc
  rcases hp with rfl | rfl | rfl | rfl | rfl | rfl | rfl | rfl | rfl | rfl
  · exact hm h (fun _ => rfl)
  · exact hm h (fun _ => rfl)
  · exact hm h (fun _ => rfl)
  · exact hm h (fun _ => rfl)
  · exact hm h (fun _ => rfl)
  · unfold pSet at h
    split at h
    · exact hm h (fun _ => rfl)
    · split at h
      · exact hm h (fun _ => rfl)
      · cases h
  · exact hm h (fun _ => rfl)
  · exact hm h (fun _ => rfl)
  · unfold pOne at h
    cases h
    intro t ht
    simp only [List.mem_singleton] at ht
    rw [ht]
    exact hy
  · unfold pTerms at h
    obtain ⟨l, hl, rfl⟩ := Option.map_eq_some_iff.1 h
    unfold eachM at hl
    split at hl
    · exact all_terms hl (fun t ht => ht_kid hy ht)
    · cases hl
theorem take_ht {n : Nat} : ∀ (ps : List PartM) (ys : List Tree) (c c' : CmdA), (∀ p ∈ ps, p ∈ [pName, pKey, pRes, pZero, pMarks, pSet, pArgs, pPars, pOne, pTerms]) → takeP c ps ys = some c' → (∀ t ∈ c.terms, hT t ≤ n) → (∀ y ∈ ys, hT y ≤ n) → ∀ t ∈ c'.terms, hT t ≤ n
  | [], [], c, c', _, h, hc, _ => by simp only [takeP, Option.some.injEq] at h; subst h; exact hc
  | [], _ :: _, c, c', _, h, _, _ => by simp [takeP] at h
  | _ :: _, [], c, c', _, h, _, _ => by simp [takeP] at h
  | p :: ps, y :: ys, c, c', hp, h, hc, hy => by
    simp only [takeP] at h
    split at h
    · cases h
    · rename_i c1 h1
      exact take_ht ps ys c1 c' (fun p hp' => hp p (List.mem_cons_of_mem _ hp')) h (part_ht (hp p (List.mem_cons_self ..)) h1 hc (hy y (List.mem_cons_self ..))) (fun y hy' => hy y (List.mem_cons_of_mem _ hy'))
theorem parse_ht {t : Tree} {c : CmdA} (hm : mayT t = true) (h : parse0 t = some c) : ∀ u ∈ c.terms, hT u ≤ 60 := by
  unfold parse0 at h
  split at h
  · rename_i hn
    refine take_ht _ _ _ _ ?_ h (fun t ht => by simp [cmd0] at ht) (fun y hy => ht_kid (may_ht hm) (List.mem_of_mem_drop hy))
    have : ∀ j, j < 13 → ∀ p ∈ formsL.getD j [], p ∈ [pName, pKey, pRes, pZero, pMarks, pSet, pArgs, pPars, pOne, pTerms] := by
      intro j hj
      match j, hj with
      | 0, _ | 1, _ | 2, _ | 3, _ | 4, _ | 5, _ | 6, _ | 7, _ | 8, _ | 9, _ | 10, _ | 11, _ | 12, _ => simp [formsL]
    exact this _ hn
  · cases h
end Go.Proofs.YtodonngnigbpaaaGreatDoor
