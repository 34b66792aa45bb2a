/- A heap as it is known from without: activities, and who is in. -/
import Derived.Test.YtmgppnepccmceaaHpP
namespace Go.Proofs.Ytmgppnepccmceaa
open Go.RowKit
set_option linter.unusedVariables false
structure St where
  A : List Int
  S : List Nat
/-- The first of some. -/
def bestN (A : List Int) : List Nat → Option Nat
  | [] => none
  | x :: r => match bestN A r with
    | none => some x
    | some y => if keyA A x < keyA A y then some x else some y
theorem best_spec {A : List Int} : ∀ (S : List Nat), (bestN A S = none ∧ S = []) ∨ ∃ x, bestN A S = some x ∧ x ∈ S ∧ ∀ y ∈ S, keyA A x ≤ keyA A y
  | [] => .inl ⟨rfl, rfl⟩
  | x :: r => by
    right
    rcases best_spec r with ⟨h1, h2⟩ | ⟨y, h1, h2, h3⟩
    · refine ⟨x, by unfold bestN; rw [h1], by simp, fun y hy => ?_⟩
      subst h2
      simp at hy
      subst hy
      exact Int.le_refl _
    · by_cases h : keyA A x < keyA A y
      · refine ⟨x, by unfold bestN; rw [h1]; show (if _ then _ else _) = _; rw [if_pos h], by simp, fun z hz => ?_⟩
        rcases List.mem_cons.1 hz with rfl | hz
        · exact Int.le_refl _
        · have := h3 z hz
          omega
      · refine ⟨y, by unfold bestN; rw [h1]; show (if _ then _ else _) = _; rw [if_neg h], by simp [h2], fun z hz => ?_⟩
        rcases List.mem_cons.1 hz with rfl | hz
        · omega
        · exact h3 z hz
theorem best_is {A : List Int} {S : List Nat} (hl : ∀ x ∈ S, x < 1000) {x : Nat} (hx : x ∈ S) (hm : ∀ y ∈ S, keyA A x ≤ keyA A y) : bestN A S = some x := by
  rcases best_spec (A := A) S with ⟨_, h2⟩ | ⟨y, h1, h2, h3⟩
  · rw [h2] at hx; cases hx
  · have := hm y h2
    have := h3 x hx
    rw [h1, key_inj (A := A) (hl x hx) (hl y h2) (by omega)]
def putS (s : St) (x : Int) : St := if 0 ≤ x ∧ x < s.A.length ∧ x.toNat ∉ s.S then ⟨s.A, s.S ++ [x.toNat]⟩ else s
def bumpE (n : Nat) (x b : Int) : Int := if 0 ≤ x ∧ x < n ∧ 0 ≤ b ∧ b ≤ 1099511627776 then 0 else 2
def bumpS (s : St) (x b : Int) : St := if 0 ≤ x ∧ x < s.A.length ∧ 0 ≤ b ∧ b ≤ 1099511627776 then ⟨s.A.set x.toNat (min (s.A.getD x.toNat 0 + b) 1099511627776), s.S⟩ else s
def halfS (s : St) : St := ⟨halfA s.A, s.S⟩
def popS (s : St) : St := match bestN s.A s.S with
  | none => s
  | some x => ⟨s.A, s.S.erase x⟩
def popV (s : St) : Int := match bestN s.A s.S with
  | none => 0
  | some x => x
def popB (s : St) : Bool := (bestN s.A s.S).isSome
/-- The heap at h is in that state. -/
def HQ (w : World) (h t nb ib : Nat) (s : St) : Prop := ∃ L, L.Perm s.S ∧ L.Nodup ∧ HeapN (L.map (keyA s.A)) L.length ∧ HX w h t nb ib s.A (plc L) L
section
variable {w : World} {h t nb ib : Nat} {s : St}
theorem HQ.gr {P : Nat → Prop} {w' : World} (H : HQ w h t nb ib s) (g : Gr P w w') (h1 : P h) (h2 : P t) (h3 : P nb) (h4 : P ib) : HQ w' h t nb ib s := by
  obtain ⟨L, a1, a2, a3, a4⟩ := H
  exact ⟨L, a1, a2, a3, a4.gr g h1 h2 h3 h4⟩
theorem HQ.below (H : HQ w h t nb ib s) {w' : World} (hb : Below w.heap.size w w') : HQ w' h t nb ib s := H.gr (P := fun _ => True) (Gr.of_below hb) trivial trivial trivial trivial
theorem HQ.blk (H : HQ w h t nb ib s) : h < w.heap.size ∧ t < w.heap.size ∧ nb < w.heap.size ∧ ib < w.heap.size := by obtain ⟨L, a1, a2, a3, a4⟩ := H; exact a4.blk
theorem HQ.lt (H : HQ w h t nb ib s) : s.S.Nodup ∧ (∀ x ∈ s.S, x < s.A.length) ∧ s.A.length ≤ 300 ∧ s.S.length ≤ s.A.length ∧ ∀ a ∈ s.A, 0 ≤ a ∧ a ≤ 1099511627776 := by
  obtain ⟨L, a1, a2, a3, a4⟩ := H
  exact ⟨a1.nodup_iff.1 a2, fun x hx => a4.lt x (a1.mem_iff.2 hx), a4.le, by rw [← a1.length_eq]; exact a4.lens, a4.act⟩
theorem New_q (n : Nat) (w : World) (hn : n ≤ 300) : Calls Try.prog 9 #[.int .i64 n] w fun e w' => ∃ h t nb ib, e = .returned (.pointer (some ⟨h, 0, none⟩)) ∧ Hid (HQ w' h t nb ib ⟨List.replicate n 0, []⟩ ∧ w.heap.size ≤ h ∧ w.heap.size ≤ t ∧ w.heap.size ≤ nb ∧ w.heap.size ≤ ib ∧ Below w.heap.size w w') :=
  (New_any n w hn).mono fun e w' ⟨h, t, nb, ib, e1, e2, e3⟩ => ⟨h, t, nb, ib, e1, ⟨[], List.Perm.refl _, List.Pairwise.nil, fun i h0 hi => absurd hi (by simp), e2⟩, e3⟩
theorem Put_q (H : HQ w h t nb ib s) (x : Int) : Calls Try.prog 11 #[.pointer (some ⟨h, 0, none⟩), .int .i64 x] w fun e w' => e = .returned (.int .i64 (faultV s.A.length x)) ∧ Hid (HQ w' h t nb ib (putS s x) ∧ Gr (Oth t nb ib) w w') := by
  obtain ⟨L, a1, a2, a3, a4⟩ := H
  unfold putS faultV
  by_cases hx : 0 ≤ x ∧ x < s.A.length
  · rw [if_pos hx]
    obtain ⟨k, rfl⟩ : ∃ k : Nat, x = (k : Int) := ⟨x.toNat, by omega⟩
    have hk : k < s.A.length := by omega
    rw [show (k : Int).toNat = k from rfl]
    by_cases hkS : k ∈ s.S
    · rw [if_neg (fun e => e.2.2 hkS)]
      exact (Put_old a4 (a1.mem_iff.2 hkS)).mono fun e w' ⟨e1, e2⟩ => ⟨e1, ⟨L, a1, a2, a3, e2 ▸ a4⟩, e2 ▸ Gr.refl _ _⟩
    · rw [if_pos ⟨hx.1, hx.2, hkS⟩]
      have hkL : k ∉ L := fun e => hkS (a1.mem_iff.1 e)
      refine (Put_new a4 a2 a3 hk hkL).mono fun e w' ⟨e1, L', b1, b2, b3, b4⟩ => ⟨e1, ⟨L', b1.trans (a1.append (List.Perm.refl _)), ?_, b2, b3⟩, b4⟩
      refine b1.nodup_iff.2 ?_
      rw [List.nodup_append]
      exact ⟨a2, by simp, fun a ha b hb e => by simp at hb; subst hb; subst e; exact hkL ha⟩
  · rw [if_neg hx, if_neg (fun e => hx ⟨e.1, e.2.1⟩)]
    exact (Put_bad a4 hx).mono fun e w' ⟨e1, e2⟩ => ⟨e1, ⟨L, a1, a2, a3, e2 ▸ a4⟩, e2 ▸ Gr.refl _ _⟩
theorem Bump_q (H : HQ w h t nb ib s) (x b : Int) : Calls Try.prog 15 #[.pointer (some ⟨h, 0, none⟩), .int .i64 x, .int .i64 b] w fun e w' => e = .returned (.int .i64 (bumpE s.A.length x b)) ∧ Hid (HQ w' h t nb ib (bumpS s x b) ∧ Gr (Oth t nb ib) w w') := by
  obtain ⟨L, a1, a2, a3, a4⟩ := H
  unfold bumpS bumpE
  by_cases hx : 0 ≤ x ∧ x < s.A.length
  · by_cases hb : 0 ≤ b ∧ b ≤ 1099511627776
    · rw [if_pos ⟨hx.1, hx.2, hb.1, hb.2⟩, if_pos ⟨hx.1, hx.2, hb.1, hb.2⟩]
      obtain ⟨k, rfl⟩ : ∃ k : Nat, x = (k : Int) := ⟨x.toNat, by omega⟩
      exact (Bump_any a4 a2 a3 (x := k) (by omega) hb.1 hb.2).mono fun e w' ⟨e1, L', b1, b2, b3, b4⟩ => ⟨e1, ⟨L', b1.trans a1, b1.nodup_iff.2 a2, b2, b3⟩, b4⟩
    · rw [if_neg (fun e => hb ⟨e.2.2.1, e.2.2.2⟩), if_neg (fun e => hb ⟨e.2.2.1, e.2.2.2⟩)]
      exact (Bump_by a4 hx hb).mono fun e w' ⟨e1, e2⟩ => ⟨e1, ⟨L, a1, a2, a3, e2 ▸ a4⟩, e2 ▸ Gr.refl _ _⟩
  · rw [if_neg (fun e => hx ⟨e.1, e.2.1⟩), if_neg (fun e => hx ⟨e.1, e.2.1⟩)]
    exact (Bump_bad a4 hx).mono fun e w' ⟨e1, e2⟩ => ⟨e1, ⟨L, a1, a2, a3, e2 ▸ a4⟩, e2 ▸ Gr.refl _ _⟩
theorem Halve_q (H : HQ w h t nb ib s) : Calls Try.prog 17 #[.pointer (some ⟨h, 0, none⟩)] w fun e w' => e = .returned (.tuple #[]) ∧ Hid (HQ w' h t nb ib (halfS s) ∧ Gr (Oth t nb ib) w w') := by
  obtain ⟨L, a1, a2, a3, a4⟩ := H
  exact (Halve_any a4 a2).mono fun e w' ⟨e1, L', b1, b2, b3, b4⟩ => ⟨e1, ⟨L', b1.trans a1, b1.nodup_iff.2 a2, b2, b3⟩, b4⟩
theorem Pop_q (H : HQ w h t nb ib s) : Calls Try.prog 13 #[.pointer (some ⟨h, 0, none⟩)] w fun e w' => e = .returned (.tuple #[.int .i64 (popV s), .bool (popB s)]) ∧ Hid (HQ w' h t nb ib (popS s) ∧ Gr (Oth t nb ib) w w') := by
  obtain ⟨L, a1, a2, a3, a4⟩ := H
  unfold popV popB popS
  cases hL : L with
  | nil =>
    subst hL
    have hS : s.S = [] := a1.symm.eq_nil
    rw [hS]
    exact (Pop_none a4).mono fun e w' ⟨e1, e2⟩ => ⟨e1, ⟨[], (show List.Perm [] s.S from a1), a2, a3, e2 ▸ a4⟩, e2 ▸ Gr.refl _ _⟩
  | cons y r =>
    have hm : L.length = r.length + 1 := by rw [hL]; rfl
    have h0 : 0 < L.length := by omega
    have hb : bestN s.A s.S = some (nodeAt L 0) := by
      refine best_is (fun x hx => ?_) (a1.mem_iff.1 (nodeAt_mem h0)) (fun y hy => ?_)
      · have := a4.lt x (a1.mem_iff.2 hx)
        have := a4.le
        omega
      · rw [← List.length_map (f := keyA s.A)] at a3
        have := a3.all (keyA s.A y) (List.mem_map_of_mem (a1.mem_iff.2 hy))
        rw [atI_map _ h0] at this
        exact this
    rw [hb]
    refine (Pop_some a4 a2 a3 hm rfl).mono fun e w' ⟨e1, L', b1, b2, b3, b4⟩ => ⟨e1, ⟨L', ?_, ?_, b2, b3⟩, b4⟩
    · have := (b1.trans a1).erase (nodeAt L 0)
      rw [List.erase_cons_head] at this
      exact this
    · exact (List.nodup_cons.1 (b1.nodup_iff.2 a2)).2
theorem Len_q (H : HQ w h t nb ib s) : Calls Try.prog 19 #[.pointer (some ⟨h, 0, none⟩)] w fun e w' => e = .returned (.int .i64 s.S.length) ∧ w = w' := by
  obtain ⟨L, a1, a2, a3, a4⟩ := H
  rw [← a1.length_eq]
  exact Len_any a4
theorem Act_q (H : HQ w h t nb ib s) (x : Int) {r : Int} (hr : actV s.A x = r) : Calls Try.prog 21 #[.pointer (some ⟨h, 0, none⟩), .int .i64 x] w fun e w' => e = .returned (.int .i64 r) ∧ w = w' := by
  obtain ⟨L, a1, a2, a3, a4⟩ := H
  exact Act_any a4 x hr
def hasV (s : St) (x : Int) : Bool := decide (0 ≤ x ∧ x.toNat ∈ s.S)
theorem Has_q (H : HQ w h t nb ib s) (x : Int) {r : Bool} (hr : hasV s x = r) : Calls Try.prog 23 #[.pointer (some ⟨h, 0, none⟩), .int .i64 x] w fun e w' => e = .returned (.bool r) ∧ w = w' := by
  obtain ⟨L, a1, a2, a3, a4⟩ := H
  refine Has_any a4 x ?_
  rw [← hr]
  unfold hasV
  exact decide_eq_decide.2 ⟨fun e => ⟨e.1, a1.mem_iff.1 e.2⟩, fun e => ⟨e.1, a1.mem_iff.2 e.2⟩⟩
theorem Sorted_q (H : HQ w h t nb ib s) : Calls Try.prog 26 #[.pointer (some ⟨h, 0, none⟩)] w fun e w' => ∃ b M, e = .returned (.slice (some ⟨b, 0, none⟩) s.S.length s.S.length) ∧ Hid (SortedM s.A s.S M ∧ w.heap.size ≤ b ∧ w'.heap[b]? = some (.cells ⟨rowI (M.map (fun x : Nat => (x : Int)))⟩ 3 (0, 0)) ∧ Below w.heap.size w w') := by
  obtain ⟨L, a1, a2, a3, a4⟩ := H
  refine (Sorted_any a4 a2).mono fun e w' ⟨b, M, e1, e2, e3⟩ => ⟨b, M, by rw [← a1.length_eq]; exact e1, ⟨e2.1.trans a1, e2.2⟩, e3⟩
end
end Go.Proofs.Ytmgppnepccmceaa
