/- RupTells. -/
import Derived.Test.YtggighikemhnfaaDoorZRcI
namespace Go.Proofs.YtggighikemhnfaaDoor.Tm
open Go.RowKit
set_option linter.unusedVariables false
def SmT (rs ss : List RowD) (xs : List Int) : Prop := (rs.length ≤ 80 ∧ ∀ y ∈ rs, y.xs.length ≤ 20) ∧ (ss.length ≤ 80 ∧ ∀ y ∈ ss, y.xs.length ≤ 20) ∧ xs.length ≤ 20
set_option maxRecDepth 100000 in
set_option maxHeartbeats 4000000 in
theorem RupTells_c (w : World) (rs : List RowD) (a : Option Addr) (c : Nat) (hR : RowsR w rs a c) (ss : List RowD) (a' : Option Addr) (c' : Nat) (hS : RowsR w ss a' c') (xs : List Int) (b : Option Addr) (d : Nat) (hA : IntsR w xs b d) (hG : GC w) :
    Calls Tryd.prog 6 #[.slice a rs.length c, .slice a' ss.length c', .slice b xs.length d] w fun e w' => e = .returned (.bool true) ∧ Below w.heap.size w w' := by
  obtain ⟨cls, hcl⟩ : ∃ cls, rs.map (·.xs) = cls := ⟨_, rfl⟩
  obtain ⟨st, hst⟩ : ∃ st, ss.map (·.xs) = st := ⟨_, rfl⟩
  have HWk : Hid (∀ V, Below w.heap.size w V → Calls Tryd.prog 23 #[] V fun e w' => e = .returned (.bool true) ∧ Hid (Below w.heap.size w w')) := fun V hV => (wakes17_any V (hG.below hV)).mono fun e w' ⟨h1, h2⟩ => ⟨h1, ball hV h2⟩
  have HG1 : Hid (Calls Tryd.prog 22 #[.slice a rs.length c] w fun e w' => GrP e (rs.length ≤ 80 ∧ ∀ y ∈ rs, y.xs.length ≤ 20) ∧ w = w') := RGreat_any rs a c w hR
  have HG2 : Hid (Calls Tryd.prog 22 #[.slice a' ss.length c'] w fun e w' => GrP e (ss.length ≤ 80 ∧ ∀ y ∈ ss, y.xs.length ≤ 20) ∧ w = w') := RGreat_any ss a' c' w hS
  have HG3 : Hid (Calls Tryd.prog 22 #[.slice (some ⟨w.heap.size, 0, none⟩) 1 1] (w.alloc (.cells #[.slice b xs.length d] 23)) fun e w' => GrP e (xs.length ≤ 20) ∧ (w.alloc (.cells #[.slice b xs.length d] 23)) = w') := by
    refine (RGreat_any [⟨xs, b, d⟩] (some ⟨w.heap.size, 0, none⟩) 1 _ (lits_row ⟨xs, b, d⟩ hA)).mono ?_
    rintro e w' ⟨⟨q, h1, h2⟩, h3⟩
    exact ⟨⟨q, h1, fun e => (h2 e).2 ⟨xs, b, d⟩ (by simp)⟩, h3⟩
  have hall : SmT rs ss xs → ∀ y ∈ rs ++ ss, y.xs.length ≤ 100 := fun h y hy => by
    rcases List.mem_append.1 hy with h1 | h1
    · have := h.1.2 y h1; omega
    · have := h.2.1.2 y h1; omega
  have HF1 : Hid (∀ V, SmT rs ss xs → Below w.heap.size w V → Calls Tryd.prog 24 #[.slice a rs.length c, .slice b xs.length d] V fun e w' => (∃ q : Bool, e = .returned (.bool q) ∧ (q = true ↔ Fol cls xs)) ∧ Hid (Below V.heap.size V w')) := fun V h hV => (Follows_any rs a c xs b d cls V hcl (hG.below hV) (hR.below hV) (hA.below hV) (by have := h.1.1; omega) (by rw [← hcl]; have := flat_sum h.1.2; have := h.1.1; omega) (by have := h.2.2; omega)).mono fun e w' ⟨h1, h2⟩ => ⟨h1, h2⟩
  have HF2 : Hid (∀ V, SmT rs ss xs → Below w.heap.size w V → Calls Tryd.prog 25 #[.slice a rs.length c, .slice b xs.length d] V fun e w' => (∃ q : Bool, e = .returned (.bool q) ∧ (q = true ↔ Fol cls xs)) ∧ Hid (Below V.heap.size V w')) := fun V h hV => (RFollows_any rs a c xs b d cls V hcl (hR.below hV) (hA.below hV) (by have := h.1.1; omega) (fun y hy => by have := h.1.2 y hy; omega) (by have := h.2.2; omega)).mono fun e w' ⟨h1, h2⟩ => ⟨h1, h2⟩
  have HN1 : Hid (∀ V, SmT rs ss xs → Below w.heap.size w V → Calls Tryd.prog 26 #[.slice a rs.length c, .slice a' ss.length c'] V fun e w' => (∃ n : Int, e = .returned (.int .i64 n) ∧ RowP cls st n) ∧ Hid (Below V.heap.size V w')) := fun V h hV => (Row_any rs a c ss a' c' cls st V hcl hst (hG.below hV) (hR.below hV) (hS.below hV) (by have := h.1.1; have := h.2.1.1; omega) (hall h)).mono fun e w' ⟨h1, h2⟩ => ⟨h1, h2⟩
  have HN2 : Hid (∀ V, SmT rs ss xs → Below w.heap.size w V → Calls Tryd.prog 27 #[.slice a rs.length c, .slice a' ss.length c'] V fun e w' => (∃ n : Int, e = .returned (.int .i64 n) ∧ RowP cls st n) ∧ Hid (Below V.heap.size V w')) := fun V h hV => (RRow_any rs a c ss a' c' cls st V hcl hst (hR.below hV) (hS.below hV) (by have := h.1.1; have := h.2.1.1; omega) (hall h)).mono fun e w' ⟨h1, h2⟩ => ⟨h1, h2⟩
  have HE1 : Hid (∀ V, SmT rs ss xs → Below w.heap.size w V → Calls Tryd.prog 28 #[.slice a rs.length c, .slice a' ss.length c'] V fun e w' => (∃ q : Bool, e = .returned (.bool q) ∧ (q = true ↔ RefP cls st)) ∧ Hid (Below V.heap.size V w')) := fun V h hV => (Refutes_any rs a c ss a' c' cls st V hcl hst (hG.below hV) (hR.below hV) (hS.below hV) (by have := h.1.1; have := h.2.1.1; omega) (hall h)).mono fun e w' ⟨h1, h2⟩ => ⟨h1, h2⟩
  have HE2 : Hid (∀ V, SmT rs ss xs → Below w.heap.size w V → Calls Tryd.prog 29 #[.slice a rs.length c, .slice a' ss.length c'] V fun e w' => (∃ q : Bool, e = .returned (.bool q) ∧ (q = true ↔ RefP cls st)) ∧ Hid (Below V.heap.size V w')) := fun V h hV => (RRefutes_any rs a c ss a' c' cls st V hcl hst (hR.below hV) (hS.below hV) (by have := h.1.1; have := h.2.1.1; omega) (hall h)).mono fun e w' ⟨h1, h2⟩ => ⟨h1, h2⟩
  have HC1 : Hid (∀ V, SmT rs ss xs → Below w.heap.size w V → Calls Tryd.prog 31 #[.slice a rs.length c, .slice b xs.length d] V fun e w' => ∃ (P : List Nat) (a1 : Option Addr) (c1 : Nat), e = .returned (.slice a1 P.length c1) ∧ Hid (CoreP cls xs P ∧ IntsR w' (P.map (fun i : Nat => (i : Int))) a1 c1 ∧ Below V.heap.size V w')) := fun V h hV => Core_any rs a c xs b d cls V hcl (hG.below hV) (hR.below hV) (hA.below hV) (by have := h.1.1; omega) (fun y hy => by have := h.1.2 y hy; omega) (by have := h.2.2; omega)
  have HC2 : Hid (∀ V, SmT rs ss xs → Below w.heap.size w V → Calls Tryd.prog 32 #[.slice a rs.length c, .slice b xs.length d] V fun e w' => ∃ (P : List Nat) (a1 : Option Addr) (c1 : Nat), e = .returned (.slice a1 P.length c1) ∧ Hid (CoreP cls xs P ∧ IntsR w' (P.map (fun i : Nat => (i : Int))) a1 c1 ∧ Below V.heap.size V w')) := fun V h hV => RCore_any rs a c xs b d cls V hcl (hR.below hV) (hA.below hV) (by have := h.1.1; omega) (fun y hy => by have := h.1.2 y hy; omega) (by have := h.2.2; omega)
  have HIn : Hid (∀ V (P : List Nat) a1 c1 a2 c2, IntsR V (P.map (fun i : Nat => (i : Int))) a1 c1 → IntsR V (P.map (fun i : Nat => (i : Int))) a2 c2 → Calls Tryd.prog 30 #[.slice a1 P.length c1, .slice a2 P.length c2] V fun e w' => e = .returned (.bool true) ∧ Hid (Below V.heap.size V w')) := fun V P a1 c1 a2 c2 h1 h2 => by
    have h := Ints_same _ a1 a2 c1 c2 V h1 h2
    rw [List.length_map] at h
    exact h.mono fun e w' ⟨h1, h2⟩ => ⟨h1, h2⟩
  have HB0 : Hid (Below w.heap.size w w) := Below.refl _ _
  have HBA : Hid (Below w.heap.size w (w.alloc (.cells #[.slice b xs.length d] 23))) := (Below.refl _ w).alloc (Nat.le_refl _) _
  clear hR hS hA hG hcl hst hall
  go_enter Tryd.func6, Tryd.ntmps6
  go_wp2_with fail
  with_reducible refine HG1.out.mono ?_
  rintro e w5 ⟨⟨q, rfl, hq⟩, rfl⟩
  cases q with
  | true =>
    clear hq
    go_wp2_with (first | (go_at_call 23; with_reducible refine (HWk.out _ HB0.out).mono ?_; rintro e wz ⟨rfl, HBz⟩))
    go_ret
    exact ⟨rfl, HBz.out⟩
  | false =>
    have HS1 : Hid (rs.length ≤ 80 ∧ ∀ y ∈ rs, y.xs.length ≤ 20) := hq rfl
    clear hq HG1
    go_wp2_with fail
    with_reducible refine HG2.out.mono ?_
    rintro e w5 ⟨⟨q, rfl, hq⟩, rfl⟩
    cases q with
    | true =>
      clear hq
      go_wp2_with (first | (go_at_call 23; with_reducible refine (HWk.out _ HB0.out).mono ?_; rintro e wz ⟨rfl, HBz⟩))
      go_ret
      exact ⟨rfl, HBz.out⟩
    | false =>
      have HS2 : Hid (ss.length ≤ 80 ∧ ∀ y ∈ ss, y.xs.length ≤ 20) := hq rfl
      clear hq HG2
      go_wp2_with fail
      with_reducible refine HG3.out.mono ?_
      rintro e w5 ⟨⟨q, rfl, hq⟩, rfl⟩
      cases q with
      | true =>
        clear hq
        go_wp2_with (first | (go_at_call 23; with_reducible refine (HWk.out _ HBA.out).mono ?_; rintro e wz ⟨rfl, HBz⟩))
        go_ret
        exact ⟨rfl, HBz.out⟩
      | false =>
        have HSm : Hid (SmT rs ss xs) := ⟨HS1.out, HS2.out, hq rfl⟩
        clear hq HG3
        have K1 := Lib.hid (HF1.out _ HSm.out HBA.out)
        go_wp2_with fail
        with_reducible refine K1.out.mono ?_
        rintro e v1 ⟨⟨q1, rfl, hq1⟩, HB1⟩
        have HW1 : Hid (Below w.heap.size w v1) := ball HBA.out HB1.out
        have X1 := Lib.hid hq1
        clear hq1
        have K2 := Lib.hid (HF2.out _ HSm.out HW1.out)
        go_wp2_with fail
        with_reducible refine K2.out.mono ?_
        rintro e v2 ⟨⟨q2, rfl, hq2⟩, HB2⟩
        have HW2 : Hid (Below w.heap.size w v2) := ball HW1.out HB2.out
        obtain rfl : q1 = q2 := Bool.eq_iff_iff.2 (X1.out.trans hq2.symm)
        have bb1 : (q1 == q1) = true := by simp
        clear hq2
        have K3 := Lib.hid (HN1.out _ HSm.out HW2.out)
        go_wp2_with fail
        with_reducible refine K3.out.mono ?_
        rintro e v3 ⟨⟨n1, rfl, hn1⟩, HB3⟩
        have HW3 : Hid (Below w.heap.size w v3) := ball HW2.out HB3.out
        have X3 := Lib.hid hn1
        clear hn1
        have K4 := Lib.hid (HN2.out _ HSm.out HW3.out)
        go_wp2_with fail
        with_reducible refine K4.out.mono ?_
        rintro e v4 ⟨⟨n2, rfl, hn2⟩, HB4⟩
        have HW4 : Hid (Below w.heap.size w v4) := ball HW3.out HB4.out
        obtain rfl : n1 = n2 := X3.out.same hn2
        have bb2 : (n1 == n1) = true := by simp
        clear hn2
        have K5 := Lib.hid (HE1.out _ HSm.out HW4.out)
        go_wp2_with fail
        with_reducible refine K5.out.mono ?_
        rintro e v5 ⟨⟨q3, rfl, hq3⟩, HB5⟩
        have HW5 : Hid (Below w.heap.size w v5) := ball HW4.out HB5.out
        have X5 := Lib.hid hq3
        clear hq3
        have K6 := Lib.hid (HE2.out _ HSm.out HW5.out)
        go_wp2_with fail
        with_reducible refine K6.out.mono ?_
        rintro e v6 ⟨⟨q4, rfl, hq4⟩, HB6⟩
        have HW6 : Hid (Below w.heap.size w v6) := ball HW5.out HB6.out
        obtain rfl : q3 = q4 := Bool.eq_iff_iff.2 (X5.out.trans hq4.symm)
        have bb3 : (q3 == q3) = true := by simp
        clear hq4
        have K7 := Lib.hid (HC1.out _ HSm.out HW6.out)
        go_wp2_with fail
        with_reducible refine K7.out.mono ?_
        rintro e v7 ⟨P, a1, c1, rfl, HX7⟩
        have HW7 : Hid (Below w.heap.size w v7) := ball HW6.out HX7.out.2.2
        have K8 := Lib.hid (HC2.out _ HSm.out HW7.out)
        go_wp2_with fail
        with_reducible refine K8.out.mono ?_
        rintro e v8 ⟨P2, a2, c2, rfl, HX8⟩
        have HW8 : Hid (Below w.heap.size w v8) := ball HW7.out HX8.out.2.2
        obtain rfl : P = P2 := HX7.out.1.same HX8.out.1
        have K9 := Lib.hid (HIn.out v8 P a1 c1 a2 c2 (HX7.out.2.1.below HX8.out.2.2) HX8.out.2.1)
        go_wp2_with fail
        with_reducible refine K9.out.mono ?_
        rintro e v9 ⟨rfl, HB9⟩
        have HW9 : Hid (Below w.heap.size w v9) := ball HW8.out HB9.out
        clear K9 K8 K7
        go_wp2_with (first | (go_at_call 23; with_reducible refine (HWk.out _ HW9.out).mono ?_; rintro e wz ⟨rfl, HBz⟩))
        go_ret
        exact ⟨rfl, HBz.out⟩
end Go.Proofs.YtggighikemhnfaaDoor.Tm
