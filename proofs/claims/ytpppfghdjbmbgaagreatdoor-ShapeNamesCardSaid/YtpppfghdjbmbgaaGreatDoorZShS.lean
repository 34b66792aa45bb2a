/- What each clause of a core table names. -/
import Derived.Test.YtpppfghdjbmbgaaGreatDoorZShJ
import Derived.Test.YtpppfghdjbmbgaaGreatDoorZShR
namespace Go.Proofs.YtpppfghdjbmbgaaGreatDoor.Tm
open Go.RowKit
set_option linter.unusedVariables false
theorem RNode_any (x : Int) (w : World) (hx : I64 x) :
    Calls Tryz.prog 34 #[.int .i64 x] w fun e w' => e = .returned (.int .i64 (x / 2)) ∧ w = w' := by
  obtain ⟨h1, h2⟩ := hx
  go_enter Tryz.func34, Tryz.ntmps34
  go_wp2
  go_ret
  exact ⟨by simp, rfl⟩
theorem wrap_pred (j : Nat) (h : j ≤ 4000) : IntKind.i64.wrap (((j + 1 : Nat) : Int) - 1) = (j : Int) := by
  rw [IntKind.wrap_i64]
  omega
set_option maxRecDepth 100000 in
theorem RRise_any (xs : List Int) (hs : xs.Pairwise (· < ·)) (hm : xs.length ≤ 100) (a : Option Addr) (c : Nat) (w : World) (hI : IntsR w xs a c) :
    Calls Tryz.prog 17 #[.slice a xs.length c] w fun e w' => e = .returned (.bool true) ∧ Below w.heap.size w w' := by
  have HI : Hid (∀ V, Below w.heap.size w V → IntsR V xs a c) := fun V hV => hI.below hV
  have HS : Hid (∀ (j : Nat) (x y : Int), xs[j]? = some x → xs[j + 1]? = some y → x < y) := fun j x y h1 h2 => by
    obtain ⟨l1, e1⟩ := List.getElem?_eq_some_iff.1 h1
    obtain ⟨l2, e2⟩ := List.getElem?_eq_some_iff.1 h2
    rw [← e1, ← e2]
    exact List.pairwise_iff_getElem.1 hs j (j + 1) l1 l2 (by omega)
  clear hI hs
  go_enter Tryz.func17, Tryz.ntmps17
  go_wp2
  go_loopw [3] (fun i wr => ∃ j : Nat, (j = 0 ∨ j < xs.length) ∧ i = .int .i64 ((j + 1 : Nat) : Int) ∧ Hid (Below w.heap.size w wr)) (fun i _ => xs.length + 2 - (intOf i).toNat)
  case atStart => exact ⟨0, .inl rfl, rfl, Below.refl _ _⟩
  case round =>
    obtain ⟨j, hj, rfl, HB⟩ := hrel
    by_cases hlt : j + 1 < xs.length
    · obtain ⟨x, hx⟩ : ∃ x, xs[j]? = some x := ⟨_, List.getElem?_eq_getElem (by omega)⟩
      obtain ⟨y, hy⟩ : ∃ x, xs[j + 1]? = some x := ⟨_, List.getElem?_eq_getElem hlt⟩
      obtain ⟨g, o, rfl, hg, q0⟩ := (HI.out _ HB.out).cell hx
      obtain ⟨_, _, e, _, q1⟩ := (HI.out _ HB.out).cell hy
      cases e
      have hxy := HS.out j x y hx hy
      have hw := wrap_pred j (by omega)
      have h1 : ((j + 1 : Nat) : Int) < (xs.length : Int) := by omega
      have h2 : (0 : Int) ≤ ((j + 1 : Nat) : Int) := by omega
      have h3 : (j : Int) < (xs.length : Int) := by omega
      have h4 : (0 : Int) ≤ (j : Int) := by omega
      have h5 : ¬ y ≤ x := by omega
      clear hx hy hxy
      go_wp2
      go_quiet (fail)
      go_wp2
      go_roundw
      case rel => exact ⟨j + 1, by omega, by go_num, below_drewN HB.out⟩
      case measure => simp [intOf]; omega
    · have h1 : ¬ ((j + 1 : Nat) : Int) < (xs.length : Int) := by omega
      go_wp2
      go_ret
      exact ⟨rfl, HB.out⟩
/-- A literal that names a node, or one of which that is an argument. -/
def hitB (c : List NodeA) (id : Int) (x : Int) : Prop := x / 2 = id ∨ (nodA c (x / 2)).a0 = id ∨ (nodA c (x / 2)).a1 = id
set_option maxRecDepth 100000 in
set_option maxHeartbeats 4000000 in
theorem names_any (c : List NodeA) (id : Nat) (xs : List Int) (hx : ∀ x ∈ xs, LitOk c x) (hh : ∃ x ∈ xs, hitB c id x) (hl : c.length ≤ 2000) (hm : xs.length ≤ 100) (a : Option Addr) (ca : Nat) (b : Option Addr) (d : Nat) (w : World) (hA : TabR w c a ca) (hI : IntsR w xs b d) :
    Calls Tryz.prog 19 #[.agg #[.slice a c.length ca], .int .i64 id, .slice b xs.length d] w fun e w' => e = .returned (.bool true) ∧ Below w.heap.size w w' := by
  obtain ⟨W0, hW0⟩ : ∃ W0, W0 = w.alloc (.cells #[.slice a c.length ca] 33) := ⟨_, rfl⟩
  have hB0 : Below w.heap.size w W0 := by rw [hW0]; exact (Below.refl _ w).alloc (Nat.le_refl _) _
  have e0 : W0.heap[w.heap.size]? = some (.cells #[.slice a c.length ca] 33 (0, 0)) := by rw [hW0]; exact heap_alloc_new w _
  have HX : Hid (∀ V, Below W0.heap.size W0 V → V.cell? ⟨w.heap.size, 0, none⟩ = some (.slice a c.length ca) ∧ w.heap.size < V.heap.size) := fun V hV => by
    have e1 := (hV.block _ (Array.getElem?_eq_some_iff.1 e0).1).trans e0
    exact ⟨(cell_of_row _ _ 0 _ _ _ e1).trans rfl, (Array.getElem?_eq_some_iff.1 e1).1⟩
  have HI : Hid (∀ V, Below W0.heap.size W0 V → IntsR V xs b d) := fun V hV => (hI.below hB0).below hV
  have HA : Hid (∀ V, Below W0.heap.size W0 V → TabR V c a ca) := fun V hV => (hA.below hB0).below hV
  have HB0 := Lib.hid hB0
  have HXs := Lib.hid hx
  have HH : Hid (∃ j : Nat, ∃ x, xs[j]? = some x ∧ hitB c id x) := by
    obtain ⟨x, h1, h2⟩ := hh
    obtain ⟨j, hj⟩ := List.getElem?_of_mem h1
    exact ⟨j, x, hj, h2⟩
  have HNd : Hid (∀ V (x : Int) (m : Nat), x / 2 = (m : Int) → I64 x → Calls Tryz.prog 34 #[.int .i64 x] V fun e w' => e = .returned (.int .i64 m) ∧ V = w') := fun V x m hm hx => by rw [← hm]; exact RNode_any x V hx
  have hA0 := hW0.symm
  clear hW0 hA hI hx hh hB0 e0
  go_enter Tryz.func19, Tryz.ntmps19
  go_wp2
  go_loopw [7] (fun i wr => ∃ k : Nat, k ≤ xs.length ∧ i = .int .i64 k ∧ Hid (Below W0.heap.size W0 wr ∧ ∀ (j : Nat) x, j < k → xs[j]? = some x → ¬ hitB c id x)) (fun i _ => xs.length - (intOf i).toNat)
  case atStart => exact ⟨0, Nat.zero_le _, rfl, Below.refl _ _, fun j x h => by omega⟩
  case round =>
    obtain ⟨k, hk, rfl, HR⟩ := hrel
    by_cases hlt : k < xs.length
    · obtain ⟨x, hx⟩ : ∃ x, xs[k]? = some x := ⟨_, List.getElem?_eq_getElem hlt⟩
      obtain ⟨g, o, rfl, hg, q0⟩ := (HI.out _ HR.out.1).cell hx
      obtain ⟨x0, xz⟩ := HX.out _ HR.out.1
      obtain ⟨l1, l2⟩ := HXs.out x (List.mem_of_getElem? hx)
      obtain ⟨m, hmm⟩ : ∃ m : Nat, x / 2 = (m : Int) := ⟨(x / 2).toNat, by omega⟩
      have hmc : m < c.length := by omega
      obtain ⟨n, hn⟩ : ∃ n, c[m]? = some n := ⟨_, List.getElem?_eq_getElem hmc⟩
      obtain ⟨g2, o2, rfl, hg2, p0, p1, p2, p3, p4, p5, p6, p7⟩ := (HA.out _ HR.out.1).node hn
      have HN := Lib.hid (HNd.out · x m hmm ⟨by omega, by omega⟩)
      have hnn := nodA_at hn
      have h1 : (k : Int) < (xs.length : Int) := by omega
      have h2 : (0 : Int) ≤ (k : Int) := by omega
      have h3 : (m : Int) < (c.length : Int) := by omega
      have h4 : (0 : Int) ≤ (m : Int) := by omega
      have h5 : ¬ (m : Int) < 0 := by omega
      have h6 : ¬ (c.length : Int) ≤ (m : Int) := by omega
      have HBw : Hid (Below w.heap.size w wr) := HB0.out.trans (HR.out.1.mono HB0.out.size)
      have HBn : Hid (∀ ob, Below w.heap.size w (wr.alloc ob)) := fun ob => HBw.out.alloc HBw.out.size _
      by_cases c1 : (m : Int) = id
      · have d1 := eq_t c1
        clear hx hn hnn
        go_wp2_with (go_at_call 34; refine (HN.out _).mono ?_; rintro e w1 ⟨rfl, rfl⟩)
        go_ret
        exact ⟨rfl, HBw.out⟩
      · have d1 := eq_f c1
        by_cases c2 : n.a0 = (id : Int)
        · have d2 := eq_t c2
          clear hx hn hnn
          go_wp2_with (go_at_call 34; refine (HN.out _).mono ?_; rintro e w1 ⟨rfl, rfl⟩)
          go_ret
          exact ⟨rfl, HBn.out _⟩
        · have d2 := eq_f c2
          by_cases c3 : n.a1 = (id : Int)
          · have d3 := eq_t c3
            clear hx hn hnn
            go_wp2_with (go_at_call 34; refine (HN.out _).mono ?_; rintro e w1 ⟨rfl, rfl⟩)
            go_ret
            exact ⟨rfl, HBn.out _⟩
          · have d3 := eq_f c3
            have HR2 : Hid (∀ ob, Below W0.heap.size W0 (wr.alloc ob) ∧ ∀ (j : Nat) x, j < k + 1 → xs[j]? = some x → ¬ hitB c id x) := fun ob => ⟨HR.out.1.alloc HR.out.1.size _, fun j y hj hy => by
              by_cases e : j < k
              · exact HR.out.2 j y e hy
              · obtain rfl : j = k := by omega
                rw [hx] at hy
                obtain rfl := Option.some.inj hy
                unfold hitB
                rw [hmm, hnn]
                rintro (h | h | h)
                · exact c1 h
                · exact c2 h
                · exact c3 h⟩
            clear hx hn hnn
            go_wp2_with (go_at_call 34; refine (HN.out _).mono ?_; rintro e w1 ⟨rfl, rfl⟩)
            go_roundw
            case rel => exact ⟨k + 1, by omega, by go_num, HR2.out _⟩
            case measure => simp [intOf]; omega
    · exfalso
      obtain ⟨j, x, hj, hh⟩ := HH.out
      exact HR.out.2 j x (by have := (List.getElem?_eq_some_iff.1 hj).1; omega) hj hh
end Go.Proofs.YtpppfghdjbmbgaaGreatDoor.Tm
namespace Go.Proofs.YtpppfghdjbmbgaaGreatDoor.Tm
open Go.RowKit
set_option linter.unusedVariables false
theorem hit_self {c : List NodeA} {k : Nat} {x : Int} (h : x / 2 = (k : Int)) : hitB c k x := .inl h
theorem litS_two {c : List NodeA} {k : Nat} (hs : (nodA c k).sort = 0) (ho : ¬ (nodA c k).op = 1) : litS c k = 2 * (k : Int) := by
  unfold litS litV
  rw [if_pos hs, if_neg ho]
theorem litS_half {c : List NodeA} {k : Nat} (hs : (nodA c k).sort = 0) (ho : ¬ (nodA c k).op = 1) : litS c k / 2 = (k : Int) ∧ ngL (litS c k) / 2 = (k : Int) := by
  rw [litS_two hs ho]
  have h := ngL_half (2 * (k : Int))
  exact ⟨by omega, by omega⟩
theorem fL_half {c : List NodeA} {n : NodeA} (hn : n ∈ c) (hs : n.sort = 0) (ho : ¬ n.op = 1) : nodA c (fL c n / 2) = n := by
  have hg := fndN_get hn
  have h := nodA_at hg
  have e : fL c n / 2 = (fndN c n : Int) := (litS_half (c := c) (k := fndN c n) (by rw [h]; exact hs) (by rw [h]; exact ho)).1
  rw [e, h]
theorem ne12 {a b d : Int} : ¬ (two2 12 a b d).op = 1 := by show ¬ (12 : Int) = 1; decide
theorem ne6 {a b d : Int} : ¬ (two2 6 a b d).op = 1 := by show ¬ (6 : Int) = 1; decide
theorem in1 {x : Int} : x ∈ clM [x] := clM_mem.2 (by simp)
theorem in2a {x y : Int} : x ∈ clM [x, y] := clM_mem.2 (by simp)
theorem in2b {x y : Int} : y ∈ clM [x, y] := clM_mem.2 (by simp)
theorem in3a {x y u : Int} : x ∈ clM [x, y, u] := clM_mem.2 (by simp)
theorem clsM_hit {c : List NodeA} (hC : Cl c) {k : Nat} (hk : k < c.length) : ∀ xs ∈ clsM c k, ∃ x ∈ xs, hitB c k x := by
  obtain ⟨n, hn⟩ : ∃ n, c[k]? = some n := ⟨_, List.getElem?_eq_getElem hk⟩
  have hnn := nodA_at hn
  have hw := hC.ws n (List.mem_of_getElem? hn)
  unfold clsM
  rw [hnn]
  by_cases h0 : n.op = 0
  · rw [if_pos h0]
    intro xs hx
    simp only [List.mem_cons, List.not_mem_nil, or_false] at hx
    subst hx
    exact ⟨_, in1, hit_self (by omega)⟩
  rw [if_neg h0]
  by_cases h2 : n.op = 2
  · rw [if_pos h2]
    obtain ⟨p, q⟩ := litS_half (c := c) (k := k) (by rw [hnn]; exact (hw.s2 (.inl h2)).1) (by rw [hnn]; omega)
    intro xs hx
    simp only [List.mem_cons, List.not_mem_nil, or_false] at hx
    rcases hx with rfl | rfl | rfl
    · exact ⟨_, in2a, hit_self q⟩
    · exact ⟨_, in2a, hit_self q⟩
    · exact ⟨_, in3a, hit_self p⟩
  rw [if_neg h2]
  by_cases h3 : n.op = 3
  · rw [if_pos h3]
    obtain ⟨p, q⟩ := litS_half (c := c) (k := k) (by rw [hnn]; exact (hw.s2 (.inr (.inl h3))).1) (by rw [hnn]; omega)
    intro xs hx
    simp only [List.mem_cons, List.not_mem_nil, or_false] at hx
    rcases hx with rfl | rfl | rfl
    · exact ⟨_, in2a, hit_self p⟩
    · exact ⟨_, in2a, hit_self p⟩
    · exact ⟨_, in3a, hit_self q⟩
  rw [if_neg h3]
  by_cases h6 : n.op = 6
  · rw [if_pos h6]
    obtain ⟨p, q⟩ := litS_half (c := c) (k := k) (by rw [hnn]; exact (hw.s6 h6).1) (by rw [hnn]; omega)
    split
    · intro xs hx
      simp only [List.mem_cons, List.not_mem_nil, or_false] at hx
      rcases hx with rfl | rfl | rfl | rfl
      · exact ⟨_, in3a, hit_self q⟩
      · exact ⟨_, in3a, hit_self q⟩
      · exact ⟨_, in3a, hit_self p⟩
      · exact ⟨_, in3a, hit_self p⟩
    · intro xs hx
      simp at hx
  rw [if_neg h6]
  by_cases h7 : n.op = 7
  · rw [if_pos h7]
    obtain ⟨g0, g1, g2⟩ := hC.ite k n hn h7
    by_cases hs : n.sort = 0
    · rw [if_pos hs]
      obtain ⟨p, q⟩ := litS_half (c := c) (k := k) (by rw [hnn]; exact hs) (by rw [hnn]; omega)
      intro xs hx
      simp only [List.mem_cons, List.not_mem_nil, or_false] at hx
      rcases hx with rfl | rfl | rfl | rfl
      · exact ⟨_, in3a, hit_self q⟩
      · exact ⟨_, in3a, hit_self q⟩
      · exact ⟨_, in3a, hit_self p⟩
      · exact ⟨_, in3a, hit_self p⟩
    rw [if_neg hs]
    by_cases hs1 : n.sort = 1
    · rw [if_pos hs1]
      obtain ⟨f1, f2⟩ := g1 hs1 n.a1 (.inl rfl)
      obtain ⟨f3, f4⟩ := g1 hs1 n.a2 (.inr rfl)
      intro xs hx
      simp only [List.mem_cons, List.not_mem_nil, or_false] at hx
      rcases hx with rfl | rfl | rfl | rfl
      · exact ⟨_, in2b, .inr (.inl (by rw [fL_half f1 rfl ne12]; rfl))⟩
      · exact ⟨_, in2b, .inr (.inr (by rw [fL_half f2 rfl ne12]; rfl))⟩
      · exact ⟨_, in2b, .inr (.inl (by rw [fL_half f3 rfl ne12]; rfl))⟩
      · exact ⟨_, in2b, .inr (.inr (by rw [fL_half f4 rfl ne12]; rfl))⟩
    · rw [if_neg hs1]
      have f1 := g2 hs hs1 n.a1 (.inl rfl)
      have f2 := g2 hs hs1 n.a2 (.inr rfl)
      intro xs hx
      simp only [List.mem_cons, List.not_mem_nil, or_false] at hx
      rcases hx with rfl | rfl
      · exact ⟨_, in2b, .inr (.inr (by rw [fL_half f1 rfl ne6]; rfl))⟩
      · exact ⟨_, in2b, .inr (.inr (by rw [fL_half f2 rfl ne6]; rfl))⟩
  · rw [if_neg h7]
    intro xs hx
    simp at hx
end Go.Proofs.YtpppfghdjbmbgaaGreatDoor.Tm
