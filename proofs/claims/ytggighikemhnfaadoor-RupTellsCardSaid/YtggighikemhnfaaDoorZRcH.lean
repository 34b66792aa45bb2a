/- The document's with and Row. -/
import Derived.Test.YtggighikemhnfaaDoorZRcG
namespace Go.Proofs.YtggighikemhnfaaDoor.Tm
open Go.RowKit
set_option linter.unusedVariables false
set_option maxRecDepth 100000 in
set_option maxHeartbeats 4000000 in
theorem RWith_any (rs : List RowD) (a : Option Addr) (c : Nat) (ss : List RowD) (a' : Option Addr) (c' : Nat) (k : Nat) (w : World) (hR : RowsR w rs a c) (hS : RowsR w ss a' c') (hk : k ≤ ss.length) (hl : rs.length + ss.length ≤ 1000) :
    Calls Tryd.prog 52 #[.slice a rs.length c, .slice a' ss.length c', .int .i64 (k : Int)] w fun e w' => ∃ (aa : Option Addr) (cc ml : Nat), e = .returned (.slice aa ml cc) ∧ Hid (RowsR w' (rs ++ ss.take k) aa cc ∧ (rs ++ ss.take k).length = ml ∧ Below w.heap.size w w') := by
  have hst : (ss.take k).length = k := by rw [List.length_take]; omega
  have HR : Hid (∀ V, Below w.heap.size w V → RowsR V rs a c) := fun V hV => hR.below hV
  have HS : Hid (∀ V, Below w.heap.size w V → RowsR V ss a' c') := fun V hV => hS.below hV
  have hro : RowsO w w.heap.size [] (.slice none 0 0) := ⟨rfl, .inl ⟨rfl, rfl⟩⟩
  have l1 : ss.length ≤ c' := hS.le
  have l2 : c' ≤ 9223372036854775807 := by have := hS.cap; simp only [maxLen] at this; omega
  have hk2 : (k : Int) ≤ (c' : Int) := by omega
  have l3 : rs.length ≤ c := hR.le
  clear hS
  go_enter Tryd.func52, Tryd.ntmps52
  go_wp2_with (first
    | (at_builtin; refine wpList_appR rfl _ _ rfl rfl w.heap.size (.slice none 0 0) [] rs a c (by rfl) (by rfl) hro hR (Nat.le_refl _) (by simp; omega) ?_; intro v1 w1 ho1 hg1; rw [List.nil_append] at ho1; have HB1 : Hid (Below w.heap.size w w1) := (Below.refl _ w).grown hg1 (Nat.le_refl _) (fun k e => by cases e); obtain ⟨a1, c1, rfl, _⟩ := own_at ho1; have HO1 : Hid (RowsO w1 w.heap.size rs (.slice a1 rs.length c1)) := ho1; have hS1 : RowsR w1 (ss.take k) a' c' := (HS.out _ HB1.out).take k; clear ho1 hg1 hro hR)
    | (at_builtin; refine wpList_appR rfl _ _ rfl rfl w.heap.size _ rs (ss.take k) a' c' (by rfl) (by rw [hst]; rfl) HO1.out hS1 HB1.out.size (by rw [hst]; omega) ?_; intro v2 w2 ho2 hg2; obtain ⟨ml, hml⟩ : ∃ ml, (rs ++ ss.take k).length = ml := ⟨_, rfl⟩; have HML := Lib.hid hml; have HB2 : Hid (Below w.heap.size w w2) := HB1.out.grown hg2 HB1.out.size (fun k e => (own_lt HO1.out e).1); obtain ⟨a2, c2, e2, _⟩ := own_at ho2; rw [hml] at e2; subst e2; rw [← hml] at ho2; have HR2 : Hid (RowsR w2 (rs ++ ss.take k) a2 c2) := RowsO.rows ho2 (fun y hy => (List.mem_append.1 hy).elim ((HR.out _ HB2.out).ok y) (fun h => (HS.out _ HB2.out).ok y (List.mem_of_mem_take h))); clear ho2 hg2 hml hS1 HO1))
  go_ret
  exact ⟨a2, c2, ml, rfl, HR2.out, HML.out, HB2.out⟩
set_option maxRecDepth 100000 in
set_option maxHeartbeats 4000000 in
theorem RRow_any (rs : List RowD) (a : Option Addr) (c : Nat) (ss : List RowD) (a' : Option Addr) (c' : Nat) (cls st : List (List Int)) (w : World) (hcl : rs.map (·.xs) = cls) (hst : ss.map (·.xs) = st) (hR : RowsR w rs a c) (hS : RowsR w ss a' c') (hl : rs.length + ss.length ≤ 1000) (hx : ∀ y ∈ rs ++ ss, y.xs.length ≤ 100) :
    Calls Tryd.prog 27 #[.slice a rs.length c, .slice a' ss.length c'] w fun e w' => (∃ n : Int, e = .returned (.int .i64 n) ∧ RowP cls st n) ∧ Hid (Below w.heap.size w w') := by
  have HLt : Hid (st.length = ss.length) := by show st.length = _; rw [← hst, List.length_map]
  have HW : Hid (∀ V k, Below w.heap.size w V → k ≤ ss.length → Calls Tryd.prog 52 #[.slice a rs.length c, .slice a' ss.length c', .int .i64 (k : Int)] V fun e w' => ∃ (aa : Option Addr) (cc ml : Nat), e = .returned (.slice aa ml cc) ∧ Hid (RowsR w' (rs ++ ss.take k) aa cc ∧ (rs ++ ss.take k).length = ml ∧ Below V.heap.size V w')) := fun V k hV hk => RWith_any rs a c ss a' c' k V (hR.below hV) (hS.below hV) hk hl
  have HF : Hid (∀ V k aa cc ml s, Below w.heap.size w V → ss[k]? = some s → RowsR V (rs ++ ss.take k) aa cc → (rs ++ ss.take k).length = ml → Calls Tryd.prog 25 #[.slice aa ml cc, .slice s.a s.xs.length s.c] V fun e w' => (∃ q : Bool, e = .returned (.bool q) ∧ (q = true ↔ FolAt cls st k)) ∧ Hid (Below V.heap.size V w')) := fun V k aa cc ml s hV hs h1 h2 => by
    have hkl := (List.getElem?_eq_some_iff.1 hs).1
    have h := RFollows_any (rs ++ ss.take k) aa cc s.xs s.a s.c (cls ++ st.take k) V (by rw [List.map_append, List.map_take, hcl, hst]) h1 ((hS.below hV).ok s (List.mem_of_getElem? hs)) (by rw [List.length_append, List.length_take]; omega) (fun y hy => by
      have := hx y ((List.mem_append.1 hy).elim (fun h => List.mem_append_left _ h) (fun h => List.mem_append_right _ (List.mem_of_mem_take h)))
      omega) (by have := hx s (List.mem_append_right _ (List.mem_of_getElem? hs)); omega)
    rw [h2] at h
    refine h.mono ?_
    rintro e w' ⟨⟨q, h3, h4⟩, h5⟩
    have hsk : st[k]? = some s.xs := by rw [← hst, List.getElem?_map, hs]; rfl
    refine ⟨⟨q, h3, h4.trans ⟨fun h => ⟨s.xs, hsk, h⟩, fun ⟨c2, g1, g2⟩ => ?_⟩⟩, h5⟩
    rw [hsk] at g1
    cases g1
    exact g2
  have HS : Hid (∀ V, Below w.heap.size w V → RowsR V ss a' c') := fun V hV => hS.below hV
  have l1 : ss.length ≤ c' := hS.le
  have l2 : c' ≤ 9223372036854775807 := by have := hS.cap; simp only [maxLen] at this; omega
  have H0 : Hid ((∀ i, i < 0 → FolAt cls st i) ∧ Below w.heap.size w w) := ⟨fun i h => absurd h (by omega), Below.refl _ _⟩
  clear hcl hst hR hS hx hl
  go_enter Tryd.func27, Tryd.ntmps27
  go_wp2
  go_loopw [5] (fun iv wr => ∃ k : Nat, k ≤ ss.length ∧ iv = .int .i64 k ∧ Hid ((∀ i, i < k → FolAt cls st i) ∧ Below w.heap.size w wr)) (fun iv _ => ss.length - (intOf iv).toNat)
  case atStart => exact ⟨0, Nat.zero_le _, rfl, H0⟩
  case round =>
    clear H0
    obtain ⟨k, hkl, rfl, HI⟩ := hrel
    by_cases hlt : k < ss.length
    · have hlt2 : (k : Int) < (ss.length : Int) := by omega
      obtain ⟨s, hs⟩ : ∃ s, ss[k]? = some s := ⟨_, List.getElem?_eq_getElem hlt⟩
      have HSs := Lib.hid hs
      obtain ⟨g, o, rfl, hg, q0⟩ := (HS.out wr HI.out.2).cell hs
      have HQ0 := Lib.hid (And.intro hg q0)
      clear hs
      go_wp2_with fail
      have HSx : Hid (∀ W : World, Below wr.heap.size wr W → W.cell? ⟨g, o + k, none⟩ = some (.slice s.a s.xs.length s.c) ∧ g < W.heap.size) := fun W hW => ⟨(hW.cell (p := ⟨g, o + k, none⟩) HQ0.out.1).trans HQ0.out.2, Nat.lt_of_lt_of_le HQ0.out.1 hW.size⟩
      have hkc : (k : Int) < (c' : Int) := by omega
      have HWk := Lib.hid (HW.out wr.drew k (HI.out.2.drew) hkl)
      refine wp_region_held_drew (S := fun (W : World) => W.cell? ⟨g, o + k, none⟩ = some (.slice s.a s.xs.length s.c) ∧ g < W.heap.size) (by kernel_rfl) (HSx.out _ (Below.refl _ wr).drew) (fun hHeld => ?_)
      refine tkY 0 (.slice a rs.length c) ?_
      try simp only [kP, kA, kZ, kS]
      refine tkY 1 (.slice (some ⟨g, o, none⟩) ss.length c') ?_
      try simp only [kP, kA, kZ, kS]
      refine tkY 2 (.int .i64 (k : Int)) ?_
      try simp only [kP, kA, kZ, kS]
      refine tkY 4 (.slice (some ⟨g, o, none⟩) ss.length c') ?_
      try simp only [kP, kA, kZ, kS]
      refine tkY 5 (.int .i64 (k : Int)) ?_
      try simp only [kP, kA, kZ, kS]
      refine tkY 6 (.pointer (some ⟨g, o + k, none⟩)) ?_
      try simp only [kP, kA, kZ, kS]
      refine tkY 7 (.slice s.a s.xs.length s.c) ?_
      try simp only [kP, kA, kZ, kS]
      refine wpAnyH_ready (rs := [3]) (by kernel_rfl) (by simp) ?_
      refine AllReadyH.cons (o := { dst := some 15, op := Op.call { callee := Callee.value (Operand.func 52), args := #[Operand.tmp 12, Operand.tmp 13, Operand.tmp 14], argTypes := #[22, 22, 3] }, type := 22, pos := "ref.go:27", after := #[{ on := 0, ground := Ground.data }, { on := 1, ground := Ground.data }, { on := 2, ground := Ground.data }], guard := none }) rfl (fun K hK => ?_) AllReadyH.nil
      go_simp
      go_at_call 52
      with_reducible refine HWk.out.mono ?_
      rintro e w1 ⟨aa, cc, ml, rfl, HX1⟩
      have HB1 : Hid (Below wr.heap.size wr w1) := ((Below.refl _ wr).drew).trans HX1.out.2.2
      have HF1 := Lib.hid (HF.out w1 k aa cc ml s (ball HI.out.2 HB1.out) HSs.out HX1.out.1 HX1.out.2.1)
      go_wp2_with fail
      refine hK.out _ _ ?_ (fun hHeld => ?_)
      · exact HSx.out _ HB1.out
      clear hK K
      try simp only [kP, kA, kZ, kS]
      refine wpAnyH_ready (rs := [8]) (by kernel_rfl) (by simp) ?_
      refine AllReadyH.cons (o := { dst := some 20, op := Op.call { callee := Callee.value (Operand.func 25), args := #[Operand.tmp 15, Operand.tmp 19], argTypes := #[22, 23] }, type := 4, pos := "ref.go:27", after := #[{ on := 3, ground := Ground.data }, { on := 7, ground := Ground.data }, { on := 3, ground := Ground.chain }], guard := none }) rfl (fun K hK => ?_) AllReadyH.nil
      go_simp
      go_at_call 25
      with_reducible refine HF1.out.mono ?_
      rintro e w2 ⟨⟨q, rfl, hq⟩, HB2⟩
      have HQ := Lib.hid hq
      have HB3 : Hid (Below wr.heap.size wr w2) := ball HB1.out HB2.out
      clear hq
      go_wp2_with fail
      refine hK.out _ _ ?_ (fun hHeld => ?_)
      · exact HSx.out _ HB3.out
      clear hK K
      try simp only [kP, kA, kZ, kS]
      have HBn : Hid (Below w.heap.size w w2) := ball HI.out.2 HB3.out
      cases q with
      | true =>
        refine tkY 9 (.bool false) ?_
        try simp only [kP, kA, kZ, kS]
        refine wpAnyH_done (by kernel_rfl) ?_ _
        clear hHeld
        have HN : Hid ((∀ i, i < k + 1 → FolAt cls st i) ∧ Below w.heap.size w w2) := ⟨fun i hi => by
          by_cases e : i < k
          · exact HI.out.1 i e
          · obtain rfl : i = k := by omega
            exact HQ.out.1 rfl, HBn.out⟩
        go_wp2_with fail
        go_roundw
        case rel => exact ⟨k + 1, by omega, by go_num, HN⟩
        case measure => simp [intOf]; omega
      | false =>
        refine tkY 9 (.bool true) ?_
        try simp only [kP, kA, kZ, kS]
        refine wpAnyH_done (by kernel_rfl) ?_ _
        clear hHeld
        have HP : Hid (RowP cls st (k : Int)) := .inr ⟨k, rfl, by have := HLt.out; omega, (fun h => by have := HQ.out.2 h; cases this), HI.out.1⟩
        go_wp2_with fail
        go_ret
        exact ⟨⟨(k : Int), rfl, HP.out⟩, HBn⟩
    · obtain rfl : k = ss.length := by omega
      have HP : Hid (RowP cls st (-1)) := .inl ⟨rfl, fun j hj => HI.out.1 j (by have := HLt.out; omega)⟩
      have HB : Hid (Below w.heap.size w wr) := HI.out.2
      clear HI
      go_wp2
      go_ret
      exact ⟨⟨-1, rfl, HP.out⟩, HB⟩
theorem RowP.neg {cls st : List (List Int)} {n : Int} (h : RowP cls st n) : n < 0 ↔ n = -1 := by
  rcases h with ⟨rfl, _⟩ | ⟨j, rfl, _⟩
  · simp
  · omega
set_option maxRecDepth 100000 in
theorem RRefutes_any (rs : List RowD) (a : Option Addr) (c : Nat) (ss : List RowD) (a' : Option Addr) (c' : Nat) (cls st : List (List Int)) (w : World) (hcl : rs.map (·.xs) = cls) (hst : ss.map (·.xs) = st) (hR : RowsR w rs a c) (hS : RowsR w ss a' c') (hl : rs.length + ss.length ≤ 1000) (hx : ∀ y ∈ rs ++ ss, y.xs.length ≤ 100) :
    Calls Tryd.prog 29 #[.slice a rs.length c, .slice a' ss.length c'] w fun e w' => (∃ q : Bool, e = .returned (.bool q) ∧ (q = true ↔ RefP cls st)) ∧ Hid (Below w.heap.size w w') := by
  have HRw := Lib.hid (RRow_any rs a c ss a' c' cls st w hcl hst hR hS hl hx)
  have HS := Lib.hid hS
  have HB0 : Hid (Below w.heap.size w w) := Below.refl _ _
  have l1 : ss.length ≤ c' := hS.le
  have c1 : ss.length ≤ 9223372036854775807 := by omega
  cases hlen : ss.length with
  | zero =>
    have HQ : Hid (¬ RefP cls st) := fun h => by
      have : st = [] := by rw [← hst, List.eq_nil_of_length_eq_zero hlen]; rfl
      rw [this] at h
      cases h.1
    rw [hlen] at HRw l1 c1
    clear hcl hst hR hS hx
    go_enter Tryd.func29, Tryd.ntmps29
    go_wp2
    go_ret
    exact ⟨⟨false, rfl, ⟨fun h => (by cases h), fun h => absurd h HQ.out⟩⟩, HB0⟩
  | succ m =>
    obtain ⟨s, hs⟩ : ∃ s, ss[m]? = some s := ⟨_, List.getElem?_eq_getElem (by omega)⟩
    obtain ⟨g, o, rfl, hg, q0⟩ := HS.out.cell hs
    have hla : st.getLast? = some s.xs := by
      rw [← hst, List.getLast?_eq_getElem?, List.length_map, hlen, List.getElem?_map, Nat.add_sub_cancel, hs]; rfl
    have hsl : s.xs.length ≤ s.c := (HS.out.ok s (List.mem_of_getElem? hs)).le
    have hsx : s.xs.length ≤ 100 := hx s (List.mem_append_right _ (List.mem_of_getElem? hs))
    rw [hlen] at HRw l1 c1
    have hm1 : (m : Int) + 1 - 1 = m := by omega
    have hmp : (0 : Int) < (m : Int) + 1 := by omega
    by_cases h0 : s.xs.length = 0
    · have d0 : ((s.xs.length : Int) == 0) = true := eq_t (by omega)
      have hnil : s.xs = [] := List.eq_nil_of_length_eq_zero h0
      rw [hnil] at hla
      have HLa := Lib.hid hla
      clear hcl hst hR hS hx hs hla hnil h0
      go_enter Tryd.func29, Tryd.ntmps29
      go_wp2_with fail
      with_reducible refine HRw.out.mono ?_
      rintro e w1 ⟨⟨n, rfl, hn⟩, HB⟩
      have HN := Lib.hid hn
      clear hn
      by_cases hn1 : n < 0
      · have d1 : decide (n < 0) = true := decide_eq_true hn1
        have HQ : Hid (RefP cls st) := ⟨HLa.out, by rw [← HN.out.neg.1 hn1]; exact HN.out⟩
        go_wp2_with fail
        go_ret
        exact ⟨⟨true, rfl, ⟨fun _ => HQ.out, fun _ => rfl⟩⟩, HB⟩
      · have d1 : decide (n < 0) = false := decide_eq_false hn1
        have HQ : Hid (¬ RefP cls st) := fun h => absurd (HN.out.neg.2 (HN.out.same h.2)) hn1
        go_wp2_with fail
        go_ret
        exact ⟨⟨false, rfl, ⟨fun h => (by cases h), fun h => absurd h HQ.out⟩⟩, HB⟩
    · have d0 : ((s.xs.length : Int) == 0) = false := eq_f (by omega)
      have HQ : Hid (¬ RefP cls st) := fun h => by
        have h2 := h.1
        rw [hla] at h2
        have h3 := Option.some.inj h2
        exact h0 (by rw [h3]; rfl)
      clear hcl hst hR hS hx hs hla h0
      go_enter Tryd.func29, Tryd.ntmps29
      go_wp2
      go_ret
      exact ⟨⟨false, rfl, ⟨fun h => (by cases h), fun h => absurd h HQ.out⟩⟩, HB0⟩
set_option maxRecDepth 100000 in
theorem Ints_same (xs : List Int) (a b : Option Addr) (c d : Nat) (w : World) (hA : IntsR w xs a c) (hB : IntsR w xs b d) :
    Calls Tryd.prog 30 #[.slice a xs.length c, .slice b xs.length d] w fun e w' => e = .returned (.bool true) ∧ Below w.heap.size w w' := by
  have HA := Lib.hid hA
  have HB := Lib.hid hB
  have l1 : xs.length ≤ c := hA.le
  have l2 : xs.length ≤ d := hB.le
  have c1 : xs.length ≤ 9223372036854775807 := by have := hA.cap; simp only [maxLen] at this; omega
  have hne : ((xs.length : Int) != (xs.length : Int)) = false := ne_f rfl
  clear hA hB
  go_enter Tryd.func30, Tryd.ntmps30
  go_wp2
  go_loopw [5] (fun i wr => ∃ k : Nat, k ≤ xs.length ∧ i = .int .i64 k ∧ Hid (Below w.heap.size w wr)) (fun i _ => xs.length - (intOf i).toNat)
  case atStart => exact ⟨0, Nat.zero_le _, rfl, Below.refl _ _⟩
  case round =>
    obtain ⟨k, hkl, rfl, HW⟩ := hrel
    by_cases hlt : k < xs.length
    · obtain ⟨x, hx⟩ : ∃ x, xs[k]? = some x := ⟨_, List.getElem?_eq_getElem hlt⟩
      obtain ⟨g, o, rfl, hg, q0⟩ := (HA.out.below HW.out).cell hx
      obtain ⟨g', o', rfl, hg', r0⟩ := (HB.out.below HW.out).cell hx
      have hxx : (x != x) = false := ne_f rfl
      clear hx
      go_wp2
      go_quiet (fail)
      go_wp2
      go_roundw
      case rel => exact ⟨k + 1, by omega, by go_num, below_drewN HW.out⟩
      case measure => simp [intOf]; omega
    · obtain rfl : k = xs.length := by omega
      go_wp2
      go_ret
      exact ⟨rfl, HW.out⟩
end Go.Proofs.YtggighikemhnfaaDoor.Tm
