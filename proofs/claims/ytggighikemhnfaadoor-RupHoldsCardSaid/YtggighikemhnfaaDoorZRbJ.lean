/- RupParts. -/
import Derived.Test.YtggighikemhnfaaDoorZRbI
import Derived.Test.YtggighikemhnfaaDoorZTk
namespace Go.Proofs.YtggighikemhnfaaDoor.Tm
open Go.RowKit
set_option linter.unusedVariables false
theorem turn_at2 (turn : Int) (n : Nat) (h6 : n ≤ 80) : ∃ k : Nat, (wrap64 (turn.tmod ((n : Int) + 1) + ((n : Int) + 1))).tmod ((n : Int) + 1) = (k : Int) ∧ k ≤ n := by
  have h1 := Int.natAbs_tmod turn ((n : Int) + 1)
  have h2 : turn.natAbs % ((n : Int) + 1).natAbs < n + 1 := by rw [show ((n : Int) + 1).natAbs = n + 1 by omega]; exact Nat.mod_lt _ (by omega)
  rw [← h1] at h2
  generalize turn.tmod ((n : Int) + 1) = t at h2
  have h3 : wrap64 (t + ((n : Int) + 1)) = t + ((n : Int) + 1) := by unfold wrap64; omega
  rw [h3, Int.tmod_eq_emod_of_nonneg (by omega)]
  have h4 := Int.emod_nonneg (t + ((n : Int) + 1)) (show ((n : Int) + 1) ≠ 0 by omega)
  have h5 := Int.emod_lt_of_pos (t + ((n : Int) + 1)) (show (0 : Int) < (n : Int) + 1 by omega)
  exact ⟨((t + ((n : Int) + 1)) % ((n : Int) + 1)).toNat, by omega, by omega⟩
theorem FolAt.take {cls st : List (List Int)} {m j : Nat} (hj : j < m) : FolAt cls (st.take m) j ↔ FolAt cls st j := by
  unfold FolAt
  rw [List.getElem?_take, if_pos hj, List.take_take, Nat.min_eq_left (by omega)]
theorem FolAt.drop {cls st : List (List Int)} {m j : Nat} (hm : m ≤ st.length) : FolAt (cls ++ st.take m) (st.drop m) j ↔ FolAt cls st (m + j) := by
  unfold FolAt
  rw [List.getElem?_drop, List.append_assoc, ← List.take_add]
/-- The first that does not follow, among fewer steps, and among those behind. -/
theorem RowP.parts1 {cls st : List (List Int)} {n first : Int} {m : Nat} (hm : m ≤ st.length) (h : RowP cls st n) (h1 : RowP cls (st.take m) first) : (0 ≤ n ∧ n < m → first = n) ∧ (¬ (0 ≤ n ∧ n < m) → first = -1) := by
  have hlt : (st.take m).length = m := by rw [List.length_take]; omega
  rcases h with ⟨rfl, hA⟩ | ⟨j, rfl, hj, hn, hA⟩
  · refine ⟨fun h => absurd h.1 (by decide), fun _ => h1.same (.inl ⟨rfl, fun i hi => ?_⟩)⟩
    rw [hlt] at hi
    exact (FolAt.take hi).2 (hA i (by omega))
  · refine ⟨fun hl => h1.same (.inr ⟨j, rfl, by omega, fun h => hn ((FolAt.take (by omega)).1 h), fun i hi => (FolAt.take (by omega)).2 (hA i hi)⟩), fun hl => h1.same (.inl ⟨rfl, fun i hi => ?_⟩)⟩
    rw [hlt] at hi
    exact (FolAt.take hi).2 (hA i (by omega))
theorem RowP.parts2 {cls st : List (List Int)} {n rest : Int} {m : Nat} (hm : m ≤ st.length) (h : RowP cls st n) (h2 : RowP (cls ++ st.take m) (st.drop m) rest) : (n < 0 → rest = -1) ∧ (0 ≤ n → ¬ n < m → rest = n - m) := by
  rcases h with ⟨rfl, hA⟩ | ⟨j, rfl, hj, hn, hA⟩
  · refine ⟨fun _ => h2.same (.inl ⟨rfl, fun i hi => ?_⟩), fun h => absurd h (by decide)⟩
    rw [List.length_drop] at hi
    exact (FolAt.drop hm).2 (hA _ (by omega))
  · refine ⟨fun h => by omega, fun _ hl => h2.same (.inr ⟨j - m, by omega, by rw [List.length_drop]; omega, fun h => hn ?_, fun i hi => (FolAt.drop hm).2 (hA _ (by omega))⟩)⟩
    have := (FolAt.drop hm).1 h
    rw [show m + (j - m) = j by omega] at this
    exact this
theorem RowP.le {cls st : List (List Int)} {n : Int} (h : RowP cls st n) : -1 ≤ n ∧ n ≤ st.length := by
  rcases h with ⟨rfl, _⟩ | ⟨j, rfl, hj, _⟩ <;> omega
theorem RowsR.empty {w : World} {rs : List RowD} {a : Option Addr} {c : Nat} (h : rs = []) (hc : c ≤ maxLen) : RowsR w rs a c := by
  subst h
  exact ⟨Nat.zero_le _, hc, fun h => absurd h (by simp), fun r h => by cases h⟩
theorem step_appR {w : World} {ops : Array Oper} {o : Oper} {a : Act} {K : Act → World → Prop} {Q : Exit → Act → World → Prop} {E : Prop} (hgd : o.guard = none) (s x : Operand) (ho : o.op = .call { callee := .builtin .append, args := #[s, x], argTypes := #[22, 22] }) (hty : o.type = 22)
    (base : Nat) (v : Value) (xs ys : List RowD) (b : Option Addr) (d : Nat) (hs : a.eval s = v) (hx : a.eval x = .slice b ys.length d) (hown : RowsO w base xs v) (hI : RowsR w ys b d) (hb : base ≤ w.heap.size) (hl : (xs.length + ys.length) * 24 ≤ 140737488355328)
    (h : ∀ v' w', RowsO w' base (xs ++ ys) v' → w.grownBy w' v.ownBlock → K (a.put o.dst v') w') : if Region.wanted o (yielded ops a.tmps) = true then Oper.wp Tryd.prog o a w K Q else E := by
  have hw : Region.wanted o (yielded ops a.tmps) = true := by simp [Region.wanted, hgd]
  rw [if_pos hw]
  exact wp_appR s x ho hty base v xs ys b d hs hx hown hI hb hl h
theorem RowsR.dropAt {w : World} {rs : List RowD} {g o c : Nat} (h : RowsR w rs (some ⟨g, o, none⟩) c) (k : Nat) (hk : k ≤ rs.length) : RowsR w (rs.drop k) (some ⟨g, o + k, none⟩) (c - k) := by
  refine ⟨by have := h.le; rw [List.length_drop]; omega, by have := h.cap; omega, fun h0 => ?_, fun x hx => h.ok x (List.mem_of_mem_drop hx)⟩
  obtain ⟨g', o', e, h1, h2⟩ := h.tat (by rw [List.length_map, List.length_drop] at h0; rw [List.length_map]; omega)
  cases e
  refine ⟨g, o + k, rfl, h1, fun i v hv => ?_⟩
  rw [List.map_drop, List.getElem?_drop] at hv
  rw [Nat.add_assoc]
  exact h2 (k + i) v hv
set_option maxRecDepth 100000 in
set_option maxHeartbeats 4000000 in
theorem RupParts_c (w : World) (rs : List RowD) (a : Option Addr) (c : Nat) (hR : RowsR w rs a c) (ss : List RowD) (a' : Option Addr) (c' : Nat) (hS : RowsR w ss a' c') (n : Int) (hn : I64 n) (hG : GC w) :
    Calls Tryd.prog 9 #[.slice a rs.length c, .slice a' ss.length c', .int .i64 n] w fun e w' => e = .returned (.bool true) ∧ Below w.heap.size w w' := by
  have HWk : Hid (∀ V, Below w.heap.size w V → Calls Tryd.prog 23 #[] V fun e w' => e = .returned (.bool true) ∧ Hid (Below w.heap.size w w')) := fun V hV => (wakes17_any V (hG.below hV)).mono fun e w' ⟨h1, h2⟩ => ⟨h1, ball hV h2⟩
  have HG1 : Hid (Calls Tryd.prog 22 #[.slice a rs.length c] w fun e w' => GrP e (rs.length ≤ 80 ∧ ∀ y ∈ rs, y.xs.length ≤ 20) ∧ w = w') := RGreat_any rs a c w hR
  have HG2 : Hid (Calls Tryd.prog 22 #[.slice a' ss.length c'] w fun e w' => GrP e (ss.length ≤ 80 ∧ ∀ y ∈ ss, y.xs.length ≤ 20) ∧ w = w') := RGreat_any ss a' c' w hS
  have HRow : Hid (∀ V M am cm S az cz, Below w.heap.size w V → RowsR V M am cm → RowsR V S az cz → M.length + S.length ≤ 1000 → (∀ y ∈ M ++ S, y.xs.length ≤ 100) → Calls Tryd.prog 26 #[.slice am M.length cm, .slice az S.length cz] V fun e w' => (∃ n : Int, e = .returned (.int .i64 n) ∧ Hid (RowP (M.map (·.xs)) (S.map (·.xs)) n)) ∧ Hid (Below w.heap.size w w')) := fun V M am cm S az cz hV h1 h2 h3 h4 => by
    refine (Row_any M am cm S az cz _ _ V rfl rfl (hG.below hV) h1 h2 h3 h4).mono ?_
    rintro e w' ⟨⟨n, h5, h6⟩, h7⟩
    exact ⟨⟨n, h5, h6⟩, ball hV h7⟩
  have HR : Hid (∀ V, Below w.heap.size w V → RowsR V rs a c) := fun V hV => hR.below hV
  have HS : Hid (∀ V, Below w.heap.size w V → RowsR V ss a' c') := fun V hV => hS.below hV
  have HB0 : Hid (Below w.heap.size w w) := Below.refl _ _
  have l1 : ss.length ≤ c' := hS.le
  have l2 : c' ≤ 9223372036854775807 := by have := hS.cap; simp only [maxLen] at this; omega
  have HCp : Hid (c' ≤ maxLen) := hS.cap
  clear hR hS hG
  go_enter Tryd.func9, Tryd.ntmps9
  go_wp2_with fail
  with_reducible refine HG1.out.mono ?_
  rintro e w5 ⟨⟨q, rfl, hq⟩, rfl⟩
  cases q with
  | true =>
    clear hq
    go_wp2_with (first | (go_at_call 23; with_reducible refine (HWk.out _ HB0.out).mono ?_; rintro e wz ⟨rfl, HBz⟩))
    go_ret
    exact ⟨rfl, HBz.out⟩
  | false =>
    have HS1 : Hid (rs.length ≤ 80 ∧ ∀ y ∈ rs, y.xs.length ≤ 20) := hq rfl
    clear hq HG1
    go_wp2_with fail
    with_reducible refine HG2.out.mono ?_
    rintro e w5 ⟨⟨q, rfl, hq⟩, rfl⟩
    cases q with
    | true =>
      clear hq
      go_wp2_with (first | (go_at_call 23; with_reducible refine (HWk.out _ HB0.out).mono ?_; rintro e wz ⟨rfl, HBz⟩))
      go_ret
      exact ⟨rfl, HBz.out⟩
    | false =>
      have HS2 : Hid (ss.length ≤ 80 ∧ ∀ y ∈ ss, y.xs.length ≤ 20) := hq rfl
      have h80 : ss.length ≤ 80 := HS2.out.1
      clear hq HG2
      have HX : Hid (∀ y ∈ rs ++ ss, y.xs.length ≤ 100) := fun y hy => by
        rcases List.mem_append.1 hy with h | h
        · have := HS1.out.2 y h; omega
        · have := HS2.out.2 y h; omega
      obtain ⟨kk, h1, hkk⟩ := turn_at2 n ss.length h80
      have hn0 : ¬ ((ss.length : Int) + 1) = 0 := by omega
      have ht1 := hn.1
      have ht2 := hn.2
      have HRw := Lib.hid (HRow.out w rs a c ss a' c' HB0.out (HR.out _ HB0.out) (HS.out _ HB0.out) (by have := HS1.out.1; omega) HX.out)
      go_wp2_with fail
      with_reducible refine HRw.out.mono ?_
      rintro e w1 ⟨⟨at0, rfl, HP1⟩, HW1⟩
      clear h1 hn0 ht1 ht2 hn HRw
      have hat := HP1.out.le
      rw [List.length_map] at hat
      have hrl : rs.length ≤ 80 := HS1.out.1
      have HCc : Hid (c' ≤ maxLen) := HCp.out
      cases hss : ss with
      | nil =>
        subst hss
        obtain rfl : kk = 0 := by simpa using hkk
        obtain rfl : at0 = -1 := HP1.out.same (.inl ⟨rfl, fun j h => absurd h (by simp)⟩)
        have HR2 : Hid (∀ V az cz, Below w.heap.size w V → cz ≤ maxLen → Calls Tryd.prog 26 #[.slice a rs.length c, .slice az 0 cz] V fun e w' => e = .returned (.int .i64 (-1)) ∧ Hid (Below w.heap.size w w')) := fun V az cz hV hc => by
          refine (HRow.out V rs a c [] az cz hV (HR.out _ hV) (RowsR.empty rfl hc) (by simp; omega) (fun y hy => HX.out y (by simpa using hy))).mono ?_
          rintro e w' ⟨⟨n, h1, h2⟩, h3⟩
          rw [h2.out.same (.inl ⟨rfl, fun j h => absurd h (by simp)⟩ : RowP _ _ (-1))] at h1
          exact ⟨h1, h3⟩
        go_wp2_with fail
        with_reducible refine (HR2.out _ _ _ HW1.out HCc.out).mono ?_
        rintro e w2 ⟨rfl, HW2⟩
        go_wp2_with fail
        refine wp_region_held_drew (S := fun _ => True) (by kernel_rfl) trivial (fun hHeld => ?_)
        refine tkY 1 (.slice a rs.length c) ?_
        try simp only [kP, kA, kZ, kS]
        refine tkY 3 (.slice a' 0 c') ?_
        try simp only [kP, kA, kZ, kS]
        refine tkY 4 (.int .i64 0) ?_
        try simp only [kP, kA, kZ, kS]
        refine tkY 5 (.slice a' 0 c') ?_
        try simp only [kP, kA, kZ, kS]
        refine tkY 7 (.slice a' 0 c') ?_
        try simp only [kP, kA, kZ, kS]
        refine tkY 8 (.int .i64 0) ?_
        try simp only [kP, kA, kZ, kS]
        refine tkY 9 (.slice a' 0 c') ?_
        try simp only [kP, kA, kZ, kS]
        refine wpAnyH_ready (rs := [0]) (by kernel_rfl) (by simp) ?_
        refine AllReadyH.cons (o := { dst := some 49, op := Op.buildSlice 22 0 #[], type := 22, pos := "law.go:106", after := #[], guard := none }) rfl (fun K hK => ?_) AllReadyH.nil
        go_simp
        refine hK.out _ _ ?_ (fun hHeld => ?_)
        · exact trivial
        clear hK K
        try simp only [kP, kA, kZ, kS]
        have hz0 := rows_zero w2.drew
        have hbz : Below w.heap.size w (w2.drew.alloc (.cells #[] 23)) := HW2.out.drew.alloc HW2.out.size _
        refine wpAnyH_ready (rs := [2]) (by kernel_rfl) (by simp) ?_
        refine AllReadyH.cons (o := { dst := some 51, op := Op.call { callee := Callee.builtin Builtin.append, args := #[Operand.tmp 49, Operand.tmp 50], argTypes := #[22, 22] }, type := 22, pos := "law.go:106", after := #[{ on := 0, ground := Ground.data }, { on := 1, ground := Ground.data }], guard := none }) rfl (fun K hK => ?_) AllReadyH.nil
        refine step_appR rfl _ _ rfl rfl w2.heap.size _ [] rs a c (by rfl) (by rfl) hz0 (HR.out _ hbz) (by simp) (by simp; omega) ?_
        intro v6 u6 hr6 hg6
        rw [List.nil_append] at hr6
        have HU6 : Hid (Below w.heap.size w u6) := hbz.grown hg6 hbz.size (fun k e => by cases e; exact HW2.out.size)
        have HZ6 : Hid (w2.heap.size ≤ u6.heap.size) := by have := hg6.size; simp at this; show _ ≤ _; omega
        obtain ⟨a6, c6, rfl, _⟩ := own_at hr6
        have HR6 : Hid (RowsO u6 w2.heap.size rs (.slice a6 rs.length c6)) := hr6
        clear hr6 hg6 hz0 hbz
        refine hK.out _ _ ?_ (fun hHeld => ?_)
        · exact trivial
        clear hK K
        try simp only [kP, kA, kZ, kS]
        refine wpAnyH_ready (rs := [6]) (by kernel_rfl) (by simp) ?_
        refine AllReadyH.cons (o := { dst := some 55, op := Op.call { callee := Callee.builtin Builtin.append, args := #[Operand.tmp 51, Operand.tmp 54], argTypes := #[22, 22] }, type := 22, pos := "law.go:106", after := #[{ on := 2, ground := Ground.data }, { on := 5, ground := Ground.data }, { on := 2, ground := Ground.chain }], guard := none }) rfl (fun K hK => ?_) AllReadyH.nil
        refine step_appR rfl _ _ rfl rfl w2.heap.size _ rs [] a' c' (by rfl) (by rfl) HR6.out (RowsR.empty rfl HCc.out) HZ6.out (by simp; omega) ?_
        intro v8 u8 hr8 hg8
        rw [List.append_nil] at hr8
        have HU8 : Hid (Below w.heap.size w u8) := HU6.out.grown hg8 HU6.out.size (fun k e => Nat.le_trans HW2.out.size (own_lt HR6.out e).1)
        obtain ⟨a8, c8, rfl, _⟩ := own_at hr8
        have HR8 : Hid (RowsR u8 rs a8 c8) := RowsO.rows hr8 (fun y hy => (HR.out _ HU8.out).ok y hy)
        clear hr8 hg8
        refine hK.out _ _ ?_ (fun hHeld => ?_)
        · exact trivial
        clear hK K
        try simp only [kP, kA, kZ, kS]
        have hR3 := HRow.out u8 rs a8 c8 [] a' c' HU8.out HR8.out (RowsR.empty rfl HCc.out) (by simp; omega) (fun y hy => HX.out y (by simpa using hy))
        refine wpAnyH_ready (rs := [10]) (by kernel_rfl) (by simp) ?_
        refine AllReadyH.cons (o := { dst := some 59, op := Op.call { callee := Callee.value (Operand.func 26), args := #[Operand.tmp 55, Operand.tmp 58], argTypes := #[22, 22] }, type := 3, pos := "law.go:106", after := #[{ on := 6, ground := Ground.data }, { on := 9, ground := Ground.data }, { on := 6, ground := Ground.chain }], guard := none }) rfl (fun K hK => ?_) AllReadyH.nil
        rw [List.length_nil] at hR3
        go_simp
        go_at_call 26
        with_reducible refine hR3.mono ?_
        rintro e w3 ⟨⟨rest, rfl, HP3⟩, HW3⟩
        obtain rfl : rest = -1 := HP3.out.same (.inl ⟨rfl, fun j h => absurd h (by simp)⟩)
        go_wp2_with fail
        refine hK.out _ _ ?_ (fun hHeld => ?_)
        · exact trivial
        clear hK K
        try simp only [kP, kA, kZ, kS]
        refine tkY 11 (.int .i64 (-1)) ?_
        try simp only [kP, kA, kZ, kS]
        refine wpAnyH_done (by kernel_rfl) ?_ _
        clear hHeld hR3
        go_wp2_with (first | (go_at_call 23; with_reducible refine (HWk.out _ HW3.out).mono ?_; rintro e wz ⟨rfl, HBz⟩))
        go_ret
        exact ⟨rfl, HBz.out⟩
      | cons s0 sr =>
        rw [← hss]
        obtain ⟨g, o, rfl, hg, _⟩ := (HS.out w1 HW1.out).cell (k := 0) (r := s0) (by rw [hss]; rfl)
        have hc0 : ¬ c' = 0 := by rw [hss] at l1; simp at l1; omega
        have hkc : (kk : Int) ≤ c' := by omega
        have hst : (ss.take kk).length = kk := by rw [List.length_take]; omega
        have hR2 := HRow.out w1 rs a c (ss.take kk) (some ⟨g, o, none⟩) c' HW1.out (HR.out _ HW1.out) ((HS.out _ HW1.out).take kk) (by omega) (fun y hy => HX.out y ((List.mem_append.1 hy).elim (fun h => List.mem_append_left _ h) (fun h => List.mem_append_right _ (List.mem_of_mem_take h))))
        rw [hst] at hR2
        have HR2 := Lib.hid hR2
        clear hR2 hg hss
        go_wp2_with fail
        with_reducible refine HR2.out.mono ?_
        rintro e w2 ⟨⟨fst, rfl, HP2⟩, HW2⟩
        have hp1 := HP1.out.parts1 (m := kk) (by rw [List.length_map]; omega) (by have := HP2.out; rw [List.map_take] at this; exact this)
        clear HR2
        by_cases hA : 0 ≤ at0 ∧ at0 < kk
        · have e1 := hp1.1 hA
          subst e1
          have d1 : decide (0 ≤ fst) = true := decide_eq_true hA.1
          have d2 : decide (fst < (kk : Int)) = true := decide_eq_true hA.2
          have d3 : (fst == fst) = true := eq_t rfl
          clear hp1 hA
          go_wp2_with (first | (go_at_call 23; with_reducible refine (HWk.out _ HW2.out).mono ?_; rintro e wz ⟨rfl, HBz⟩))
          go_ret
          exact ⟨rfl, HBz.out⟩
        · have e1 := hp1.2 hA
          subst e1
          by_cases hN : at0 < 0
          · have d1 : decide (0 ≤ at0) = false := decide_eq_false (by omega)
            have dN : decide (at0 < 0) = true := decide_eq_true hN
            go_wp2_with fail
            by_cases hck : kk = c'
            · subst hck
              refine wp_region_held_drew (S := fun _ => True) (by kernel_rfl) trivial (fun hHeld => ?_)
              refine tkY 1 (.slice a rs.length c) ?_
              try simp only [kP, kA, kZ, kS]
              refine tkY 3 (.slice (some ⟨g, o, none⟩) ss.length kk) ?_
              try simp only [kP, kA, kZ, kS]
              refine tkY 4 (.int .i64 kk) ?_
              try simp only [kP, kA, kZ, kS]
              refine tkY 5 (.slice (some ⟨g, o, none⟩) kk kk) ?_
              try simp only [kP, kA, kZ, kS]
              refine tkY 7 (.slice (some ⟨g, o, none⟩) ss.length kk) ?_
              try simp only [kP, kA, kZ, kS]
              refine tkY 8 (.int .i64 kk) ?_
              try simp only [kP, kA, kZ, kS]
              refine tkY 9 (.slice (some ⟨g, o, none⟩) 0 0) ?_
              try simp only [kP, kA, kZ, kS]
              refine wpAnyH_ready (rs := [0]) (by kernel_rfl) (by simp) ?_
              refine AllReadyH.cons (o := { dst := some 49, op := Op.buildSlice 22 0 #[], type := 22, pos := "law.go:106", after := #[], guard := none }) rfl (fun K hK => ?_) AllReadyH.nil
              go_simp
              refine hK.out _ _ ?_ (fun hHeld => ?_)
              · exact trivial
              clear hK K
              try simp only [kP, kA, kZ, kS]
              have hz0 := rows_zero w2.drew
              have hbz : Below w.heap.size w (w2.drew.alloc (.cells #[] 23)) := HW2.out.drew.alloc HW2.out.size _
              refine wpAnyH_ready (rs := [2]) (by kernel_rfl) (by simp) ?_
              refine AllReadyH.cons (o := { dst := some 51, op := Op.call { callee := Callee.builtin Builtin.append, args := #[Operand.tmp 49, Operand.tmp 50], argTypes := #[22, 22] }, type := 22, pos := "law.go:106", after := #[{ on := 0, ground := Ground.data }, { on := 1, ground := Ground.data }], guard := none }) rfl (fun K hK => ?_) AllReadyH.nil
              refine step_appR rfl _ _ rfl rfl w2.heap.size _ [] rs a c (by rfl) (by rfl) hz0 (HR.out _ hbz) (by simp) (by simp; omega) ?_
              intro v6 u6 hr6 hg6
              rw [List.nil_append] at hr6
              have HU6 : Hid (Below w.heap.size w u6) := hbz.grown hg6 hbz.size (fun k e => by cases e; exact HW2.out.size)
              have HZ6 : Hid (w2.heap.size ≤ u6.heap.size) := by have := hg6.size; simp at this; show _ ≤ _; omega
              obtain ⟨a6, c6, rfl, _⟩ := own_at hr6
              have HR6 : Hid (RowsO u6 w2.heap.size rs (.slice a6 rs.length c6)) := hr6
              clear hr6 hg6 hz0 hbz
              refine hK.out _ _ ?_ (fun hHeld => ?_)
              · exact trivial
              clear hK K
              try simp only [kP, kA, kZ, kS]
              refine wpAnyH_ready (rs := [6]) (by kernel_rfl) (by simp) ?_
              refine AllReadyH.cons (o := { dst := some 55, op := Op.call { callee := Callee.builtin Builtin.append, args := #[Operand.tmp 51, Operand.tmp 54], argTypes := #[22, 22] }, type := 22, pos := "law.go:106", after := #[{ on := 2, ground := Ground.data }, { on := 5, ground := Ground.data }, { on := 2, ground := Ground.chain }], guard := none }) rfl (fun K hK => ?_) AllReadyH.nil
              refine step_appR rfl _ _ rfl rfl w2.heap.size _ rs (ss.take kk) (some ⟨g, o, none⟩) kk (by rfl) (by rw [hst]; rfl) HR6.out ((HS.out _ HU6.out).take kk) HZ6.out (by rw [hst]; omega) ?_
              intro v8 u8 hr8 hg8
              have HU8 : Hid (Below w.heap.size w u8) := HU6.out.grown hg8 HU6.out.size (fun k e => Nat.le_trans HW2.out.size (own_lt HR6.out e).1)
              obtain ⟨ml, hml⟩ : ∃ ml, (rs ++ (ss.take kk)).length = ml := ⟨_, rfl⟩
              have HML := Lib.hid hml
              obtain ⟨a8, c8, e8, _⟩ := own_at hr8
              rw [hml] at e8
              subst e8
              rw [← hml] at hr8
              have HR8 : Hid (RowsR u8 (rs ++ (ss.take kk)) a8 c8) := RowsO.rows hr8 (fun y hy => (List.mem_append.1 hy).elim ((HR.out _ HU8.out).ok y) (fun h => (HS.out _ HU8.out).ok y (List.mem_of_mem_take h)))
              clear hr8 hg8 hml
              refine hK.out _ _ ?_ (fun hHeld => ?_)
              · exact trivial
              clear hK K
              try simp only [kP, kA, kZ, kS]
              have hR3 := HRow.out u8 (rs ++ ss.take kk) a8 c8 (ss.drop kk) (some ⟨g, o, none⟩) 0 HU8.out HR8.out (RowsR.empty (by rw [List.drop_eq_nil_of_le (by omega)]) (Nat.zero_le _)) (by have := HS1.out.1; rw [List.length_append, hst, List.length_drop]; omega) (fun y hy => HX.out y ((List.mem_append.1 hy).elim (fun h => (List.mem_append.1 h).elim (fun h => List.mem_append_left _ h) (fun h => List.mem_append_right _ (List.mem_of_mem_take h))) (fun h => List.mem_append_right _ (List.mem_of_mem_drop h))))
              rw [List.length_drop, HML.out, show ss.length - kk = 0 by omega] at hR3
              refine wpAnyH_ready (rs := [10]) (by kernel_rfl) (by simp) ?_
              refine AllReadyH.cons (o := { dst := some 59, op := Op.call { callee := Callee.value (Operand.func 26), args := #[Operand.tmp 55, Operand.tmp 58], argTypes := #[22, 22] }, type := 3, pos := "law.go:106", after := #[{ on := 6, ground := Ground.data }, { on := 9, ground := Ground.data }, { on := 6, ground := Ground.chain }], guard := none }) rfl (fun K hK => ?_) AllReadyH.nil
              go_simp
              go_at_call 26
              with_reducible refine hR3.mono ?_
              rintro e w3 ⟨⟨rest, rfl, HP3⟩, HW3⟩
              go_wp2_with fail
              refine hK.out _ _ ?_ (fun hHeld => ?_)
              · exact trivial
              clear hK K
              try simp only [kP, kA, kZ, kS]
              refine tkY 11 (.int .i64 rest) ?_
              try simp only [kP, kA, kZ, kS]
              refine wpAnyH_done (by kernel_rfl) ?_ _
              clear hHeld hR3
              have hpt := (HP1.out.parts2 (m := kk) (by rw [List.length_map]; omega) (by have := HP3.out; rw [List.map_append, List.map_take, List.map_drop] at this; exact this)).1 hN
              subst hpt
              go_wp2_with (first | (go_at_call 23; with_reducible refine (HWk.out _ HW3.out).mono ?_; rintro e wz ⟨rfl, HBz⟩))
              go_ret
              exact ⟨rfl, HBz.out⟩
            · have hck2 : ¬ c' = kk := fun e => hck e.symm
              refine wp_region_held_drew (S := fun _ => True) (by kernel_rfl) trivial (fun hHeld => ?_)
              refine tkY 1 (.slice a rs.length c) ?_
              try simp only [kP, kA, kZ, kS]
              refine tkY 3 (.slice (some ⟨g, o, none⟩) ss.length c') ?_
              try simp only [kP, kA, kZ, kS]
              refine tkY 4 (.int .i64 kk) ?_
              try simp only [kP, kA, kZ, kS]
              refine tkY 5 (.slice (some ⟨g, o, none⟩) kk c') ?_
              try simp only [kP, kA, kZ, kS]
              refine tkY 7 (.slice (some ⟨g, o, none⟩) ss.length c') ?_
              try simp only [kP, kA, kZ, kS]
              refine tkY 8 (.int .i64 kk) ?_
              try simp only [kP, kA, kZ, kS]
              refine tkY 9 (.slice (some ⟨g, o + kk, none⟩) (ss.length - kk) (c' - kk)) ?_
              try simp only [kP, kA, kZ, kS]
              refine wpAnyH_ready (rs := [0]) (by kernel_rfl) (by simp) ?_
              refine AllReadyH.cons (o := { dst := some 49, op := Op.buildSlice 22 0 #[], type := 22, pos := "law.go:106", after := #[], guard := none }) rfl (fun K hK => ?_) AllReadyH.nil
              go_simp
              refine hK.out _ _ ?_ (fun hHeld => ?_)
              · exact trivial
              clear hK K
              try simp only [kP, kA, kZ, kS]
              have hz0 := rows_zero w2.drew
              have hbz : Below w.heap.size w (w2.drew.alloc (.cells #[] 23)) := HW2.out.drew.alloc HW2.out.size _
              refine wpAnyH_ready (rs := [2]) (by kernel_rfl) (by simp) ?_
              refine AllReadyH.cons (o := { dst := some 51, op := Op.call { callee := Callee.builtin Builtin.append, args := #[Operand.tmp 49, Operand.tmp 50], argTypes := #[22, 22] }, type := 22, pos := "law.go:106", after := #[{ on := 0, ground := Ground.data }, { on := 1, ground := Ground.data }], guard := none }) rfl (fun K hK => ?_) AllReadyH.nil
              refine step_appR rfl _ _ rfl rfl w2.heap.size _ [] rs a c (by rfl) (by rfl) hz0 (HR.out _ hbz) (by simp) (by simp; omega) ?_
              intro v6 u6 hr6 hg6
              rw [List.nil_append] at hr6
              have HU6 : Hid (Below w.heap.size w u6) := hbz.grown hg6 hbz.size (fun k e => by cases e; exact HW2.out.size)
              have HZ6 : Hid (w2.heap.size ≤ u6.heap.size) := by have := hg6.size; simp at this; show _ ≤ _; omega
              obtain ⟨a6, c6, rfl, _⟩ := own_at hr6
              have HR6 : Hid (RowsO u6 w2.heap.size rs (.slice a6 rs.length c6)) := hr6
              clear hr6 hg6 hz0 hbz
              refine hK.out _ _ ?_ (fun hHeld => ?_)
              · exact trivial
              clear hK K
              try simp only [kP, kA, kZ, kS]
              refine wpAnyH_ready (rs := [6]) (by kernel_rfl) (by simp) ?_
              refine AllReadyH.cons (o := { dst := some 55, op := Op.call { callee := Callee.builtin Builtin.append, args := #[Operand.tmp 51, Operand.tmp 54], argTypes := #[22, 22] }, type := 22, pos := "law.go:106", after := #[{ on := 2, ground := Ground.data }, { on := 5, ground := Ground.data }, { on := 2, ground := Ground.chain }], guard := none }) rfl (fun K hK => ?_) AllReadyH.nil
              refine step_appR rfl _ _ rfl rfl w2.heap.size _ rs (ss.take kk) (some ⟨g, o, none⟩) c' (by rfl) (by rw [hst]; rfl) HR6.out ((HS.out _ HU6.out).take kk) HZ6.out (by rw [hst]; omega) ?_
              intro v8 u8 hr8 hg8
              have HU8 : Hid (Below w.heap.size w u8) := HU6.out.grown hg8 HU6.out.size (fun k e => Nat.le_trans HW2.out.size (own_lt HR6.out e).1)
              obtain ⟨ml, hml⟩ : ∃ ml, (rs ++ (ss.take kk)).length = ml := ⟨_, rfl⟩
              have HML := Lib.hid hml
              obtain ⟨a8, c8, e8, _⟩ := own_at hr8
              rw [hml] at e8
              subst e8
              rw [← hml] at hr8
              have HR8 : Hid (RowsR u8 (rs ++ (ss.take kk)) a8 c8) := RowsO.rows hr8 (fun y hy => (List.mem_append.1 hy).elim ((HR.out _ HU8.out).ok y) (fun h => (HS.out _ HU8.out).ok y (List.mem_of_mem_take h)))
              clear hr8 hg8 hml
              refine hK.out _ _ ?_ (fun hHeld => ?_)
              · exact trivial
              clear hK K
              try simp only [kP, kA, kZ, kS]
              have hR3 := HRow.out u8 (rs ++ ss.take kk) a8 c8 (ss.drop kk) (some ⟨g, o + kk, none⟩) (c' - kk) HU8.out HR8.out ((HS.out _ HU8.out).dropAt kk (by omega)) (by have := HS1.out.1; rw [List.length_append, hst, List.length_drop]; omega) (fun y hy => HX.out y ((List.mem_append.1 hy).elim (fun h => (List.mem_append.1 h).elim (fun h => List.mem_append_left _ h) (fun h => List.mem_append_right _ (List.mem_of_mem_take h))) (fun h => List.mem_append_right _ (List.mem_of_mem_drop h))))
              rw [List.length_drop, HML.out] at hR3
              refine wpAnyH_ready (rs := [10]) (by kernel_rfl) (by simp) ?_
              refine AllReadyH.cons (o := { dst := some 59, op := Op.call { callee := Callee.value (Operand.func 26), args := #[Operand.tmp 55, Operand.tmp 58], argTypes := #[22, 22] }, type := 3, pos := "law.go:106", after := #[{ on := 6, ground := Ground.data }, { on := 9, ground := Ground.data }, { on := 6, ground := Ground.chain }], guard := none }) rfl (fun K hK => ?_) AllReadyH.nil
              go_simp
              go_at_call 26
              with_reducible refine hR3.mono ?_
              rintro e w3 ⟨⟨rest, rfl, HP3⟩, HW3⟩
              go_wp2_with fail
              refine hK.out _ _ ?_ (fun hHeld => ?_)
              · exact trivial
              clear hK K
              try simp only [kP, kA, kZ, kS]
              refine tkY 11 (.int .i64 rest) ?_
              try simp only [kP, kA, kZ, kS]
              refine wpAnyH_done (by kernel_rfl) ?_ _
              clear hHeld hR3
              have hpt := (HP1.out.parts2 (m := kk) (by rw [List.length_map]; omega) (by have := HP3.out; rw [List.map_append, List.map_take, List.map_drop] at this; exact this)).1 hN
              subst hpt
              go_wp2_with (first | (go_at_call 23; with_reducible refine (HWk.out _ HW3.out).mono ?_; rintro e wz ⟨rfl, HBz⟩))
              go_ret
              exact ⟨rfl, HBz.out⟩
          · have d1 : decide (0 ≤ at0) = true := decide_eq_true (by omega)
            have d2 : decide (at0 < (kk : Int)) = false := decide_eq_false (by omega)
            have HPt : Hid (0 ≤ at0 ∧ (kk : Int) ≤ at0 ∧ 0 ≤ at0) := by
              refine ⟨?_, ?_, ?_⟩ <;> omega
            go_wp2_with fail
            by_cases hck : kk = c'
            · subst hck
              refine wp_region_held_drew (S := fun _ => True) (by kernel_rfl) trivial (fun hHeld => ?_)
              refine tkY 1 (.slice a rs.length c) ?_
              try simp only [kP, kA, kZ, kS]
              refine tkY 3 (.slice (some ⟨g, o, none⟩) ss.length kk) ?_
              try simp only [kP, kA, kZ, kS]
              refine tkY 4 (.int .i64 kk) ?_
              try simp only [kP, kA, kZ, kS]
              refine tkY 5 (.slice (some ⟨g, o, none⟩) kk kk) ?_
              try simp only [kP, kA, kZ, kS]
              refine tkY 7 (.slice (some ⟨g, o, none⟩) ss.length kk) ?_
              try simp only [kP, kA, kZ, kS]
              refine tkY 8 (.int .i64 kk) ?_
              try simp only [kP, kA, kZ, kS]
              refine tkY 9 (.slice (some ⟨g, o, none⟩) 0 0) ?_
              try simp only [kP, kA, kZ, kS]
              refine wpAnyH_ready (rs := [0]) (by kernel_rfl) (by simp) ?_
              refine AllReadyH.cons (o := { dst := some 49, op := Op.buildSlice 22 0 #[], type := 22, pos := "law.go:106", after := #[], guard := none }) rfl (fun K hK => ?_) AllReadyH.nil
              go_simp
              refine hK.out _ _ ?_ (fun hHeld => ?_)
              · exact trivial
              clear hK K
              try simp only [kP, kA, kZ, kS]
              have hz0 := rows_zero w2.drew
              have hbz : Below w.heap.size w (w2.drew.alloc (.cells #[] 23)) := HW2.out.drew.alloc HW2.out.size _
              refine wpAnyH_ready (rs := [2]) (by kernel_rfl) (by simp) ?_
              refine AllReadyH.cons (o := { dst := some 51, op := Op.call { callee := Callee.builtin Builtin.append, args := #[Operand.tmp 49, Operand.tmp 50], argTypes := #[22, 22] }, type := 22, pos := "law.go:106", after := #[{ on := 0, ground := Ground.data }, { on := 1, ground := Ground.data }], guard := none }) rfl (fun K hK => ?_) AllReadyH.nil
              refine step_appR rfl _ _ rfl rfl w2.heap.size _ [] rs a c (by rfl) (by rfl) hz0 (HR.out _ hbz) (by simp) (by simp; omega) ?_
              intro v6 u6 hr6 hg6
              rw [List.nil_append] at hr6
              have HU6 : Hid (Below w.heap.size w u6) := hbz.grown hg6 hbz.size (fun k e => by cases e; exact HW2.out.size)
              have HZ6 : Hid (w2.heap.size ≤ u6.heap.size) := by have := hg6.size; simp at this; show _ ≤ _; omega
              obtain ⟨a6, c6, rfl, _⟩ := own_at hr6
              have HR6 : Hid (RowsO u6 w2.heap.size rs (.slice a6 rs.length c6)) := hr6
              clear hr6 hg6 hz0 hbz
              refine hK.out _ _ ?_ (fun hHeld => ?_)
              · exact trivial
              clear hK K
              try simp only [kP, kA, kZ, kS]
              refine wpAnyH_ready (rs := [6]) (by kernel_rfl) (by simp) ?_
              refine AllReadyH.cons (o := { dst := some 55, op := Op.call { callee := Callee.builtin Builtin.append, args := #[Operand.tmp 51, Operand.tmp 54], argTypes := #[22, 22] }, type := 22, pos := "law.go:106", after := #[{ on := 2, ground := Ground.data }, { on := 5, ground := Ground.data }, { on := 2, ground := Ground.chain }], guard := none }) rfl (fun K hK => ?_) AllReadyH.nil
              refine step_appR rfl _ _ rfl rfl w2.heap.size _ rs (ss.take kk) (some ⟨g, o, none⟩) kk (by rfl) (by rw [hst]; rfl) HR6.out ((HS.out _ HU6.out).take kk) HZ6.out (by rw [hst]; omega) ?_
              intro v8 u8 hr8 hg8
              have HU8 : Hid (Below w.heap.size w u8) := HU6.out.grown hg8 HU6.out.size (fun k e => Nat.le_trans HW2.out.size (own_lt HR6.out e).1)
              obtain ⟨ml, hml⟩ : ∃ ml, (rs ++ (ss.take kk)).length = ml := ⟨_, rfl⟩
              have HML := Lib.hid hml
              obtain ⟨a8, c8, e8, _⟩ := own_at hr8
              rw [hml] at e8
              subst e8
              rw [← hml] at hr8
              have HR8 : Hid (RowsR u8 (rs ++ (ss.take kk)) a8 c8) := RowsO.rows hr8 (fun y hy => (List.mem_append.1 hy).elim ((HR.out _ HU8.out).ok y) (fun h => (HS.out _ HU8.out).ok y (List.mem_of_mem_take h)))
              clear hr8 hg8 hml
              refine hK.out _ _ ?_ (fun hHeld => ?_)
              · exact trivial
              clear hK K
              try simp only [kP, kA, kZ, kS]
              have hR3 := HRow.out u8 (rs ++ ss.take kk) a8 c8 (ss.drop kk) (some ⟨g, o, none⟩) 0 HU8.out HR8.out (RowsR.empty (by rw [List.drop_eq_nil_of_le (by omega)]) (Nat.zero_le _)) (by have := HS1.out.1; rw [List.length_append, hst, List.length_drop]; omega) (fun y hy => HX.out y ((List.mem_append.1 hy).elim (fun h => (List.mem_append.1 h).elim (fun h => List.mem_append_left _ h) (fun h => List.mem_append_right _ (List.mem_of_mem_take h))) (fun h => List.mem_append_right _ (List.mem_of_mem_drop h))))
              rw [List.length_drop, HML.out, show ss.length - kk = 0 by omega] at hR3
              refine wpAnyH_ready (rs := [10]) (by kernel_rfl) (by simp) ?_
              refine AllReadyH.cons (o := { dst := some 59, op := Op.call { callee := Callee.value (Operand.func 26), args := #[Operand.tmp 55, Operand.tmp 58], argTypes := #[22, 22] }, type := 3, pos := "law.go:106", after := #[{ on := 6, ground := Ground.data }, { on := 9, ground := Ground.data }, { on := 6, ground := Ground.chain }], guard := none }) rfl (fun K hK => ?_) AllReadyH.nil
              go_simp
              go_at_call 26
              with_reducible refine hR3.mono ?_
              rintro e w3 ⟨⟨rest, rfl, HP3⟩, HW3⟩
              go_wp2_with fail
              refine hK.out _ _ ?_ (fun hHeld => ?_)
              · exact trivial
              clear hK K
              try simp only [kP, kA, kZ, kS]
              refine tkY 11 (.int .i64 rest) ?_
              try simp only [kP, kA, kZ, kS]
              refine wpAnyH_done (by kernel_rfl) ?_ _
              clear hHeld hR3
              have hpt := (HP1.out.parts2 (m := kk) (by rw [List.length_map]; omega) (by have := HP3.out; rw [List.map_append, List.map_take, List.map_drop] at this; exact this)).2 HPt.out.1 (Int.not_lt.2 HPt.out.2.1)
              subst hpt
              have dq : ((at0 - (kk : Int)) == (at0 - (kk : Int))) = true := eq_t rfl
              have dN : decide (at0 < 0) = false := decide_eq_false (Int.not_lt.2 HPt.out.2.2)
              go_wp2_with (first | (go_at_call 23; with_reducible refine (HWk.out _ HW3.out).mono ?_; rintro e wz ⟨rfl, HBz⟩))
              go_ret
              exact ⟨rfl, HBz.out⟩
            · have hck2 : ¬ c' = kk := fun e => hck e.symm
              refine wp_region_held_drew (S := fun _ => True) (by kernel_rfl) trivial (fun hHeld => ?_)
              refine tkY 1 (.slice a rs.length c) ?_
              try simp only [kP, kA, kZ, kS]
              refine tkY 3 (.slice (some ⟨g, o, none⟩) ss.length c') ?_
              try simp only [kP, kA, kZ, kS]
              refine tkY 4 (.int .i64 kk) ?_
              try simp only [kP, kA, kZ, kS]
              refine tkY 5 (.slice (some ⟨g, o, none⟩) kk c') ?_
              try simp only [kP, kA, kZ, kS]
              refine tkY 7 (.slice (some ⟨g, o, none⟩) ss.length c') ?_
              try simp only [kP, kA, kZ, kS]
              refine tkY 8 (.int .i64 kk) ?_
              try simp only [kP, kA, kZ, kS]
              refine tkY 9 (.slice (some ⟨g, o + kk, none⟩) (ss.length - kk) (c' - kk)) ?_
              try simp only [kP, kA, kZ, kS]
              refine wpAnyH_ready (rs := [0]) (by kernel_rfl) (by simp) ?_
              refine AllReadyH.cons (o := { dst := some 49, op := Op.buildSlice 22 0 #[], type := 22, pos := "law.go:106", after := #[], guard := none }) rfl (fun K hK => ?_) AllReadyH.nil
              go_simp
              refine hK.out _ _ ?_ (fun hHeld => ?_)
              · exact trivial
              clear hK K
              try simp only [kP, kA, kZ, kS]
              have hz0 := rows_zero w2.drew
              have hbz : Below w.heap.size w (w2.drew.alloc (.cells #[] 23)) := HW2.out.drew.alloc HW2.out.size _
              refine wpAnyH_ready (rs := [2]) (by kernel_rfl) (by simp) ?_
              refine AllReadyH.cons (o := { dst := some 51, op := Op.call { callee := Callee.builtin Builtin.append, args := #[Operand.tmp 49, Operand.tmp 50], argTypes := #[22, 22] }, type := 22, pos := "law.go:106", after := #[{ on := 0, ground := Ground.data }, { on := 1, ground := Ground.data }], guard := none }) rfl (fun K hK => ?_) AllReadyH.nil
              refine step_appR rfl _ _ rfl rfl w2.heap.size _ [] rs a c (by rfl) (by rfl) hz0 (HR.out _ hbz) (by simp) (by simp; omega) ?_
              intro v6 u6 hr6 hg6
              rw [List.nil_append] at hr6
              have HU6 : Hid (Below w.heap.size w u6) := hbz.grown hg6 hbz.size (fun k e => by cases e; exact HW2.out.size)
              have HZ6 : Hid (w2.heap.size ≤ u6.heap.size) := by have := hg6.size; simp at this; show _ ≤ _; omega
              obtain ⟨a6, c6, rfl, _⟩ := own_at hr6
              have HR6 : Hid (RowsO u6 w2.heap.size rs (.slice a6 rs.length c6)) := hr6
              clear hr6 hg6 hz0 hbz
              refine hK.out _ _ ?_ (fun hHeld => ?_)
              · exact trivial
              clear hK K
              try simp only [kP, kA, kZ, kS]
              refine wpAnyH_ready (rs := [6]) (by kernel_rfl) (by simp) ?_
              refine AllReadyH.cons (o := { dst := some 55, op := Op.call { callee := Callee.builtin Builtin.append, args := #[Operand.tmp 51, Operand.tmp 54], argTypes := #[22, 22] }, type := 22, pos := "law.go:106", after := #[{ on := 2, ground := Ground.data }, { on := 5, ground := Ground.data }, { on := 2, ground := Ground.chain }], guard := none }) rfl (fun K hK => ?_) AllReadyH.nil
              refine step_appR rfl _ _ rfl rfl w2.heap.size _ rs (ss.take kk) (some ⟨g, o, none⟩) c' (by rfl) (by rw [hst]; rfl) HR6.out ((HS.out _ HU6.out).take kk) HZ6.out (by rw [hst]; omega) ?_
              intro v8 u8 hr8 hg8
              have HU8 : Hid (Below w.heap.size w u8) := HU6.out.grown hg8 HU6.out.size (fun k e => Nat.le_trans HW2.out.size (own_lt HR6.out e).1)
              obtain ⟨ml, hml⟩ : ∃ ml, (rs ++ (ss.take kk)).length = ml := ⟨_, rfl⟩
              have HML := Lib.hid hml
              obtain ⟨a8, c8, e8, _⟩ := own_at hr8
              rw [hml] at e8
              subst e8
              rw [← hml] at hr8
              have HR8 : Hid (RowsR u8 (rs ++ (ss.take kk)) a8 c8) := RowsO.rows hr8 (fun y hy => (List.mem_append.1 hy).elim ((HR.out _ HU8.out).ok y) (fun h => (HS.out _ HU8.out).ok y (List.mem_of_mem_take h)))
              clear hr8 hg8 hml
              refine hK.out _ _ ?_ (fun hHeld => ?_)
              · exact trivial
              clear hK K
              try simp only [kP, kA, kZ, kS]
              have hR3 := HRow.out u8 (rs ++ ss.take kk) a8 c8 (ss.drop kk) (some ⟨g, o + kk, none⟩) (c' - kk) HU8.out HR8.out ((HS.out _ HU8.out).dropAt kk (by omega)) (by have := HS1.out.1; rw [List.length_append, hst, List.length_drop]; omega) (fun y hy => HX.out y ((List.mem_append.1 hy).elim (fun h => (List.mem_append.1 h).elim (fun h => List.mem_append_left _ h) (fun h => List.mem_append_right _ (List.mem_of_mem_take h))) (fun h => List.mem_append_right _ (List.mem_of_mem_drop h))))
              rw [List.length_drop, HML.out] at hR3
              refine wpAnyH_ready (rs := [10]) (by kernel_rfl) (by simp) ?_
              refine AllReadyH.cons (o := { dst := some 59, op := Op.call { callee := Callee.value (Operand.func 26), args := #[Operand.tmp 55, Operand.tmp 58], argTypes := #[22, 22] }, type := 3, pos := "law.go:106", after := #[{ on := 6, ground := Ground.data }, { on := 9, ground := Ground.data }, { on := 6, ground := Ground.chain }], guard := none }) rfl (fun K hK => ?_) AllReadyH.nil
              go_simp
              go_at_call 26
              with_reducible refine hR3.mono ?_
              rintro e w3 ⟨⟨rest, rfl, HP3⟩, HW3⟩
              go_wp2_with fail
              refine hK.out _ _ ?_ (fun hHeld => ?_)
              · exact trivial
              clear hK K
              try simp only [kP, kA, kZ, kS]
              refine tkY 11 (.int .i64 rest) ?_
              try simp only [kP, kA, kZ, kS]
              refine wpAnyH_done (by kernel_rfl) ?_ _
              clear hHeld hR3
              have hpt := (HP1.out.parts2 (m := kk) (by rw [List.length_map]; omega) (by have := HP3.out; rw [List.map_append, List.map_take, List.map_drop] at this; exact this)).2 HPt.out.1 (Int.not_lt.2 HPt.out.2.1)
              subst hpt
              have dq : ((at0 - (kk : Int)) == (at0 - (kk : Int))) = true := eq_t rfl
              have dN : decide (at0 < 0) = false := decide_eq_false (Int.not_lt.2 HPt.out.2.2)
              go_wp2_with (first | (go_at_call 23; with_reducible refine (HWk.out _ HW3.out).mono ?_; rintro e wz ⟨rfl, HBz⟩))
              go_ret
              exact ⟨rfl, HBz.out⟩
end Go.Proofs.YtggighikemhnfaaDoor.Tm
