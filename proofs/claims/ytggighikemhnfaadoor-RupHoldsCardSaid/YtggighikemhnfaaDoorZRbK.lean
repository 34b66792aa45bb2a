/- RupHolds. -/
import Derived.Test.YtggighikemhnfaaDoorZRbJ
import Derived.Test.YtggighikemhnfaaDoorZUoM
import Derived.Test.YtggighikemhnfaaDoorZUoO
namespace Go.Proofs.YtggighikemhnfaaDoor.Tm
open Go.RowKit
set_option linter.unusedVariables false
theorem rv_total {vs : List Int} {x : Int} (hl : vs.length = 60) (hv : ∀ v ∈ vs, v = 1 ∨ v = 2) (h0 : 0 ≤ x) (h1 : x < 120) (hn : rvM vs x ≠ 1) : rvM vs (negM x) = 1 := by
  have hn0 := negM_nonneg h0
  unfold rvM at hn ⊢
  rw [if_neg (by omega)] at hn ⊢
  unfold valM at hn ⊢
  rw [negM_half]
  have hp : negM x % 2 = 1 - x % 2 := by unfold negM; split <;> omega
  obtain ⟨v, hvv⟩ : ∃ v, vs[(x / 2).toNat]? = some v := ⟨_, List.getElem?_eq_getElem (by omega)⟩
  rw [hvv] at hn ⊢
  dsimp only at hn ⊢
  have hv2 := hv v (List.mem_of_getElem? hvv)
  rw [if_pos hv2] at hn ⊢
  rw [hp]
  rcases (show x % 2 = 0 ∨ x % 2 = 1 by omega) with g | g
  · rw [g] at hn ⊢
    rw [if_neg (by decide)] at hn
    rw [if_pos (by decide)]
    rcases hv2 with e | e
    · exact absurd e hn
    · rw [e]; rfl
  · rw [g] at hn ⊢
    rw [if_pos rfl] at hn
    rw [if_neg (by decide)]
    rcases hv2 with e | e
    · exact e
    · rw [e] at hn; exact absurd rfl hn
theorem fol_holds {cls : List (List Int)} {c vs : List Int} (h : Fol cls c) (hl : vs.length = 60) (hv : ∀ v ∈ vs, v = 1 ∨ v = 2) (hm : ∀ d ∈ cls, ∀ x ∈ d, 0 ≤ x ∧ x < 120) (hc : ∀ x ∈ c, 0 ≤ x ∧ x < 120) (hh : ∀ d ∈ cls, ∃ x ∈ d, rvM vs x = 1) : ∃ x ∈ c, rvM vs x = 1 := by
  by_cases hn : ∃ x ∈ c, rvM vs x = 1
  · exact hn
  · obtain ⟨r, k, hr, hk⟩ := h
    refine absurd (hr.sound (fun d hd x hx => mayU_iff.2 (by have := hm d hd x hx; omega)) hh (fun x hx _ => ?_)).2 hk
    obtain ⟨z, hz, rfl⟩ := List.mem_map.1 hx
    exact rv_total hl hv (hc z hz).1 (hc z hz).2 (fun e => hn ⟨z, hz, e⟩)
theorem fols_hold {cls st : List (List Int)} {vs : List Int} (hl : vs.length = 60) (hv : ∀ v ∈ vs, v = 1 ∨ v = 2) (hm : ∀ d ∈ cls ++ st, ∀ x ∈ d, 0 ≤ x ∧ x < 120) (hh : ∀ d ∈ cls, ∃ x ∈ d, rvM vs x = 1) {n : Nat} (hF : ∀ i, i < n → FolAt cls st i) : ∀ i, i < n → ∀ c, st[i]? = some c → ∃ x ∈ c, rvM vs x = 1 := by
  intro i
  induction i using Nat.strongRecOn with
  | ind i ih =>
    intro hi c hc
    obtain ⟨c', h1, h2⟩ := hF i hi
    rw [hc] at h1
    cases h1
    refine fol_holds h2 hl hv (fun d hd => ?_) (hm c (List.mem_append_right _ (List.mem_of_getElem? hc))) (fun d hd => ?_)
    · exact hm d ((List.mem_append.1 hd).elim (fun h => List.mem_append_left _ h) (fun h => List.mem_append_right _ (List.mem_of_mem_take h)))
    · rcases List.mem_append.1 hd with h | h
      · exact hh d h
      · obtain ⟨j, hj⟩ := List.getElem?_of_mem h
        rw [List.getElem?_take] at hj
        split at hj
        · rename_i hji
          exact ih j hji (by omega) d hj
        · cases hj
theorem ref_not {cls st : List (List Int)} {vs : List Int} (hl : vs.length = 60) (hv : ∀ v ∈ vs, v = 1 ∨ v = 2) (hm : ∀ d ∈ cls ++ st, ∀ x ∈ d, 0 ≤ x ∧ x < 120) (hh : ∀ d ∈ cls, ∃ x ∈ d, rvM vs x = 1) : ¬ RefP cls st := fun ⟨h1, h2⟩ => by
  rcases h2 with ⟨_, hA⟩ | ⟨j, hj, _⟩
  · rw [List.getLast?_eq_getElem?] at h1
    have hlt := (List.getElem?_eq_some_iff.1 h1).1
    obtain ⟨x, hx, _⟩ := fols_hold hl hv hm hh hA _ hlt [] h1
    cases hx
  · omega
theorem RHolds2_any (rs : List RowD) (a : Option Addr) (c : Nat) (vs : List Int) (b : Option Addr) (d : Nat) (w : World) (hR : RowsR w rs a c) (hV : ValR w vs b d) :
    Calls Tryd.prog 34 #[.slice a rs.length c, .slice b vs.length d] w fun e w' => (∃ q : Bool, e = .returned (.bool q) ∧ (q = true ↔ ∀ y ∈ rs, ∃ x ∈ y.xs, rvM vs x = 1)) ∧ Below w.heap.size w w' := by
  have HR : Hid (∀ V, Below w.heap.size w V → RowsR V rs a c) := fun V hV => hR.below hV
  have HSt : Hid (∀ V y, Below w.heap.size w V → y ∈ rs → Calls Tryd.prog 57 #[.slice y.a y.xs.length y.c, .slice b vs.length d] V fun e w' => (∃ s l, e = .returned (.tuple #[.int .i8 s, .int .i64 l]) ∧ StP vs y.xs s l) ∧ Below V.heap.size V w') := fun V y hB hy => RState_any vs b d y.xs y.a y.c V ((hR.below hB).ok y hy) (hV.below hB)
  have l1 : rs.length ≤ c := hR.le
  have c1 : rs.length ≤ 9223372036854775807 := by have := hR.cap; simp only [maxLen] at this; omega
  have HB0 : Hid (Below w.heap.size w w) := Below.refl _ _
  clear hR hV
  go_enter Tryd.func34, Tryd.ntmps34
  go_wp2
  go_loopw [5] (fun iv wr => ∃ k : Nat, k ≤ rs.length ∧ iv = .int .i64 k ∧ Hid (∀ j y, j < k → rs[j]? = some y → ∃ x ∈ y.xs, rvM vs x = 1) ∧ Hid (Below w.heap.size w wr)) (fun iv _ => rs.length - (intOf iv).toNat)
  case atStart => exact ⟨0, Nat.zero_le _, rfl, (fun j y h _ => absurd h (by omega)), HB0⟩
  case round =>
    obtain ⟨k, hkl, rfl, HE, HW⟩ := hrel
    by_cases hlt : k < rs.length
    · obtain ⟨y, hy⟩ : ∃ y, rs[k]? = some y := ⟨_, List.getElem?_eq_getElem hlt⟩
      obtain ⟨g, o, rfl, hg, q0⟩ := (HR.out wr HW.out).cell hy
      have HY := Lib.hid hy
      have HS := Lib.hid (HSt.out wr y HW.out (List.mem_of_getElem? hy))
      clear hy
      go_wp2_with fail
      with_reducible refine HS.out.mono ?_
      rintro e wv ⟨⟨s, l, rfl, hs⟩, hb⟩
      have HSp := Lib.hid hs
      have HWv : Hid (Below w.heap.size w wv) := ball HW.out hb
      clear hs hb
      by_cases h0 : s = 0
      · have d0 : (s != 0) = false := ne_f h0
        have HN : Hid (∀ j z, j < k + 1 → rs[j]? = some z → ∃ x ∈ z.xs, rvM vs x = 1) := fun j z hj h1 => by
          by_cases e : j = k
          · subst e
            rw [HY.out] at h1
            cases h1
            rcases HSp.out with h | ⟨_, h | h | h⟩
            · exact h.2
            · exact absurd h.1 (by omega)
            · exact absurd h.1 (by omega)
            · exact absurd h.1 (by omega)
          · exact HE.out j z (by omega) h1
        clear h0
        go_wp2_with fail
        go_roundw
        case rel => exact ⟨k + 1, by omega, by go_num, HN, HWv⟩
        case measure => simp [intOf]; omega
      · have d0 : (s != 0) = true := ne_t h0
        have HNo : Hid (¬ ∀ y ∈ rs, ∃ x ∈ y.xs, rvM vs x = 1) := fun h => by
          obtain ⟨x, hx, h1⟩ := h y (List.mem_of_getElem? HY.out)
          rcases HSp.out with h2 | ⟨h2, _⟩
          · exact h0 h2.1
          · exact h2 x hx h1
        clear h0
        go_wp2_with fail
        go_ret
        exact ⟨⟨false, rfl, ⟨fun e => (by cases e), fun e => absurd e HNo.out⟩⟩, HWv.out⟩
    · obtain rfl : k = rs.length := by omega
      go_wp2_with fail
      go_ret
      exact ⟨⟨true, rfl, ⟨fun _ y hy => by
        obtain ⟨j, hj⟩ := List.getElem?_of_mem hy
        exact HE.out j y (List.getElem?_eq_some_iff.1 hj).1 hj, fun _ => rfl⟩⟩, HW.out⟩
def FuK (w : World) (vs : List Int) (k : Nat) (U : World) : Prop := U.heap[w.heap.size]? = some (.cells (valRow vs) 31 (0, 0)) ∧ vs.length = 60 ∧ (∀ j v, j < k → vs[j]? = some v → v = 1 ∨ v = 2) ∧ Below w.heap.size w U
theorem FuK.put {w U : World} {vs : List Int} {k : Nat} {x : Int} (h : FuK w vs k U) (hx : x = 1 ∨ x = 2) : FuK w (vs.set k x) (k + 1) (U.setCell ⟨w.heap.size, k, none⟩ (.int .i8 x)) := by
  refine ⟨val_set h.1 k x, by rw [List.length_set]; exact h.2.1, fun j v hj hv => ?_, below_set h.2.2.2 (Nat.le_refl _) _⟩
  rw [List.getElem?_set] at hv
  by_cases e : k = j
  · rw [if_pos e] at hv
    split at hv
    · cases hv; exact hx
    · cases hv
  · rw [if_neg e] at hv
    exact h.2.2.1 j v (by omega) hv
theorem FuK.again {w U : World} {vs : List Int} {k : Nat} {x : Int} (h : FuK w vs (k + 1) U) (hx : x = 1 ∨ x = 2) : FuK w (vs.set k x) (k + 1) (U.setCell ⟨w.heap.size, k, none⟩ (.int .i8 x)) := by
  refine ⟨val_set h.1 k x, by rw [List.length_set]; exact h.2.1, fun j v hj hv => ?_, below_set h.2.2.2 (Nat.le_refl _) _⟩
  rw [List.getElem?_set] at hv
  by_cases e : k = j
  · rw [if_pos e] at hv
    split at hv
    · cases hv; exact hx
    · cases hv
  · rw [if_neg e] at hv
    exact h.2.2.1 j v hj hv
set_option maxRecDepth 100000 in
set_option maxHeartbeats 1000000 in
theorem full_any (bs : List Bool) (ba : Option Addr) (bc : Nat) (w : World) (hbs : BoolsR w bs ba bc) :
    Calls Tryd.prog 33 #[.slice ba bs.length bc] w fun e w' => ∃ vs : List Int, vs.length = 60 ∧ e = .returned (.slice (some ⟨w.heap.size, 0, none⟩) 60 60) ∧ Hid ((∀ v ∈ vs, v = 1 ∨ v = 2) ∧ ValR w' vs (some ⟨w.heap.size, 0, none⟩) 60 ∧ Below w.heap.size w w') := by
  have HBo : Hid (∀ V, Below w.heap.size w V → BoolsR V bs ba bc) := fun V hV => hbs.below hV
  have HBr : Hid (Below w.heap.size w w) := Below.refl _ _
  have hbl : bs.length ≤ 9223372036854775807 := by have := hbs.le; have := hbs.cap; simp only [maxLen] at this; omega
  have hmk := make_val 60 60 rfl (by omega)
  have HF0 : Hid (FuK w (List.replicate 60 0) 0 (w.alloc (.cells (valRow (List.replicate 60 0)) 31))) := ⟨heap_alloc_new w _, by simp, fun j v h => absurd h (by omega), (Below.refl _ w).alloc (Nat.le_refl _) _⟩
  clear hbs
  go_enter Tryd.func33, Tryd.ntmps33
  go_wp2
  go_loopw [8] (fun i wr => ∃ k : Nat, k ≤ 60 ∧ i = .int .i64 k ∧ Hid (∃ vs, FuK w vs k wr)) (fun i _ => 60 - (intOf i).toNat)
  case atStart => exact ⟨0, Nat.zero_le _, rfl, ⟨_, HF0.out⟩⟩
  case round =>
    clear HF0
    rename World => U
    obtain ⟨k, hk, rfl, HF⟩ := hrel
    obtain ⟨vs, hF⟩ := HF.out
    by_cases hlt : k < 60
    · obtain ⟨u, hu⟩ : ∃ u, vs[k]? = some u := ⟨_, List.getElem?_eq_getElem (by rw [hF.2.1]; exact hlt)⟩
      have q0 := val_cell hF.1 hu
      have qf := row_frozen hF.1 k
      have qz := (Array.getElem?_eq_some_iff.1 hF.1).1
      have hk6 : (k : Int) < 60 := by omega
      have h1 := hF.put (x := 2) (.inr rfl)
      have q1 := val_cell h1.1 (i := k) (x := 2) (by rw [List.getElem?_set, if_pos rfl, if_pos (by rw [hF.2.1]; exact hlt)])
      have qf1 := row_frozen h1.1 k
      by_cases hkb : k < bs.length
      · obtain ⟨v, hv⟩ : ∃ v, bs[k]? = some v := ⟨_, List.getElem?_eq_getElem hkb⟩
        have hkb2 : (k : Int) < (bs.length : Int) := by omega
        have db : decide ((k : Int) < (bs.length : Int)) = true := decide_eq_true hkb2
        obtain ⟨g, o, rfl, hg, r0⟩ := (HBo.out _ hF.2.2.2).cell hv
        obtain ⟨g1, o1, e1, hg1, _⟩ := (HBo.out _ HBr.out).cell hv
        cases e1
        have hgb : ¬ g = w.heap.size := by omega
        have hbc := (HBo.out _ HBr.out).le
        cases v with
        | true =>
          have HN : Hid (∃ vs, FuK w vs (k + 1) ((U.setCell ⟨w.heap.size, k, none⟩ (.int .i8 2)).setCell ⟨w.heap.size, k, none⟩ (.int .i8 1))) := ⟨_, h1.again (.inl rfl)⟩
          clear hv hF h1 HF hu
          go_wp2
          go_roundw
          case rel => exact ⟨k + 1, by omega, by go_num, HN⟩
          case measure => simp [intOf]; omega
        | false =>
          have HN : Hid (∃ vs, FuK w vs (k + 1) (U.setCell ⟨w.heap.size, k, none⟩ (.int .i8 2))) := ⟨_, h1⟩
          clear hv hF h1 HF hu
          go_wp2
          go_roundw
          case rel => exact ⟨k + 1, by omega, by go_num, HN⟩
          case measure => simp [intOf]; omega
      · have db : decide ((k : Int) < (bs.length : Int)) = false := decide_eq_false (by omega)
        have HN : Hid (∃ vs, FuK w vs (k + 1) (U.setCell ⟨w.heap.size, k, none⟩ (.int .i8 2))) := ⟨_, h1⟩
        clear hF h1 HF hu
        go_wp2
        go_roundw
        case rel => exact ⟨k + 1, by omega, by go_num, HN⟩
        case measure => simp [intOf]; omega
    · obtain rfl : k = 60 := by omega
      have hall : ∀ v ∈ vs, v = 1 ∨ v = 2 := fun v hv => by
        obtain ⟨j, hj⟩ := List.getElem?_of_mem hv
        exact hF.2.2.1 j v (by have := (List.getElem?_eq_some_iff.1 hj).1; have := hF.2.1; omega) hj
      have HE : Hid ((∀ v ∈ vs, v = 1 ∨ v = 2) ∧ ValR U vs (some ⟨w.heap.size, 0, none⟩) 60 ∧ Below w.heap.size w U) := by
        refine ⟨hall, ⟨by rw [hF.2.1]; exact Nat.le_refl _, by simp only [maxLen]; omega, fun _ => ⟨w.heap.size, 0, rfl, (Array.getElem?_eq_some_iff.1 hF.1).1, fun i v hv => ?_⟩, fun v hv => .inr (hall v hv)⟩, hF.2.2.2⟩
        rw [Nat.zero_add]
        rw [List.getElem?_map] at hv
        cases hx : vs[i]? with
        | none => rw [hx] at hv; cases hv
        | some x => rw [hx] at hv; cases hv; exact val_cell hF.1 hx
      have HLn : Hid (vs.length = 60) := hF.2.1
      clear hF HF hall
      go_wp2
      go_ret
      exact ⟨vs, HLn.out, rfl, HE⟩
set_option maxRecDepth 100000 in
set_option maxHeartbeats 4000000 in
theorem RupHolds_c (w : World) (rs : List RowD) (a : Option Addr) (c : Nat) (hR : RowsR w rs a c) (ss : List RowD) (a' : Option Addr) (c' : Nat) (hS : RowsR w ss a' c') (bs : List Bool) (ba : Option Addr) (bc : Nat) (hbs : BoolsR w bs ba bc) (hG : GC w) :
    Calls Tryd.prog 7 #[.slice a rs.length c, .slice a' ss.length c', .slice ba bs.length bc] w fun e w' => e = .returned (.bool true) ∧ Below w.heap.size w w' := by
  obtain ⟨cls, hcl⟩ : ∃ cls, rs.map (·.xs) = cls := ⟨_, rfl⟩
  obtain ⟨st, hst⟩ : ∃ st, ss.map (·.xs) = st := ⟨_, rfl⟩
  have HCS := Lib.hid (And.intro hcl hst)
  have HWk : Hid (∀ V, Below w.heap.size w V → Calls Tryd.prog 23 #[] V fun e w' => e = .returned (.bool true) ∧ Hid (Below w.heap.size w w')) := fun V hV => (wakes17_any V (hG.below hV)).mono fun e w' ⟨h1, h2⟩ => ⟨h1, ball hV h2⟩
  have HG1 : Hid (Calls Tryd.prog 22 #[.slice a rs.length c] w fun e w' => GrP e (rs.length ≤ 80 ∧ ∀ y ∈ rs, y.xs.length ≤ 20) ∧ w = w') := RGreat_any rs a c w hR
  have HG2 : Hid (Calls Tryd.prog 22 #[.slice a' ss.length c'] w fun e w' => GrP e (ss.length ≤ 80 ∧ ∀ y ∈ ss, y.xs.length ≤ 20) ∧ w = w') := RGreat_any ss a' c' w hS
  have HFu : Hid (Calls Tryd.prog 33 #[.slice ba bs.length bc] w fun e w' => ∃ vs : List Int, vs.length = 60 ∧ e = .returned (.slice (some ⟨w.heap.size, 0, none⟩) 60 60) ∧ Hid ((∀ v ∈ vs, v = 1 ∨ v = 2) ∧ ValR w' vs (some ⟨w.heap.size, 0, none⟩) 60 ∧ Below w.heap.size w w')) := full_any bs ba bc w hbs
  have HRf : Hid (∀ V, Below w.heap.size w V → rs.length + ss.length ≤ 1000 → (∀ y ∈ rs ++ ss, y.xs.length ≤ 100) → Calls Tryd.prog 28 #[.slice a rs.length c, .slice a' ss.length c'] V fun e w' => (∃ q : Bool, e = .returned (.bool q) ∧ (q = true ↔ RefP cls st)) ∧ Hid (Below w.heap.size w w')) := fun V hV h1 h2 => by
    refine (Refutes_any rs a c ss a' c' cls st V hcl hst (hG.below hV) (hR.below hV) (hS.below hV) h1 h2).mono ?_
    rintro e w' ⟨h3, h4⟩
    exact ⟨h3, ball hV h4⟩
  have HRw : Hid (∀ V, Below w.heap.size w V → rs.length + ss.length ≤ 1000 → (∀ y ∈ rs ++ ss, y.xs.length ≤ 100) → Calls Tryd.prog 26 #[.slice a rs.length c, .slice a' ss.length c'] V fun e w' => (∃ n : Int, e = .returned (.int .i64 n) ∧ Hid (RowP cls st n)) ∧ Hid (Below V.heap.size V w')) := fun V hV h1 h2 => by
    refine (Row_any rs a c ss a' c' cls st V hcl hst (hG.below hV) (hR.below hV) (hS.below hV) h1 h2).mono ?_
    rintro e w' ⟨⟨n, h3, h5⟩, h4⟩
    exact ⟨⟨n, h3, h5⟩, h4⟩
  have HR : Hid (∀ V, Below w.heap.size w V → RowsR V rs a c) := fun V hV => hR.below hV
  have HS : Hid (∀ V, Below w.heap.size w V → RowsR V ss a' c') := fun V hV => hS.below hV
  have HB0 : Hid (Below w.heap.size w w) := Below.refl _ _
  have l1 : ss.length ≤ c' := hS.le
  have l2 : c' ≤ 9223372036854775807 := by have := hS.cap; simp only [maxLen] at this; omega
  clear hR hS hG hbs hcl hst
  go_enter Tryd.func7, Tryd.ntmps7
  go_wp2_with fail
  with_reducible refine HG1.out.mono ?_
  rintro e w5 ⟨⟨q, rfl, hq⟩, rfl⟩
  cases q with
  | true =>
    clear hq
    go_wp2_with (first | (go_at_call 23; with_reducible refine (HWk.out _ HB0.out).mono ?_; rintro e wz ⟨rfl, HBz⟩))
    go_ret
    exact ⟨rfl, HBz.out⟩
  | false =>
    have HS1 : Hid (rs.length ≤ 80 ∧ ∀ y ∈ rs, y.xs.length ≤ 20) := hq rfl
    clear hq HG1
    go_wp2_with fail
    with_reducible refine HG2.out.mono ?_
    rintro e w5 ⟨⟨q, rfl, hq⟩, rfl⟩
    cases q with
    | true =>
      clear hq
      go_wp2_with (first | (go_at_call 23; with_reducible refine (HWk.out _ HB0.out).mono ?_; rintro e wz ⟨rfl, HBz⟩))
      go_ret
      exact ⟨rfl, HBz.out⟩
    | false =>
      have HS2 : Hid (ss.length ≤ 80 ∧ ∀ y ∈ ss, y.xs.length ≤ 20) := hq rfl
      have h80 : ss.length ≤ 80 := HS2.out.1
      have h81 : rs.length ≤ 80 := HS1.out.1
      clear hq HG2
      have HX : Hid (∀ y ∈ rs ++ ss, y.xs.length ≤ 100) := fun y hy => by
        rcases List.mem_append.1 hy with h | h
        · have := HS1.out.2 y h; omega
        · have := HS2.out.2 y h; omega
      go_wp2_with fail
      with_reducible refine HFu.out.mono ?_
      rintro e w1 ⟨vs, hvl, rfl, HV1⟩
      have HVl := Lib.hid hvl
      have HW1 : Hid (Below w.heap.size w w1) := HV1.out.2.2
      have hro := rows_zero w1
      have hRa : RowsR (w1.alloc (.cells #[] 23)) rs a c := HR.out _ (HW1.out.alloc HW1.out.size _)
      obtain ⟨M, hM⟩ : ∃ M, rs ++ ss = M := ⟨_, rfl⟩
      have HM := Lib.hid hM
      clear HFu hvl hM
      go_wp2_with (first
        | (at_builtin; refine wpList_appR rfl _ _ rfl rfl w1.heap.size _ [] rs a c (by rfl) (by rfl) hro hRa (by simp) (by simp; omega) ?_; intro v2 w2 ho2 hg2; rw [List.nil_append] at ho2; have HB2 : Hid (Below w1.heap.size w1 w2) := ((Below.refl _ w1).alloc (Nat.le_refl _) (.cells #[] 23)).grown hg2 (by simp) (fun k e => by cases e; exact Nat.le_refl _); obtain ⟨a2, c2, rfl, _⟩ := own_at ho2; have HO2 : Hid (RowsO w2 w1.heap.size rs (.slice a2 rs.length c2)) := ho2; have hRm : RowsR w2 ss a' c' := HS.out _ (ball HW1.out HB2.out); clear ho2 hg2 hro hRa)
        | (at_builtin; refine wpList_appR rfl _ _ rfl rfl w1.heap.size _ rs ss a' c' (by rfl) (by rfl) HO2.out hRm HB2.out.size (by omega) ?_; intro v3 w3 ho3 hg3; rw [HM.out] at ho3; have HB3 : Hid (Below w1.heap.size w1 w3) := HB2.out.grown hg3 HB2.out.size (fun k e => (own_lt HO2.out e).1); obtain ⟨a3, c3, rfl, _⟩ := own_at ho3; have HO3 : Hid (RowsO w3 w1.heap.size M (.slice a3 M.length c3)) := ho3; clear ho3 hg3 hRm HO2))
      have HW3 : Hid (Below w.heap.size w w3) := ball HW1.out HB3.out
      have HRM : Hid (∀ V, Below w3.heap.size w3 V → RowsR V M a3 c3) := fun V hV => (RowsO.rows HO3.out (fun y hy => by
        rw [← HM.out] at hy
        exact (List.mem_append.1 hy).elim ((HR.out _ HW3.out).ok y) ((HS.out _ HW3.out).ok y))).below hV
      have HBw : Hid (∀ V, Below w3.heap.size w3 V → Below w.heap.size w V) := fun V hV => ball HW3.out hV
      have m1 : M.length ≤ c3 := (HRM.out w3 (Below.refl _ _)).le
      have m2 : M.length ≤ 9223372036854775807 := by have := (HRM.out w3 (Below.refl _ _)).cap; simp only [maxLen] at this; omega
      have HB30 : Hid (Below w3.heap.size w3 w3) := Below.refl _ _
      have HVx : Hid (∀ V, Below w3.heap.size w3 V → ValR V vs (some ⟨w.heap.size, 0, none⟩) 60) := fun V hV => HV1.out.2.1.below (ball HB3.out hV)
      go_loopw [28] (fun iv wr => ∃ k : Nat, k ≤ M.length ∧ iv = .int .i64 k ∧ Hid (∀ j y, j < k → M[j]? = some y → ∀ x ∈ y.xs, 0 ≤ x ∧ x < 120) ∧ Hid (Below w3.heap.size w3 wr)) (fun iv _ => M.length - (intOf iv).toNat)
      case atStart => exact ⟨0, Nat.zero_le _, rfl, (fun j y h _ => absurd h (by omega)), HB30⟩
      case round =>
        obtain ⟨k, hkl, rfl, HE, HW⟩ := hrel
        rename World => wr
        by_cases hlt : k < M.length
        · have hlt2 : (k : Int) < (M.length : Int) := by omega
          obtain ⟨y, hy⟩ : ∃ y, M[k]? = some y := ⟨_, List.getElem?_eq_getElem hlt⟩
          obtain ⟨g, o, rfl, hg, q0⟩ := (HRM.out wr HW.out).cell hy
          have HY := Lib.hid hy
          have HYi : Hid (∀ V, Below w3.heap.size w3 V → IntsR V y.xs y.a y.c) := fun V hV => (HRM.out V hV).ok y (List.mem_of_getElem? HY.out)
          have n1 : y.xs.length ≤ y.c := (HYi.out wr HW.out).le
          have n2 : y.xs.length ≤ 9223372036854775807 := by have := (HYi.out wr HW.out).cap; simp only [maxLen] at this; omega
          have HE0 : Hid (∀ j x, j < 0 → y.xs[j]? = some x → 0 ≤ x ∧ x < 120) := fun j x h => absurd h (by omega)
          clear hy
          go_wp2_with fail
          go_loopw [34] (fun jv w5 => ∃ j : Nat, j ≤ y.xs.length ∧ jv = .int .i64 j ∧ Hid (∀ i x, i < j → y.xs[i]? = some x → 0 ≤ x ∧ x < 120) ∧ Hid (Below w3.heap.size w3 w5)) (fun jv _ => y.xs.length - (intOf jv).toNat)
          case atStart => exact ⟨0, Nat.zero_le _, rfl, HE0, HW⟩
          case round =>
            clear HE0 q0
            rename World => w5
            obtain ⟨j, hjl, rfl, HE5, HW5⟩ := hrel
            by_cases hlt5 : j < y.xs.length
            · have hlt6 : (j : Int) < (y.xs.length : Int) := by omega
              obtain ⟨x, hx⟩ : ∃ x, y.xs[j]? = some x := ⟨_, List.getElem?_eq_getElem hlt5⟩
              obtain ⟨g5, o5, e5, hg5, q5⟩ := (HYi.out w5 HW5.out).cell hx
              obtain ⟨ya, hya⟩ : ∃ ya, y.a = ya := ⟨_, rfl⟩
              rw [hya] at e5
              have hya2 : y.a = some ⟨g5, o5, none⟩ := by rw [hya]; exact e5
              have HX5 := Lib.hid hx
              clear hx e5 hya
              rw [hya2]
              by_cases hbad : x < 0 ∨ 120 ≤ x
              · have HWr := Lib.hid (HBw.out _ HW5.out)
                by_cases hx0 : x < 0
                · have d0 : decide (x < 0) = true := decide_eq_true hx0
                  clear hya2 hbad
                  go_wp2_with (first | (go_at_call 23; with_reducible refine (HWk.out _ HWr.out).mono ?_; rintro e wz ⟨rfl, HBz⟩))
                  go_ret
                  exact ⟨rfl, HBz.out⟩
                · have d0 : decide (x < 0) = false := decide_eq_false hx0
                  have d1 : decide (120 ≤ x) = true := decide_eq_true (by omega)
                  clear hya2 hbad
                  go_wp2_with (first | (go_at_call 23; with_reducible refine (HWk.out _ HWr.out).mono ?_; rintro e wz ⟨rfl, HBz⟩))
                  go_ret
                  exact ⟨rfl, HBz.out⟩
              · have d0 : decide (x < 0) = false := decide_eq_false (by omega)
                have d1 : decide (120 ≤ x) = false := decide_eq_false (by omega)
                have HN5 : Hid (∀ i z, i < j + 1 → y.xs[i]? = some z → 0 ≤ z ∧ z < 120) := fun i z hi h1 => by
                  by_cases e : i = j
                  · subst e
                    rw [HX5.out] at h1
                    cases h1
                    omega
                  · exact HE5.out i z (by omega) h1
                clear hbad
                go_wp2_with fail
                go_roundw
                case rel => exact ⟨j + 1, by omega, by go_num, HN5, HW5⟩
                case measure => simp [intOf]; omega
            · obtain rfl : j = y.xs.length := by omega
              have HN : Hid (∀ j z, j < k + 1 → M[j]? = some z → ∀ x ∈ z.xs, 0 ≤ x ∧ x < 120) := fun j z hj h1 x hx => by
                by_cases e : j = k
                · subst e
                  rw [HY.out] at h1
                  cases h1
                  obtain ⟨i, hi⟩ := List.getElem?_of_mem hx
                  exact HE5.out i x (List.getElem?_eq_some_iff.1 hi).1 hi
                · exact HE.out j z (by omega) h1 x hx
              go_wp2_with fail
              go_roundw
              case rel => exact ⟨k + 1, by omega, by go_num, HN, HW5⟩
              case measure => simp [intOf]; omega
        · obtain rfl : k = M.length := by omega
          have HAll : Hid (∀ d ∈ cls ++ st, ∀ x ∈ d, 0 ≤ x ∧ x < 120) := fun d hd => by
            rw [← HCS.out.1, ← HCS.out.2, ← List.map_append, HM.out] at hd
            obtain ⟨y, hy, rfl⟩ := List.mem_map.1 hd
            obtain ⟨j, hj⟩ := List.getElem?_of_mem hy
            exact HE.out j y (List.getElem?_eq_some_iff.1 hj).1 hj
          have HRw1 := Lib.hid (HRw.out wr (HBw.out _ HW.out) (by omega) HX.out)
          clear HE
          go_wp2_with fail
          with_reducible refine HRw1.out.mono ?_
          rintro e w6 ⟨⟨n, rfl, HP⟩, HB6⟩
          have HW6 : Hid (Below w.heap.size w w6) := ball (HBw.out _ HW.out) HB6.out
          have HV6 : Hid (ValR w6 vs (some ⟨w.heap.size, 0, none⟩) 60) := HVx.out _ (ball HW.out HB6.out)
          clear HRw1
          rcases HP.out with ⟨rfl, hA⟩ | ⟨j, rfl, hj, _, hA⟩
          · have HA : Hid (∀ i, i < ss.length → FolAt cls st i) := fun i hi => hA i (by rw [← HCS.out.2, List.length_map]; exact hi)
            have d9 : decide ((ss.length : Int) < (ss.length : Int)) = false := decide_eq_false (by omega)
            clear hA HP
            have hH := RHolds2_any rs a c vs (some ⟨w.heap.size, 0, none⟩) 60 w6 (HR.out _ HW6.out) HV6.out
            rw [HVl.out] at hH
            have HH := Lib.hid hH
            clear hH
            go_wp2_with fail
            with_reducible refine HH.out.mono ?_
            rintro e w7 ⟨⟨q, rfl, hq⟩, hb7⟩
            have HW7 : Hid (Below w.heap.size w w7) := ball HW6.out hb7
            cases q with
            | false =>
              clear hq hb7
              go_wp2_with (first | (go_at_call 23; with_reducible refine (HWk.out _ HW7.out).mono ?_; rintro e wz ⟨rfl, HBz⟩))
              go_ret
              exact ⟨rfl, HBz.out⟩
            | true =>
              have HT : Hid (∀ d ∈ cls, ∃ x ∈ d, rvM vs x = 1) := fun d hd => by
                rw [← HCS.out.1] at hd
                obtain ⟨y, hy, rfl⟩ := List.mem_map.1 hd
                exact hq.1 rfl y hy
              have hlt : (ss.take (ss.length)).length = ss.length := by rw [List.length_take]; omega
              have hH2 := RHolds2_any (ss.take (ss.length)) a' c' vs (some ⟨w.heap.size, 0, none⟩) 60 w7 ((HS.out _ HW7.out).take _) (HV6.out.below hb7)
              rw [HVl.out, hlt] at hH2
              have HH2 := Lib.hid hH2
              have HT2 : Hid (∀ y ∈ ss.take (ss.length), ∃ x ∈ y.xs, rvM vs x = 1) := fun y hy => by
                obtain ⟨i, hi⟩ := List.getElem?_of_mem hy
                have hil := (List.getElem?_eq_some_iff.1 hi).1
                rw [hlt] at hil
                rw [List.getElem?_take, if_pos hil] at hi
                exact fols_hold HVl.out HV1.out.1 HAll.out HT.out HA.out i hil y.xs (by rw [← HCS.out.2, List.getElem?_map, hi]; rfl)
              clear hq hH2 hlt hb7
              go_wp2_with fail
              with_reducible refine HH2.out.mono ?_
              rintro e w8 ⟨⟨q, rfl, hq⟩, hb8⟩
              obtain rfl := hq.2 HT2.out
              have HW8 : Hid (Below w.heap.size w w8) := ball HW7.out hb8
              have HRf1 := Lib.hid (HRf.out w8 HW8.out (by omega) HX.out)
              clear hq hb8
              go_wp2_with fail
              with_reducible refine HRf1.out.mono ?_
              rintro e w9 ⟨⟨q, rfl, hq⟩, HW9⟩
              obtain rfl : q = false := by
                cases q with
                | false => rfl
                | true => exact absurd (hq.1 rfl) (ref_not HVl.out HV1.out.1 HAll.out HT.out)
              clear hq
              go_wp2_with (first | (go_at_call 23; with_reducible refine (HWk.out _ HW9.out).mono ?_; rintro e wz ⟨rfl, HBz⟩))
              go_ret
              exact ⟨rfl, HBz.out⟩
          · have HA : Hid (∀ i, i < j → FolAt cls st i) := hA
            have hjl : j < ss.length := by rw [← HCS.out.2, List.length_map] at hj; exact hj
            have d8 : decide ((j : Int) < 0) = false := decide_eq_false (by omega)
            have d9 : decide ((ss.length : Int) < (j : Int)) = false := decide_eq_false (by omega)
            clear hA HP hj
            have hH := RHolds2_any rs a c vs (some ⟨w.heap.size, 0, none⟩) 60 w6 (HR.out _ HW6.out) HV6.out
            rw [HVl.out] at hH
            have HH := Lib.hid hH
            clear hH
            go_wp2_with fail
            with_reducible refine HH.out.mono ?_
            rintro e w7 ⟨⟨q, rfl, hq⟩, hb7⟩
            have HW7 : Hid (Below w.heap.size w w7) := ball HW6.out hb7
            cases q with
            | false =>
              clear hq hb7
              go_wp2_with (first | (go_at_call 23; with_reducible refine (HWk.out _ HW7.out).mono ?_; rintro e wz ⟨rfl, HBz⟩))
              go_ret
              exact ⟨rfl, HBz.out⟩
            | true =>
              have HT : Hid (∀ d ∈ cls, ∃ x ∈ d, rvM vs x = 1) := fun d hd => by
                rw [← HCS.out.1] at hd
                obtain ⟨y, hy, rfl⟩ := List.mem_map.1 hd
                exact hq.1 rfl y hy
              have hlt : (ss.take (j)).length = j := by rw [List.length_take]; omega
              have hH2 := RHolds2_any (ss.take (j)) a' c' vs (some ⟨w.heap.size, 0, none⟩) 60 w7 ((HS.out _ HW7.out).take _) (HV6.out.below hb7)
              rw [HVl.out, hlt] at hH2
              have HH2 := Lib.hid hH2
              have HT2 : Hid (∀ y ∈ ss.take (j), ∃ x ∈ y.xs, rvM vs x = 1) := fun y hy => by
                obtain ⟨i, hi⟩ := List.getElem?_of_mem hy
                have hil := (List.getElem?_eq_some_iff.1 hi).1
                rw [hlt] at hil
                rw [List.getElem?_take, if_pos hil] at hi
                exact fols_hold HVl.out HV1.out.1 HAll.out HT.out HA.out i hil y.xs (by rw [← HCS.out.2, List.getElem?_map, hi]; rfl)
              clear hq hH2 hlt hb7
              go_wp2_with fail
              with_reducible refine HH2.out.mono ?_
              rintro e w8 ⟨⟨q, rfl, hq⟩, hb8⟩
              obtain rfl := hq.2 HT2.out
              have HW8 : Hid (Below w.heap.size w w8) := ball HW7.out hb8
              have HRf1 := Lib.hid (HRf.out w8 HW8.out (by omega) HX.out)
              clear hq hb8
              go_wp2_with fail
              with_reducible refine HRf1.out.mono ?_
              rintro e w9 ⟨⟨q, rfl, hq⟩, HW9⟩
              obtain rfl : q = false := by
                cases q with
                | false => rfl
                | true => exact absurd (hq.1 rfl) (ref_not HVl.out HV1.out.1 HAll.out HT.out)
              clear hq
              go_wp2_with (first | (go_at_call 23; with_reducible refine (HWk.out _ HW9.out).mono ?_; rintro e wz ⟨rfl, HBz⟩))
              go_ret
              exact ⟨rfl, HBz.out⟩
end Go.Proofs.YtggighikemhnfaaDoor.Tm
