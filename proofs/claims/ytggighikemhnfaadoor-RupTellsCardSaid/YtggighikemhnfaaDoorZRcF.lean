/- law17.negs and ref17.Follows. -/
import Derived.Test.YtggighikemhnfaaDoorZRcE
namespace Go.Proofs.YtggighikemhnfaaDoor.Tm
open Go.RowKit
set_option linter.unusedVariables false
def gsF (xs : List Int) : List Int := (xs.filter (fun x => decide (0 ≤ x))).map negM
theorem gsF_take {xs : List Int} {k : Nat} {x : Int} (h : xs[k]? = some x) : gsF (xs.take (k + 1)) = if 0 ≤ x then gsF (xs.take k) ++ [negM x] else gsF (xs.take k) := by
  unfold gsF
  rw [List.take_add_one, h, List.filter_append]
  by_cases h0 : 0 ≤ x
  · rw [if_pos h0]; simp [h0]
  · rw [if_neg h0]; simp [h0]
theorem gsF_len (xs : List Int) : (gsF xs).length ≤ xs.length := by
  unfold gsF
  rw [List.length_map]
  exact List.length_filter_le _ _
theorem gsF_ok {xs : List Int} (h : ∀ x ∈ xs, I64 x) : ∀ y ∈ gsF xs, I64 y := fun y hy => by
  obtain ⟨x, hx, rfl⟩ := List.mem_map.1 hy
  exact negM_i64 (h x (List.mem_filter.1 hx).1)
theorem gsF_filter (xs : List Int) : (xs.map negM).filter mayU = (gsF xs).filter mayU := by
  induction xs with
  | nil => rfl
  | cons x r ih =>
    unfold gsF at ih ⊢
    by_cases h0 : 0 ≤ x
    · rw [List.filter_cons_of_pos (by simpa using h0), List.map_cons, List.map_cons, List.filter_cons, List.filter_cons, ih]
    · have hm : mayU (negM x) = false := by
        unfold mayU negM
        split <;> simp <;> omega
      rw [List.filter_cons_of_neg (by simpa using h0), List.map_cons, List.filter_cons_of_neg (by rw [hm]; simp), ih]
theorem fol_gsF {cls : List (List Int)} {xs r : List Int} {k : Int} (h : RunRel cls (gsF xs) r k) : Fol cls xs ↔ k ≠ -1 := fol_of (h.filter (gsF_filter xs).symm)
set_option maxRecDepth 100000 in
set_option maxHeartbeats 4000000 in
theorem RFollows_any (rs : List RowD) (a : Option Addr) (c : Nat) (xs : List Int) (b : Option Addr) (d : Nat) (cls : List (List Int)) (w : World) (hcl : rs.map (·.xs) = cls) (hR : RowsR w rs a c) (hA : IntsR w xs b d) (hl : rs.length ≤ 1000) (hl2 : ∀ y ∈ rs, y.xs.length ≤ 1000) (hxl : xs.length ≤ 1000) :
    Calls Tryd.prog 25 #[.slice a rs.length c, .slice b xs.length d] w fun e w' => (∃ q : Bool, e = .returned (.bool q) ∧ (q = true ↔ Fol cls xs)) ∧ Hid (Below w.heap.size w w') := by
  obtain ⟨i0, hi0, hiz0, hiz1, hiz2⟩ := info_parts info_int
  have HA : Hid (∀ V, Below w.heap.size w V → IntsR V xs b d) := fun V hV => hA.below hV
  have HOk := Lib.hid hA.ok
  have l1 : xs.length ≤ d := hA.le
  have l2 : d ≤ 9223372036854775807 := by have := hA.cap; simp only [maxLen] at this; omega
  have HM0 : Hid (([] : List Int) = gsF (xs.take 0)) := by show _ = _; simp [gsF]
  have HO0 : Hid (RowO w w.heap.size [] (.slice none 0 0) ∧ Below w.heap.size w w) := ⟨⟨rfl, .inl ⟨rfl, rfl⟩⟩, Below.refl _ _⟩
  have HC : Hid (∀ V M a' c', Below w.heap.size w V → M = gsF xs → IntsR V M a' c' → Calls Tryd.prog 18 #[.slice a rs.length c, .slice a' M.length c'] V fun e w' => (∃ q : Bool, e = .returned (.bool q) ∧ (q = true ↔ Fol cls xs)) ∧ Hid (Below w.heap.size w w')) := fun V M a' c' hV hM hI => by
    refine (RCloses_any rs a c M a' c' cls V hcl (hR.below hV) hI hl hl2).mono ?_
    rintro e w' ⟨⟨r, k, q, h1, h2, h3⟩, h4⟩
    subst hM
    refine ⟨⟨q, h2, ?_⟩, ball hV h4⟩
    rw [fol_gsF h1, h3]
    simp
  clear hA hR hcl hl2
  go_enter Tryd.func25, Tryd.ntmps25
  go_wp2
  go_loopw [5, 6] (fun v iv wr => ∃ (k : Nat) (M : List Int) (am : Option Addr) (cm : Nat), k ≤ xs.length ∧ iv = .int .i64 k ∧ v = .slice am M.length cm ∧ Hid (M = gsF (xs.take k)) ∧ Hid (RowO wr w.heap.size M (.slice am M.length cm) ∧ Below w.heap.size w wr)) (fun _ iv _ => xs.length - (intOf iv).toNat)
  case atStart => exact ⟨0, [], none, 0, Nat.zero_le _, rfl, rfl, HM0, HO0⟩
  case round =>
    clear HM0 HO0
    obtain ⟨k, M, am, cm, hkl, rfl, rfl, HM, HO⟩ := hrel
    by_cases hlt : k < xs.length
    · obtain ⟨x, hx⟩ : ∃ x, xs[k]? = some x := ⟨_, List.getElem?_eq_getElem hlt⟩
      obtain ⟨g, o, rfl, hg, q0⟩ := (HA.out _ HO.out.2).cell hx
      have hxI := HOk.out x (List.mem_of_getElem? hx)
      have hb1 := i64_xor1 x hxI
      have hlt2 : (k : Int) < (xs.length : Int) := by omega
      by_cases h0 : 0 ≤ x
      · have d0 : decide (0 ≤ x) = true := decide_eq_true h0
        have HGn : Hid (M ++ [negM x] = gsF (xs.take (k + 1))) := by show _ = _; rw [gsF_take hx, if_pos h0, HM.out]
        have hown : wr.ownsRow w.heap.size 3 1 (.slice am M.length cm) M.length (M.map (Value.int .i64)) := HO.out.1
        have hzw := HO.out.2.size
        have hml : M.length ≤ 1000 := by
          have h := gsF_len (xs.take k)
          rw [← HM.out, List.length_take] at h
          omega
        obtain ⟨z, hz⟩ : ∃ z, negM x = z := ⟨_, rfl⟩
        rw [hz] at hb1 HGn
        clear hx hxI hz h0
        go_wp2_with (at_builtin; refine wpList_append_lies _ rfl _ _ 23 rfl w.heap.size 3 i0 _ 1 8 Tryd.underlying23 hi0 hiz0 hiz1 hiz2 rfl (by decide) (Value.slice am M.length cm) M.length (M.map (Value.int .i64)) (by rfl) (World.ownsRow.alloc hown _) ⟨wr.heap.size, 0, none⟩ 1 1 [.int .i64 z] (by rfl) rfl (World.news_of_block (B := wr.heap.size) (cs := #[.int .i64 z]) (t := 3) (fr := (0, 0)) (heap_alloc_new wr _)) (by simp [Value.oneCell']) (by omega) (by simp only [maxLen]; omega) (by omega) (by simp; omega) _ rfl ?_; intro g9 c9 w9 hown9 hgrow9 hat9 hlt9; have HLn : Hid (M.length + 1 = (M ++ [z]).length) := (by show _ = _; simp); have HO9 : Hid (RowO w9 w.heap.size (M ++ [z]) (.slice (some ⟨g9, 0, none⟩) (M ++ [z]).length c9) ∧ Below w.heap.size w w9) := ⟨by unfold RowO; rw [← HLn.out, List.map_append]; exact hown9, (HO.out.2.alloc HO.out.2.size (.cells #[.int .i64 z] 3)).grown hgrow9 (by have := HO.out.2.size; simp; omega) (fun k e => (own_lt hown e).1)⟩; clear hown9 hgrow9 hat9 hlt9 hown hzw)
        go_roundw
        case rel => exact ⟨k + 1, M ++ [z], some ⟨g9, 0, none⟩, c9, by omega, by go_num, by rw [← HLn.out], HGn, HO9⟩
        case measure => simp [intOf]; omega
      · have d0 : decide (0 ≤ x) = false := decide_eq_false h0
        have HGn : Hid (M = gsF (xs.take (k + 1))) := by show _ = _; rw [gsF_take hx, if_neg h0, HM.out]
        clear hx hxI
        go_wp2
        go_roundw
        case rel => exact ⟨k + 1, M, am, cm, by omega, by go_num, rfl, HGn, HO⟩
        case measure => simp [intOf]; omega
    · obtain rfl : k = xs.length := by omega
      have HE : Hid (M = gsF xs ∧ IntsR wr M am cm) := by
        have e : M = gsF xs := by rw [HM.out, List.take_of_length_le (Nat.le_refl _)]
        exact ⟨e, HO.out.1.at rfl (fun y hy => gsF_ok HOk.out y (e ▸ hy))⟩
      have HC1 := Lib.hid (HC.out _ M am cm HO.out.2 HE.out.1 HE.out.2)
      go_wp2_with fail
      with_reducible refine HC1.out.mono ?_
      rintro e w2 ⟨⟨q, rfl, hq⟩, HB⟩
      have HQ := Lib.hid hq
      clear hq
      go_wp2_with fail
      go_ret
      exact ⟨⟨q, rfl, HQ.out⟩, HB⟩
end Go.Proofs.YtggighikemhnfaaDoor.Tm
