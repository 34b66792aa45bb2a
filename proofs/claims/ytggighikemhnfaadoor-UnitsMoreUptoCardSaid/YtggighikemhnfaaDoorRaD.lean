/- ref16's Closes, Implies; units' Values. -/
import Derived.Test.YtggighikemhnfaaDoorRaC
namespace Go.Proofs.YtggighikemhnfaaDoor.Tm
open Go.RowKit Go.Lib
set_option linter.unusedVariables false
theorem flat_sum {rs : List RowD} (h : ∀ y ∈ rs, y.xs.length ≤ 20) : (rs.map (·.xs)).flatten.length ≤ 20 * rs.length := by
  induction rs with
  | nil => simp
  | cons y r ih =>
    rw [List.map_cons, List.flatten_cons, List.length_append, List.length_cons]
    have := h y (by simp)
    have := ih (fun z hz => h z (by simp [hz]))
    omega
theorem RCloses_any (rs : List RowD) (a : Option Addr) (c : Nat) (gs : List Int) (a2 : Option Addr) (c2 : Nat) (cls : List (List Int)) (w : World) (hcl : rs.map (·.xs) = cls) (hR : RowsR w rs a c) (hA : IntsR w gs a2 c2) (hl : rs.length ≤ 1000) (hl2 : ∀ y ∈ rs, y.xs.length ≤ 1000) :
    Calls Tryd.prog 18 #[.slice a rs.length c, .slice a2 gs.length c2] w fun e w' => (∃ r k q, RunRel cls gs r k ∧ e = .returned (.bool q) ∧ q = decide (k ≠ -1)) ∧ Below w.heap.size w w' := by
  have HR := Lib.hid (RRun_any rs a c gs a2 c2 cls w hcl hR hA hl hl2)
  clear hcl hR hA hl hl2
  go_enter Tryd.func18, Tryd.ntmps18
  go_wp2_with fail
  with_reducible refine HR.out.mono ?_
  rintro e w1 ⟨r, k, a', c', rfl, h1, h3⟩
  have HX := Lib.hid (And.intro h1.out.1 h3.out)
  clear h1 h3
  by_cases hk : k = -1
  · have e1 : (k != -1) = false := ne_f hk
    have HQ : Hid (false = decide (k ≠ -1)) := (decide_eq_false (fun e => e hk)).symm
    clear hk
    go_wp2
    go_ret
    exact ⟨⟨r, k, false, HX.out.1, rfl, HQ.out⟩, HX.out.2⟩
  · have e1 : (k != -1) = true := ne_t hk
    have HQ : Hid (true = decide (k ≠ -1)) := (decide_eq_true hk).symm
    clear hk
    go_wp2
    go_ret
    exact ⟨⟨r, k, true, HX.out.1, rfl, HQ.out⟩, HX.out.2⟩
theorem RImplies_any (rs : List RowD) (a : Option Addr) (c : Nat) (gs : List Int) (a2 : Option Addr) (c2 : Nat) (x : Int) (cls : List (List Int)) (w : World) (hcl : rs.map (·.xs) = cls) (hR : RowsR w rs a c) (hA : IntsR w gs a2 c2) (hl : rs.length ≤ 1000) (hl2 : ∀ y ∈ rs, y.xs.length ≤ 1000) :
    Calls Tryd.prog 20 #[.slice a rs.length c, .slice a2 gs.length c2, .int .i64 x] w fun e w' => (∃ r k q, RunRel cls gs r k ∧ e = .returned (.bool q) ∧ q = decide (k ≠ -1 ∨ x ∈ r)) ∧ Below w.heap.size w w' := by
  have HR := Lib.hid (RRun_any rs a c gs a2 c2 cls w hcl hR hA hl hl2)
  have HF : Hid (∀ x r V, mayU x = r → Calls Tryd.prog 42 #[.int .i64 x] V fun e w' => e = .returned (.bool r) ∧ V = w') := fun x r V h => fits_any x r V h
  clear hcl hR hA hl hl2
  go_enter Tryd.func20, Tryd.ntmps20
  go_wp2_with fail
  with_reducible refine HR.out.mono ?_
  rintro e w1 ⟨r, k, a', c', rfl, h1, h3⟩
  have HX := Lib.hid (And.intro h1.out.1 h3.out)
  have HI := Lib.hid h1.out.2
  clear h1 h3
  by_cases hk : k = -1
  · have e1 : (k != -1) = false := ne_f hk
    have HK := Lib.hid hk
    have l1 : r.length ≤ c' := HI.out.le
    have c1 : r.length ≤ 9223372036854775807 := by have := HI.out.cap; simp only [maxLen] at this; omega
    clear hk
    go_wp2_with fail
    go_loopw [9] (fun iv wr => ∃ j : Nat, j ≤ r.length ∧ iv = .int .i64 j ∧ Hid (∀ i y, i < j → r[i]? = some y → y ≠ x) ∧ wr = w1) (fun iv _ => r.length - (intOf iv).toNat)
    case atStart => exact ⟨0, Nat.zero_le _, rfl, (fun i y h _ => absurd h (by omega)), rfl⟩
    case round =>
      obtain ⟨j, hjl, rfl, HE, rfl⟩ := hrel
      by_cases hlt : j < r.length
      · obtain ⟨y, hy⟩ : ∃ y, r[j]? = some y := ⟨_, List.getElem?_eq_getElem hlt⟩
        obtain ⟨g, o, rfl, hg, q0⟩ := HI.out.cell hy
        have HY := Lib.hid hy
        clear hy
        by_cases hxy : y = x
        · have e2 : (y == x) = true := eq_t hxy
          have hm : mayU x = true := HX.out.1.inv.1.may x (by rw [← hxy]; exact List.mem_of_getElem? HY.out)
          have HFx := Lib.hid (HF.out x true wr hm)
          have HQ : Hid (true = decide (k ≠ -1 ∨ x ∈ r)) := (decide_eq_true (.inr (by rw [← hxy]; exact List.mem_of_getElem? HY.out))).symm
          clear hxy hm
          go_wp2_with (first | (go_at_call 42; with_reducible refine HFx.out.mono ?_; rintro e w3 ⟨rfl, rfl⟩))
          go_ret
          exact ⟨⟨r, k, true, HX.out.1, rfl, HQ.out⟩, HX.out.2⟩
        · have e2 : (y == x) = false := eq_f hxy
          have HN : Hid (∀ i z, i < j + 1 → r[i]? = some z → z ≠ x) := fun i z hi h1 => by
            by_cases e : i = j
            · subst e
              rw [HY.out] at h1
              cases h1
              exact hxy
            · exact HE.out i z (by omega) h1
          clear hxy
          go_wp2
          go_roundw
          case rel => exact ⟨j + 1, by omega, by go_num, HN, trivial⟩
          case measure => simp [intOf]; omega
      · obtain rfl : j = r.length := by omega
        have HQ : Hid (false = decide (k ≠ -1 ∨ x ∈ r)) := (decide_eq_false (fun h => h.elim (fun e => e HK.out) (fun h => by
          obtain ⟨i, hi⟩ := List.getElem?_of_mem h
          exact HE.out i x (List.getElem?_eq_some_iff.1 hi).1 hi rfl))).symm
        go_wp2
        go_ret
        exact ⟨⟨r, k, false, HX.out.1, rfl, HQ.out⟩, HX.out.2⟩
  · have e1 : (k != -1) = true := ne_t hk
    have HQ : Hid (true = decide (k ≠ -1 ∨ x ∈ r)) := (decide_eq_true (.inl hk)).symm
    clear hk
    go_wp2
    go_ret
    exact ⟨⟨r, k, true, HX.out.1, rfl, HQ.out⟩, HX.out.2⟩
def gmF (xs : List Int) : Int := xs.foldl (fun g x => if mayU x = true then (if x > g then x else g) else g) (-1)
theorem gmF_take {xs : List Int} {k : Nat} {x : Int} (h : xs[k]? = some x) : gmF (xs.take (k + 1)) = if mayU x = true then (if x > gmF (xs.take k) then x else gmF (xs.take k)) else gmF (xs.take k) := by
  unfold gmF
  rw [List.take_add_one, h, List.foldl_append]
  rfl
theorem gmF_mono {xs : List Int} (k : Nat) : ∀ d, k + d ≤ xs.length → gmF (xs.take k) ≤ gmF (xs.take (k + d))
  | 0, _ => Int.le_refl _
  | d + 1, h => by
    have ih := gmF_mono (xs := xs) k d (by omega)
    rw [show k + (d + 1) = (k + d) + 1 by omega, gmF_take (List.getElem?_eq_getElem (l := xs) (by omega))]
    split
    · split <;> omega
    · exact ih
theorem gm_len {xs : List Int} : ∀ k, k ≤ xs.length → (lenV (psV (xs.take k)) : Int) = gmF (xs.take k) / 2 + 1 ∧ -1 ≤ gmF (xs.take k) ∧ gmF (xs.take k) ≤ 1048576
  | 0, _ => by simp [psV, lenV, gmF]
  | k + 1, hk => by
    obtain ⟨h1, h2, h3⟩ := gm_len (xs := xs) k (by omega)
    have hx : xs[k]? = some xs[k] := List.getElem?_eq_getElem (by omega)
    generalize xs[k] = x at hx
    rw [gmF_take hx, psV_take hx]
    generalize gmF (xs.take k) = g at h1 h2 h3 ⊢
    have hpi := psV_ok (xs.take k)
    generalize psV (xs.take k) = ps at h1 hpi ⊢
    unfold stepV
    by_cases hm : mayU x = true
    · have hm2 := mayU_iff.1 hm
      rw [if_pos hm]
      by_cases h0 : valL ps x = 0
      · rw [if_pos h0, lenV_snoc]
        split <;> omega
      · rw [if_neg h0]
        have hy : ∃ y ∈ ps, y / 2 = x / 2 := by
          unfold valL at h0
          rw [if_pos hm] at h0
          by_cases g1 : x ∈ ps
          · exact ⟨x, g1, rfl⟩
          · rw [if_neg g1] at h0
            by_cases g2 : negM x ∈ ps
            · exact ⟨_, g2, negM_half x⟩
            · rw [if_neg g2] at h0; exact absurd rfl h0
        obtain ⟨y, hy1, hy2⟩ := hy
        have hl := lenV_lt hy1
        have := mayU_iff.1 (hpi.may y hy1)
        split <;> omega
    · rw [if_neg hm, if_neg (fun h => hm (valL_may (by rw [h]; decide)))]
      exact ⟨h1, h2, h3⟩
theorem make_val2 (c : Int) (k : Nat) (hc : c = k) (hk : k ≤ 1000000) (w : World) : (Instr.makeSlice 29 (.int .i64 c) (.int .i64 c)).run Tryd.prog w = .ok (.slice (some ⟨w.heap.size, 0, none⟩) k k) (w.alloc (.cells (valRow (List.replicate k 0)) 31)) := by
  obtain ⟨i0, hi, hz0, hz1, hz2⟩ := info_parts info_i8
  have := run_make (P := Tryd.prog) w 29 31 i0 _ Tryd.underlying29 hi hz0 .i64 .i64 c c (by omega) (by omega) (by rw [hz2]; omega) (by omega)
  rw [hz1] at this
  subst hc
  rw [Int.toNat_natCast, made_val] at this
  exact this
def vN (n : Nat) (ps : List Int) : List Int := (List.range n).map (nodeV ps)
theorem vN_len (n : Nat) (ps : List Int) : (vN n ps).length = n := by simp [vN]
theorem vN_get {n i : Nat} {ps : List Int} (h : i < n) : (vN n ps)[i]? = some (nodeV ps i) := by
  unfold vN; rw [List.getElem?_map, List.getElem?_range h]; rfl
theorem vN_nil (n : Nat) : vN n [] = List.replicate n 0 := by
  refine List.ext_getElem? (fun i => ?_)
  by_cases h : i < n
  · rw [vN_get h, List.getElem?_replicate, if_pos h]; rfl
  · rw [List.getElem?_eq_none (by simp [vN]; omega), List.getElem?_eq_none (by simp; omega)]
theorem vN_put {n : Nat} {ps : List Int} {x : Int} {i : Nat} (hv : valL ps x = 0) (h0 : 0 ≤ x) (hi : x / 2 = (i : Int)) : (vN n ps).set i (if x % 2 = 1 then 2 else 1) = vN n (ps ++ [x]) := by
  refine List.ext_getElem? (fun j => ?_)
  rw [List.getElem?_set]
  by_cases h : j < n
  · rw [vN_get h, vN_get h, nodeV_put hv h0, hi]
    by_cases e : i = j
    · subst e
      simp [vN_len, h]
    · rw [if_neg e, if_neg (by omega)]
  · have h1 : (vN n ps)[j]? = none := List.getElem?_eq_none (by simp [vN]; omega)
    have h2 : (vN n (ps ++ [x]))[j]? = none := List.getElem?_eq_none (by simp [vN]; omega)
    rw [h1, h2]
    split
    · rw [if_neg (by simp [vN]; omega)]
    · rfl
theorem nodeV_open {ps : List Int} {x : Int} {i : Nat} (hm : mayU x = true) (hi : x / 2 = (i : Int)) : nodeV ps i = 0 ↔ valL ps x = 0 := by
  unfold nodeV valL
  rw [if_pos hm]
  have hn : negM x = (if x % 2 = 0 then x + 1 else x - 1) := rfl
  by_cases hodd : x % 2 = 0
  · rw [if_pos hodd] at hn
    have e1 : 2 * (i : Int) = x := by omega
    rw [hn, e1]
  · rw [if_neg hodd] at hn
    have e1 : 2 * (i : Int) = x - 1 := by omega
    have e2 : x - 1 + 1 = x := by omega
    rw [hn, e1, e2]
    by_cases g1 : x ∈ ps <;> by_cases g2 : x - 1 ∈ ps <;> simp [g1, g2]
set_option maxRecDepth 100000 in
set_option maxHeartbeats 1000000 in
theorem PValues_any (xs : List Int) (a : Option Addr) (c : Nat) (w : World) (hA : IntsR w xs a c) :
    Calls Tryd.prog 15 #[.slice a xs.length c] w fun e w' => ∃ a c, e = .returned (.slice a (vL (psV xs)).length c) ∧ Hid (ValR w' (vL (psV xs)) a c ∧ Below w.heap.size w w') := by
  have HA : Hid (∀ V, Below w.heap.size w V → IntsR V xs a c) := fun V hV => hA.below hV
  have HMay : Hid (∀ (x : Int) (r : Bool) (W : World), mayU x = r → Calls Tryd.prog 45 #[.int .i64 x] W fun e w' => e = .returned (.bool r) ∧ W = w') := fun x r W hr => may_any x r W hr
  have HNd : Hid (∀ (x q : Int) (W : World), I64 x → x / 2 = q → Calls Tryd.prog 46 #[.int .i64 x] W fun e w' => e = .returned (.int .i64 q) ∧ W = w') := fun x q W hx hq => by rw [← hq]; exact Node_any x W hx
  have HVd : Hid (∀ (x q : Int) (W : World), I64 x → (if x % 2 = 1 then (2 : Int) else 1) = q → Calls Tryd.prog 47 #[.int .i64 x] W fun e w' => e = .returned (.int .i8 q) ∧ W = w') := fun x q W hx hq => valued_any x q W hx hq
  have l1 : xs.length ≤ c := hA.le
  have c1 : xs.length ≤ 9223372036854775807 := by have := hA.cap; simp only [maxLen] at this; omega
  have HG0 : Hid (-1 = gmF (xs.take 0)) := rfl
  clear hA
  go_enter Tryd.func15, Tryd.ntmps15
  go_wp2
  go_loopw [3, 11] (fun gv iv wr => ∃ (k : Nat) (m : Int), k ≤ xs.length ∧ iv = .int .i64 k ∧ gv = .int .i64 m ∧ Hid (m = gmF (xs.take k)) ∧ wr = w) (fun _ iv _ => xs.length - (intOf iv).toNat)
  case atStart => exact ⟨0, -1, Nat.zero_le _, rfl, rfl, HG0, rfl⟩
  case round =>
    clear HG0
    obtain ⟨k, m, hkl, rfl, rfl, HG, rfl⟩ := hrel
    by_cases hlt : k < xs.length
    · have hlt2 : (k : Int) < (xs.length : Int) := by omega
      obtain ⟨x, hx⟩ : ∃ x, xs[k]? = some x := ⟨_, List.getElem?_eq_getElem hlt⟩
      obtain ⟨g, o, rfl, hg, q0⟩ := (HA.out wr (Below.refl _ _)).cell hx
      have HS : Hid (gmF (xs.take (k + 1)) = if mayU x = true then (if x > gmF (xs.take k) then x else gmF (xs.take k)) else gmF (xs.take k)) := gmF_take hx
      obtain ⟨f, hf⟩ : ∃ f, mayU x = f := ⟨_, rfl⟩
      have HM := Lib.hid (HMay.out x f wr hf)
      have HF := Lib.hid hf
      clear hx hf
      cases f with
      | false =>
        have HN : Hid (m = gmF (xs.take (k + 1))) := by show _ = _; rw [HS.out, if_neg (by rw [HF.out]; decide)]; exact HG.out
        go_wp2_with (first | (go_at_call 45; with_reducible refine HM.out.mono ?_; rintro e w1 ⟨rfl, rfl⟩))
        go_roundw
        case rel => exact ⟨k + 1, m, by omega, by go_num, rfl, HN, trivial⟩
        case measure => simp [intOf]; omega
      | true =>
        by_cases hgt : x > m
        · have HN : Hid (x = gmF (xs.take (k + 1))) := by show _ = _; rw [HS.out, if_pos HF.out, ← HG.out, if_pos hgt]
          go_wp2_with (first | (go_at_call 45; with_reducible refine HM.out.mono ?_; rintro e w1 ⟨rfl, rfl⟩))
          go_roundw
          case rel => exact ⟨k + 1, x, by omega, by go_num, rfl, HN, trivial⟩
          case measure => simp [intOf]; omega
        · have HN : Hid (m = gmF (xs.take (k + 1))) := by show _ = _; rw [HS.out, if_pos HF.out, ← HG.out, if_neg hgt]
          go_wp2_with (first | (go_at_call 45; with_reducible refine HM.out.mono ?_; rintro e w1 ⟨rfl, rfl⟩))
          go_roundw
          case rel => exact ⟨k + 1, m, by omega, by go_num, rfl, HN, trivial⟩
          case measure => simp [intOf]; omega
    · obtain rfl : k = xs.length := by omega
      obtain ⟨hL, hm1, hm2⟩ := gm_len (xs := xs) xs.length (Nat.le_refl _)
      rw [← HG.out] at hL hm1 hm2
      rw [List.take_length] at hL
      obtain ⟨q, hq⟩ : ∃ q, m / 2 = q := ⟨_, rfl⟩
      have HNm := Lib.hid (HNd.out m q wr ⟨by omega, by omega⟩ hq)
      have hq1 : -1 ≤ q := by omega
      have hq2 : q ≤ 600000 := by omega
      obtain ⟨n, hn⟩ : ∃ n, lenV (psV xs) = n := ⟨_, rfl⟩
      rw [hn] at hL
      have hnl : n ≤ 1000000 := by omega
      have hqn : q + 1 = (n : Int) := by omega
      have hmk := fun W => make_val2 (q + 1) n hqn hnl W
      have HN := Lib.hid hn
      have HR0 : Hid ((wr.alloc (.cells (valRow (List.replicate n 0)) 31)).heap[wr.heap.size]? = some (.cells (valRow (vN n (psV (xs.take 0)))) 31 (0, 0)) ∧ Below wr.heap.size wr (wr.alloc (.cells (valRow (List.replicate n 0)) 31))) := ⟨by rw [show psV (xs.take 0) = [] from rfl, vN_nil]; exact heap_alloc_new wr _, (Below.refl _ wr).alloc (Nat.le_refl _) _⟩
      have HIx : Hid (∀ k x, xs[k]? = some x → mayU x = true → ∃ i : Nat, x / 2 = (i : Int) ∧ i < n) := fun k x hx hm => by
        have h1 := mayU_iff.1 hm
        have h2 := gm_len (xs := xs) (k + 1) (by have := (List.getElem?_eq_some_iff.1 hx).1; omega)
        obtain ⟨i, hi⟩ : ∃ i : Nat, x / 2 = (i : Int) := ⟨(x / 2).toNat, by omega⟩
        refine ⟨i, hi, ?_⟩
        have h4 := gmF_mono (xs := xs) (k + 1) (xs.length - (k + 1)) (by have := (List.getElem?_eq_some_iff.1 hx).1; omega)
        rw [List.take_of_length_le (by omega : xs.length ≤ k + 1 + (xs.length - (k + 1)))] at h4
        have h5 := HG.out
        rw [List.take_length] at h5
        have h6 : x ≤ gmF (xs.take (k + 1)) := by
          rw [gmF_take hx, if_pos hm]
          split <;> omega
        omega
      clear hL hm1 hm2 hq hqn hn
      go_wp2_with (first | (go_at_call 46; with_reducible refine HNm.out.mono ?_; rintro e w1 ⟨rfl, rfl⟩))
      go_loopw [27] (fun iv w2 => ∃ k : Nat, k ≤ xs.length ∧ iv = .int .i64 k ∧ Hid (w2.heap[wr.heap.size]? = some (.cells (valRow (vN n (psV (xs.take k)))) 31 (0, 0)) ∧ Below wr.heap.size wr w2)) (fun iv _ => xs.length - (intOf iv).toNat)
      case atStart => exact ⟨0, Nat.zero_le _, rfl, HR0⟩
      case round =>
        clear HR0
        rename World => w2
        obtain ⟨k, hkl, rfl, HR⟩ := hrel
        by_cases hlt : k < xs.length
        · have hlt2 : (k : Int) < (xs.length : Int) := by omega
          obtain ⟨x, hx⟩ : ∃ x, xs[k]? = some x := ⟨_, List.getElem?_eq_getElem hlt⟩
          obtain ⟨g, o, rfl, hg, q0⟩ := (HA.out w2 HR.out.2).cell hx
          have HS : Hid (psV (xs.take (k + 1)) = stepV (psV (xs.take k)) x) := psV_take hx
          have hxI := (HA.out w2 HR.out.2).ok x (List.mem_of_getElem? hx)
          obtain ⟨f, hf⟩ : ∃ f, mayU x = f := ⟨_, rfl⟩
          have HM := Lib.hid (HMay.out x f w2 hf)
          cases f with
          | false =>
            have HN2 : Hid (w2.heap[wr.heap.size]? = some (.cells (valRow (vN n (psV (xs.take (k + 1))))) 31 (0, 0)) ∧ Below wr.heap.size wr w2) := by
              have e : stepV (psV (xs.take k)) x = psV (xs.take k) := by
                unfold stepV
                rw [if_neg (fun h => by rw [valL_may (by rw [h]; decide)] at hf; cases hf)]
              show _ ∧ _
              rw [HS.out, e]
              exact HR.out
            clear hx hf hxI
            go_wp2_with (first | (go_at_call 45; with_reducible refine HM.out.mono ?_; rintro e w1 ⟨rfl, rfl⟩))
            go_roundw
            case rel => exact ⟨k + 1, by omega, by go_num, HN2⟩
            case measure => simp [intOf]; omega
          | true =>
            obtain ⟨i, hi, hin⟩ := HIx.out k x hx hf
            have HNx := Lib.hid (HNd.out x i w2 hxI hi)
            have hcell : w2.cell? ⟨wr.heap.size, i, none⟩ = some (.int .i8 (nodeV (psV (xs.take k)) i)) := val_cell HR.out.1 (vN_get hin)
            have hfz := row_frozen HR.out.1 i
            have hbs : wr.heap.size < w2.heap.size := (Array.getElem?_eq_some_iff.1 HR.out.1).1
            have hno := nodeV_open (ps := psV (xs.take k)) hf hi
            obtain ⟨v, hv⟩ : ∃ v, nodeV (psV (xs.take k)) i = v := ⟨_, rfl⟩
            rw [hv] at hcell hno
            by_cases h0 : v = 0
            · have d0 : (v == 0) = true := eq_t h0
              have hv0 : valL (psV (xs.take k)) x = 0 := hno.1 h0
              obtain ⟨y, hy⟩ : ∃ y, (if x % 2 = 1 then (2 : Int) else 1) = y := ⟨_, rfl⟩
              have HVx := Lib.hid (HVd.out x y w2 hxI hy)
              have HN2 : Hid ((w2.setCell ⟨wr.heap.size, i, none⟩ (.int .i8 y)).heap[wr.heap.size]? = some (.cells (valRow (vN n (psV (xs.take (k + 1))))) 31 (0, 0)) ∧ Below wr.heap.size wr (w2.setCell ⟨wr.heap.size, i, none⟩ (.int .i8 y))) := by
                refine ⟨?_, below_set HR.out.2 (Nat.le_refl _) _⟩
                have e : stepV (psV (xs.take k)) x = psV (xs.take k) ++ [x] := by unfold stepV; rw [if_pos hv0]
                rw [HS.out, e, ← vN_put hv0 (mayU_iff.1 hf).1 hi, hy]
                exact val_set HR.out.1 i y
              clear hx hf hxI h0 hv hno hv0 hy hi
              go_wp2_with (first | (go_at_call 45; with_reducible refine HM.out.mono ?_; rintro e w1 ⟨rfl, rfl⟩) | (go_at_call 46; with_reducible refine HNx.out.mono ?_; rintro e w1 ⟨rfl, rfl⟩) | (go_at_call 47; with_reducible refine HVx.out.mono ?_; rintro e w1 ⟨rfl, rfl⟩))
              go_roundw
              case rel => exact ⟨k + 1, by omega, by go_num, HN2⟩
              case measure => simp [intOf]; omega
            · have d0 : (v == 0) = false := eq_f h0
              have HN2 : Hid (w2.heap[wr.heap.size]? = some (.cells (valRow (vN n (psV (xs.take (k + 1))))) 31 (0, 0)) ∧ Below wr.heap.size wr w2) := by
                have e : stepV (psV (xs.take k)) x = psV (xs.take k) := by unfold stepV; rw [if_neg (fun h => h0 (hno.2 h))]
                show _ ∧ _
                rw [HS.out, e]
                exact HR.out
              clear hx hf hxI h0 hv hno hi
              go_wp2_with (first | (go_at_call 45; with_reducible refine HM.out.mono ?_; rintro e w1 ⟨rfl, rfl⟩) | (go_at_call 46; with_reducible refine HNx.out.mono ?_; rintro e w1 ⟨rfl, rfl⟩))
              go_roundw
              case rel => exact ⟨k + 1, by omega, by go_num, HN2⟩
              case measure => simp [intOf]; omega
        · obtain rfl : k = xs.length := by omega
          have HE : Hid (n = (vL (psV xs)).length ∧ ValR w2 (vL (psV xs)) (some ⟨wr.heap.size, 0, none⟩) n ∧ Below wr.heap.size wr w2) := by
            have h1 := HR.out.1
            rw [List.take_length] at h1
            have e : vN n (psV xs) = vL (psV xs) := by unfold vN vL; rw [HN.out]
            rw [e] at h1
            have hn : n = (vL (psV xs)).length := by rw [vL_len]; exact HN.out.symm
            refine ⟨hn, ⟨by rw [← hn]; exact Nat.le_refl _, by simp only [maxLen]; omega, fun _ => ⟨wr.heap.size, 0, rfl, (Array.getElem?_eq_some_iff.1 h1).1, fun i v hv => ?_⟩, ?_⟩, HR.out.2⟩
            · rw [Nat.zero_add]
              rw [List.getElem?_map] at hv
              cases hx : (vL (psV xs))[i]? with
              | none => rw [hx] at hv; cases hv
              | some x => rw [hx] at hv; cases hv; exact val_cell h1 hx
            · intro v hv
              unfold vL at hv
              obtain ⟨n, _, rfl⟩ := List.mem_map.1 hv
              exact nodeV_ok _ n
          go_wp2
          go_ret
          refine ⟨some ⟨wr.heap.size, 0, none⟩, n, ?_, HE.out.2⟩
          rw [← HE.out.1]
          rfl
end Go.Proofs.YtggighikemhnfaaDoor.Tm
