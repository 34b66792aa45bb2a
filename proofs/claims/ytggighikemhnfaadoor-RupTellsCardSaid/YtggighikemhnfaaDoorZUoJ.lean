/- law16.same; what runs over clauses in another order put. -/
import Derived.Test.YtggighikemhnfaaDoorZUoH
namespace Go.Proofs.YtggighikemhnfaaDoor.Tm
open Go.RowKit Go.Lib
set_option linter.unusedVariables false
def rvM (vs : List Int) (x : Int) : Int := if x < 0 then 0 else valM vs x
set_option maxRecDepth 100000 in
theorem RVal_any (vs : List Int) (a : Option Addr) (c : Nat) (x : Int) (r : Int) (w : World) (hA : ValR w vs a c) (hx : I64 x) (hr : rvM vs x = r) :
    Calls Tryd.prog 21 #[.slice a vs.length c, .int .i64 x] w fun e w' => e = .returned (.int .i8 r) ∧ w = w' := by
  have l1 : vs.length ≤ c := hA.le
  have c1 : vs.length ≤ 9223372036854775807 := by have := hA.cap; simp only [maxLen] at this; omega
  unfold rvM at hr
  by_cases h0 : x < 0
  · rw [if_pos h0] at hr
    have HR : Hid (0 = r) := hr
    have d0 : decide (x < 0) = true := decide_eq_true h0
    clear hA hr h0
    go_enter Tryd.func21, Tryd.ntmps21
    go_wp2
    go_ret
    exact ⟨ret_int HR.out, rfl⟩
  · rw [if_neg h0] at hr
    have d0 : decide (x < 0) = false := decide_eq_false h0
    obtain ⟨k, hk⟩ : ∃ k : Nat, x / 2 = (k : Int) := ⟨(x / 2).toNat, by omega⟩
    obtain ⟨x0, x1⟩ : 0 ≤ x ∧ x ≤ 9223372036854775807 := ⟨by omega, hx.2⟩
    unfold valM at hr
    rw [hk, Int.toNat_natCast] at hr
    by_cases hkl : k < vs.length
    · obtain ⟨v, hv⟩ : ∃ v, vs[k]? = some v := ⟨_, List.getElem?_eq_getElem hkl⟩
      obtain ⟨g, o, rfl, hg, q0⟩ := hA.cell hv
      have hok := hA.ok v (List.mem_of_getElem? hv)
      rw [hv] at hr
      have hg1 : decide ((vs.length : Int) ≤ (k : Int)) = false := decide_eq_false (by omega)
      have hki : (k : Int) < (vs.length : Int) := by omega
      have hand : bits .and .i64 x 1 = x % 2 := i64_and1 x hx
      have hpr : (if v = 1 ∨ v = 2 then (if x % 2 = 1 then 3 - v else v) else 0) = r := hr
      have hp : x % 2 = 0 ∨ x % 2 = 1 := by omega
      clear hA hv hr hkl h0
      rcases hp with hp | hp
      · rw [hp] at hand hpr
        clear hp
        rcases hok with rfl | rfl | rfl
        · have HR : Hid (0 = r) := hpr
          clear hpr
          go_enter Tryd.func21, Tryd.ntmps21
          go_wp2
          go_ret
          exact ⟨ret_int HR.out, rfl⟩
        · have HR : Hid (1 = r) := hpr
          clear hpr
          go_enter Tryd.func21, Tryd.ntmps21
          go_wp2
          go_ret
          exact ⟨ret_int HR.out, rfl⟩
        · have HR : Hid (2 = r) := hpr
          clear hpr
          go_enter Tryd.func21, Tryd.ntmps21
          go_wp2
          go_ret
          exact ⟨ret_int HR.out, rfl⟩
      · rw [hp] at hand hpr
        clear hp
        rcases hok with rfl | rfl | rfl
        · have HR : Hid (0 = r) := hpr
          clear hpr
          go_enter Tryd.func21, Tryd.ntmps21
          go_wp2
          go_ret
          exact ⟨ret_int HR.out, rfl⟩
        · have HR : Hid (2 = r) := hpr
          clear hpr
          go_enter Tryd.func21, Tryd.ntmps21
          go_wp2
          go_ret
          exact ⟨ret_int HR.out, rfl⟩
        · have HR : Hid (1 = r) := hpr
          clear hpr
          go_enter Tryd.func21, Tryd.ntmps21
          go_wp2
          go_ret
          exact ⟨ret_int HR.out, rfl⟩
    · have hg1 : decide (vs.length ≤ k) = true := decide_eq_true (by omega)
      rw [List.getElem?_eq_none (by omega)] at hr
      have HR : Hid (0 = r) := hr
      clear hA hr hkl h0
      go_enter Tryd.func21, Tryd.ntmps21
      go_wp2
      go_ret
      exact ⟨ret_int HR.out, rfl⟩
theorem fits_any (x : Int) (r : Bool) (w : World) (hr : mayU x = r) : Calls Tryd.prog 42 #[.int .i64 x] w fun e w' => e = .returned (.bool r) ∧ w = w' := by
  by_cases h0 : 0 ≤ x
  · have d0 : decide (0 ≤ x) = true := decide_eq_true h0
    have hR : Hid (decide (x ≤ 1048576) = r) := by
      show _ = _
      rw [← hr]; unfold mayU; rw [d0]; rfl
    clear h0 hr
    go_enter Tryd.func42, Tryd.ntmps42
    go_wp2
    go_ret
    exact ⟨ret_bool hR.out, rfl⟩
  · have d0 : decide (0 ≤ x) = false := decide_eq_false h0
    have hR : Hid (false = r) := by
      show _ = _
      rw [← hr]; unfold mayU; rw [d0]; rfl
    clear h0 hr
    go_enter Tryd.func42, Tryd.ntmps42
    go_wp2
    go_ret
    exact ⟨ret_bool hR.out, rfl⟩
/-- What a row of literals puts, one after the other. -/
def stepV (ps : List Int) (x : Int) : List Int := if valL ps x = 0 then ps ++ [x] else ps
def lenV (ps : List Int) : Nat := ps.foldl (fun n x => max n (x.toNat / 2 + 1)) 0
def vL (ps : List Int) : List Int := (List.range (lenV ps)).map (nodeV ps)
theorem lenV_snoc (ps : List Int) (x : Int) : lenV (ps ++ [x]) = max (lenV ps) (x.toNat / 2 + 1) := by unfold lenV; rw [List.foldl_append]; rfl
theorem lenV_fold (ps : List Int) : ∀ n, n ≤ ps.foldl (fun n x => max n (x.toNat / 2 + 1)) n ∧ ∀ y ∈ ps, y.toNat / 2 < ps.foldl (fun n x => max n (x.toNat / 2 + 1)) n := by
  induction ps with
  | nil => exact fun n => ⟨Nat.le_refl _, fun y h => by cases h⟩
  | cons x r ih =>
    intro n
    obtain ⟨h1, h2⟩ := ih (max n (x.toNat / 2 + 1))
    rw [List.foldl_cons]
    refine ⟨by omega, fun y hy => ?_⟩
    rcases List.mem_cons.1 hy with rfl | hy
    · omega
    · exact h2 y hy
theorem lenV_lt {ps : List Int} {y : Int} (h : y ∈ ps) : y.toNat / 2 < lenV ps := (lenV_fold ps 0).2 y h
theorem lenV_le {ps : List Int} {B : Nat} (h : ∀ y ∈ ps, y.toNat / 2 < B) : lenV ps ≤ B := by
  have : ∀ (ps : List Int), (∀ y ∈ ps, y.toNat / 2 < B) → ∀ n, n ≤ B → ps.foldl (fun n x => max n (x.toNat / 2 + 1)) n ≤ B := fun ps => by
    induction ps with
    | nil => exact fun _ n hn => hn
    | cons x r ih => exact fun h n hn => ih (fun y hy => h y (by simp [hy])) _ (by have := h x (by simp); show max n (x.toNat / 2 + 1) ≤ B; omega)
  exact this ps h 0 (Nat.zero_le _)
theorem vL_len (ps : List Int) : (vL ps).length = lenV ps := by simp [vL]
theorem nodeV_far {ps : List Int} {n : Nat} (hn : lenV ps ≤ n) : nodeV ps n = 0 := by
  unfold nodeV
  have h1 : ¬ 2 * (n : Int) ∈ ps := fun h => by
    have := lenV_lt h
    have e : (2 * (n : Int)).toNat = 2 * n := by omega
    omega
  have h2 : ¬ 2 * (n : Int) + 1 ∈ ps := fun h => by
    have := lenV_lt h
    have e : (2 * (n : Int) + 1).toNat = 2 * n + 1 := by omega
    omega
  rw [if_neg h1, if_neg h2]
theorem vL_get (q : List Int) (i : Nat) : (vL q)[i]? = if i < lenV q then some (nodeV q i) else none := by
  unfold vL
  rw [List.getElem?_map]
  by_cases h : i < lenV q
  · rw [if_pos h, List.getElem?_range h]; rfl
  · rw [if_neg h, List.getElem?_eq_none (by simp; omega)]; rfl
theorem putL_vL {ps : List Int} {x : Int} (h0 : 0 ≤ x) (hv : valL ps x = 0) : putL (vL ps) x = vL (ps ++ [x]) := by
  refine List.ext_getElem? (fun i => ?_)
  unfold putL
  rw [List.getElem?_set, vL_get, lenV_snoc, nodeV_put hv h0, List.length_append, List.length_replicate, vL_len]
  by_cases e : x.toNat / 2 = i
  · rw [if_pos e, if_pos (show x.toNat / 2 < lenV ps + (x.toNat / 2 + 1 - lenV ps) by omega), if_pos (show i < max (lenV ps) (x.toNat / 2 + 1) by omega), if_pos (show ((i : Nat) : Int) = x / 2 by omega)]
  · rw [if_neg e, if_neg (by omega : ¬ ((i : Nat) : Int) = x / 2)]
    by_cases h : i < lenV ps
    · rw [List.getElem?_append_left (by rw [vL_len]; exact h), vL_get, if_pos h, if_pos (by omega)]
    · rw [List.getElem?_append_right (by rw [vL_len]; omega), vL_len, List.getElem?_replicate]
      by_cases g : i < x.toNat / 2 + 1
      · rw [if_pos (by omega), if_pos (by omega), nodeV_far (by omega)]
      · rw [if_neg (by omega), if_neg (by omega)]
theorem valM_vL {ps : List Int} {x : Int} (hm : mayU x = true) (hc : ∀ y ∈ ps, negM y ∉ ps) : rvM (vL ps) x = valL ps x := by
  obtain ⟨h0, h1⟩ := mayU_iff.1 hm
  unfold rvM
  rw [if_neg (by omega)]
  obtain ⟨k, hk⟩ : ∃ k : Nat, x / 2 = (k : Int) := ⟨(x / 2).toNat, by omega⟩
  have hv : valM (vL ps) x = (if nodeV ps k = 1 ∨ nodeV ps k = 2 then (if x % 2 = 1 then 3 - nodeV ps k else nodeV ps k) else 0) := by
    unfold valM
    rw [hk, Int.toNat_natCast]
    by_cases hkl : k < lenV ps
    · have : (vL ps)[k]? = some (nodeV ps k) := by unfold vL; rw [List.getElem?_map, List.getElem?_range hkl]; rfl
      rw [this]
    · rw [List.getElem?_eq_none (by rw [vL_len]; omega), nodeV_far (by omega)]
      rfl
  rw [hv]
  unfold valL nodeV
  rw [if_pos hm]
  by_cases hodd : x % 2 = 1
  · have e1 : 2 * (k : Int) = negM x := by unfold negM; split <;> omega
    have e2 : 2 * (k : Int) + 1 = x := by omega
    rw [e1]
    rw [show negM x + 1 = x by omega]
    by_cases g1 : negM x ∈ ps
    · have g2 : x ∉ ps := fun h => hc x h g1
      simp [g1, g2, hodd]
    · by_cases g2 : x ∈ ps <;> simp [g1, g2, hodd]
  · have e1 : 2 * (k : Int) = x := by omega
    have e2 : x + 1 = negM x := by unfold negM; split <;> omega
    rw [e1, e2]
    by_cases g1 : x ∈ ps <;> by_cases g2 : negM x ∈ ps <;> simp [g1, g2, hodd]
theorem PsI.step {ps : List Int} {x : Int} (h : PsI ps) : PsI (stepV ps x) := by
  unfold stepV
  split
  · rename_i h0; exact h.put h0
  · exact h
theorem lenV_may {ps : List Int} (h : PsI ps) : lenV ps ≤ 600000 := lenV_le (fun y hy => by have := mayU_iff.1 (h.may y hy); omega)
theorem Row8.val {w : World} {B : Nat} {ps : List Int} {a : Option Addr} {c : Nat} (h : Row8 w B (vL ps) (.slice a (vL ps).length c)) : ValR w (vL ps) a c := by
  obtain ⟨a', c', e, h1, h2, h3, _⟩ := own_at h
  cases e
  exact ⟨h1, h2, h3, fun v hv => by
    unfold vL at hv
    obtain ⟨n, _, rfl⟩ := List.mem_map.1 hv
    exact nodeV_ok ps n⟩
theorem row8_nil (w : World) (B : Nat) : Row8 w B [] (.slice none 0 0) := ⟨rfl, .inl ⟨rfl, rfl⟩⟩
end Go.Proofs.YtggighikemhnfaaDoor.Tm
namespace Go.Proofs.YtggighikemhnfaaDoor.Tm
open Go.RowKit Go.Lib
set_option linter.unusedVariables false
theorem nodup_sub : ∀ (l m : List Int), l.Nodup → (∀ x ∈ l, x ∈ m) → l.length ≤ m.length
  | [], _, _, _ => Nat.zero_le _
  | x :: l, m, h, hs => by
    obtain ⟨h1, h2⟩ := List.nodup_cons.1 h
    have hx := hs x (by simp)
    have := nodup_sub l (m.erase x) h2 (fun y hy => (List.mem_erase_of_ne (fun e => h1 (by rw [← e]; exact hy))).2 (hs y (by simp [hy])))
    rw [List.length_erase_of_mem hx] at this
    have := List.length_pos_of_mem hx
    rw [List.length_cons]
    omega
theorem RunRel.len {cls : List (List Int)} {gs r : List Int} {k : Int} (h : RunRel cls gs r k) (hg : ∀ x ∈ gs, x ≤ 4000) (hc : ∀ c ∈ cls, ∀ x ∈ c, x ≤ 4000) : r.length ≤ 4001 := by
  obtain ⟨h1, h2, _⟩ := h.inv
  have := nodup_sub r ((List.range 4001).map (fun (n : Nat) => (n : Int))) h1.nodup (fun x hx => by
    have h0 := (mayU_iff.1 (h1.may x hx)).1
    have h4 : x ≤ 4000 := (h2 x hx).elim (hg x) (fun ⟨c, hcc, hxc⟩ => hc c hcc x hxc)
    exact List.mem_map.2 ⟨x.toNat, List.mem_range.2 (by omega), by omega⟩)
  simpa using this
end Go.Proofs.YtggighikemhnfaaDoor.Tm
