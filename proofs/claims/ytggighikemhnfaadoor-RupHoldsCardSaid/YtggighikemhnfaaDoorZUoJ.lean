/- law16.same; what runs over clauses in another order put. -/
import Derived.Test.YtggighikemhnfaaDoorZUoH
namespace Go.Proofs.YtggighikemhnfaaDoor.Tm
open Go.RowKit Go.Lib
set_option linter.unusedVariables false
def rvM (vs : List Int) (x : Int) : Int := if x < 0 then 0 else valM vs x
set_option maxRecDepth 100000 in
theorem RVal_any (vs : List Int) (a : Option Addr) (c : Nat) (x : Int) (r : Int) (w : World) (hA : ValR w vs a c) (hx : I64 x) (hr : rvM vs x = r) :
    Calls Tryd.prog 21 #[.slice a vs.length c, .int .i64 x] w fun e w' => e = .returned (.int .i8 r) ∧ w = w' := by
  have l1 : vs.length ≤ c := hA.le
  have c1 : vs.length ≤ 9223372036854775807 := by have := hA.cap; simp only [maxLen] at this; omega
  unfold rvM at hr
  by_cases h0 : x < 0
  · rw [if_pos h0] at hr
    have HR : Hid (0 = r) := hr
    have d0 : decide (x < 0) = true := decide_eq_true h0
    clear hA hr h0
    go_enter Tryd.func21, Tryd.ntmps21
    go_wp2
    go_ret
    exact ⟨ret_int HR.out, rfl⟩
  · rw [if_neg h0] at hr
    have d0 : decide (x < 0) = false := decide_eq_false h0
    obtain ⟨k, hk⟩ : ∃ k : Nat, x / 2 = (k : Int) := ⟨(x / 2).toNat, by omega⟩
    obtain ⟨x0, x1⟩ : 0 ≤ x ∧ x ≤ 9223372036854775807 := ⟨by omega, hx.2⟩
    unfold valM at hr
    rw [hk, Int.toNat_natCast] at hr
    by_cases hkl : k < vs.length
    · obtain ⟨v, hv⟩ : ∃ v, vs[k]? = some v := ⟨_, List.getElem?_eq_getElem hkl⟩
      obtain ⟨g, o, rfl, hg, q0⟩ := hA.cell hv
      have hok := hA.ok v (List.mem_of_getElem? hv)
      rw [hv] at hr
      have hg1 : decide ((vs.length : Int) ≤ (k : Int)) = false := decide_eq_false (by omega)
      have hki : (k : Int) < (vs.length : Int) := by omega
      have hand : bits .and .i64 x 1 = x % 2 := i64_and1 x hx
      have hpr : (if v = 1 ∨ v = 2 then (if x % 2 = 1 then 3 - v else v) else 0) = r := hr
      have hp : x % 2 = 0 ∨ x % 2 = 1 := by omega
      clear hA hv hr hkl h0
      rcases hp with hp | hp
      · rw [hp] at hand hpr
        clear hp
        rcases hok with rfl | rfl | rfl
        · have HR : Hid (0 = r) := hpr
          clear hpr
          go_enter Tryd.func21, Tryd.ntmps21
          go_wp2
          go_ret
          exact ⟨ret_int HR.out, rfl⟩
        · have HR : Hid (1 = r) := hpr
          clear hpr
          go_enter Tryd.func21, Tryd.ntmps21
          go_wp2
          go_ret
          exact ⟨ret_int HR.out, rfl⟩
        · have HR : Hid (2 = r) := hpr
          clear hpr
          go_enter Tryd.func21, Tryd.ntmps21
          go_wp2
          go_ret
          exact ⟨ret_int HR.out, rfl⟩
      · rw [hp] at hand hpr
        clear hp
        rcases hok with rfl | rfl | rfl
        · have HR : Hid (0 = r) := hpr
          clear hpr
          go_enter Tryd.func21, Tryd.ntmps21
          go_wp2
          go_ret
          exact ⟨ret_int HR.out, rfl⟩
        · have HR : Hid (2 = r) := hpr
          clear hpr
          go_enter Tryd.func21, Tryd.ntmps21
          go_wp2
          go_ret
          exact ⟨ret_int HR.out, rfl⟩
        · have HR : Hid (1 = r) := hpr
          clear hpr
          go_enter Tryd.func21, Tryd.ntmps21
          go_wp2
          go_ret
          exact ⟨ret_int HR.out, rfl⟩
    · have hg1 : decide (vs.length ≤ k) = true := decide_eq_true (by omega)
      rw [List.getElem?_eq_none (by omega)] at hr
      have HR : Hid (0 = r) := hr
      clear hA hr hkl h0
      go_enter Tryd.func21, Tryd.ntmps21
      go_wp2
      go_ret
      exact ⟨ret_int HR.out, rfl⟩
/-- What a row of literals puts, one after the other. -/
def stepV (ps : List Int) (x : Int) : List Int := if valL ps x = 0 then ps ++ [x] else ps
def lenV (ps : List Int) : Nat := ps.foldl (fun n x => max n (x.toNat / 2 + 1)) 0
def vL (ps : List Int) : List Int := (List.range (lenV ps)).map (nodeV ps)
theorem PsI.step {ps : List Int} {x : Int} (h : PsI ps) : PsI (stepV ps x) := by
  unfold stepV
  split
  · rename_i h0; exact h.put h0
  · exact h
theorem Row8.val {w : World} {B : Nat} {ps : List Int} {a : Option Addr} {c : Nat} (h : Row8 w B (vL ps) (.slice a (vL ps).length c)) : ValR w (vL ps) a c := by
  obtain ⟨a', c', e, h1, h2, h3, _⟩ := own_at h
  cases e
  exact ⟨h1, h2, h3, fun v hv => by
    unfold vL at hv
    obtain ⟨n, _, rfl⟩ := List.mem_map.1 hv
    exact nodeV_ok ps n⟩
end Go.Proofs.YtggighikemhnfaaDoor.Tm
namespace Go.Proofs.YtggighikemhnfaaDoor.Tm
open Go.RowKit Go.Lib
set_option linter.unusedVariables false
theorem nodup_sub : ∀ (l m : List Int), l.Nodup → (∀ x ∈ l, x ∈ m) → l.length ≤ m.length
  | [], _, _, _ => Nat.zero_le _
  | x :: l, m, h, hs => by
    obtain ⟨h1, h2⟩ := List.nodup_cons.1 h
    have hx := hs x (by simp)
    have := nodup_sub l (m.erase x) h2 (fun y hy => (List.mem_erase_of_ne (fun e => h1 (by rw [← e]; exact hy))).2 (hs y (by simp [hy])))
    rw [List.length_erase_of_mem hx] at this
    have := List.length_pos_of_mem hx
    rw [List.length_cons]
    omega
theorem RunRel.len {cls : List (List Int)} {gs r : List Int} {k : Int} (h : RunRel cls gs r k) (hg : ∀ x ∈ gs, x ≤ 4000) (hc : ∀ c ∈ cls, ∀ x ∈ c, x ≤ 4000) : r.length ≤ 4001 := by
  obtain ⟨h1, h2, _⟩ := h.inv
  have := nodup_sub r ((List.range 4001).map (fun (n : Nat) => (n : Int))) h1.nodup (fun x hx => by
    have h0 := (mayU_iff.1 (h1.may x hx)).1
    have h4 : x ≤ 4000 := (h2 x hx).elim (hg x) (fun ⟨c, hcc, hxc⟩ => hc c hcc x hxc)
    exact List.mem_map.2 ⟨x.toNat, List.mem_range.2 (by omega), by omega⟩)
  simpa using this
end Go.Proofs.YtggighikemhnfaaDoor.Tm
