/- law16.same; what runs over clauses in another order put. -/
import Derived.Test.YtggighikemhnfaaDoorUoI
namespace Go.Proofs.YtggighikemhnfaaDoor.Tm
open Go.RowKit Go.Lib
set_option linter.unusedVariables false
theorem same_any (xs : List Int) (a b : Option Addr) (c d : Nat) (w : World) (hA : IntsR w xs a c) (hB : IntsR w xs b d) :
    Calls Tryd.prog 14 #[.slice a xs.length c, .slice b xs.length d] w fun e w' => e = .returned (.bool true) ∧ Below w.heap.size w w' := by
  have HA := Lib.hid hA
  have HB := Lib.hid hB
  have l1 : xs.length ≤ c := hA.le
  have l2 : xs.length ≤ d := hB.le
  have c1 : xs.length ≤ 9223372036854775807 := by have := hA.cap; simp only [maxLen] at this; omega
  have HBr : Hid (Below w.heap.size w w) := Below.refl _ _
  have d0 : ((xs.length : Int) != (xs.length : Int)) = false := ne_f rfl
  clear hA hB
  go_enter Tryd.func14, Tryd.ntmps14
  go_wp2
  go_loopw [5] (fun iv wr => ∃ k : Nat, k ≤ xs.length ∧ iv = .int .i64 k ∧ Hid (Below w.heap.size w wr)) (fun iv _ => xs.length - (intOf iv).toNat)
  case atStart => exact ⟨0, Nat.zero_le _, rfl, HBr⟩
  case round =>
    obtain ⟨k, hkl, rfl, HW⟩ := hrel
    by_cases hlt : k < xs.length
    · obtain ⟨x, hx⟩ : ∃ x, xs[k]? = some x := ⟨_, List.getElem?_eq_getElem hlt⟩
      obtain ⟨g, o, rfl, hg, q0⟩ := (HA.out.below HW.out).cell hx
      obtain ⟨g', o', rfl, hg', r0⟩ := (HB.out.below HW.out).cell hx
      have hxx : (x != x) = false := ne_f rfl
      clear hx
      go_wp2
      go_quiet (fail)
      go_wp2
      go_roundw
      case rel => exact ⟨k + 1, by omega, by go_num, below_drewN HW.out⟩
      case measure => simp [intOf]; omega
    · obtain rfl : k = xs.length := by omega
      go_wp2
      go_ret
      exact ⟨rfl, HW.out⟩
theorem nodup_sub : ∀ (l m : List Int), l.Nodup → (∀ x ∈ l, x ∈ m) → l.length ≤ m.length
  | [], _, _, _ => Nat.zero_le _
  | x :: l, m, h, hs => by
    obtain ⟨h1, h2⟩ := List.nodup_cons.1 h
    have hx := hs x (by simp)
    have := nodup_sub l (m.erase x) h2 (fun y hy => (List.mem_erase_of_ne (fun e => h1 (by rw [← e]; exact hy))).2 (hs y (by simp [hy])))
    rw [List.length_erase_of_mem hx] at this
    have := List.length_pos_of_mem hx
    rw [List.length_cons]
    omega
theorem RunRel.len {cls : List (List Int)} {gs r : List Int} {k : Int} (h : RunRel cls gs r k) (hg : ∀ x ∈ gs, x ≤ 4000) (hc : ∀ c ∈ cls, ∀ x ∈ c, x ≤ 4000) : r.length ≤ 4001 := by
  obtain ⟨h1, h2, _⟩ := h.inv
  have := nodup_sub r ((List.range 4001).map (fun (n : Nat) => (n : Int))) h1.nodup (fun x hx => by
    have h0 := (mayU_iff.1 (h1.may x hx)).1
    have h4 : x ≤ 4000 := (h2 x hx).elim (hg x) (fun ⟨c, hcc, hxc⟩ => hc c hcc x hxc)
    exact List.mem_map.2 ⟨x.toNat, List.mem_range.2 (by omega), by omega⟩)
  simpa using this
theorem giveM_self : ∀ (g ps : List Int), PsI (ps ++ g) → giveM ps g = (ps ++ g, true)
  | [], ps, _ => by unfold giveM; rw [List.append_nil]
  | x :: g, ps, h => by
    have hm := h.may x (by simp)
    have hn := List.nodup_append.1 h.nodup
    have h0 : valL ps x = 0 := by
      unfold valL
      rw [if_pos hm, if_neg (fun hx => hn.2.2 x hx x (by simp) rfl), if_neg (fun hx => h.cons x (by simp) (by simp [hx]))]
    unfold giveM
    rw [if_pos hm, if_pos h0, giveM_self g (ps ++ [x]) (by rw [List.append_assoc]; exact h), List.append_assoc]
    rfl
theorem again_plain {cls : List (List Int)} {gs r c : List Int} {j : Int} (h : RunRel cls gs r (-1)) (h2 : RunRel cls r c j) : c = r ∧ j = -1 := by
  obtain ⟨hp, _, hC⟩ := h.inv
  have hc := hC rfl
  have hs := giveM_self r [] hp
  have h3 : RunRel cls r r (-1) := .inr ⟨by rw [hs], by
    rw [hs]
    exact RunsD.done (ps := r) (fun j d hd => hc.nf d (List.mem_of_getElem? hd)) (fun j d hd => hc.nu d (List.mem_of_getElem? hd))⟩
  exact h2.same h3
theorem order_sub {cls cls' : List (List Int)} {gs r r' : List Int} {k' : Int} (hm : ∀ c ∈ cls', c ∈ cls) (h : RunRel cls gs r (-1)) (h' : RunRel cls' gs r' k') : k' = -1 ∧ ∀ x ∈ r', x ∈ r := by
  obtain ⟨_, _, hC⟩ := h.inv
  have hc := hC rfl
  exact h'.sub hc.given (fun c hcc => hc.nf c (hm c hcc)) (fun c hcc => hc.nu c (hm c hcc)) hc.cons
theorem order_plain {cls cls' : List (List Int)} {gs r r' : List Int} {k k' : Int} (hm : ∀ c, c ∈ cls ↔ c ∈ cls') (h : RunRel cls gs r k) (h' : RunRel cls' gs r' k') : (k = -1 ↔ k' = -1) ∧ (k = -1 → r.length = r'.length ∧ ∀ x ∈ r, x ∈ r') := by
  have h1 : k = -1 → k' = -1 ∧ ∀ x ∈ r', x ∈ r := fun e => by subst e; exact order_sub (fun c hc => (hm c).2 hc) h h'
  have h2 : k' = -1 → k = -1 ∧ ∀ x ∈ r, x ∈ r' := fun e => by subst e; exact order_sub (fun c hc => (hm c).1 hc) h' h
  refine ⟨⟨fun e => (h1 e).1, fun e => (h2 e).1⟩, fun e => ?_⟩
  have h3 := (h1 e).2
  have h4 := (h2 (h1 e).1).2
  exact ⟨Nat.le_antisymm (nodup_sub r r' h.inv.1.nodup h4) (nodup_sub r' r h'.inv.1.nodup h3), h4⟩
theorem turn_at (turn : Int) (n : Nat) (h0 : 0 < n) (h6 : n ≤ 80) : ∃ k : Nat, (wrap64 (turn.tmod ↑n + ↑n)).tmod ↑n = (k : Int) ∧ k < n := by
  have h1 := Int.natAbs_tmod turn n
  have h2 : turn.natAbs % (n : Int).natAbs < n := by rw [Int.natAbs_natCast]; exact Nat.mod_lt _ h0
  rw [← h1] at h2
  generalize turn.tmod ↑n = t at h2
  have h3 : wrap64 (t + n) = t + n := by unfold wrap64; omega
  rw [h3, Int.tmod_eq_emod_of_nonneg (by omega)]
  have h4 := Int.emod_nonneg (t + n) (show (n : Int) ≠ 0 by omega)
  have h5 := Int.emod_lt_of_pos (t + n) (show (0 : Int) < n by omega)
  exact ⟨((t + n) % n).toNat, by omega, by omega⟩
theorem rot_at (i k n : Nat) (hi : i < n) (hk : k < n) : ((i : Int) + (k : Int)).tmod (n : Int) = (((i + k) % n : Nat) : Int) ∧ (i + k) % n < n := by
  refine ⟨?_, Nat.mod_lt _ (by omega)⟩
  rw [Int.tmod_eq_emod_of_nonneg (by omega)]
  simp
theorem rot_onto {j k n : Nat} (hj : j < n) (hk : k < n) : ∃ t, t < n ∧ (t + k) % n = j := by
  by_cases h : k ≤ j
  · exact ⟨j - k, by omega, by rw [Nat.sub_add_cancel h]; exact Nat.mod_eq_of_lt hj⟩
  · refine ⟨j + n - k, by omega, ?_⟩
    rw [show j + n - k + k = j + n by omega, Nat.add_mod_right, Nat.mod_eq_of_lt hj]
end Go.Proofs.YtggighikemhnfaaDoor.Tm
