/- Package sig's rowAnew: a row in new memory. -/
import Derived.Test.YthejmepiliiihaaDoorSgA
import Derived.Maps.AppendAt
import Derived.Laws.Append
namespace Go.Proofs.YthejmepiliiihaaDoor
open Go.RowKit
set_option linter.unusedVariables false
theorem app_empty {P : Program} {t ty e : TypeId} {i : TypeInfo} {z : Value} (ht : P.underlying t = some (.slice e)) (hi : P.info? e = some i) (c : Nat) (w : World) :
    (Builtin.append_ #[t, t] ty #[.slice none 0 0, .slice none 0 c]).run P w = .ok (.slice none 0 0) w := by
  simp [Builtin.append_, run_underlying ht, sizeOf, typeInfo, hi, Builtin.lenOf, run_firstCells_none]
theorem below_grown {A B : World} (h : A.grownBy B none) : Below A.heap.size A B := ⟨h.os, h.tape, h.output, h.size, fun i hi => h.block i hi (by simp)⟩
theorem one_str (l : List ByteArray) : ∀ u ∈ l.flatMap strC, u.oneCell' = true := by
  intro u hu
  obtain ⟨x, _, h⟩ := List.mem_flatMap.1 hu
  simp [strC] at h
  subst h; rfl
theorem one_fun (l : List FunA) : ∀ u ∈ l.flatMap funC, u.oneCell' = true := by
  intro u hu
  obtain ⟨x, _, h⟩ := List.mem_flatMap.1 hu
  simp [funC] at h
  rcases h with rfl | rfl | rfl | rfl | rfl | rfl <;> rfl
theorem one_par (l : List ParA) : ∀ u ∈ l.flatMap parC, u.oneCell' = true := by
  intro u hu
  obtain ⟨x, _, h⟩ := List.mem_flatMap.1 hu
  simp [parC] at h
  rcases h with rfl | rfl <;> rfl
theorem one_mac (l : List MacV) : ∀ u ∈ l.flatMap macC, u.oneCell' = true := by
  intro u hu
  obtain ⟨x, _, h⟩ := List.mem_flatMap.1 hu
  simp [macC] at h
  rcases h with rfl | rfl | rfl | rfl | rfl | rfl <;> rfl
theorem at_add {w : World} {L : List Value} {g o : Nat} (h : ∀ (i : Nat) (v : Value), L[i]? = some v → w.cell? ⟨g, o + i, none⟩ = some v) : ∀ j u, L[j]? = some u → w.cell? ((⟨g, o, none⟩ : Addr).add j) = some u := fun j u hu => by
  rw [Addr.add_lit]; exact h j u hu
def RowPost (w : World) (E size n : Nat) (L : List Value) (e : Ending) (w' : World) : Prop := ∃ v, e = .returned v ∧ w'.ownsRow w.heap.size E size v n L ∧ Below w.heap.size w w'
theorem info_str : (Tryd.prog.info? 9).map (fun i => (i.zero, i.size, i.bytes)) = some (some (.string ⟨#[]⟩), 1, 16) := by kernel_rfl
theorem row_str (l : List ByteArray) (a : Option Addr) (c : Nat) (w : World) (hA : At w w.heap.size (l.flatMap strC) a) (hc : l.length ≤ c) (hl : l.length * 16 ≤ 140737488355328) (h63 : l.length ≤ maxLen) (ha : ∀ ad, a = some ad → True) :
    Calls Tryd.prog 33 #[.slice a l.length c] w (RowPost w 9 1 l.length (l.flatMap strC)) := by
  obtain ⟨i0, hi, hz0, hz1, hz2⟩ := info_parts info_str
  by_cases h0 : 0 < l.length
  · obtain ⟨g, o, rfl, hg, hcell⟩ := hA (by rw [len_flat strC_len]; omega)
    have HC := Lib.hid (at_add hcell)
    clear hcell hA
    go_enter Tryd.func33, Tryd.ntmps33
    go_wp2_with (at_builtin; refine wpList_append_own_at _ rfl _ _ 22 rfl w.heap.size 9 i0 _ 1 16 Tryd.underlying22 hi hz0 hz1 hz2 rfl (by decide) _ 0 [] rfl (World.ownsRow_nil _ _ _ _) ⟨g, o, none⟩ l.length c (l.flatMap strC) rfl (len_flat strC_len l) HC.out (one_str l) (by omega) (by omega) (Nat.le_refl _) ?_; intro v' w1 hown' hgrow hnil hloc; clear hnil hloc)
    go_ret
    exact ⟨v', rfl, by simpa using hown', below_grown hgrow⟩
  · obtain rfl : l = [] := List.eq_nil_of_length_eq_zero (by omega)
    cases a with
    | none =>
      have he := fun ty w => @app_empty Tryd.prog 22 ty 9 i0 (.string ⟨#[]⟩) Tryd.underlying22 hi c w
      go_enter Tryd.func33, Tryd.ntmps33
      go_wp2
      go_ret
      exact ⟨_, rfl, World.ownsRow_nil _ _ _ _, Below.refl _ _⟩
    | some ad =>
      go_enter Tryd.func33, Tryd.ntmps33
      go_wp2_with (at_builtin; refine wpList_append_own_at _ rfl _ _ 22 rfl w.heap.size 9 i0 _ 1 16 Tryd.underlying22 hi hz0 hz1 hz2 rfl (by decide) _ 0 [] rfl (World.ownsRow_nil _ _ _ _) ad 0 c [] rfl rfl (fun j u h => (by simp at h)) (fun u h => (by simp at h)) (by omega) (by omega) (Nat.le_refl _) ?_; intro v' w1 hown' hgrow hnil hloc; clear hnil hloc)
      go_ret
      exact ⟨v', rfl, by simpa using hown', below_grown hgrow⟩
theorem info_fun : (Tryd.prog.info? 29).map (fun i => (i.zero, i.size, i.bytes)) = some (some (.agg #[.string ⟨#[]⟩, .int .i64 0, .int .i64 0, .int .i64 0, .int .i64 0, .int .i64 0]), 6, 56) := by kernel_rfl
theorem row_fun (l : List FunA) (a : Option Addr) (c : Nat) (w : World) (hA : At w w.heap.size (l.flatMap funC) a) (hc : l.length ≤ c) (hl : l.length * 56 ≤ 140737488355328) (h63 : l.length ≤ maxLen) (ha : ∀ ad, a = some ad → True) :
    Calls Tryd.prog 34 #[.slice a l.length c] w (RowPost w 29 6 l.length (l.flatMap funC)) := by
  obtain ⟨i0, hi, hz0, hz1, hz2⟩ := info_parts info_fun
  by_cases h0 : 0 < l.length
  · obtain ⟨g, o, rfl, hg, hcell⟩ := hA (by rw [len_flat funC_len]; omega)
    have HC := Lib.hid (at_add hcell)
    clear hcell hA
    go_enter Tryd.func34, Tryd.ntmps34
    go_wp2_with (at_builtin; refine wpList_append_own_at _ rfl _ _ 23 rfl w.heap.size 29 i0 _ 6 56 Tryd.underlying23 hi hz0 hz1 hz2 rfl (by decide) _ 0 [] rfl (World.ownsRow_nil _ _ _ _) ⟨g, o, none⟩ l.length c (l.flatMap funC) rfl (len_flat funC_len l) HC.out (one_fun l) (by omega) (by omega) (Nat.le_refl _) ?_; intro v' w1 hown' hgrow hnil hloc; clear hnil hloc)
    go_ret
    exact ⟨v', rfl, by simpa using hown', below_grown hgrow⟩
  · obtain rfl : l = [] := List.eq_nil_of_length_eq_zero (by omega)
    cases a with
    | none =>
      have he := fun ty w => @app_empty Tryd.prog 23 ty 29 i0 (.string ⟨#[]⟩) Tryd.underlying23 hi c w
      go_enter Tryd.func34, Tryd.ntmps34
      go_wp2
      go_ret
      exact ⟨_, rfl, World.ownsRow_nil _ _ _ _, Below.refl _ _⟩
    | some ad =>
      go_enter Tryd.func34, Tryd.ntmps34
      go_wp2_with (at_builtin; refine wpList_append_own_at _ rfl _ _ 23 rfl w.heap.size 29 i0 _ 6 56 Tryd.underlying23 hi hz0 hz1 hz2 rfl (by decide) _ 0 [] rfl (World.ownsRow_nil _ _ _ _) ad 0 c [] rfl rfl (fun j u h => (by simp at h)) (fun u h => (by simp at h)) (by omega) (by omega) (Nat.le_refl _) ?_; intro v' w1 hown' hgrow hnil hloc; clear hnil hloc)
      go_ret
      exact ⟨v', rfl, by simpa using hown', below_grown hgrow⟩
theorem info_par : (Tryd.prog.info? 79).map (fun i => (i.zero, i.size, i.bytes)) = some (some (.agg #[.string ⟨#[]⟩, .int .i64 0]), 2, 24) := by kernel_rfl
theorem row_par (l : List ParA) (a : Option Addr) (c : Nat) (w : World) (hA : At w w.heap.size (l.flatMap parC) a) (hc : l.length ≤ c) (hl : l.length * 24 ≤ 140737488355328) (h63 : l.length ≤ maxLen) (ha : ∀ ad, a = some ad → True) :
    Calls Tryd.prog 36 #[.slice a l.length c] w (RowPost w 79 2 l.length (l.flatMap parC)) := by
  obtain ⟨i0, hi, hz0, hz1, hz2⟩ := info_parts info_par
  by_cases h0 : 0 < l.length
  · obtain ⟨g, o, rfl, hg, hcell⟩ := hA (by rw [len_flat parC_len]; omega)
    have HC := Lib.hid (at_add hcell)
    clear hcell hA
    go_enter Tryd.func36, Tryd.ntmps36
    go_wp2_with (at_builtin; refine wpList_append_own_at _ rfl _ _ 48 rfl w.heap.size 79 i0 _ 2 24 Tryd.underlying48 hi hz0 hz1 hz2 rfl (by decide) _ 0 [] rfl (World.ownsRow_nil _ _ _ _) ⟨g, o, none⟩ l.length c (l.flatMap parC) rfl (len_flat parC_len l) HC.out (one_par l) (by omega) (by omega) (Nat.le_refl _) ?_; intro v' w1 hown' hgrow hnil hloc; clear hnil hloc)
    go_ret
    exact ⟨v', rfl, by simpa using hown', below_grown hgrow⟩
  · obtain rfl : l = [] := List.eq_nil_of_length_eq_zero (by omega)
    cases a with
    | none =>
      have he := fun ty w => @app_empty Tryd.prog 48 ty 79 i0 (.string ⟨#[]⟩) Tryd.underlying48 hi c w
      go_enter Tryd.func36, Tryd.ntmps36
      go_wp2
      go_ret
      exact ⟨_, rfl, World.ownsRow_nil _ _ _ _, Below.refl _ _⟩
    | some ad =>
      go_enter Tryd.func36, Tryd.ntmps36
      go_wp2_with (at_builtin; refine wpList_append_own_at _ rfl _ _ 48 rfl w.heap.size 79 i0 _ 2 24 Tryd.underlying48 hi hz0 hz1 hz2 rfl (by decide) _ 0 [] rfl (World.ownsRow_nil _ _ _ _) ad 0 c [] rfl rfl (fun j u h => (by simp at h)) (fun u h => (by simp at h)) (by omega) (by omega) (Nat.le_refl _) ?_; intro v' w1 hown' hgrow hnil hloc; clear hnil hloc)
      go_ret
      exact ⟨v', rfl, by simpa using hown', below_grown hgrow⟩
theorem info_mac : (Tryd.prog.info? 50).map (fun i => (i.zero, i.size, i.bytes)) = some (some (.agg #[.string ⟨#[]⟩, .slice none 0 0, .int .i64 0, .int .i8 0, .string ⟨#[]⟩, .slice none 0 0]), 6, 96) := by kernel_rfl
theorem row_mac (l : List MacV) (a : Option Addr) (c : Nat) (w : World) (hA : At w w.heap.size (l.flatMap macC) a) (hc : l.length ≤ c) (hl : l.length * 96 ≤ 140737488355328) (h63 : l.length ≤ maxLen) (ha : ∀ ad, a = some ad → True) :
    Calls Tryd.prog 35 #[.slice a l.length c] w (RowPost w 50 6 l.length (l.flatMap macC)) := by
  obtain ⟨i0, hi, hz0, hz1, hz2⟩ := info_parts info_mac
  by_cases h0 : 0 < l.length
  · obtain ⟨g, o, rfl, hg, hcell⟩ := hA (by rw [len_flat macC_len]; omega)
    have HC := Lib.hid (at_add hcell)
    clear hcell hA
    go_enter Tryd.func35, Tryd.ntmps35
    go_wp2_with (at_builtin; refine wpList_append_own_at _ rfl _ _ 24 rfl w.heap.size 50 i0 _ 6 96 Tryd.underlying24 hi hz0 hz1 hz2 rfl (by decide) _ 0 [] rfl (World.ownsRow_nil _ _ _ _) ⟨g, o, none⟩ l.length c (l.flatMap macC) rfl (len_flat macC_len l) HC.out (one_mac l) (by omega) (by omega) (Nat.le_refl _) ?_; intro v' w1 hown' hgrow hnil hloc; clear hnil hloc)
    go_ret
    exact ⟨v', rfl, by simpa using hown', below_grown hgrow⟩
  · obtain rfl : l = [] := List.eq_nil_of_length_eq_zero (by omega)
    cases a with
    | none =>
      have he := fun ty w => @app_empty Tryd.prog 24 ty 50 i0 (.string ⟨#[]⟩) Tryd.underlying24 hi c w
      go_enter Tryd.func35, Tryd.ntmps35
      go_wp2
      go_ret
      exact ⟨_, rfl, World.ownsRow_nil _ _ _ _, Below.refl _ _⟩
    | some ad =>
      go_enter Tryd.func35, Tryd.ntmps35
      go_wp2_with (at_builtin; refine wpList_append_own_at _ rfl _ _ 24 rfl w.heap.size 50 i0 _ 6 96 Tryd.underlying24 hi hz0 hz1 hz2 rfl (by decide) _ 0 [] rfl (World.ownsRow_nil _ _ _ _) ad 0 c [] rfl rfl (fun j u h => (by simp at h)) (fun u h => (by simp at h)) (by omega) (by omega) (Nat.le_refl _) ?_; intro v' w1 hown' hgrow hnil hloc; clear hnil hloc)
      go_ret
      exact ⟨v', rfl, by simpa using hown', below_grown hgrow⟩
end Go.Proofs.YthejmepiliiihaaDoor
