/- Clauses: Idle, Within. -/
import Derived.Test.YtbjplhbflbabjaaDoorClG
import Derived.Test.YtbjplhbflbabjaaDoorClH
namespace Go.Proofs.YtbjplhbflbabjaaDoor.Tm
open Go.RowKit Go.Sort Go.Lib Go.Shelf
set_option linter.unusedVariables false
def hitP : Option Int → Int → Bool
  | none, _ => false
  | some y, x => x == negM y
def idleF : Option Int → List Int → Bool
  | _, [] => false
  | p, x :: r => hitP p x || idleF (some x) r
def prevM (ss : List Int) : Nat → Option Int
  | 0 => none
  | j + 1 => ss[j]?
def idleM (xs : List Int) : Bool := idleF none (sortM xs)
theorem sortM_len (xs : List Int) : (sortM xs).length = xs.length := List.length_mergeSort _
theorem sortM_mem {xs : List Int} {x : Int} : x ∈ sortM xs ↔ x ∈ xs := List.mem_mergeSort
theorem box_here (w : World) (v : Value) (t : TypeId) : (w.alloc (.cells #[v] t)).heap[w.heap.size]? = some (.cells #[v] t (0, 0)) := heap_alloc_new w _
theorem sorted_of (xs : List Int) (a : Option Addr) (c : Nat) (w V : World) (hV : Below w.heap.size w V) (hA : IntsR w xs a c) (hm : xs.length ≤ 5000) :
    Calls Tryd.prog 18 #[.func (.func 34) #[] #[.pointer (some ⟨V.heap.size, 0, none⟩)]] (V.alloc (.cells #[.slice a xs.length c] 22)) fun e w' => ∃ a' c', e = .returned (.slice a' xs.length c') ∧ Hid (IntsR w' (sortM xs) a' c') ∧ Hid (Below w.heap.size w w') := by
  have hb := (Below.refl _ V).alloc (Nat.le_refl _) (.cells #[.slice a xs.length c] 22)
  refine (Sorted_any xs a c V.heap.size _ hm ((hA.below hV).below hb) (box_here V _ _)).mono ?_
  rintro e w' ⟨v, rfl, h1, h2⟩
  obtain ⟨a', c', rfl, h3⟩ := RowO.ints (xs := sortM xs) h1 (fun x hx => hA.ok x (sortM_mem.1 hx))
  exact ⟨a', c', by rw [sortM_len], h3, ball (ball hV hb) h2⟩
theorem Idle_any (xs : List Int) (a : Option Addr) (c : Nat) (r : Bool) (w : World) (hA : IntsR w xs a c) (hm : xs.length ≤ 5000) (hr : idleM xs = r) :
    Calls Tryd.prog 15 #[.slice a xs.length c] w fun e w' => e = .returned (.bool r) ∧ Below w.heap.size w w' := by
  have HV : Hid (∀ V, Calls Tryd.prog 19 #[.slice a xs.length c] V fun e w' => e = .returned (.func (.func 34) #[] #[.pointer (some ⟨V.heap.size, 0, none⟩)]) ∧ V.alloc (.cells #[.slice a xs.length c] 22) = w') := fun V => Values_any a xs.length c V
  have HS : Hid (∀ V w', V.alloc (.cells #[.slice a xs.length c] 22) = w' → Below w.heap.size w V → Calls Tryd.prog 18 #[.func (.func 34) #[] #[.pointer (some ⟨V.heap.size, 0, none⟩)]] w' fun e w' => ∃ a' c', e = .returned (.slice a' xs.length c') ∧ Hid (IntsR w' (sortM xs) a' c') ∧ Hid (Below w.heap.size w w')) := fun V w' e hV => by rw [← e]; exact sorted_of xs a c w V hV hA hm
  have HBr : Hid (Below w.heap.size w w) := Below.refl _ _
  have HNg : Hid (∀ V x, I64 x → Calls Tryd.prog 24 #[.int .i64 x] V fun e w' => e = .returned (.int .i64 (negM x)) ∧ V = w') := fun V x hx => Neg_any x V hx
  obtain ⟨ss, hss⟩ : ∃ ss, sortM xs = ss := ⟨_, rfl⟩
  have HLen : Hid (ss.length = xs.length) := by rw [← hss]; exact sortM_len xs
  rw [hss] at HS
  unfold idleM at hr
  rw [hss] at hr
  have H0 : Hid (idleF (prevM ss 0) (ss.drop 0) = r) := by show _ = _; rw [List.drop_zero]; exact hr
  have hml : xs.length ≤ 9223372036854775807 := by omega
  clear hA hr hss
  go_enter Tryd.func15, Tryd.ntmps15
  go_wp2_with fail
  refine (HV.out _).mono ?_
  rintro e w1 ⟨rfl, hw1⟩
  have HW1 := Lib.hid hw1
  clear hw1
  go_wp2_with fail
  refine (HS.out _ _ HW1.out HBr.out).mono ?_
  rintro e w2 ⟨a', c', rfl, HI, HB2⟩
  have l1 : xs.length ≤ c' := by rw [← HLen.out]; exact HI.out.le
  have HI2 : Hid (∀ V, Below w2.heap.size w2 V → IntsR V ss a' c') := fun V hV => HI.out.below hV
  have HBs : Hid (Below w2.heap.size w2 w2) := Below.refl _ _
  clear HI
  go_wp2
  go_loopw [11] (fun i wr => ∃ k : Nat, k ≤ xs.length ∧ i = .int .i64 k ∧ Hid (idleF (prevM ss k) (ss.drop k) = r) ∧ Hid (wr = w2)) (fun i _ => xs.length - (intOf i).toNat)
  case atStart => exact ⟨0, Nat.zero_le _, rfl, H0, rfl⟩
  case round =>
    clear H0
    obtain ⟨k, hkl, rfl, HE, HW⟩ := hrel
    by_cases hlt : k < xs.length
    · obtain ⟨x, hx⟩ : ∃ x, ss[k]? = some x := ⟨_, List.getElem?_eq_getElem (by rw [HLen.out]; exact hlt)⟩
      have hI := HI2.out wr (by rw [HW.out]; exact Below.refl _ _)
      obtain ⟨g, o, rfl, hg, q0⟩ := hI.cell hx
      have hE := HE.out
      rw [drop_get hx] at hE
      cases k with
      | zero =>
        have hE2 : idleF (prevM ss 1) (ss.drop 1) = r := by
          rw [← hE]
          show idleF (ss[0]?) _ = _
          rw [hx]
          rfl
        have HE2 := Lib.hid hE2
        rw [Nat.add_zero] at q0
        clear hx hE hE2 HE hI
        go_wp2
        go_roundw
        case rel => exact ⟨1, by omega, by go_num, HE2, HW⟩
        case measure => simp [intOf]; omega
      | succ j =>
        obtain ⟨y, hy⟩ : ∃ y, ss[j]? = some y := ⟨_, List.getElem?_eq_getElem (by have := HLen.out; omega)⟩
        obtain ⟨g', o', e', _, q1⟩ := hI.cell hy
        cases e'
        have hok := hI.ok y (List.mem_of_getElem? hy)
        have hp : prevM ss (j + 1) = some y := hy
        rw [hp] at hE
        have HNy := Lib.hid (HNg.out wr y hok)
        have hE2 : ((x == negM y) || idleF (prevM ss (j + 2)) (ss.drop (j + 2))) = r := by
          rw [← hE]
          show ((x == negM y) || idleF (ss[j + 1]?) _) = _
          rw [hx]
          rfl
        have hjl : (j : Int) < (xs.length : Int) := by omega
        by_cases hxy : x = negM y
        · have d0 : (x == negM y) = true := eq_t hxy
          rw [d0, Bool.true_or] at hE2
          have HE2 := Lib.hid hE2
          clear hx hy hE hE2 HE hI hp hok hxy
          go_wp2_with (first | (go_at_call 24; refine HNy.out.mono ?_; rintro e w3 ⟨rfl, rfl⟩))
          go_ret
          exact ⟨ret_bool HE2.out, by rw [HW.out]; exact HB2.out⟩
        · have d0 : (x == negM y) = false := eq_f hxy
          rw [d0, Bool.false_or] at hE2
          have HE2 := Lib.hid hE2
          clear hx hy hE hE2 HE hI hp hok hxy
          go_wp2_with (first | (go_at_call 24; refine HNy.out.mono ?_; rintro e w3 ⟨rfl, rfl⟩))
          go_roundw
          case rel => exact ⟨j + 2, by omega, by go_num, HE2, HW⟩
          case measure => simp [intOf]; omega
    · obtain rfl : k = xs.length := by omega
      have hE := HE.out
      rw [List.drop_of_length_le (by rw [HLen.out]; exact Nat.le_refl _)] at hE
      have HE2 : Hid (false = r) := by rw [← hE]; cases prevM ss xs.length <;> rfl
      clear hE HE
      go_wp2
      go_ret
      exact ⟨ret_bool HE2.out, by rw [HW.out]; exact HB2.out⟩
theorem sortM_sorted (xs : List Int) : (sortM xs).Pairwise (· ≤ ·) := by
  have h := List.pairwise_mergeSort (le := fun (x y : Int) => decide (x ≤ y)) (fun a b c h1 h2 => by simp only [decide_eq_true_eq] at *; omega) (fun a b => by simp only [Bool.or_eq_true, decide_eq_true_eq]; omega) xs
  exact h.imp (fun h => by simpa using h)
theorem bin_any (xs : List Int) (a : Option Addr) (c : Nat) (x : Int) (q : Bool) (w : World) (hA : IntsR w xs a c) (hs : xs.Pairwise (· ≤ ·)) (hm : xs.length ≤ 5000) (hq : xs.contains x = q) :
    Calls Tryd.prog 22 #[.slice a xs.length c, .int .i64 x] w fun e w' => ∃ z : Int, e = .returned (.tuple #[.int .i64 z, .bool q]) ∧ ∃ n, w' = w.drewN n := by
  by_cases h0 : xs.length = 0
  · have hx : xs = [] := List.eq_nil_of_length_eq_zero h0
    subst hx
    refine (Tryd.slices_BinarySearch_int_empty a c x w).mono ?_
    rintro e w' ⟨rfl, rfl⟩
    exact ⟨0, by rw [← hq]; rfl, 0, rfl⟩
  · obtain ⟨g, o, rfl, hg, hc⟩ := hA.tat (by simp; omega)
    refine (Tryd.slices_BinarySearch_int g o xs.length c xs x w (Nat.le_refl _) (by omega) (getD_cell hc) (by rw [List.take_length]; exact hs)).mono ?_
    rintro e w' ⟨rfl, n, rfl⟩
    rw [List.take_length, hq]
    exact ⟨_, rfl, n, rfl⟩
theorem wif_any (ss : List Int) (a : Option Addr) (c bx : Nat) (x : Int) (W : World) (hc : W.cell? ⟨bx, 0, none⟩ = some (.slice a ss.length c)) (hA : IntsR W ss a c) (hs : ss.Pairwise (· ≤ ·)) (hm : ss.length ≤ 5000) :
    FnGives Tryd.prog 21 #[.pointer (some ⟨bx, 0, none⟩)] #[.int .i64 x] (.bool (!ss.contains x)) W := by
  show Calls Tryd.prog 21 #[.int .i64 x, .pointer (some ⟨bx, 0, none⟩)] W _
  have hlt := World.block_lt_of_cell? (a := ⟨bx, 0, none⟩) W hc
  obtain ⟨q, hq⟩ : ∃ q, ss.contains x = q := ⟨_, rfl⟩
  have HB : Hid (Calls Tryd.prog 22 #[.slice a ss.length c, .int .i64 x] W fun e w' => ∃ z : Int, e = .returned (.tuple #[.int .i64 z, .bool q]) ∧ ∃ n, w' = W.drewN n) := bin_any ss a c x q W hA hs hm hq
  rw [hq]
  clear hA hs hq
  go_enter Tryd.func21, Tryd.ntmps21
  go_wp2_with (first | (go_at_call 22; refine HB.out.mono ?_; rintro e w1 ⟨z, rfl, n, rfl⟩))
  go_ret
  exact ⟨by cases q <;> rfl, n, rfl⟩
def withinM (xs ys : List Int) : Bool := xs.all fun x => ys.contains x
theorem withinM_any (xs ys : List Int) : xs.any (fun x => !(sortM ys).contains x) = !withinM xs ys := by
  unfold withinM
  rw [← Bool.not_not (xs.any _), List.not_any_eq_all_not]
  congr 1
  refine List.all_congr rfl (fun x => ?_)
  rw [Bool.not_not]
  by_cases h : x ∈ ys
  · rw [List.contains_iff_mem.2 h, List.contains_iff_mem.2 (sortM_mem.2 h)]
  · have h1 : ¬ ys.contains x = true := fun e => h (List.contains_iff_mem.1 e)
    have h2 : ¬ (sortM ys).contains x = true := fun e => h (sortM_mem.1 (List.contains_iff_mem.1 e))
    rw [Bool.eq_false_iff.2 h1, Bool.eq_false_iff.2 h2]
theorem cont_any (p : Int → Bool) (gf : Nat) (lb : Array Value) (eg : ∀ args w, (callFunc gf args).run Tryd.prog w = .ok (.enter gf args) w) (xs : List Int) (a : Option Addr) (c : Nat) (w : World) (hA : IntsR w xs a c)
    (hp : ∀ W x, Below w.heap.size w W → FnGives Tryd.prog gf lb #[.int .i64 x] (.bool (p x)) W) :
    Calls Tryd.prog 20 #[.slice a xs.length c, .func (.func gf) #[] lb] w fun e w' => e = .returned (.bool (xs.any p)) ∧ Below w.heap.size w w' := by
  by_cases h0 : xs.length = 0
  · have hx : xs = [] := List.eq_nil_of_length_eq_zero h0
    subst hx
    refine (Tryd.slices_ContainsFunc_empty (α := Int) a c _ w).mono ?_
    rintro e w' ⟨rfl, rfl⟩
    exact ⟨rfl, Below.refl _ _⟩
  · obtain ⟨g, o, rfl, hg, hc⟩ := hA.tat (by simp; omega)
    refine (Tryd.slices_ContainsFunc (α := Int) (Value.int .i64) p gf lb eg g o xs.length c xs w hp (Nat.le_refl _) (len_fits hA.le hA.cap) (fun j hj => ?_)).mono ?_
    · rw [getD_cell hc j hj, getElem!_pos xs j hj, List.getD_eq_getElem?_getD, List.getElem?_eq_getElem hj]; rfl
    · rintro e w' ⟨rfl, n, rfl⟩
      rw [List.take_length]
      exact ⟨rfl, below_drewN (Below.refl _ _)⟩
theorem Within_any (xs : List Int) (a : Option Addr) (c : Nat) (ys : List Int) (b : Option Addr) (d : Nat) (r : Bool) (w : World) (hA : IntsR w xs a c) (hB : IntsR w ys b d) (hm : ys.length ≤ 5000) (hr : withinM xs ys = r) :
    Calls Tryd.prog 9 #[.slice a xs.length c, .slice b ys.length d] w fun e w' => e = .returned (.bool r) ∧ Below w.heap.size w w' := by
  have HV : Hid (∀ V, Calls Tryd.prog 19 #[.slice b ys.length d] V fun e w' => e = .returned (.func (.func 34) #[] #[.pointer (some ⟨V.heap.size, 0, none⟩)]) ∧ V.alloc (.cells #[.slice b ys.length d] 22) = w') := fun V => Values_any b ys.length d V
  have HS : Hid (∀ V w', V.alloc (.cells #[.slice b ys.length d] 22) = w' → Below w.heap.size w V → Calls Tryd.prog 18 #[.func (.func 34) #[] #[.pointer (some ⟨V.heap.size, 0, none⟩)]] w' fun e w' => ∃ a' c', e = .returned (.slice a' ys.length c') ∧ Hid (IntsR w' (sortM ys) a' c') ∧ Hid (Below w.heap.size w w')) := fun V w' e hV => by rw [← e]; exact sorted_of ys b d w V hV hB hm
  have HBr : Hid (Below w.heap.size w w) := Below.refl _ _
  have HC : Hid (∀ V (a' : Option Addr) (c' : Nat), Below w.heap.size w V → IntsR V (sortM ys) a' c' → Calls Tryd.prog 20 #[.slice a xs.length c, .func (.func 21) #[] #[.pointer (some ⟨V.heap.size, 0, none⟩)]] (V.alloc (.cells #[.slice a' ys.length c'] 22)) fun e w' => e = .returned (.bool (!r)) ∧ Below w.heap.size w w') := fun V a' c' hV hI => by
    have hb := (Below.refl _ V).alloc (Nat.le_refl _) (.cells #[.slice a' ys.length c'] 22)
    have hl : V.heap.size < (V.alloc (.cells #[.slice a' ys.length c'] 22)).heap.size := by simp
    refine (cont_any (fun x => !(sortM ys).contains x) 21 #[.pointer (some ⟨V.heap.size, 0, none⟩)] (enters_of Tryd.func21 (by kernel_rfl) rfl) xs a c _ ((hA.below hV).below hb) (fun W x hW => ?_)).mono fun e w' ⟨h1, h2⟩ => ⟨by rw [h1, withinM_any, hr], ball (ball hV hb) h2⟩
    exact wif_any (sortM ys) a' c' V.heap.size x W ((hW.cell (p := ⟨V.heap.size, 0, none⟩) hl).trans (by rw [sortM_len]; exact (cell_of_row _ _ 0 _ _ _ (box_here V _ _)).trans rfl)) ((hI.below hb).below hW) (sortM_sorted ys) (by rw [sortM_len]; exact hm)
  clear hA hB hr
  go_enter Tryd.func9, Tryd.ntmps9
  go_wp2_with fail
  refine (HV.out _).mono ?_
  rintro e w1 ⟨rfl, hw1⟩
  have HW1 := Lib.hid hw1
  clear hw1
  go_wp2_with fail
  refine (HS.out _ _ HW1.out HBr.out).mono ?_
  rintro e w2 ⟨a', c', rfl, HI, HB2⟩
  go_wp2_with fail
  refine (HC.out _ _ _ HB2.out HI.out).mono ?_
  rintro e w3 ⟨rfl, hb3⟩
  go_wp2
  go_ret
  exact ⟨by cases r <;> rfl, hb3⟩
end Go.Proofs.YtbjplhbflbabjaaDoor.Tm
