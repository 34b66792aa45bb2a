/- Clauses: values, states. -/
import Derived.Test.YtbjplhbflbabjaaDoorClB
namespace Go.Proofs.YtbjplhbflbabjaaDoor.Tm
open Go.RowKit
set_option linter.unusedVariables false
def turnL : List Int := [0, 2, 1]
/-- What the package's variable holds. -/
structure GC (w : World) : Prop where
  lt : 0 < w.heap.size
  cell : ∀ k v, turnL[k]? = some v → w.cell? ⟨0, k, none⟩ = some (.int .i8 v)
theorem GC.below {w w' : World} (h : GC w) (hb : Below w.heap.size w w') : GC w' := ⟨Nat.lt_of_lt_of_le h.lt hb.size, fun k v hk => (hb.cell (p := ⟨0, k, none⟩) h.lt).trans (h.cell k v hk)⟩
/-- An assignment lies in a slice. -/
structure ValR (w : World) (vs : List Int) (a : Option Addr) (c : Nat) : Prop where
  le : vs.length ≤ c
  cap : c ≤ maxLen
  tat : At w w.heap.size (vs.map (Value.int .i8)) a
  ok : ∀ v ∈ vs, v = 0 ∨ v = 1 ∨ v = 2
theorem ValR.below {w w' : World} {vs : List Int} {a : Option Addr} {c : Nat} (h : ValR w vs a c) (hb : Below w.heap.size w w') : ValR w' vs a c :=
  ⟨h.le, h.cap, (h.tat.below hb).more hb.size, h.ok⟩
theorem ValR.cell {w : World} {vs : List Int} {a : Option Addr} {c k : Nat} {x : Int} (h : ValR w vs a c) (hk : vs[k]? = some x) : ∃ g o : Nat, a = some ⟨g, o, none⟩ ∧ g < w.heap.size ∧ w.cell? ⟨g, o + k, none⟩ = some (.int .i8 x) := by
  have hlt := (List.getElem?_eq_some_iff.1 hk).1
  obtain ⟨g, o, e, hg, hc⟩ := h.tat (by simp; omega)
  exact ⟨g, o, e, hg, hc k _ (by rw [List.getElem?_map, hk]; rfl)⟩
/-- Bools lie in a slice. -/
structure BoolsR (w : World) (bs : List Bool) (a : Option Addr) (c : Nat) : Prop where
  le : bs.length ≤ c
  cap : c ≤ maxLen
  tat : At w w.heap.size (bs.map Value.bool) a
theorem BoolsR.below {w w' : World} {bs : List Bool} {a : Option Addr} {c : Nat} (h : BoolsR w bs a c) (hb : Below w.heap.size w w') : BoolsR w' bs a c :=
  ⟨h.le, h.cap, (h.tat.below hb).more hb.size⟩
theorem BoolsR.cell {w : World} {bs : List Bool} {a : Option Addr} {c k : Nat} {x : Bool} (h : BoolsR w bs a c) (hk : bs[k]? = some x) : ∃ g o : Nat, a = some ⟨g, o, none⟩ ∧ g < w.heap.size ∧ w.cell? ⟨g, o + k, none⟩ = some (.bool x) := by
  have hlt := (List.getElem?_eq_some_iff.1 hk).1
  obtain ⟨g, o, e, hg, hc⟩ := h.tat (by simp; omega)
  exact ⟨g, o, e, hg, hc k _ (by rw [List.getElem?_map, hk]; rfl)⟩
/-- A literal's value. -/
def valM (vs : List Int) (x : Int) : Int :=
  match vs[(x / 2).toNat]? with
  | none => 0
  | some v => if v = 1 ∨ v = 2 then (if x % 2 = 1 then 3 - v else v) else 0
theorem Val_any (vs : List Int) (a : Option Addr) (c : Nat) (x : Int) (r : Int) (w : World) (hG : GC w) (hA : ValR w vs a c) (hx : I64 x) (h0 : 0 ≤ x) (hr : valM vs x = r) :
    Calls Tryd.prog 27 #[.slice a vs.length c, .int .i64 x] w fun e w' => e = .returned (.int .i8 r) ∧ w = w' := by
  have HN : Hid (∀ V, Calls Tryd.prog 41 #[.int .i64 x] V fun e w' => e = .returned (.int .i64 (x / 2)) ∧ V = w') := fun V => Node_any x V hx
  have hx0 : ¬ x < 0 := by omega
  have l1 : vs.length ≤ c := hA.le
  have c1 : vs.length ≤ 9223372036854775807 := by have := hA.cap; simp only [maxLen] at this; omega
  obtain ⟨k, hk⟩ : ∃ k : Nat, x / 2 = (k : Int) := ⟨(x / 2).toNat, by omega⟩
  rw [hk] at HN
  unfold valM at hr
  rw [hk, Int.toNat_natCast] at hr
  have hd0 : decide (x < 0) = false := decide_eq_false (by omega)
  by_cases hkl : k < vs.length
  · obtain ⟨v, hv⟩ : ∃ v, vs[k]? = some v := ⟨_, List.getElem?_eq_getElem hkl⟩
    obtain ⟨g, o, rfl, hg, q0⟩ := hA.cell hv
    have hok := hA.ok v (List.mem_of_getElem? hv)
    rw [hv] at hr
    have hg1 : decide ((vs.length : Int) ≤ (k : Int)) = false := decide_eq_false (by omega)
    have t0 := hG.cell 0 0 rfl
    have t1 := hG.cell 1 2 rfl
    have t2 := hG.cell 2 1 rfl
    have tz := hG.lt
    have hki : (k : Int) < (vs.length : Int) := by omega
    obtain ⟨p, hp⟩ : ∃ p, decide (x % 2 = 1) = p := ⟨_, rfl⟩
    have HI : Hid (∀ V, Calls Tryd.prog 42 #[.int .i64 x] V fun e w' => e = .returned (.bool p) ∧ V = w') := fun V => by rw [← hp]; exact Is_any x V hx
    have hpr : (if v = 1 ∨ v = 2 then (if p = true then 3 - v else v) else 0) = r := by rw [← hr, ← hp]; simp only [decide_eq_true_eq]
    clear hA hG hv hk hr hp
    rcases hok with rfl | rfl | rfl
    · have hR : (0 : Int) = r := by rw [← hpr]; rfl
      have HR := Lib.hid hR
      clear hR hpr
      cases p
      · go_enter Tryd.func27, Tryd.ntmps27
        go_wp2_with (first | (go_at_call 41; refine (HN.out _).mono ?_; rintro e w1 ⟨rfl, rfl⟩) | (go_at_call 42; refine (HI.out _).mono ?_; rintro e w1 ⟨rfl, rfl⟩))
        go_ret
        exact ⟨ret_int HR.out, rfl⟩
      · go_enter Tryd.func27, Tryd.ntmps27
        go_wp2_with (first | (go_at_call 41; refine (HN.out _).mono ?_; rintro e w1 ⟨rfl, rfl⟩) | (go_at_call 42; refine (HI.out _).mono ?_; rintro e w1 ⟨rfl, rfl⟩))
        go_ret
        exact ⟨ret_int HR.out, rfl⟩
    · cases p
      · have hR : (1 : Int) = r := by rw [← hpr]; rfl
        have HR := Lib.hid hR
        clear hR hpr
        go_enter Tryd.func27, Tryd.ntmps27
        go_wp2_with (first | (go_at_call 41; refine (HN.out _).mono ?_; rintro e w1 ⟨rfl, rfl⟩) | (go_at_call 42; refine (HI.out _).mono ?_; rintro e w1 ⟨rfl, rfl⟩))
        go_ret
        exact ⟨ret_int HR.out, rfl⟩
      · have hR : (2 : Int) = r := by rw [← hpr]; rfl
        have HR := Lib.hid hR
        clear hR hpr
        go_enter Tryd.func27, Tryd.ntmps27
        go_wp2_with (first | (go_at_call 41; refine (HN.out _).mono ?_; rintro e w1 ⟨rfl, rfl⟩) | (go_at_call 42; refine (HI.out _).mono ?_; rintro e w1 ⟨rfl, rfl⟩))
        go_ret
        exact ⟨ret_int HR.out, rfl⟩
    · cases p
      · have hR : (2 : Int) = r := by rw [← hpr]; rfl
        have HR := Lib.hid hR
        clear hR hpr
        go_enter Tryd.func27, Tryd.ntmps27
        go_wp2_with (first | (go_at_call 41; refine (HN.out _).mono ?_; rintro e w1 ⟨rfl, rfl⟩) | (go_at_call 42; refine (HI.out _).mono ?_; rintro e w1 ⟨rfl, rfl⟩))
        go_ret
        exact ⟨ret_int HR.out, rfl⟩
      · have hR : (1 : Int) = r := by rw [← hpr]; rfl
        have HR := Lib.hid hR
        clear hR hpr
        go_enter Tryd.func27, Tryd.ntmps27
        go_wp2_with (first | (go_at_call 41; refine (HN.out _).mono ?_; rintro e w1 ⟨rfl, rfl⟩) | (go_at_call 42; refine (HI.out _).mono ?_; rintro e w1 ⟨rfl, rfl⟩))
        go_ret
        exact ⟨ret_int HR.out, rfl⟩
  · have hg1 : decide ((vs.length : Int) ≤ (k : Int)) = true := decide_eq_true (by omega)
    rw [List.getElem?_eq_none (by omega)] at hr
    have HR : Hid (0 = r) := hr
    clear hA hG hk hr
    go_enter Tryd.func27, Tryd.ntmps27
    go_wp2_with (first | (go_at_call 41; refine (HN.out _).mono ?_; rintro e w1 ⟨rfl, rfl⟩))
    go_ret
    exact ⟨ret_int HR.out, rfl⟩
/-- A clause's state, and the open literal. -/
def stF (vs : List Int) : List Int → Int × Int → Int × Int
  | [], p => p
  | x :: r, p => if valM vs x = 1 then (0, -1) else if valM vs x = 0 then stF vs r (if p.1 = 1 then (2, x) else (3, -1)) else stF vs r p
def stM (vs xs : List Int) : Int × Int := stF vs xs (1, -1)
theorem ret_pair {s y : Int} {r : Int × Int} (h : (s, y) = r) : Ending.returned (.tuple #[.int .i8 s, .int .i64 y]) = .returned (.tuple #[.int .i8 r.1, .int .i64 r.2]) := by subst h; rfl
theorem State_any (xs : List Int) (a : Option Addr) (c : Nat) (vs : List Int) (b : Option Addr) (d : Nat) (r : Int × Int) (w : World) (hG : GC w) (hA : IntsR w xs a c) (h0 : ∀ x ∈ xs, 0 ≤ x) (hB : ValR w vs b d) (hr : stM vs xs = r) :
    Calls Tryd.prog 14 #[.slice a xs.length c, .slice b vs.length d] w fun e w' => e = .returned (.tuple #[.int .i8 r.1, .int .i64 r.2]) ∧ Below w.heap.size w w' := by
  have HA := Lib.hid hA
  have l1 : xs.length ≤ c := hA.le
  have c1 : xs.length ≤ 9223372036854775807 := by have := hA.cap; simp only [maxLen] at this; omega
  have HBr : Hid (Below w.heap.size w w) := Below.refl _ _
  have HV : Hid (∀ V x v, Below w.heap.size w V → x ∈ xs → valM vs x = v → Calls Tryd.prog 27 #[.slice b vs.length d, .int .i64 x] V fun e w' => e = .returned (.int .i8 v) ∧ V = w') := fun V x v hV hx hv => Val_any vs b d x v V (hG.below hV) (hB.below hV) (hA.ok x hx) (h0 x hx) hv
  have H0 : Hid (stF vs (xs.drop 0) (1, -1) = r) := by show _ = _; rw [List.drop_zero]; exact hr
  clear hA hr hG hB h0
  go_enter Tryd.func14, Tryd.ntmps14
  go_wp2
  go_loopw [4, 5, 10] (fun p q i wr => ∃ (k : Nat) (s y : Int), k ≤ xs.length ∧ p = .int .i8 s ∧ q = .int .i64 y ∧ i = .int .i64 k ∧ Hid (stF vs (xs.drop k) (s, y) = r) ∧ Hid (Below w.heap.size w wr)) (fun _ _ i _ => xs.length - (intOf i).toNat)
  case atStart => exact ⟨0, 1, -1, Nat.zero_le _, rfl, rfl, rfl, H0, HBr⟩
  case round =>
    clear H0
    obtain ⟨k, s, y, hkl, rfl, rfl, rfl, HE, HW⟩ := hrel
    by_cases hlt : k < xs.length
    · obtain ⟨x, hx⟩ : ∃ x, xs[k]? = some x := ⟨_, List.getElem?_eq_getElem hlt⟩
      obtain ⟨g, o, rfl, hg, q0⟩ := (HA.out.below HW.out).cell hx
      have hE := HE.out
      rw [drop_get hx] at hE
      unfold stF at hE
      obtain ⟨v, hv⟩ : ∃ v, valM vs x = v := ⟨_, rfl⟩
      have HVx := Lib.hid (HV.out wr x v HW.out (List.mem_of_getElem? hx) hv)
      rw [hv] at hE
      clear hx HE hv
      by_cases h1 : v = 1
      · rw [if_pos h1] at hE
        subst h1
        have HE2 := Lib.hid hE
        clear hE
        go_wp2_with (first | (go_at_call 27; refine HVx.out.mono ?_; rintro e w1 ⟨rfl, rfl⟩))
        go_ret2
        exact ⟨ret_pair HE2.out, HW.out⟩
      · have d1 : (v == 1) = false := eq_f h1
        rw [if_neg h1] at hE
        by_cases h2 : v = 0
        · rw [if_pos h2] at hE
          subst h2
          clear d1 h1
          by_cases h3 : s = 1
          · have d3 : (s == 1) = true := eq_t h3
            rw [if_pos h3] at hE
            have HE2 := Lib.hid hE
            clear hE h3
            go_wp2_with (first | (go_at_call 27; refine HVx.out.mono ?_; rintro e w1 ⟨rfl, rfl⟩))
            go_roundw
            case rel => exact ⟨k + 1, 2, x, by omega, rfl, rfl, by go_num, HE2, HW⟩
            case measure => simp [intOf]; omega
          · have d3 : (s == 1) = false := eq_f h3
            rw [if_neg h3] at hE
            have HE2 := Lib.hid hE
            clear hE h3
            go_wp2_with (first | (go_at_call 27; refine HVx.out.mono ?_; rintro e w1 ⟨rfl, rfl⟩))
            go_roundw
            case rel => exact ⟨k + 1, 3, -1, by omega, rfl, rfl, by go_num, HE2, HW⟩
            case measure => simp [intOf]; omega
        · have d2 : (v == 0) = false := eq_f h2
          rw [if_neg h2] at hE
          have HE2 := Lib.hid hE
          clear hE h2 h1
          go_wp2_with (first | (go_at_call 27; refine HVx.out.mono ?_; rintro e w1 ⟨rfl, rfl⟩))
          go_roundw
          case rel => exact ⟨k + 1, s, y, by omega, rfl, rfl, by go_num, HE2, HW⟩
          case measure => simp [intOf]; omega
    · obtain rfl : k = xs.length := by omega
      have hE := HE.out
      rw [List.drop_of_length_le (Nat.le_refl _)] at hE
      unfold stF at hE
      have HE2 := Lib.hid hE
      clear hE HE
      go_wp2
      go_ret2
      exact ⟨ret_pair HE2.out, HW.out⟩
/-- A row in a row of rows. -/
structure RowD where
  xs : List Int
  a : Option Addr
  c : Nat
def rowV (r : RowD) : Value := .slice r.a r.xs.length r.c
structure RowsR (w : World) (rs : List RowD) (a : Option Addr) (c : Nat) : Prop where
  le : rs.length ≤ c
  cap : c ≤ maxLen
  tat : At w w.heap.size (rs.map rowV) a
  ok : ∀ r ∈ rs, IntsR w r.xs r.a r.c
theorem RowsR.below {w w' : World} {rs : List RowD} {a : Option Addr} {c : Nat} (h : RowsR w rs a c) (hb : Below w.heap.size w w') : RowsR w' rs a c :=
  ⟨h.le, h.cap, (h.tat.below hb).more hb.size, fun r hr => (h.ok r hr).below hb⟩
theorem RowsR.cell {w : World} {rs : List RowD} {a : Option Addr} {c k : Nat} {r : RowD} (h : RowsR w rs a c) (hk : rs[k]? = some r) : ∃ g o : Nat, a = some ⟨g, o, none⟩ ∧ g < w.heap.size ∧ w.cell? ⟨g, o + k, none⟩ = some (.slice r.a r.xs.length r.c) := by
  have hlt := (List.getElem?_eq_some_iff.1 hk).1
  obtain ⟨g, o, e, hg, hc⟩ := h.tat (by simp; omega)
  exact ⟨g, o, e, hg, hc k _ (by rw [List.getElem?_map, hk]; rfl)⟩
def holdsM (vs : List Int) (rs : List (List Int)) : Bool := rs.all (fun xs => decide ((stM vs xs).1 = 0))
theorem Holds_any (rs : List RowD) (a : Option Addr) (c : Nat) (vs : List Int) (b : Option Addr) (d : Nat) (r : Bool) (w : World) (hG : GC w) (hA : RowsR w rs a c) (h0 : ∀ q ∈ rs, ∀ x ∈ q.xs, 0 ≤ x) (hB : ValR w vs b d) (hr : holdsM vs (rs.map (·.xs)) = r) :
    Calls Tryd.prog 13 #[.slice a rs.length c, .slice b vs.length d] w fun e w' => e = .returned (.bool r) ∧ Below w.heap.size w w' := by
  have HA := Lib.hid hA
  have l1 : rs.length ≤ c := hA.le
  have c1 : rs.length ≤ 9223372036854775807 := by have := hA.cap; simp only [maxLen] at this; omega
  have HBr : Hid (Below w.heap.size w w) := Below.refl _ _
  have HV : Hid (∀ V (q : RowD) (p : Int × Int), Below w.heap.size w V → q ∈ rs → stM vs q.xs = p → Calls Tryd.prog 14 #[.slice q.a q.xs.length q.c, .slice b vs.length d] V fun e w' => e = .returned (.tuple #[.int .i8 p.1, .int .i64 p.2]) ∧ Below w.heap.size w w') := fun V q p hV hx hv => (State_any q.xs q.a q.c vs b d p V (hG.below hV) ((hA.ok q hx).below hV) (h0 q hx) (hB.below hV) hv).mono fun e w' ⟨h1, h2⟩ => ⟨h1, ball hV h2⟩
  have H0 : Hid (holdsM vs ((rs.drop 0).map (·.xs)) = r) := by show _ = _; rw [List.drop_zero]; exact hr
  clear hA hr hG hB h0
  go_enter Tryd.func13, Tryd.ntmps13
  go_wp2
  go_loopw [11] (fun i wr => ∃ (k : Nat), k ≤ rs.length ∧ i = .int .i64 k ∧ Hid (holdsM vs ((rs.drop k).map (·.xs)) = r) ∧ Hid (Below w.heap.size w wr)) (fun i _ => rs.length - (intOf i).toNat)
  case atStart => exact ⟨0, Nat.zero_le _, rfl, H0, HBr⟩
  case round =>
    clear H0
    obtain ⟨k, hkl, rfl, HE, HW⟩ := hrel
    by_cases hlt : k < rs.length
    · obtain ⟨q, hq⟩ : ∃ q, rs[k]? = some q := ⟨_, List.getElem?_eq_getElem hlt⟩
      obtain ⟨g, o, rfl, hg, q0⟩ := (HA.out.below HW.out).cell hq
      have hE := HE.out
      rw [drop_get hq, List.map_cons] at hE
      unfold holdsM at hE
      rw [List.all_cons] at hE
      obtain ⟨⟨s, y⟩, hv⟩ : ∃ v, stM vs q.xs = v := ⟨_, rfl⟩
      have HVx := Lib.hid (HV.out wr q (s, y) HW.out (List.mem_of_getElem? hq) hv)
      rw [hv] at hE
      clear hq HE hv
      by_cases h1 : s = 0
      · have d1 : (s != 0) = false := ne_f h1
        rw [decide_eq_true h1, Bool.true_and] at hE
        have HE2 : Hid (holdsM vs ((rs.drop (k + 1)).map (·.xs)) = r) := hE
        clear hE h1 HW
        go_wp2_with (first | (go_at_call 14; refine HVx.out.mono ?_; rintro e w1 ⟨rfl, hb1⟩; have HW1 := Lib.hid hb1; clear hb1))
        go_roundw
        case rel => exact ⟨k + 1, by omega, by go_num, HE2, HW1⟩
        case measure => simp [intOf]; omega
      · have d1 : (s != 0) = true := ne_t h1
        rw [decide_eq_false h1, Bool.false_and] at hE
        have HE2 := Lib.hid hE
        clear hE h1 HW
        go_wp2_with (first | (go_at_call 14; refine HVx.out.mono ?_; rintro e w1 ⟨rfl, hb1⟩; have HW1 := Lib.hid hb1; clear hb1))
        go_ret
        exact ⟨ret_bool HE2.out, HW1.out⟩
    · obtain rfl : k = rs.length := by omega
      have hE := HE.out
      rw [List.drop_of_length_le (Nat.le_refl _)] at hE
      have HE2 : Hid (true = r) := hE
      clear hE HE
      go_wp2
      go_ret
      exact ⟨ret_bool HE2.out, HW.out⟩
end Go.Proofs.YtbjplhbflbabjaaDoor.Tm
