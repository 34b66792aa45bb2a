/- Clauses: values, states. -/
import Derived.Test.YtggighikemhnfaaDoorClB
namespace Go.Proofs.YtggighikemhnfaaDoor.Tm
open Go.RowKit
set_option linter.unusedVariables false
def turnL : List Int := [0, 2, 1]
/-- What the package's variable holds. -/
structure GC (w : World) : Prop where
  lt : 0 < w.heap.size
  cell : ∀ k v, turnL[k]? = some v → w.cell? ⟨0, k, none⟩ = some (.int .i8 v)
theorem GC.below {w w' : World} (h : GC w) (hb : Below w.heap.size w w') : GC w' := ⟨Nat.lt_of_lt_of_le h.lt hb.size, fun k v hk => (hb.cell (p := ⟨0, k, none⟩) h.lt).trans (h.cell k v hk)⟩
/-- An assignment lies in a slice. -/
structure ValR (w : World) (vs : List Int) (a : Option Addr) (c : Nat) : Prop where
  le : vs.length ≤ c
  cap : c ≤ maxLen
  tat : At w w.heap.size (vs.map (Value.int .i8)) a
  ok : ∀ v ∈ vs, v = 0 ∨ v = 1 ∨ v = 2
theorem ValR.below {w w' : World} {vs : List Int} {a : Option Addr} {c : Nat} (h : ValR w vs a c) (hb : Below w.heap.size w w') : ValR w' vs a c :=
  ⟨h.le, h.cap, (h.tat.below hb).more hb.size, h.ok⟩
theorem ValR.cell {w : World} {vs : List Int} {a : Option Addr} {c k : Nat} {x : Int} (h : ValR w vs a c) (hk : vs[k]? = some x) : ∃ g o : Nat, a = some ⟨g, o, none⟩ ∧ g < w.heap.size ∧ w.cell? ⟨g, o + k, none⟩ = some (.int .i8 x) := by
  have hlt := (List.getElem?_eq_some_iff.1 hk).1
  obtain ⟨g, o, e, hg, hc⟩ := h.tat (by simp; omega)
  exact ⟨g, o, e, hg, hc k _ (by rw [List.getElem?_map, hk]; rfl)⟩
/-- Bools lie in a slice. -/
structure BoolsR (w : World) (bs : List Bool) (a : Option Addr) (c : Nat) : Prop where
  le : bs.length ≤ c
  cap : c ≤ maxLen
  tat : At w w.heap.size (bs.map Value.bool) a
theorem BoolsR.below {w w' : World} {bs : List Bool} {a : Option Addr} {c : Nat} (h : BoolsR w bs a c) (hb : Below w.heap.size w w') : BoolsR w' bs a c :=
  ⟨h.le, h.cap, (h.tat.below hb).more hb.size⟩
theorem BoolsR.cell {w : World} {bs : List Bool} {a : Option Addr} {c k : Nat} {x : Bool} (h : BoolsR w bs a c) (hk : bs[k]? = some x) : ∃ g o : Nat, a = some ⟨g, o, none⟩ ∧ g < w.heap.size ∧ w.cell? ⟨g, o + k, none⟩ = some (.bool x) := by
  have hlt := (List.getElem?_eq_some_iff.1 hk).1
  obtain ⟨g, o, e, hg, hc⟩ := h.tat (by simp; omega)
  exact ⟨g, o, e, hg, hc k _ (by rw [List.getElem?_map, hk]; rfl)⟩
/-- A literal's value. -/
def valM (vs : List Int) (x : Int) : Int :=
  match vs[(x / 2).toNat]? with
  | none => 0
  | some v => if v = 1 ∨ v = 2 then (if x % 2 = 1 then 3 - v else v) else 0
theorem Val_any (vs : List Int) (a : Option Addr) (c : Nat) (x : Int) (r : Int) (w : World) (hG : GC w) (hA : ValR w vs a c) (hx : I64 x) (h0 : 0 ≤ x) (hr : valM vs x = r) :
    Calls Tryd.prog 61 #[.slice a vs.length c, .int .i64 x] w fun e w' => e = .returned (.int .i8 r) ∧ w = w' := by
  have HN : Hid (∀ V, Calls Tryd.prog 46 #[.int .i64 x] V fun e w' => e = .returned (.int .i64 (x / 2)) ∧ V = w') := fun V => Node_any x V hx
  have hx0 : ¬ x < 0 := by omega
  have l1 : vs.length ≤ c := hA.le
  have c1 : vs.length ≤ 9223372036854775807 := by have := hA.cap; simp only [maxLen] at this; omega
  obtain ⟨k, hk⟩ : ∃ k : Nat, x / 2 = (k : Int) := ⟨(x / 2).toNat, by omega⟩
  rw [hk] at HN
  unfold valM at hr
  rw [hk, Int.toNat_natCast] at hr
  have hd0 : decide (x < 0) = false := decide_eq_false (by omega)
  by_cases hkl : k < vs.length
  · obtain ⟨v, hv⟩ : ∃ v, vs[k]? = some v := ⟨_, List.getElem?_eq_getElem hkl⟩
    obtain ⟨g, o, rfl, hg, q0⟩ := hA.cell hv
    have hok := hA.ok v (List.mem_of_getElem? hv)
    rw [hv] at hr
    have hg1 : decide ((vs.length : Int) ≤ (k : Int)) = false := decide_eq_false (by omega)
    have t0 := hG.cell 0 0 rfl
    have t1 := hG.cell 1 2 rfl
    have t2 := hG.cell 2 1 rfl
    have tz := hG.lt
    have hki : (k : Int) < (vs.length : Int) := by omega
    obtain ⟨p, hp⟩ : ∃ p, decide (x % 2 = 1) = p := ⟨_, rfl⟩
    have HI : Hid (∀ V, Calls Tryd.prog 66 #[.int .i64 x] V fun e w' => e = .returned (.bool p) ∧ V = w') := fun V => by rw [← hp]; exact Is_any x V hx
    have hpr : (if v = 1 ∨ v = 2 then (if p = true then 3 - v else v) else 0) = r := by rw [← hr, ← hp]; simp only [decide_eq_true_eq]
    clear hA hG hv hk hr hp
    rcases hok with rfl | rfl | rfl
    · have hR : (0 : Int) = r := by rw [← hpr]; rfl
      have HR := Lib.hid hR
      clear hR hpr
      cases p
      · go_enter Tryd.func61, Tryd.ntmps61
        go_wp2_with (first | (go_at_call 46; refine (HN.out _).mono ?_; rintro e w1 ⟨rfl, rfl⟩) | (go_at_call 66; refine (HI.out _).mono ?_; rintro e w1 ⟨rfl, rfl⟩))
        go_ret
        exact ⟨ret_int HR.out, rfl⟩
      · go_enter Tryd.func61, Tryd.ntmps61
        go_wp2_with (first | (go_at_call 46; refine (HN.out _).mono ?_; rintro e w1 ⟨rfl, rfl⟩) | (go_at_call 66; refine (HI.out _).mono ?_; rintro e w1 ⟨rfl, rfl⟩))
        go_ret
        exact ⟨ret_int HR.out, rfl⟩
    · cases p
      · have hR : (1 : Int) = r := by rw [← hpr]; rfl
        have HR := Lib.hid hR
        clear hR hpr
        go_enter Tryd.func61, Tryd.ntmps61
        go_wp2_with (first | (go_at_call 46; refine (HN.out _).mono ?_; rintro e w1 ⟨rfl, rfl⟩) | (go_at_call 66; refine (HI.out _).mono ?_; rintro e w1 ⟨rfl, rfl⟩))
        go_ret
        exact ⟨ret_int HR.out, rfl⟩
      · have hR : (2 : Int) = r := by rw [← hpr]; rfl
        have HR := Lib.hid hR
        clear hR hpr
        go_enter Tryd.func61, Tryd.ntmps61
        go_wp2_with (first | (go_at_call 46; refine (HN.out _).mono ?_; rintro e w1 ⟨rfl, rfl⟩) | (go_at_call 66; refine (HI.out _).mono ?_; rintro e w1 ⟨rfl, rfl⟩))
        go_ret
        exact ⟨ret_int HR.out, rfl⟩
    · cases p
      · have hR : (2 : Int) = r := by rw [← hpr]; rfl
        have HR := Lib.hid hR
        clear hR hpr
        go_enter Tryd.func61, Tryd.ntmps61
        go_wp2_with (first | (go_at_call 46; refine (HN.out _).mono ?_; rintro e w1 ⟨rfl, rfl⟩) | (go_at_call 66; refine (HI.out _).mono ?_; rintro e w1 ⟨rfl, rfl⟩))
        go_ret
        exact ⟨ret_int HR.out, rfl⟩
      · have hR : (1 : Int) = r := by rw [← hpr]; rfl
        have HR := Lib.hid hR
        clear hR hpr
        go_enter Tryd.func61, Tryd.ntmps61
        go_wp2_with (first | (go_at_call 46; refine (HN.out _).mono ?_; rintro e w1 ⟨rfl, rfl⟩) | (go_at_call 66; refine (HI.out _).mono ?_; rintro e w1 ⟨rfl, rfl⟩))
        go_ret
        exact ⟨ret_int HR.out, rfl⟩
  · have hg1 : decide ((vs.length : Int) ≤ (k : Int)) = true := decide_eq_true (by omega)
    rw [List.getElem?_eq_none (by omega)] at hr
    have HR : Hid (0 = r) := hr
    clear hA hG hk hr
    go_enter Tryd.func61, Tryd.ntmps61
    go_wp2_with (first | (go_at_call 46; refine (HN.out _).mono ?_; rintro e w1 ⟨rfl, rfl⟩))
    go_ret
    exact ⟨ret_int HR.out, rfl⟩
/-- A clause's state, and the open literal. -/
def stF (vs : List Int) : List Int → Int × Int → Int × Int
  | [], p => p
  | x :: r, p => if valM vs x = 1 then (0, -1) else if valM vs x = 0 then stF vs r (if p.1 = 1 then (2, x) else (3, -1)) else stF vs r p
def stM (vs xs : List Int) : Int × Int := stF vs xs (1, -1)
theorem ret_pair {s y : Int} {r : Int × Int} (h : (s, y) = r) : Ending.returned (.tuple #[.int .i8 s, .int .i64 y]) = .returned (.tuple #[.int .i8 r.1, .int .i64 r.2]) := by subst h; rfl
/-- A row in a row of rows. -/
structure RowD where
  xs : List Int
  a : Option Addr
  c : Nat
def rowV (r : RowD) : Value := .slice r.a r.xs.length r.c
structure RowsR (w : World) (rs : List RowD) (a : Option Addr) (c : Nat) : Prop where
  le : rs.length ≤ c
  cap : c ≤ maxLen
  tat : At w w.heap.size (rs.map rowV) a
  ok : ∀ r ∈ rs, IntsR w r.xs r.a r.c
theorem RowsR.below {w w' : World} {rs : List RowD} {a : Option Addr} {c : Nat} (h : RowsR w rs a c) (hb : Below w.heap.size w w') : RowsR w' rs a c :=
  ⟨h.le, h.cap, (h.tat.below hb).more hb.size, fun r hr => (h.ok r hr).below hb⟩
theorem RowsR.cell {w : World} {rs : List RowD} {a : Option Addr} {c k : Nat} {r : RowD} (h : RowsR w rs a c) (hk : rs[k]? = some r) : ∃ g o : Nat, a = some ⟨g, o, none⟩ ∧ g < w.heap.size ∧ w.cell? ⟨g, o + k, none⟩ = some (.slice r.a r.xs.length r.c) := by
  have hlt := (List.getElem?_eq_some_iff.1 hk).1
  obtain ⟨g, o, e, hg, hc⟩ := h.tat (by simp; omega)
  exact ⟨g, o, e, hg, hc k _ (by rw [List.getElem?_map, hk]; rfl)⟩
def holdsM (vs : List Int) (rs : List (List Int)) : Bool := rs.all (fun xs => decide ((stM vs xs).1 = 0))
end Go.Proofs.YtggighikemhnfaaDoor.Tm
