/- Atoms: the literal of a node; Bools. -/
import Derived.Test.YtaiabpbcipnjaaaDoorAtA
import Derived.Deep.RegionHeld3
namespace Go.Proofs.YtaiabpbcipnjaaaDoor.Tm
open Go.RowKit
set_option linter.unusedVariables false
/-- Lit of a table that may be. -/
def atLit (l : List NodeA) (id : Int) : Int × Int :=
  if hasB l id = true then (if (nodA l id).sort = 0 ∧ (nodA l (litF l (id.toNat + 1) id.toNat false).1).sort = 0 then (ltN (litF l (id.toNat + 1) id.toNat false), 0) else (0, 33)) else (0, 2)
set_option maxRecDepth 100000 in
set_option maxHeartbeats 2000000 in
theorem Lit_any (l : List NodeA) (a : Option Addr) (c : Nat) (id : Int) (p : Int × Int) (w : World) (hG : GT w) (hA : TabR w l a c) (hm : mayT l = true) (hl : l.length ≤ 3000) (hid : I64 id) (hp : atLit l id = p) :
    Calls Tryd.prog 9 #[.agg #[.slice a l.length c], .int .i64 id] w fun e w' => e = .returned (.tuple #[.int .i64 p.1, .int .i64 p.2]) ∧ Below w.heap.size w w' := by
  obtain ⟨W0, hW0⟩ : ∃ W0, W0 = w.alloc (.cells #[.slice a l.length c] 24) := ⟨_, rfl⟩
  obtain ⟨hB0, hX⟩ := tab_box hW0
  have hok := (mayT_ok hm).2
  have hcap := hA.le
  have hmx : l.length ≤ 9223372036854775807 := by omega
  have HCk : Hid (Calls Tryd.prog 20 #[.agg #[.slice a l.length c]] W0 fun e w' => e = .returned (.int .i64 0) ∧ Below W0.heap.size W0 w') := Check_any l a c 0 W0 (hG.below hB0) (hA.below hB0) hl (by rw [hm]; rfl)
  obtain ⟨x0, xz⟩ := hX _ (Below.refl _ _)
  have HX := Lib.hid hX
  have HB0 := Lib.hid hB0
  obtain ⟨i1, i2⟩ := hid
  clear hX hB0
  cases hh : hasB l id with
  | false =>
    obtain rfl : ((0, 2) : Int × Int) = p := by rw [← hp]; unfold atLit; rw [hh]; rfl
    have HH : Hid (∀ V, Calls Tryd.prog 22 #[.agg #[.slice a l.length c], .int .i64 id] V fun e w' => e = .returned (.bool false) ∧ Below V.heap.size V w') := fun V => has_any l a c id false V hmx hh
    clear hp hh hA hG hm hok
    go_enter Tryd.func9, Tryd.ntmps9
    go_wp2_with fail
    rw [← hW0]
    clear hW0
    refine HCk.out.mono ?_
    rintro e w1 ⟨rfl, hb1⟩
    have HB1 := Lib.hid hb1
    clear hb1 x0 xz
    obtain ⟨x0, xz⟩ := HX.out _ HB1.out
    go_wp2_with (refine (HH.out _).mono ?_; rintro e w2 ⟨rfl, hb2⟩; have HB2 : Hid (Below w.heap.size w w2) := HB0.out.trans ((HB1.out.trans (hb2.mono HB1.out.size)).mono HB0.out.size); clear hb2)
    go_ret2
    exact ⟨rfl, HB2.out⟩
  | true =>
    have hh' : 0 ≤ id ∧ id < (l.length : Int) := of_decide_eq_true hh
    obtain ⟨k, rfl⟩ : ∃ k : Nat, id = (k : Int) := ⟨id.toNat, by omega⟩
    have hk : k < l.length := by omega
    have hki : (k : Int) < (l.length : Int) := hh'.2
    have hk0 : (0 : Int) ≤ (k : Int) := hh'.1
    obtain ⟨r, hr⟩ : ∃ r, litF l (k + 1) k false = r := ⟨_, rfl⟩
    have hr1 : r.1 < l.length := by rw [← hr]; exact litF_lt hok _ _ _ hk
    obtain ⟨n, hn⟩ : ∃ n, l[k]? = some n := ⟨_, List.getElem?_eq_getElem hk⟩
    obtain ⟨m, hmn⟩ : ∃ m, l[r.1]? = some m := ⟨_, List.getElem?_eq_getElem hr1⟩
    have hpp : (if n.sort = 0 ∧ m.sort = 0 then (ltN r, (0 : Int)) else (0, 33)) = p := by
      rw [← hp]; unfold atLit
      rw [if_pos hh, Int.toNat_natCast, hr, nodA_at hn, nodA_at hmn]
    obtain ⟨v, hv⟩ : ∃ v, ltN r = v := ⟨_, rfl⟩
    have hv2 : v / 2 = (r.1 : Int) := by rw [← hv]; exact ltN_half r
    have hvi : I64 v := by rw [← hv]; unfold ltN; constructor <;> split <;> omega
    rw [hv] at hpp
    have HH : Hid (∀ V, Calls Tryd.prog 22 #[.agg #[.slice a l.length c], .int .i64 k] V fun e w' => e = .returned (.bool true) ∧ Below V.heap.size V w') := fun V => has_any l a c k true V hmx hh
    have HL : Hid (∀ V, Below w.heap.size w V → Calls Tryd.prog 23 #[.agg #[.slice a l.length c], .int .i64 k] V fun e w' => e = .returned (.int .i64 v) ∧ Below V.heap.size V w') := fun V hV => by rw [← hv]; exact literal_any l a c k r V (hA.below hV) hok hl hk hr
    obtain ⟨j, hj⟩ : ∃ j, r.1 = j := ⟨_, rfl⟩
    rw [hj] at hv2 hmn hr1
    have HN : Hid (∀ V, Calls Tryd.prog 24 #[.int .i64 v] V fun e w' => e = .returned (.int .i64 j) ∧ V = w') := fun V => by rw [← hv2]; exact Node_any v V hvi
    have HT : Hid (∀ V, Below w.heap.size w V → ∃ g o : Nat, a = some ⟨g, o, none⟩ ∧ g < V.heap.size ∧ V.cell? ⟨g, o + k * 8 + 5, none⟩ = some (.int .i64 n.sort) ∧ V.cell? ⟨g, o + j * 8 + 5, none⟩ = some (.int .i64 m.sort)) := fun V hV => by
      obtain ⟨g, o, e1, hg, _, _, _, _, _, q5, _⟩ := (hA.below hV).node hn
      obtain ⟨g', o', e2, hg', _, _, _, _, _, r5, _⟩ := (hA.below hV).node hmn
      rw [e1] at e2
      cases e2
      exact ⟨g, o, e1, hg, q5, r5⟩
    have hji : (j : Int) < (l.length : Int) := by omega
    have hj0 : (0 : Int) ≤ (j : Int) := by omega
    have hmo : Tryd.prog.follows .mixedOrders = true := by kernel_rfl
    clear hp hh hA hG hm hok hh' hr hn hmn hv hv2 hvi hj
    go_enter Tryd.func9, Tryd.ntmps9
    go_wp2_with fail
    rw [← hW0]
    clear hW0
    refine HCk.out.mono ?_
    rintro e w1 ⟨rfl, hb1⟩
    have HB1 := Lib.hid hb1
    clear hb1 x0 xz
    obtain ⟨x0, xz⟩ := HX.out _ HB1.out
    go_wp2_with fail
    refine (HH.out _).mono ?_
    rintro e w2 ⟨rfl, hb2⟩
    have HB2 : Hid (Below W0.heap.size W0 w2) := HB1.out.trans (hb2.mono HB1.out.size)
    clear hb2 x0 xz
    obtain ⟨x0, xz⟩ := HX.out _ HB2.out
    go_wp2_with fail
    refine (HL.out _ (HB0.out.trans (HB2.out.mono HB0.out.size))).mono ?_
    rintro e w3 ⟨rfl, hb3⟩
    have HB3 : Hid (Below W0.heap.size W0 w3) := HB2.out.trans (hb3.mono HB2.out.size)
    have HBw : Hid (Below w.heap.size w w3) := HB0.out.trans (HB3.out.mono HB0.out.size)
    clear hb3 x0 xz
    obtain ⟨x0, xz⟩ := HX.out _ HB3.out
    obtain ⟨g, o, rfl, hg, q5, r5⟩ := HT.out _ HBw.out
    by_cases h0 : n.sort = 0
    · have e0 := ne_f h0
      by_cases h1 : m.sort = 0
      · have e1 := ne_f h1
        rw [if_pos ⟨h0, h1⟩] at hpp
        subst hpp
        clear h0 h1
        go_wp2_with fail
        go_quiet (first | (go_at_call 24; exact Calls.quiet_of_same ((HN.out _).mono fun _ _ h => ⟨h.1, h.2.symm⟩)))
        go_wp2
        go_ret2
        exact ⟨rfl, below_drewN HBw.out⟩
      · have e1 := ne_t h1
        rw [if_neg (fun h => h1 h.2)] at hpp
        subst hpp
        clear h0 h1
        go_wp2_with fail
        go_quiet (first | (go_at_call 24; exact Calls.quiet_of_same ((HN.out _).mono fun _ _ h => ⟨h.1, h.2.symm⟩)))
        go_wp2
        go_ret2
        exact ⟨rfl, below_drewN HBw.out⟩
    · have e0 := ne_t h0
      rw [if_neg (fun h => h0 h.1)] at hpp
      subst hpp
      clear h0
      go_wp2_with fail
      go_quiet (first | (go_at_call 24; exact Calls.quiet_of_same ((HN.out _).mono fun _ _ h => ⟨h.1, h.2.symm⟩)))
      go_wp2
      go_ret2
      exact ⟨rfl, below_drewN HBw.out⟩
end Go.Proofs.YtaiabpbcipnjaaaDoor.Tm
