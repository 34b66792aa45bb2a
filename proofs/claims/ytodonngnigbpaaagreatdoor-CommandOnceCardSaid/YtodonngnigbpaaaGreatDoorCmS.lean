/- Package command's Same. -/
import Derived.Test.YtodonngnigbpaaaGreatDoorCmA
import Derived.Deep.RegionHeld3
import Derived.BigQuiet
import Derived.Test.YtodonngnigbpaaaGreatDoorCmO4
import Derived.Test.YtodonngnigbpaaaGreatDoorSexBa
import Derived.Test.YtodonngnigbpaaaGreatDoorCmF
namespace Go.Proofs.YtodonngnigbpaaaGreatDoor
open Go.RowKit
set_option linter.unusedVariables false
theorem str_eq_t {s t : List UInt8} (h : s = t) : (bytesL s == bytesL t) = true := by rw [h]; exact (MapKept.bytes_beq _ _).2 rfl
theorem str_eq_f {s t : List UInt8} (h : ¬ s = t) : (bytesL s == bytesL t) = false := by
  rw [Bool.eq_false_iff]
  intro he
  exact h (bytesL_inj ((MapKept.bytes_beq _ _).1 he))
theorem str_ne_f {s t : List UInt8} (h : s = t) : (bytesL s != bytesL t) = false := by unfold bne; rw [str_eq_t h]; rfl
theorem str_ne_t {s t : List UInt8} (h : ¬ s = t) : (bytesL s != bytesL t) = true := by unfold bne; rw [str_eq_f h]; rfl
theorem sl_yes {s t : List UInt8} (h : s = t) : ((bytesL s).toList == (bytesL t).toList) = true := by rw [h]; simp
theorem sl_no {s t : List UInt8} (h : ¬ s = t) : ((bytesL s).toList == (bytesL t).toList) = false := by
  simp only [ByteArray.toList_eq, beq_eq_false_iff_ne, ne_eq]
  rw [bytesL_list, bytesL_list]
  exact h
theorem eqi_par (x y : List UInt8 × List UInt8) (w : World) : (Op.equalIn 10000 44 (.agg #[.string (bytesL x.1), .string (bytesL x.2)]) (.agg #[.string (bytesL y.1), .string (bytesL y.2)])).run Tryz.prog w = .ok (decide (x = y)) w := by
  have hs : ∀ (d : Nat) (s t : ByteArray), (Op.equalIn (d + 1) 9 (.string s) (.string t)).run Tryz.prog w = .ok (s == t) w := fun d s t => by
    unfold Op.equalIn
    simp [run_underlying Tryz.underlying9]
  have hp : ∀ (cs : Array Value) (i : Nat) (v : Value), cs[i]? = some v → (part 9 cs i).run Tryz.prog w = .ok v w := fun cs i v h => by
    simp [part, isAgg, run_underlying Tryz.underlying9, h]
  have h1 := fun (a b : Value) => hp #[a, b] 0 a rfl
  have h2 := fun (a b : Value) => hp #[a, b] 1 b rfl
  have hs' := hs 9998
  clear hs hp
  show (Op.equalIn (9998 + 1 + 1) _ _ _).run _ _ = _
  rw [Op.equalIn]
  simp [run_underlying Tryz.underlying44, List.range'_succ, h1, h2, hs']
  by_cases e1 : x.1 = y.1
  · rw [str_eq_t e1]
    by_cases e2 : x.2 = y.2
    · rw [str_eq_t e2, decide_eq_true (Prod.ext e1 e2)]; simp
    · rw [str_eq_f e2, decide_eq_false (fun h => e2 (by rw [h]))]; simp
  · rw [str_eq_f e1, decide_eq_false (fun h => e1 (by rw [h]))]; simp
theorem take_snoc {α : Type} {l : List α} {k : Nat} {x : α} (h : l[k]? = some x) : l.take (k + 1) = l.take k ++ [x] := by
  rw [List.take_add_one, h]
  rfl
theorem At.get {α : Type} {f : α → List Value} {n : Nat} (hn : ∀ x, (f x).length = n) (h0 : 0 < n) {w : World} {B : Nat} {l : List α} {a : Option Addr} (h : At w B (l.flatMap f) a) {k : Nat} {x : α} (hx : l[k]? = some x) :
    ∃ g o : Nat, a = some ⟨g, o, none⟩ ∧ g < B ∧ ∀ (j : Nat) (v : Value), (f x)[j]? = some v → w.cell? ⟨g, o + k * n + j, none⟩ = some v := by
  obtain ⟨g, o, e, hg, hc⟩ := h (by
    rw [len_flat hn]
    have := (List.getElem?_eq_some_iff.1 hx).1
    exact Nat.mul_pos (by omega) h0)
  refine ⟨g, o, e, hg, fun j v hv => ?_⟩
  have hj : j < n := by rw [← hn x]; exact (List.getElem?_eq_some_iff.1 hv).1
  have := hc (k * n + j) v (by rw [get_flat hn l k j x hx hj]; exact hv)
  rwa [← Nat.add_assoc] at this
set_option maxRecDepth 100000 in
set_option maxHeartbeats 2000000 in
theorem EqualInt (l m : List (Int)) (a b : Option Addr) (c d : Nat) (w : World) (hA : At w w.heap.size (l.flatMap intC) a) (hB : At w w.heap.size (m.flatMap intC) b) (l1 : l.length ≤ c) (l2 : m.length ≤ d) (c1 : c ≤ maxLen) (c2 : d ≤ maxLen) :
    Calls Tryz.prog 55 #[.slice a l.length c, .slice b m.length d] w fun e w' => e = .returned (.bool (decide (l = m))) ∧ Below w.heap.size w w' := by
  obtain ⟨r, hr⟩ : ∃ r, decide (l = m) = r := ⟨_, rfl⟩
  rw [hr]
  have HT : Hid (l = m → r = true) := fun h => by rw [← hr]; exact decide_eq_true h
  have HF : Hid (¬ l = m → r = false) := fun h => by rw [← hr]; exact decide_eq_false h
  have HA := Lib.hid hA
  have HB := Lib.hid hB
  have l3 : l.length ≤ 9223372036854775807 := by simp only [maxLen] at c1; omega
  have l4 : m.length ≤ 9223372036854775807 := by simp only [maxLen] at c2; omega
  clear hA hB hr c1 c2
  by_cases hl : l.length = m.length
  · have hne : ((l.length : Int) != (m.length : Int)) = false := ne_false (by omega)
    have HL := Lib.hid hl
    clear hl
    go_enter Tryz.func55, Tryz.ntmps55
    go_wp2
    go_loopw [13] (fun i wr => ∃ k : Nat, k ≤ l.length ∧ i = .int .i64 k ∧ Hid (Below w.heap.size w wr) ∧ Hid (l.take k = m.take k)) (fun i _ => l.length - (intOf i).toNat)
    case atStart => exact ⟨0, Nat.zero_le _, rfl, Below.refl _ _, by show _ = _; simp⟩
    case round =>
      obtain ⟨k, hkl, rfl, HW, HE⟩ := hrel
      by_cases hlt : k < l.length
      · have hlt2 : k < m.length := by have := HL.out; omega
        obtain ⟨x, hx⟩ : ∃ x, l[k]? = some x := ⟨_, List.getElem?_eq_getElem hlt⟩
        obtain ⟨y, hy⟩ : ∃ y, m[k]? = some y := ⟨_, List.getElem?_eq_getElem hlt2⟩
        obtain ⟨g, o, rfl, hg, hp⟩ := (HA.out.below HW.out).get intC_len (by decide) hx
        obtain ⟨g', o', rfl, hg', hq⟩ := (HB.out.below HW.out).get intC_len (by decide) hy
        have hgr := HW.out.size
        have p0 := hp 0 _ rfl
        have q0 := hq 0 _ rfl
        simp only [Nat.mul_one, Nat.add_zero] at p0 q0
        have HXY := Lib.hid (And.intro hx hy)
        clear hx hy hp hq
        by_cases hxy : x = y
        · skip
          have s1 := ne_false hxy
          have HE2 : Hid (l.take (k + 1) = m.take (k + 1)) := by
            show _ = _
            rw [take_snoc HXY.out.1, take_snoc HXY.out.2, HE.out, hxy]
          clear hxy
          go_wp2
          go_quiet (fail)
          go_wp2
          go_roundw
          case rel => exact ⟨k + 1, by omega, by go_num, below_drewN HW.out _, HE2⟩
          case measure => simp [intOf]; omega
        · skip
          have hf : r = false := HF.out (fun h => hxy (by have h1 := HXY.out.1; rw [h, HXY.out.2] at h1; exact (Option.some.inj h1).symm))
          subst hf
          have s1 := ne_true hxy
          clear hxy
          go_wp2
          go_quiet (fail)
          go_wp2
          go_ret
          exact ⟨rfl, below_drewN HW.out _⟩
      · obtain rfl : k = l.length := by omega
        have ht : r = true := HT.out (by have := HE.out; rw [List.take_length, HL.out, List.take_length] at this; exact this)
        subst ht
        go_wp2
        go_ret
        exact ⟨rfl, HW.out⟩
  · have hf : r = false := HF.out (fun h => hl (by rw [h]))
    subst hf
    have hne : ((l.length : Int) != (m.length : Int)) = true := ne_true (by omega)
    clear hl
    go_enter Tryz.func55, Tryz.ntmps55
    go_wp2
    go_ret
    exact ⟨rfl, Below.refl _ _⟩
set_option maxRecDepth 100000 in
set_option maxHeartbeats 2000000 in
theorem EqualStr (l m : List (List UInt8)) (a b : Option Addr) (c d : Nat) (w : World) (hA : At w w.heap.size (l.flatMap strC) a) (hB : At w w.heap.size (m.flatMap strC) b) (l1 : l.length ≤ c) (l2 : m.length ≤ d) (c1 : c ≤ maxLen) (c2 : d ≤ maxLen) :
    Calls Tryz.prog 56 #[.slice a l.length c, .slice b m.length d] w fun e w' => e = .returned (.bool (decide (l = m))) ∧ Below w.heap.size w w' := by
  obtain ⟨r, hr⟩ : ∃ r, decide (l = m) = r := ⟨_, rfl⟩
  rw [hr]
  have HT : Hid (l = m → r = true) := fun h => by rw [← hr]; exact decide_eq_true h
  have HF : Hid (¬ l = m → r = false) := fun h => by rw [← hr]; exact decide_eq_false h
  have HA := Lib.hid hA
  have HB := Lib.hid hB
  have l3 : l.length ≤ 9223372036854775807 := by simp only [maxLen] at c1; omega
  have l4 : m.length ≤ 9223372036854775807 := by simp only [maxLen] at c2; omega
  clear hA hB hr c1 c2
  by_cases hl : l.length = m.length
  · have hne : ((l.length : Int) != (m.length : Int)) = false := ne_false (by omega)
    have HL := Lib.hid hl
    clear hl
    go_enter Tryz.func56, Tryz.ntmps56
    go_wp2
    go_loopw [13] (fun i wr => ∃ k : Nat, k ≤ l.length ∧ i = .int .i64 k ∧ Hid (Below w.heap.size w wr) ∧ Hid (l.take k = m.take k)) (fun i _ => l.length - (intOf i).toNat)
    case atStart => exact ⟨0, Nat.zero_le _, rfl, Below.refl _ _, by show _ = _; simp⟩
    case round =>
      obtain ⟨k, hkl, rfl, HW, HE⟩ := hrel
      by_cases hlt : k < l.length
      · have hlt2 : k < m.length := by have := HL.out; omega
        obtain ⟨x, hx⟩ : ∃ x, l[k]? = some x := ⟨_, List.getElem?_eq_getElem hlt⟩
        obtain ⟨y, hy⟩ : ∃ y, m[k]? = some y := ⟨_, List.getElem?_eq_getElem hlt2⟩
        obtain ⟨g, o, rfl, hg, hp⟩ := (HA.out.below HW.out).get strC_len (by decide) hx
        obtain ⟨g', o', rfl, hg', hq⟩ := (HB.out.below HW.out).get strC_len (by decide) hy
        have hgr := HW.out.size
        have p0 := hp 0 _ rfl
        have q0 := hq 0 _ rfl
        simp only [Nat.mul_one, Nat.add_zero] at p0 q0
        have HXY := Lib.hid (And.intro hx hy)
        clear hx hy hp hq
        by_cases hxy : x = y
        · skip
          have s1 := sl_yes hxy
          have HE2 : Hid (l.take (k + 1) = m.take (k + 1)) := by
            show _ = _
            rw [take_snoc HXY.out.1, take_snoc HXY.out.2, HE.out, hxy]
          clear hxy
          go_wp2
          go_quiet (fail)
          go_wp2
          go_roundw
          case rel => exact ⟨k + 1, by omega, by go_num, below_drewN HW.out _, HE2⟩
          case measure => simp [intOf]; omega
        · skip
          have hf : r = false := HF.out (fun h => hxy (by have h1 := HXY.out.1; rw [h, HXY.out.2] at h1; exact (Option.some.inj h1).symm))
          subst hf
          have s1 := sl_no hxy
          clear hxy
          go_wp2
          go_quiet (fail)
          go_wp2
          go_ret
          exact ⟨rfl, below_drewN HW.out _⟩
      · obtain rfl : k = l.length := by omega
        have ht : r = true := HT.out (by have := HE.out; rw [List.take_length, HL.out, List.take_length] at this; exact this)
        subst ht
        go_wp2
        go_ret
        exact ⟨rfl, HW.out⟩
  · have hf : r = false := HF.out (fun h => hl (by rw [h]))
    subst hf
    have hne : ((l.length : Int) != (m.length : Int)) = true := ne_true (by omega)
    clear hl
    go_enter Tryz.func56, Tryz.ntmps56
    go_wp2
    go_ret
    exact ⟨rfl, Below.refl _ _⟩
set_option maxRecDepth 100000 in
set_option maxHeartbeats 2000000 in
theorem EqualPar (l m : List (List UInt8 × List UInt8)) (a b : Option Addr) (c d : Nat) (w : World) (hA : At w w.heap.size (l.flatMap parC) a) (hB : At w w.heap.size (m.flatMap parC) b) (l1 : l.length ≤ c) (l2 : m.length ≤ d) (c1 : c ≤ maxLen) (c2 : d ≤ maxLen) :
    Calls Tryz.prog 57 #[.slice a l.length c, .slice b m.length d] w fun e w' => e = .returned (.bool (decide (l = m))) ∧ Below w.heap.size w w' := by
  obtain ⟨r, hr⟩ : ∃ r, decide (l = m) = r := ⟨_, rfl⟩
  rw [hr]
  have HT : Hid (l = m → r = true) := fun h => by rw [← hr]; exact decide_eq_true h
  have HF : Hid (¬ l = m → r = false) := fun h => by rw [← hr]; exact decide_eq_false h
  have HA := Lib.hid hA
  have HB := Lib.hid hB
  have l3 : l.length ≤ 9223372036854775807 := by simp only [maxLen] at c1; omega
  have l4 : m.length ≤ 9223372036854775807 := by simp only [maxLen] at c2; omega
  clear hA hB hr c1 c2
  by_cases hl : l.length = m.length
  · have hne : ((l.length : Int) != (m.length : Int)) = false := ne_false (by omega)
    have HL := Lib.hid hl
    clear hl
    go_enter Tryz.func57, Tryz.ntmps57
    go_wp2
    go_loopw [13] (fun i wr => ∃ k : Nat, k ≤ l.length ∧ i = .int .i64 k ∧ Hid (Below w.heap.size w wr) ∧ Hid (l.take k = m.take k)) (fun i _ => l.length - (intOf i).toNat)
    case atStart => exact ⟨0, Nat.zero_le _, rfl, Below.refl _ _, by show _ = _; simp⟩
    case round =>
      obtain ⟨k, hkl, rfl, HW, HE⟩ := hrel
      by_cases hlt : k < l.length
      · have hlt2 : k < m.length := by have := HL.out; omega
        obtain ⟨x, hx⟩ : ∃ x, l[k]? = some x := ⟨_, List.getElem?_eq_getElem hlt⟩
        obtain ⟨y, hy⟩ : ∃ y, m[k]? = some y := ⟨_, List.getElem?_eq_getElem hlt2⟩
        obtain ⟨g, o, rfl, hg, hp⟩ := (HA.out.below HW.out).get parC_len (by decide) hx
        obtain ⟨g', o', rfl, hg', hq⟩ := (HB.out.below HW.out).get parC_len (by decide) hy
        have hgr := HW.out.size
        have p0 := hp 0 _ rfl
        have q0 := hq 0 _ rfl
        have p1 := hp 1 _ rfl
        have q1 := hq 1 _ rfl
        simp only [Nat.add_zero] at p0 q0 p1 q1
        have HXY := Lib.hid (And.intro hx hy)
        clear hx hy hp hq
        have hq1 := eqi_par x y
        have hq2 : ∀ W : World, (Op.equal 44 (.agg #[.string (bytesL x.1), .string (bytesL x.2)]) (.agg #[.string (bytesL y.1), .string (bytesL y.2)])).run Tryz.prog W = .ok (decide (x = y)) W := eqi_par x y
        by_cases hxy : x = y
        · rw [decide_eq_true hxy] at hq1 hq2
          skip
          have HE2 : Hid (l.take (k + 1) = m.take (k + 1)) := by
            show _ = _
            rw [take_snoc HXY.out.1, take_snoc HXY.out.2, HE.out, hxy]
          clear hxy
          go_wp2
          go_quiet (fail)
          go_wp2
          go_roundw
          case rel => exact ⟨k + 1, by omega, by go_num, below_drewN HW.out _, HE2⟩
          case measure => simp [intOf]; omega
        · rw [decide_eq_false hxy] at hq1 hq2
          have hf : r = false := HF.out (fun h => hxy (by have h1 := HXY.out.1; rw [h, HXY.out.2] at h1; exact (Option.some.inj h1).symm))
          subst hf
          skip
          clear hxy
          go_wp2
          go_quiet (fail)
          go_wp2
          go_ret
          exact ⟨rfl, below_drewN HW.out _⟩
      · obtain rfl : k = l.length := by omega
        have ht : r = true := HT.out (by have := HE.out; rw [List.take_length, HL.out, List.take_length] at this; exact this)
        subst ht
        go_wp2
        go_ret
        exact ⟨rfl, HW.out⟩
  · have hf : r = false := HF.out (fun h => hl (by rw [h]))
    subst hf
    have hne : ((l.length : Int) != (m.length : Int)) = true := ne_true (by omega)
    clear hl
    go_enter Tryz.func57, Tryz.ntmps57
    go_wp2
    go_ret
    exact ⟨rfl, Below.refl _ _⟩
end Go.Proofs.YtodonngnigbpaaaGreatDoor
namespace Go.Proofs.YtodonngnigbpaaaGreatDoor
open Go.RowKit
set_option linter.unusedVariables false
/-- A row of trees that lie in blocks without a mark. -/
def SxKL (w : World) (l : List Tree) (a : Option Addr) : Prop := ∃ bad : Nat → Prop, (∀ b, ¬ bad b → b < w.heap.size) ∧ RdL w bad l a ∧ Clean w bad
theorem SxKL.below {w w' : World} {l : List Tree} {a : Option Addr} (h : SxKL w l a) (hb : Below w.heap.size w w') : SxKL w' l a := by
  obtain ⟨bad, h1, h2, h3⟩ := h
  refine ⟨bad, fun b hb' => Nat.lt_of_lt_of_le (h1 b hb') hb.size, RdL.keep (fun b hb' _ => hb.block b (h1 b hb')) _ _ h2, fun b hb' _ => ?_⟩
  obtain ⟨cs, ty, hc⟩ := h3 b hb' (h1 b hb')
  exact ⟨cs, ty, (hb.block b (h1 b hb')).trans hc⟩
theorem newL_sxkl {B : Nat} {w : World} {l : List Tree} {a : Option Addr} (h : RdL w (newBad B w) l a) : SxKL w l a :=
  ⟨newBad B w, fun b hb => (newBad_lt hb).2.1, h, fun b hb _ => (newBad_lt hb).2.2⟩
set_option maxRecDepth 100000 in
set_option maxHeartbeats 2000000 in
theorem EqualSx (l m : List Tree) (a b : Option Addr) (c d : Nat) (w : World) (hA : SxKL w l a) (hB : SxL w m b) (l1 : l.length ≤ c) (l2 : m.length ≤ d) (c1 : c ≤ maxLen) (c2 : d ≤ maxLen) (hh : ∀ t ∈ l, hT t ≤ 60) :
    Calls Tryz.prog 58 #[.slice a l.length c, .slice b m.length d, .func (.func 59) #[] #[]] w fun e w' => (∃ r, e = .returned (.bool r) ∧ (r = true ↔ l = m)) ∧ Below w.heap.size w w' := by
  have HA := Lib.hid hA
  have HB := Lib.hid hB
  have HH := Lib.hid hh
  have l3 : l.length ≤ 9223372036854775807 := by simp only [maxLen] at c1; omega
  have l4 : m.length ≤ 9223372036854775807 := by simp only [maxLen] at c2; omega
  clear hA hB c1 c2 hh
  by_cases hl : l.length = m.length
  · have hne : ((l.length : Int) != (m.length : Int)) = false := ne_false (by omega)
    have HL := Lib.hid hl
    clear hl
    go_enter Tryz.func58, Tryz.ntmps58
    go_wp2
    go_loopw [17] (fun i wr => ∃ k : Nat, k ≤ l.length ∧ i = .int .i64 k ∧ Hid (Below w.heap.size w wr) ∧ Hid (l.take k = m.take k)) (fun i _ => l.length - (intOf i).toNat)
    case atStart => exact ⟨0, Nat.zero_le _, rfl, Below.refl _ _, by show _ = _; simp⟩
    case round =>
      obtain ⟨k, hkl, rfl, HW, HE⟩ := hrel
      by_cases hlt : k < l.length
      · have hlt2 : k < m.length := by have := HL.out; omega
        obtain ⟨x, hx⟩ : ∃ x, l[k]? = some x := ⟨_, List.getElem?_eq_getElem hlt⟩
        obtain ⟨y, hy⟩ : ∃ y, m[k]? = some y := ⟨_, List.getElem?_eq_getElem hlt2⟩
        obtain ⟨bad, hbd, hra, hcl⟩ := HA.out.below HW.out
        have hrb := SxL.below HB.out HW.out
        obtain ⟨g, o, rfl, hgb, hg, _, _⟩ := hra.addr (by omega)
        obtain ⟨g', o', rfl, _, hg', _, _⟩ := hrb.addr (by omega)
        obtain ⟨_, v0, v1, v2, c0, c1, c2, hrt⟩ := hra.get l g o k x hx
        obtain ⟨ca, cc, hv, _, _, _, _⟩ := hrt.parts
        simp only [Value.agg.injEq, Array.mk.injEq, List.cons.injEq, and_true] at hv
        obtain ⟨rfl, rfl, rfl⟩ := hv
        obtain ⟨_, v0, v1, v2, d0, d1, d2, hrt'⟩ := hrb.get m g' o' k y hy
        obtain ⟨da, dc, hv, _, _, _, _⟩ := hrt'.parts
        simp only [Value.agg.injEq, Array.mk.injEq, List.cons.injEq, and_true] at hv
        obtain ⟨rfl, rfl, rfl⟩ := hv
        have c2' : wr.cell? ⟨g, o + k * 3 + 2, none⟩ = some (.slice ca x.kids.length cc) := c2
        have d2' : wr.cell? ⟨g', o' + k * 3 + 2, none⟩ = some (.slice da y.kids.length dc) := d2
        have hxk : SxK wr x (.agg #[.int .i8 x.kind, .string (bytesL x.text), .slice ca x.kids.length cc]) := ⟨bad, hbd, hrt, hcl⟩
        obtain ⟨W2, hW2⟩ : ∃ W2, W2 = (wr.alloc (.cells #[.int .i8 x.kind, .string (bytesL x.text), .slice ca x.kids.length cc] 35)).alloc (.cells #[.int .i8 y.kind, .string (bytesL y.text), .slice da y.kids.length dc] 35) := ⟨_, rfl⟩
        obtain ⟨h1, h2, hb2⟩ := two_new wr (.cells #[.int .i8 x.kind, .string (bytesL x.text), .slice ca x.kids.length cc] 35) (.cells #[.int .i8 y.kind, .string (bytesL y.text), .slice da y.kids.length dc] 35)
        rw [← hW2] at h1 h2 hb2
        have HC : Hid (Calls Tryz.prog 59 #[.agg #[.int .i8 x.kind, .string (bytesL x.text), .slice ca x.kids.length cc], .agg #[.int .i8 y.kind, .string (bytesL y.text), .slice da y.kids.length dc]] W2 fun e w' => (∃ r, e = .returned (.bool r) ∧ (r = true ↔ x = y)) ∧ Below wr.heap.size wr w') := by
          obtain ⟨bad', q1, q2, q3⟩ := hxk.below hb2
          refine (Same_any x y _ _ W2 (hT_deep (HH.out x (List.mem_of_getElem? hx))) bad' q1 q2 q3 (Sx.below hrt' hb2)).mono ?_
          rintro e w' ⟨h, hb⟩
          exact ⟨h, hb2.trans (hb.mono hb2.size)⟩
        have HL2 := Lib.hid hW2
        obtain ⟨e0, e1, e2, ef, _⟩ := cells3b h1
        obtain ⟨f0, f1, f2, ff, _⟩ := cells3b h2
        have HXY := Lib.hid (And.intro hx hy)
        clear hx hy hra hrb hrt hrt' hxk hcl hbd hW2 h1 h2 hb2 c2 d2 hgb
        go_wp2_with fail
        rw [← HL2.out]
        refine HC.out.mono ?_
        rintro e w5 ⟨⟨r, rfl, hr⟩, hb5⟩
        have HB5 : Hid (Below w.heap.size w w5) := HW.out.trans (hb5.mono HW.out.size)
        have HR := Lib.hid hr
        clear hr hb5 e0 e1 e2 f0 f1 f2 ef ff c0 c1 c2' d0 d1 d2'
        cases r with
        | true =>
          have HE2 : Hid (l.take (k + 1) = m.take (k + 1)) := by
            show _ = _
            rw [take_snoc HXY.out.1, take_snoc HXY.out.2, HE.out, HR.out.1 rfl]
          go_wp2_with fail
          go_roundw
          case rel => exact ⟨k + 1, by omega, by go_num, HB5.out, HE2.out⟩
          case measure => simp [intOf]; omega
        | false =>
          have HN : Hid (¬ l = m) := fun h => by
            have h1 := HXY.out.1
            rw [h, HXY.out.2] at h1
            have := HR.out.2 (Option.some.inj h1).symm
            cases this
          go_wp2
          go_ret
          exact ⟨⟨false, rfl, fun h => (by cases h), fun h => absurd h HN.out⟩, HB5.out⟩
      · obtain rfl : k = l.length := by omega
        have HT : Hid (l = m) := by have := HE.out; rw [List.take_length, HL.out, List.take_length] at this; exact this
        go_wp2
        go_ret
        exact ⟨⟨true, rfl, fun _ => HT.out, fun _ => rfl⟩, HW.out⟩
  · have HN : Hid (¬ l = m) := fun h => hl (by rw [h])
    have hne : ((l.length : Int) != (m.length : Int)) = true := ne_true (by omega)
    clear hl
    go_enter Tryz.func58, Tryz.ntmps58
    go_wp2
    go_ret
    exact ⟨⟨false, rfl, fun h => (by cases h), fun h => absurd h HN.out⟩, Below.refl _ _⟩
end Go.Proofs.YtodonngnigbpaaaGreatDoor
namespace Go.Proofs.YtodonngnigbpaaaGreatDoor
open Go.RowKit
set_option linter.unusedVariables false
theorem cmd_ext {a b : CmdA} (h0 : a.kind = b.kind) (h1 : a.name = b.name) (h2 : a.n = b.n) (h3 : a.res = b.res) (h4 : a.l = b.l) (h5 : a.args = b.args) (h6 : a.params = b.params) (h7 : a.terms = b.terms) : a = b := by
  cases a
  cases b
  simp_all
set_option maxRecDepth 100000 in
set_option maxHeartbeats 4000000 in
theorem csame_any (x y : CmdV) (w : World) (hx : CmdS w x) (hxk : SxKL w x.c.terms x.ta) (hxh : ∀ t ∈ x.c.terms, hT t ≤ 60) (hy : CmdS w y) :
    Calls Tryz.prog 25 #[.agg #[.int .i8 x.c.kind, .string (bytesL x.c.name), .int .i64 x.c.n, .slice x.la x.c.l.length x.lc, .slice x.aa x.c.args.length x.ac, .slice x.pa x.c.params.length x.pc, .string (bytesL x.c.res), .slice x.ta x.c.terms.length x.tc], .agg #[.int .i8 y.c.kind, .string (bytesL y.c.name), .int .i64 y.c.n, .slice y.la y.c.l.length y.lc, .slice y.aa y.c.args.length y.ac, .slice y.pa y.c.params.length y.pc, .string (bytesL y.c.res), .slice y.ta y.c.terms.length y.tc]] w fun e w' => (∃ r, e = .returned (.bool r) ∧ (r = true ↔ x.c = y.c)) ∧ Below w.heap.size w w' := by
  obtain ⟨W2, hW2⟩ : ∃ W2, W2 = (w.alloc (.cells #[.int .i8 x.c.kind, .string (bytesL x.c.name), .int .i64 x.c.n, .slice x.la x.c.l.length x.lc, .slice x.aa x.c.args.length x.ac, .slice x.pa x.c.params.length x.pc, .string (bytesL x.c.res), .slice x.ta x.c.terms.length x.tc] 28)).alloc (.cells #[.int .i8 y.c.kind, .string (bytesL y.c.name), .int .i64 y.c.n, .slice y.la y.c.l.length y.lc, .slice y.aa y.c.args.length y.ac, .slice y.pa y.c.params.length y.pc, .string (bytesL y.c.res), .slice y.ta y.c.terms.length y.tc] 28) := ⟨_, rfl⟩
  obtain ⟨h1, h2, hb2⟩ := two_new w (.cells #[.int .i8 x.c.kind, .string (bytesL x.c.name), .int .i64 x.c.n, .slice x.la x.c.l.length x.lc, .slice x.aa x.c.args.length x.ac, .slice x.pa x.c.params.length x.pc, .string (bytesL x.c.res), .slice x.ta x.c.terms.length x.tc] 28) (.cells #[.int .i8 y.c.kind, .string (bytesL y.c.name), .int .i64 y.c.n, .slice y.la y.c.l.length y.lc, .slice y.aa y.c.args.length y.ac, .slice y.pa y.c.params.length y.pc, .string (bytesL y.c.res), .slice y.ta y.c.terms.length y.tc] 28)
  rw [← hW2] at h1 h2 hb2
  have hsz : W2.heap.size = w.heap.size + 2 := by rw [hW2]; simp
  have HL := Lib.hid hW2
  have HX : Hid (∀ W, Below W2.heap.size W2 W → Box8 W w.heap.size x ∧ Box8 W (w.heap.size + 1) y) := fun W hW => ⟨(hW.block _ (by omega)).trans h1, (hW.block _ (by omega)).trans h2⟩
  have HB2 := Lib.hid hb2
  have HB0 : Hid (Below W2.heap.size W2 W2) := Below.refl _ _
  have HXS := Lib.hid hx
  have HYS := Lib.hid hy
  have HXK := Lib.hid hxk
  have HXH := Lib.hid hxh
  clear hx hy hxk hxh hW2 h1 h2 hb2
  have HI : Hid (∀ W, Below W2.heap.size W2 W → Calls Tryz.prog 55 #[.slice x.la x.c.l.length x.lc, .slice y.la y.c.l.length y.lc] W fun e w' => e = .returned (.bool (decide (x.c.l = y.c.l))) ∧ Below W2.heap.size W2 w') := fun W hW => by
    have hb := HB2.out.trans (hW.mono (by omega))
    have hx := HXS.out.below hb
    have hy := HYS.out.below hb
    refine (EqualInt x.c.l y.c.l x.la y.la x.lc y.lc W hx.lat.at hy.lat.at hx.ll hy.ll hx.lm hy.lm).mono ?_
    rintro e w' ⟨rfl, h⟩
    exact ⟨rfl, hW.trans (h.mono hW.size)⟩
  have HA : Hid (∀ W, Below W2.heap.size W2 W → Calls Tryz.prog 56 #[.slice x.aa x.c.args.length x.ac, .slice y.aa y.c.args.length y.ac] W fun e w' => e = .returned (.bool (decide (x.c.args = y.c.args))) ∧ Below W2.heap.size W2 w') := fun W hW => by
    have hb := HB2.out.trans (hW.mono (by omega))
    have hx := HXS.out.below hb
    have hy := HYS.out.below hb
    refine (EqualStr x.c.args y.c.args x.aa y.aa x.ac y.ac W hx.aat.at hy.aat.at hx.al hy.al hx.am hy.am).mono ?_
    rintro e w' ⟨rfl, h⟩
    exact ⟨rfl, hW.trans (h.mono hW.size)⟩
  have HP : Hid (∀ W, Below W2.heap.size W2 W → Calls Tryz.prog 57 #[.slice x.pa x.c.params.length x.pc, .slice y.pa y.c.params.length y.pc] W fun e w' => e = .returned (.bool (decide (x.c.params = y.c.params))) ∧ Below W2.heap.size W2 w') := fun W hW => by
    have hb := HB2.out.trans (hW.mono (by omega))
    have hx := HXS.out.below hb
    have hy := HYS.out.below hb
    refine (EqualPar x.c.params y.c.params x.pa y.pa x.pc y.pc W hx.pat.at hy.pat.at hx.pl hy.pl hx.pm hy.pm).mono ?_
    rintro e w' ⟨rfl, h⟩
    exact ⟨rfl, hW.trans (h.mono hW.size)⟩
  have HC7 : Hid (∀ W, Below W2.heap.size W2 W → Calls Tryz.prog 58 #[.slice x.ta x.c.terms.length x.tc, .slice y.ta y.c.terms.length y.tc, .func (.func 59) #[] #[]] W fun e w' => (∃ r, e = .returned (.bool r) ∧ (r = true ↔ x.c.terms = y.c.terms)) ∧ Below W2.heap.size W2 w') := fun W hW => by
    have hb := HB2.out.trans (hW.mono (by omega))
    have hx := HXS.out.below hb
    have hy := HYS.out.below hb
    refine (EqualSx x.c.terms y.c.terms x.ta y.ta x.tc y.tc W (HXK.out.below hb) hy.tat hx.tl hy.tl hx.tm hy.tm HXH.out).mono ?_
    rintro e w' ⟨hr, h⟩
    exact ⟨hr, hW.trans (h.mono hW.size)⟩
  obtain ⟨a0, a1, a2, a3, a4, a5, a6, a7⟩ := (HX.out _ HB0.out).1.cells
  obtain ⟨b0, b1, b2, b3, b4, b5, b6, b7⟩ := (HX.out _ HB0.out).2.cells
  by_cases h0 : x.c.kind = y.c.kind
  · skip
    have e0 := eq_true_ (x := x.c.kind) (y := y.c.kind) h0
    have H0q := Lib.hid h0
    clear h0
    by_cases h1 : x.c.name = y.c.name
    · skip
      have e1 := sl_yes h1
      have H1q := Lib.hid h1
      clear h1
      by_cases h2 : x.c.n = y.c.n
      · skip
        have e2 := eq_true_ (x := x.c.n) (y := y.c.n) h2
        have H2q := Lib.hid h2
        clear h2
        by_cases h3 : x.c.res = y.c.res
        · skip
          have e3 := sl_yes h3
          have H3q := Lib.hid h3
          clear h3
          by_cases h4 : x.c.l = y.c.l
          · skip
            have HC4 : Hid (∀ W, Below W2.heap.size W2 W → Calls Tryz.prog 55 #[.slice x.la x.c.l.length x.lc, .slice y.la y.c.l.length y.lc] W fun e w' => e = .returned (.bool true) ∧ Below W2.heap.size W2 w') := fun W hW => by have := HI.out W hW; rwa [decide_eq_true h4] at this
            have H4q := Lib.hid h4
            clear h4
            by_cases h5 : x.c.args = y.c.args
            · skip
              have HC5 : Hid (∀ W, Below W2.heap.size W2 W → Calls Tryz.prog 56 #[.slice x.aa x.c.args.length x.ac, .slice y.aa y.c.args.length y.ac] W fun e w' => e = .returned (.bool true) ∧ Below W2.heap.size W2 w') := fun W hW => by have := HA.out W hW; rwa [decide_eq_true h5] at this
              have H5q := Lib.hid h5
              clear h5
              by_cases h6 : x.c.params = y.c.params
              · skip
                have HC6 : Hid (∀ W, Below W2.heap.size W2 W → Calls Tryz.prog 57 #[.slice x.pa x.c.params.length x.pc, .slice y.pa y.c.params.length y.pc] W fun e w' => e = .returned (.bool true) ∧ Below W2.heap.size W2 w') := fun W hW => by have := HP.out W hW; rwa [decide_eq_true h6] at this
                have H6q := Lib.hid h6
                clear h6
                have HE : Hid (x.c.terms = y.c.terms → x.c = y.c) := fun h => cmd_ext H0q.out H1q.out H2q.out H3q.out H4q.out H5q.out H6q.out h
                have HBw := HB0
                go_enter Tryz.func25, Tryz.ntmps25
                go_wp2_with fail
                rw [← HL.out]
                clear HL
                refine (HC4.out _ HBw.out).mono ?_
                rintro e w4 ⟨rfl, hb⟩
                clear a0 a1 a2 a3 a4 a5 a6 a7 b0 b1 b2 b3 b4 b5 b6 b7
                clear HBw
                have HBw := Lib.hid hb
                clear hb
                obtain ⟨a0, a1, a2, a3, a4, a5, a6, a7⟩ := (HX.out _ HBw.out).1.cells
                obtain ⟨b0, b1, b2, b3, b4, b5, b6, b7⟩ := (HX.out _ HBw.out).2.cells
                go_wp2_with fail
                refine (HC5.out _ HBw.out).mono ?_
                rintro e w5 ⟨rfl, hb⟩
                clear a0 a1 a2 a3 a4 a5 a6 a7 b0 b1 b2 b3 b4 b5 b6 b7
                clear HBw
                have HBw := Lib.hid hb
                clear hb
                obtain ⟨a0, a1, a2, a3, a4, a5, a6, a7⟩ := (HX.out _ HBw.out).1.cells
                obtain ⟨b0, b1, b2, b3, b4, b5, b6, b7⟩ := (HX.out _ HBw.out).2.cells
                go_wp2_with fail
                refine (HC6.out _ HBw.out).mono ?_
                rintro e w6 ⟨rfl, hb⟩
                clear a0 a1 a2 a3 a4 a5 a6 a7 b0 b1 b2 b3 b4 b5 b6 b7
                clear HBw
                have HBw := Lib.hid hb
                clear hb
                obtain ⟨a0, a1, a2, a3, a4, a5, a6, a7⟩ := (HX.out _ HBw.out).1.cells
                obtain ⟨b0, b1, b2, b3, b4, b5, b6, b7⟩ := (HX.out _ HBw.out).2.cells
                go_wp2_with fail
                refine (HC7.out _ HBw.out).mono ?_
                rintro e w7 ⟨⟨r, rfl, hr⟩, hb⟩
                have HR := Lib.hid hr
                clear a0 a1 a2 a3 a4 a5 a6 a7 b0 b1 b2 b3 b4 b5 b6 b7
                clear HBw hr
                have HBw := Lib.hid hb
                clear hb
                go_wp2
                go_ret
                exact ⟨⟨r, rfl, fun h => HE.out (HR.out.1 h), fun h => HR.out.2 (by rw [h])⟩, HB2.out.trans (HBw.out.mono HB2.out.size)⟩
              · have HN : Hid (¬ x.c = y.c) := fun h => h6 (by rw [h])
                have HC6 : Hid (∀ W, Below W2.heap.size W2 W → Calls Tryz.prog 57 #[.slice x.pa x.c.params.length x.pc, .slice y.pa y.c.params.length y.pc] W fun e w' => e = .returned (.bool false) ∧ Below W2.heap.size W2 w') := fun W hW => by have := HP.out W hW; rwa [decide_eq_false h6] at this
                clear h6
                have HBw := HB0
                go_enter Tryz.func25, Tryz.ntmps25
                go_wp2_with fail
                rw [← HL.out]
                clear HL
                refine (HC4.out _ HBw.out).mono ?_
                rintro e w4 ⟨rfl, hb⟩
                clear a0 a1 a2 a3 a4 a5 a6 a7 b0 b1 b2 b3 b4 b5 b6 b7
                clear HBw
                have HBw := Lib.hid hb
                clear hb
                obtain ⟨a0, a1, a2, a3, a4, a5, a6, a7⟩ := (HX.out _ HBw.out).1.cells
                obtain ⟨b0, b1, b2, b3, b4, b5, b6, b7⟩ := (HX.out _ HBw.out).2.cells
                go_wp2_with fail
                refine (HC5.out _ HBw.out).mono ?_
                rintro e w5 ⟨rfl, hb⟩
                clear a0 a1 a2 a3 a4 a5 a6 a7 b0 b1 b2 b3 b4 b5 b6 b7
                clear HBw
                have HBw := Lib.hid hb
                clear hb
                obtain ⟨a0, a1, a2, a3, a4, a5, a6, a7⟩ := (HX.out _ HBw.out).1.cells
                obtain ⟨b0, b1, b2, b3, b4, b5, b6, b7⟩ := (HX.out _ HBw.out).2.cells
                go_wp2_with fail
                refine (HC6.out _ HBw.out).mono ?_
                rintro e w6 ⟨rfl, hb⟩
                clear a0 a1 a2 a3 a4 a5 a6 a7 b0 b1 b2 b3 b4 b5 b6 b7
                clear HBw
                have HBw := Lib.hid hb
                clear hb
                obtain ⟨a0, a1, a2, a3, a4, a5, a6, a7⟩ := (HX.out _ HBw.out).1.cells
                obtain ⟨b0, b1, b2, b3, b4, b5, b6, b7⟩ := (HX.out _ HBw.out).2.cells
                go_wp2
                go_ret
                exact ⟨⟨false, rfl, fun h => (by cases h), fun h => absurd h HN.out⟩, HB2.out.trans (HBw.out.mono HB2.out.size)⟩
            · have HN : Hid (¬ x.c = y.c) := fun h => h5 (by rw [h])
              have HC5 : Hid (∀ W, Below W2.heap.size W2 W → Calls Tryz.prog 56 #[.slice x.aa x.c.args.length x.ac, .slice y.aa y.c.args.length y.ac] W fun e w' => e = .returned (.bool false) ∧ Below W2.heap.size W2 w') := fun W hW => by have := HA.out W hW; rwa [decide_eq_false h5] at this
              clear h5
              have HBw := HB0
              go_enter Tryz.func25, Tryz.ntmps25
              go_wp2_with fail
              rw [← HL.out]
              clear HL
              refine (HC4.out _ HBw.out).mono ?_
              rintro e w4 ⟨rfl, hb⟩
              clear a0 a1 a2 a3 a4 a5 a6 a7 b0 b1 b2 b3 b4 b5 b6 b7
              clear HBw
              have HBw := Lib.hid hb
              clear hb
              obtain ⟨a0, a1, a2, a3, a4, a5, a6, a7⟩ := (HX.out _ HBw.out).1.cells
              obtain ⟨b0, b1, b2, b3, b4, b5, b6, b7⟩ := (HX.out _ HBw.out).2.cells
              go_wp2_with fail
              refine (HC5.out _ HBw.out).mono ?_
              rintro e w5 ⟨rfl, hb⟩
              clear a0 a1 a2 a3 a4 a5 a6 a7 b0 b1 b2 b3 b4 b5 b6 b7
              clear HBw
              have HBw := Lib.hid hb
              clear hb
              obtain ⟨a0, a1, a2, a3, a4, a5, a6, a7⟩ := (HX.out _ HBw.out).1.cells
              obtain ⟨b0, b1, b2, b3, b4, b5, b6, b7⟩ := (HX.out _ HBw.out).2.cells
              go_wp2
              go_ret
              exact ⟨⟨false, rfl, fun h => (by cases h), fun h => absurd h HN.out⟩, HB2.out.trans (HBw.out.mono HB2.out.size)⟩
          · have HN : Hid (¬ x.c = y.c) := fun h => h4 (by rw [h])
            have HC4 : Hid (∀ W, Below W2.heap.size W2 W → Calls Tryz.prog 55 #[.slice x.la x.c.l.length x.lc, .slice y.la y.c.l.length y.lc] W fun e w' => e = .returned (.bool false) ∧ Below W2.heap.size W2 w') := fun W hW => by have := HI.out W hW; rwa [decide_eq_false h4] at this
            clear h4
            have HBw := HB0
            go_enter Tryz.func25, Tryz.ntmps25
            go_wp2_with fail
            rw [← HL.out]
            clear HL
            refine (HC4.out _ HBw.out).mono ?_
            rintro e w4 ⟨rfl, hb⟩
            clear a0 a1 a2 a3 a4 a5 a6 a7 b0 b1 b2 b3 b4 b5 b6 b7
            clear HBw
            have HBw := Lib.hid hb
            clear hb
            obtain ⟨a0, a1, a2, a3, a4, a5, a6, a7⟩ := (HX.out _ HBw.out).1.cells
            obtain ⟨b0, b1, b2, b3, b4, b5, b6, b7⟩ := (HX.out _ HBw.out).2.cells
            go_wp2
            go_ret
            exact ⟨⟨false, rfl, fun h => (by cases h), fun h => absurd h HN.out⟩, HB2.out.trans (HBw.out.mono HB2.out.size)⟩
        · have HN : Hid (¬ x.c = y.c) := fun h => h3 (by rw [h])
          have e3 := sl_no h3
          clear h3
          have HBw := HB0
          go_enter Tryz.func25, Tryz.ntmps25
          go_wp2
          rw [← HL.out]
          go_ret
          exact ⟨⟨false, rfl, fun h => (by cases h), fun h => absurd h HN.out⟩, HB2.out⟩
      · have HN : Hid (¬ x.c = y.c) := fun h => h2 (by rw [h])
        have e2 := eq_false (x := x.c.n) (y := y.c.n) h2
        clear h2
        have HBw := HB0
        go_enter Tryz.func25, Tryz.ntmps25
        go_wp2
        rw [← HL.out]
        go_ret
        exact ⟨⟨false, rfl, fun h => (by cases h), fun h => absurd h HN.out⟩, HB2.out⟩
    · have HN : Hid (¬ x.c = y.c) := fun h => h1 (by rw [h])
      have e1 := sl_no h1
      clear h1
      have HBw := HB0
      go_enter Tryz.func25, Tryz.ntmps25
      go_wp2
      rw [← HL.out]
      go_ret
      exact ⟨⟨false, rfl, fun h => (by cases h), fun h => absurd h HN.out⟩, HB2.out⟩
  · have HN : Hid (¬ x.c = y.c) := fun h => h0 (by rw [h])
    have e0 := eq_false (x := x.c.kind) (y := y.c.kind) h0
    clear h0
    have HBw := HB0
    go_enter Tryz.func25, Tryz.ntmps25
    go_wp2
    rw [← HL.out]
    go_ret
    exact ⟨⟨false, rfl, fun h => (by cases h), fun h => absurd h HN.out⟩, HB2.out⟩
end Go.Proofs.YtodonngnigbpaaaGreatDoor
