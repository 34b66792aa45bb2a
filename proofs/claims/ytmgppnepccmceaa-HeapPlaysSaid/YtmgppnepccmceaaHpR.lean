/- wakes, same. -/
import Derived.Test.YtmgppnepccmceaaHpQ
namespace Go.Proofs.Ytmgppnepccmceaa
open Go.RowKit
set_option linter.unusedVariables false
theorem below_gr {w w1 w2 : World} {t nb ib : Nat} (hb : Below w.heap.size w w1) (g : Gr (Oth t nb ib) w1 w2) (h1 : w.heap.size ≤ t) (h2 : w.heap.size ≤ nb) (h3 : w.heap.size ≤ ib) : Below w.heap.size w w2 :=
  ⟨g.os.trans hb.os, g.tape.trans hb.tape, g.output.trans hb.output, Nat.le_trans hb.size g.size, fun k hk => (g.keep k (Nat.lt_of_lt_of_le hk hb.size) ⟨by omega, by omega, by omega⟩).trans (hb.block k hk)⟩
theorem below_drewN {w w1 : World} {n : Nat} (h : Below n w w1) (q : Nat) : Below n w (w1.drewN q) := ⟨h.os, h.tape, h.output, h.size, h.block⟩
def sW0 : St := ⟨[0, 0, 0], []⟩
def sW3 : St := bumpS (putS (putS sW0 1) 2) 2 1
theorem wk1 : faultV (sW0.A.length) 1 = 0 := by decide
theorem wk2 : faultV ((putS sW0 1).A.length) 2 = 0 := by decide
theorem wk3 : bumpE ((putS (putS sW0 1) 2).A.length) 2 1 = 0 := by decide
theorem wk4 : popV sW3 = 2 := by decide
theorem wk5 : popB sW3 = true := by decide
theorem wk6 : (popS sW3).S.length = 1 := by decide
theorem wk7 : hasV (popS sW3) 1 = true := by decide
theorem wk8 : hasV (popS sW3) 2 = false := by decide
theorem wk9 : actV (popS sW3).A 2 = 1 := by decide
set_option maxRecDepth 100000 in
theorem wakes_any (w : World) : Calls Try.prog 8 #[] w fun e w' => e = .returned (.bool true) ∧ Below w.heap.size w w' := by
  have hn := New_q 3 w (by omega)
  rw [show ((3 : Nat) : Int) = 3 from rfl] at hn
  have HN := Lib.hid hn
  clear hn
  go_enter Try.func8, Try.ntmps8
  go_wp2_with fail
  with_reducible refine HN.out.mono ?_
  rintro e w1 ⟨h, t, nb, ib, rfl, HQ0⟩
  obtain ⟨q0, o1, o2, o3, o4, hb0⟩ := HQ0.out
  have HB := Lib.hid (show w.heap.size ≤ t ∧ w.heap.size ≤ nb ∧ w.heap.size ≤ ib ∧ Below w.heap.size w w1 from ⟨o2, o3, o4, hb0⟩)
  have c1 := Put_q (s := sW0) q0 1
  rw [wk1] at c1
  have C1 := Lib.hid c1
  clear c1 q0 o1 o2 o3 o4 hb0 HN
  go_wp2_with fail
  with_reducible refine C1.out.mono ?_
  rintro e w2 ⟨rfl, HQ1⟩
  have c2 := Put_q HQ1.out.1 2
  rw [wk2] at c2
  have C2 := Lib.hid c2
  clear c2
  go_wp2_with fail
  with_reducible refine C2.out.mono ?_
  rintro e w3 ⟨rfl, HQ2⟩
  have c3 := Bump_q HQ2.out.1 2 1
  rw [wk3] at c3
  have C3 := Lib.hid c3
  clear c3
  go_wp2_with fail
  with_reducible refine C3.out.mono ?_
  rintro e w4 ⟨rfl, HQ3⟩
  have c4 := Pop_q (s := sW3) HQ3.out.1
  rw [wk4, wk5] at c4
  have C4 := Lib.hid c4
  clear c4
  go_wp2_with fail
  with_reducible refine C4.out.mono ?_
  rintro e w5 ⟨rfl, HQ4⟩
  have c5 := Len_q HQ4.out.1
  rw [wk6] at c5
  have C5 := Lib.hid c5
  have C6 := Lib.hid (Has_q HQ4.out.1 1 wk7)
  have C7 := Lib.hid (Has_q HQ4.out.1 2 wk8)
  have C8 := Lib.hid (Act_q HQ4.out.1 2 wk9)
  clear c5
  have HF : Hid (Below w.heap.size w w5) := below_gr HB.out.2.2.2 (((HQ1.out.2.trans HQ2.out.2).trans HQ3.out.2).trans HQ4.out.2) HB.out.1 HB.out.2.1 HB.out.2.2.1
  go_wp2_with fail
  with_reducible refine C5.out.mono ?_
  rintro e w6 ⟨rfl, rfl⟩
  go_wp2_with fail
  with_reducible refine C6.out.mono ?_
  rintro e w6 ⟨rfl, rfl⟩
  go_wp2_with fail
  with_reducible refine C7.out.mono ?_
  rintro e w6 ⟨rfl, rfl⟩
  go_wp2_with fail
  with_reducible refine C8.out.mono ?_
  rintro e w6 ⟨rfl, rfl⟩
  go_wp2
  go_ret
  exact ⟨rfl, HF.out⟩
/-- Integers lie in a slice. -/
def IntsW (w : World) (xs : List Int) (a : Option Addr) : Prop := 0 < xs.length → ∃ b o : Nat, a = some ⟨b, o, none⟩ ∧ b < w.heap.size ∧ ∀ i v, xs[i]? = some v → w.cell? ⟨b, o + i, none⟩ = some (.int .i64 v)
theorem IntsW.row {w : World} {b : Nat} {xs : List Int} (h : w.heap[b]? = some (.cells ⟨rowI xs⟩ 3 (0, 0))) : IntsW w xs (some ⟨b, 0, none⟩) := fun _ => ⟨b, 0, rfl, (Array.getElem?_eq_some_iff.1 h).1, fun i v hv => by
  rw [Nat.zero_add, cell_of_row w b _ _ _ _ h, ← Array.getElem?_toList]
  show (rowI xs)[i]? = _
  unfold rowI
  rw [List.getElem?_map, hv]; rfl⟩
theorem IntsW.below {w w' : World} {xs : List Int} {a : Option Addr} (h : IntsW w xs a) (hb : Below w.heap.size w w') : IntsW w' xs a := fun h0 => by
  obtain ⟨b, o, e, hl, hc⟩ := h h0
  exact ⟨b, o, e, Nat.lt_of_lt_of_le hl hb.size, fun i v hv => (hb.cell (p := ⟨b, o + i, none⟩) hl).trans (hc i v hv)⟩
theorem same_any (xs : List Int) (a b : Option Addr) (c d : Nat) (w : World) (hx : xs.length ≤ 1000) (hA : IntsW w xs a) (hB : IntsW w xs b) :
    Calls Try.prog 25 #[.slice a xs.length c, .slice b xs.length d] w fun e w' => e = .returned (.bool true) ∧ Below w.heap.size w w' := by
  have HA := Lib.hid hA
  have HB := Lib.hid hB
  obtain ⟨n, hn⟩ : ∃ n, xs.length = n := ⟨_, rfl⟩
  have HNn := Lib.hid hn
  rw [hn] at hx ⊢
  clear hA hB hn
  go_enter Try.func25, Try.ntmps25
  go_wp2
  go_loopw [5] (fun iv wr => ∃ i : Nat, iv = .int .i64 i ∧ i ≤ n ∧ Hid (Below w.heap.size w wr)) (fun iv _ => n - (intOf iv).toNat)
  case atStart => exact ⟨0, rfl, by omega, Below.refl _ _⟩
  case round =>
    obtain ⟨i, rfl, hi, HR⟩ := hrel
    by_cases hin : i < n
    · have h0 : 0 < xs.length := by rw [HNn.out]; omega
      obtain ⟨b1, o1, rfl, hb1, hc1⟩ := HA.out h0
      obtain ⟨b2, o2, rfl, hb2, hc2⟩ := HB.out h0
      obtain ⟨v, hv⟩ : ∃ v, xs[i]? = some v := ⟨_, List.getElem?_eq_getElem (by rw [HNn.out]; exact hin)⟩
      have e1 := (HR.out.cell (p := ⟨b1, o1 + i, none⟩) hb1).trans (hc1 i v hv)
      have e2 := (HR.out.cell (p := ⟨b2, o2 + i, none⟩) hb2).trans (hc2 i v hv)
      have hini : (i : Int) < (n : Int) := by omega
      clear hc1 hc2 hv h0
      go_wp2_with fail
      go_quiet (fail)
      go_wp2
      go_roundw
      case rel => exact ⟨i + 1, by go_num, by omega, below_drewN HR.out _⟩
      case measure => simp [intOf]; omega
    · have hni : ¬ (i : Int) < (n : Int) := by omega
      go_wp2
      go_ret
      exact ⟨rfl, HR.out⟩
end Go.Proofs.Ytmgppnepccmceaa
