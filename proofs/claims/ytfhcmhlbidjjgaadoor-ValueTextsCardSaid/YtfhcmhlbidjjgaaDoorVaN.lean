/- Package sig's SortName, with the name that it answers; what package value finds in its variables. -/
import Derived.Test.YtfhcmhlbidjjgaaDoorSgC
namespace Go.Proofs.YtfhcmhlbidjjgaaDoor
open Go.RowKit
set_option linter.unusedVariables false
def emptyS : ByteArray := ⟨#[]⟩
/-- The name of the sort of that number. -/
def nameA (l : List ByteArray) (i : Int) : ByteArray := if i = 0 then boolS else if i = 1 then intS else if i < 0 then emptyS else l.getD (i - 2).toNat emptyS
theorem nameA_at {l : List ByteArray} {i : Int} {y : ByteArray} (h : ¬ i < 2) (hy : l[(i - 2).toNat]? = some y) : nameA l i = y := by
  unfold nameA
  rw [if_neg (by omega), if_neg (by omega), if_neg (by omega), List.getD_eq_getElem?_getD, hy]; rfl
theorem nameA_no {l : List ByteArray} {i : Int} (h : thereA l.length i = false) : nameA l i = emptyS := by
  unfold thereA at h
  unfold nameA
  simp only [Bool.and_eq_false_iff, decide_eq_false_iff_not] at h
  rcases Int.lt_or_le i 0 with h0 | h0
  · rw [if_neg (by omega), if_neg (by omega), if_pos h0]
  · rw [if_neg (by omega), if_neg (by omega), if_neg (by omega), List.getD_eq_getElem?_getD, List.getElem?_eq_none (by omega)]; rfl
set_option maxRecDepth 100000 in
theorem SortName_is (x : SigV) (i : Int) (r : Bool) (s : ByteArray) (w : World) (hG : GS w) (hR : SigR w x) (hr : thereA x.sorts.length i = r) (hs : nameA x.sorts i = s) (hi : I64 i) (hl : x.sorts.length ≤ 140737488355328) :
    Calls Tryd.prog 12 #[.agg #[.slice x.sa x.sorts.length x.sc, .slice x.fa x.funs.length x.fc, .slice x.ma x.macs.length x.mc], .int .i64 i] w fun e w' => e = .returned (.tuple #[.string s, .bool r]) ∧ Below w.heap.size w w' := by
  have hR1 := hR.sl
  have hR2 := hR.sm
  have HR := Lib.hid hR
  have hi1 := hi.1
  have hi2 := hi.2
  have hr0 := hr
  unfold thereA at hr
  by_cases h0 : i < 0
  · have e0 : decide (0 ≤ i) = false := decide_eq_false (by omega)
    rw [e0] at hr
    subst hr
    obtain rfl : s = emptyS := by rw [← hs]; exact nameA_no hr0
    clear hR hG e0 hs hr0
    go_enter Tryd.func12, Tryd.ntmps12
    go_wp2
    go_ret2
    exact ⟨rfl, (Below.refl _ _).alloc (Nat.le_refl _) _⟩
  · have e0 : decide (0 ≤ i) = true := decide_eq_true (by omega)
    by_cases h1 : i < 2 + (x.sorts.length : Int)
    · have e1 : decide (i < 2 + (x.sorts.length : Int)) = true := decide_eq_true h1
      rw [e0, e1] at hr
      subst hr
      clear e0 e1 hr0
      by_cases h2 : i < 2
      · have c0 := hG.c0
        have c1 := hG.c1
        have hlt := hG.lt
        clear hR hG
        obtain rfl | rfl : i = 0 ∨ i = 1 := by omega
        · obtain rfl : s = boolS := by rw [← hs]; rfl
          clear hs
          go_enter Tryd.func12, Tryd.ntmps12
          go_wp2
          go_ret2
          exact ⟨rfl, (Below.refl _ _).alloc (Nat.le_refl _) _⟩
        · obtain rfl : s = intS := by rw [← hs]; rfl
          clear hs
          go_enter Tryd.func12, Tryd.ntmps12
          go_wp2
          go_ret2
          exact ⟨rfl, (Below.refl _ _).alloc (Nat.le_refl _) _⟩
      · have hk : (i - 2).toNat < x.sorts.length := by omega
        obtain ⟨y, hy⟩ : ∃ y, x.sorts[(i - 2).toNat]? = some y := ⟨_, List.getElem?_eq_getElem hk⟩
        obtain rfl : s = y := by rw [← hs]; exact nameA_at h2 hy
        obtain ⟨g, o, ha, hg, hcell⟩ := hR.sat (by rw [len_flat strC_len]; omega)
        have q0 := hcell _ _ ((get_flat strC_len x.sorts (i - 2).toNat 0 _ hy (by omega)).trans rfl)
        simp only [Nat.mul_one, Nat.add_zero] at q0
        obtain ⟨sorts, sa, sc, funs, fa, fc, macs, ma, mc⟩ := x
        simp only at ha hk hl hR1 hR2 h1
        subst ha
        clear hR hG hy hcell hs
        go_enter Tryd.func12, Tryd.ntmps12
        go_wp2
        go_ret2
        exact ⟨rfl, (Below.refl _ _).alloc (Nat.le_refl _) _⟩
    · have e1 : decide (i < 2 + (x.sorts.length : Int)) = false := decide_eq_false h1
      rw [e0, e1] at hr
      subst hr
      obtain rfl : s = emptyS := by rw [← hs]; exact nameA_no hr0
      clear hR hG e0 e1 hs hr0
      go_enter Tryd.func12, Tryd.ntmps12
      go_wp2
      go_ret2
      exact ⟨rfl, (Below.refl _ _).alloc (Nat.le_refl _) _⟩
def falseS : ByteArray := ⟨#[102, 97, 108, 115, 101]⟩
def trueS : ByteArray := ⟨#[116, 114, 117, 101]⟩
structure GV (w : World) : Prop where
  s : GS w
  lt : 0 < w.heap.size
  c0 : w.cell? ⟨0, 0, none⟩ = some (.string falseS)
  c1 : w.cell? ⟨0, 1, none⟩ = some (.string trueS)
theorem GV.below {w w' : World} (h : GV w) (hb : Below w.heap.size w w') : GV w' :=
  ⟨h.s.below hb, Nat.lt_of_lt_of_le h.lt hb.size, (hb.cell (p := ⟨0, 0, none⟩) h.lt).trans h.c0, (hb.cell (p := ⟨0, 1, none⟩) h.lt).trans h.c1⟩
end Go.Proofs.YtfhcmhlbidjjgaaDoor
