/- The document's Is: whether a value is of a sort. -/
import Derived.Test.YtfbjgadgfjnamaaGreatDoorZHdG
import Derived.Test.YtfbjgadgfjnamaaGreatDoorZNumMay
namespace Go.Proofs.YtfbjgadgfjnamaaGreatDoor
open Go.RowKit
set_option linter.unusedVariables false
structure RowA where
  a0 : Int
  a1 : Int
  a2 : Int
  v : Int
structure RowOk (r : RowA) : Prop where
  a0 : I64 r.a0
  a1 : I64 r.a1
  a2 : I64 r.a2
  v : I64 r.v
def rowL (r : RowA) : List Value := [.int .i64 r.a0, .int .i64 r.a1, .int .i64 r.a2, .int .i64 r.v]
theorem rowL_len (r : RowA) : (rowL r).length = 4 := rfl
/-- A function's interpretation as it lies in memory. -/
structure FvV where
  rows : List RowA
  ra : Option Addr
  rc : Nat
  els : Int
def fvL (f : FvV) : List Value := [.slice f.ra f.rows.length f.rc, .int .i64 f.els]
theorem fvL_len (f : FvV) : (fvL f).length = 2 := rfl
def numL (n : Int) : List Value := [.int .i64 n]
theorem numL_len (n : Int) : (numL n).length = 1 := rfl
structure FvOk (w : World) (B : Nat) (f : FvV) : Prop where
  rl : f.rows.length ≤ f.rc
  rm : f.rc ≤ maxLen
  rat : At w B (f.rows.flatMap rowL) f.ra
  rok : ∀ r ∈ f.rows, RowOk r
  els : I64 f.els
/-- An interpretation as it lies in memory. -/
structure WorV where
  sizes : List Int
  sa : Option Addr
  sc : Nat
  funs : List FvV
  fa : Option Addr
  fc : Nat
structure WorR (w : World) (x : WorV) : Prop where
  sl : x.sizes.length ≤ x.sc
  sm : x.sc ≤ maxLen
  sat : At w w.heap.size (x.sizes.flatMap numL) x.sa
  sok : ∀ n ∈ x.sizes, I64 n
  fl : x.funs.length ≤ x.fc
  fm : x.fc ≤ maxLen
  fat : At w w.heap.size (x.funs.flatMap fvL) x.fa
  fok : ∀ f ∈ x.funs, FvOk w w.heap.size f
theorem FvOk.up {w w' : World} {f : FvV} (h : FvOk w w.heap.size f) (hb : Below w.heap.size w w') : FvOk w' w'.heap.size f :=
  ⟨h.rl, h.rm, (h.rat.below hb).more hb.size, h.rok, h.els⟩
theorem WorR.below {w w' : World} {x : WorV} (h : WorR w x) (hb : Below w.heap.size w w') : WorR w' x :=
  ⟨h.sl, h.sm, (h.sat.below hb).more hb.size, h.sok, h.fl, h.fm, (h.fat.below hb).more hb.size, fun f hf => (h.fok f hf).up hb⟩
theorem any_no {α : Type} {p : α → Bool} {l : List α} (h : ∀ (j : Nat) (y : α), l[j]? = some y → p y = false) : l.any p = false := by
  rw [List.any_eq_false]
  intro y hy
  obtain ⟨j, hj⟩ := List.getElem?_of_mem hy
  rw [h j y hj]; simp
theorem any_yes {α : Type} {p : α → Bool} {l : List α} {j : Nat} {y : α} (h : l[j]? = some y) (hp : p y = true) : l.any p = true := List.any_eq_true.2 ⟨y, List.mem_of_getElem? h, hp⟩
theorem wor_cells {V : World} {B : Nat} {a b : Value} {ty : TypeId} (h : V.heap[B]? = some (.cells #[a, b] ty (0, 0))) : V.cell? ⟨B, 0, none⟩ = some a ∧ V.cell? ⟨B, 1, none⟩ = some b ∧ B < V.heap.size :=
  ⟨(cell_of_row _ _ 0 _ _ _ h).trans rfl, (cell_of_row _ _ 1 _ _ _ h).trans rfl, (Array.getElem?_eq_some_iff.1 h).1⟩
end Go.Proofs.YtfbjgadgfjnamaaGreatDoor
namespace Go.Proofs.YtfbjgadgfjnamaaGreatDoor
open Go.RowKit
set_option linter.unusedVariables false
def SomeB (e : Ending) : Prop := ∃ q : Bool, e = .returned (.bool q)
set_option maxRecDepth 100000 in
theorem great12_any (x : WorV) (w : World) (hR : WorR w x) :
    Calls Tryz.prog 8 #[.agg #[.slice x.sa x.sizes.length x.sc, .slice x.fa x.funs.length x.fc]] w fun e w' => SomeB e ∧ Below w.heap.size w w' := by
  obtain ⟨W0, hW0⟩ : ∃ W0, W0 = w.alloc (.cells #[.slice x.sa x.sizes.length x.sc, .slice x.fa x.funs.length x.fc] 30) := ⟨_, rfl⟩
  have HB0 : Hid (Below w.heap.size w W0) := by rw [hW0]; exact (Below.refl _ _).alloc (Nat.le_refl _) _
  have hX0 : W0.heap[w.heap.size]? = some (.cells #[.slice x.sa x.sizes.length x.sc, .slice x.fa x.funs.length x.fc] 30 (0, 0)) := by rw [hW0]; exact heap_alloc_new w _
  obtain ⟨c0, c1, z0⟩ := wor_cells hX0
  have HX : Hid (∀ V, Below W0.heap.size W0 V → V.cell? ⟨w.heap.size, 0, none⟩ = some (.slice x.sa x.sizes.length x.sc) ∧ V.cell? ⟨w.heap.size, 1, none⟩ = some (.slice x.fa x.funs.length x.fc) ∧ w.heap.size < V.heap.size) := fun V hV => wor_cells ((hV.block _ (Array.getElem?_eq_some_iff.1 hX0).1).trans hX0)
  have HR := Lib.hid hR
  clear hR hX0
  by_cases h0 : 20 < x.sizes.length
  · have d0 : (20 : Int) < (x.sizes.length : Int) := by omega
    go_enter Tryz.func8, Tryz.ntmps8
    go_wp2
    rw [← hW0]
    go_ret
    exact ⟨⟨_, rfl⟩, HB0.out⟩
  have d0 : ¬ (20 : Int) < (x.sizes.length : Int) := by omega
  by_cases h1 : 40 < x.funs.length
  · have d1 : (40 : Int) < (x.funs.length : Int) := by omega
    go_enter Tryz.func8, Tryz.ntmps8
    go_wp2
    rw [← hW0]
    go_ret
    exact ⟨⟨_, rfl⟩, HB0.out⟩
  have d1 : ¬ (40 : Int) < (x.funs.length : Int) := by omega
  go_enter Tryz.func8, Tryz.ntmps8
  go_wp2
  rw [← hW0]
  clear hW0
  go_loopw [3, 4] (fun n i wr => ∃ (k : Nat) (m : Int), k ≤ x.funs.length ∧ i = .int .i64 k ∧ n = .int .i64 m ∧ 0 ≤ m ∧ m ≤ 9000 * (k : Int) ∧ Hid (Below W0.heap.size W0 wr)) (fun _ i _ => x.funs.length - (intOf i).toNat)
  case atStart => exact ⟨0, 0, Nat.zero_le _, rfl, rfl, by omega, by omega, Below.refl _ _⟩
  case round =>
    obtain ⟨k, m, hk, rfl, rfl, hm0, hm1, HB⟩ := hrel
    obtain ⟨c0, c1, z0⟩ := HX.out _ HB.out
    by_cases hlt : k < x.funs.length
    · obtain ⟨f, hf⟩ : ∃ f, x.funs[k]? = some f := ⟨_, List.getElem?_eq_getElem hlt⟩
      obtain ⟨g, o, ha, hg, hcell⟩ := HR.out.fat.below (HB0.out.trans (HB.out.mono HB0.out.size)) (by rw [len_flat fvL_len]; omega)
      have q0 := hcell _ _ ((get_flat fvL_len x.funs k 0 f hf (by omega)).trans rfl)
      simp only [Nat.add_zero] at q0
      have hgw : g < wr.heap.size := by have := HB.out.size; have := HB0.out.size; omega
      have hki : (k : Int) < (x.funs.length : Int) := by omega
      rw [ha] at c1
      have hlen0 : (0 : Int) ≤ (f.rows.length : Int) := by omega
      clear hf hcell ha
      go_wp2
      all_goals go_roundw
      all_goals first
        | (case rel => exact ⟨k + 1, _, by omega, by go_num, rfl, by (try unfold wrap64); omega, by (try unfold wrap64); omega, by first | exact HB | exact HB.out.drew⟩)
        | (case measure => simp [intOf]; omega)
    · obtain rfl : k = x.funs.length := by omega
      go_wp2
      all_goals go_ret
      all_goals exact ⟨⟨_, rfl⟩, HB0.out.trans (HB.out.mono HB0.out.size)⟩
end Go.Proofs.YtfbjgadgfjnamaaGreatDoor
namespace Go.Proofs.YtfbjgadgfjnamaaGreatDoor
open Go.RowKit
set_option linter.unusedVariables false
def isB (n : Nat) (z : List Int) (s v : Int) : Bool := decide (z.length = n) && (thereA n s && (if s = 0 then decide (v = 0 ∨ v = 1) else if s = 1 then mayB v else decide (0 ≤ v) && decide (v < z.getD (s - 2).toNat 0)))
theorem isB_there {n : Nat} {z : List Int} {s v : Int} (hn : z.length = n) (h0 : 0 ≤ s) (h1 : s < 2 + (n : Int)) : isB n z s v = (if s = 0 then decide (v = 0 ∨ v = 1) else if s = 1 then mayB v else decide (0 ≤ v) && decide (v < z.getD (s - 2).toNat 0)) := by
  unfold isB thereA
  rw [decide_eq_true hn, decide_eq_true h0, decide_eq_true h1]; rfl
theorem add2_same {n : Nat} (h : n ≤ 100) : wrap64 (2 + (n : Int)) = 2 + (n : Int) := by unfold wrap64; omega
set_option maxRecDepth 100000 in
theorem Is_any (x : SigV) (y : WorV) (s v : Int) (r : Bool) (w : World) (hY : WorR w y) (hs : I64 s) (hv : I64 v) (hl : x.sorts.length ≤ 100) (hr : isB x.sorts.length y.sizes s v = r) :
    Calls Tryz.prog 59 #[.agg #[.slice x.sa x.sorts.length x.sc, .slice x.fa x.funs.length x.fc, .slice x.ma x.macs.length x.mc], .agg #[.slice y.sa y.sizes.length y.sc, .slice y.fa y.funs.length y.fc], .int .i64 s, .int .i64 v] w fun e w' => e = .returned (.bool r) ∧ Below w.heap.size w w' := by
  obtain ⟨W0, hW0⟩ : ∃ W0, W0 = (w.alloc (.cells #[.slice x.sa x.sorts.length x.sc, .slice x.fa x.funs.length x.fc, .slice x.ma x.macs.length x.mc] 26)).alloc (.cells #[.slice y.sa y.sizes.length y.sc, .slice y.fa y.funs.length y.fc] 30) := ⟨_, rfl⟩
  have hB0 : Below w.heap.size w W0 := by rw [hW0]; exact ((Below.refl _ w).alloc (Nat.le_refl _) _).alloc (by simp) _
  have HB0 := Lib.hid hB0
  have hX0 : W0.heap[w.heap.size]? = some (.cells #[.slice x.sa x.sorts.length x.sc, .slice x.fa x.funs.length x.fc, .slice x.ma x.macs.length x.mc] 26 (0, 0)) := by rw [hW0]; exact (Below.heap_alloc _ _ _ (by simp)).trans (heap_alloc_new w _)
  have hY0 : W0.heap[w.heap.size + 1]? = some (.cells #[.slice y.sa y.sizes.length y.sc, .slice y.fa y.funs.length y.fc] 30 (0, 0)) := by
    have := heap_alloc_new (w.alloc (.cells #[.slice x.sa x.sorts.length x.sc, .slice x.fa x.funs.length x.fc, .slice x.ma x.macs.length x.mc] 26)) (.cells #[.slice y.sa y.sizes.length y.sc, .slice y.fa y.funs.length y.fc] 30)
    rw [World.size_alloc] at this
    rw [hW0]; exact this
  obtain ⟨c0, c1, c2, z0⟩ := sig_cells hX0
  obtain ⟨y0, y1, z1⟩ := wor_cells hY0
  have HY := Lib.hid hY
  obtain ⟨s1, s2⟩ := hs
  clear hX0 hY0 hY
  by_cases hn : y.sizes.length = x.sorts.length
  rotate_left
  · obtain rfl : r = false := by rw [← hr]; unfold isB; rw [decide_eq_false hn]; rfl
    have e0 : ((y.sizes.length : Int) != (x.sorts.length : Int)) = true := ne_true (by omega)
    clear hr
    go_enter Tryz.func59, Tryz.ntmps59
    go_wp2
    rw [← hW0]
    go_ret
    exact ⟨rfl, HB0.out⟩
  have e0 : ((y.sizes.length : Int) != (x.sorts.length : Int)) = false := ne_false (by omega)
  have HN := Lib.hid hn
  clear hn
  by_cases h0 : s < 0
  · obtain rfl : r = false := by rw [← hr]; unfold isB thereA; rw [decide_eq_false (p := 0 ≤ s) (by omega)]; simp
    clear hr
    go_enter Tryz.func59, Tryz.ntmps59
    go_wp2
    rw [← hW0]
    go_ret
    exact ⟨rfl, HB0.out⟩
  have hw2 := add2_same hl
  by_cases h1 : 2 + (x.sorts.length : Int) ≤ s
  · obtain rfl : r = false := by rw [← hr]; unfold isB thereA; rw [decide_eq_false (p := s < 2 + (x.sorts.length : Int)) (by omega)]; simp
    clear hr
    go_enter Tryz.func59, Tryz.ntmps59
    go_wp2
    rw [← hW0]
    go_ret
    exact ⟨rfl, HB0.out⟩
  rw [isB_there HN.out (by omega) (by omega)] at hr
  by_cases h2 : s = 0
  · rw [if_pos h2] at hr
    have e2 := eq_true_ h2
    by_cases h3 : v = 0
    · obtain rfl : r = true := by rw [← hr, h3]; rfl
      have e3 := eq_true_ h3
      clear hr h3 h2
      go_enter Tryz.func59, Tryz.ntmps59
      go_wp2
      rw [← hW0]
      go_ret
      exact ⟨rfl, HB0.out⟩
    have e3 := eq_false h3
    by_cases h4 : v = 1
    · obtain rfl : r = true := by rw [← hr, h4]; rfl
      have e4 := eq_true_ h4
      clear hr h4 h3 h2
      go_enter Tryz.func59, Tryz.ntmps59
      go_wp2
      rw [← hW0]
      go_ret
      exact ⟨rfl, HB0.out⟩
    obtain rfl : r = false := by rw [← hr]; exact decide_eq_false (by omega)
    have e4 := eq_false h4
    clear hr h4 h3 h2
    go_enter Tryz.func59, Tryz.ntmps59
    go_wp2
    rw [← hW0]
    go_ret
    exact ⟨rfl, HB0.out⟩
  rw [if_neg h2] at hr
  have e2 := eq_false h2
  by_cases h3 : s = 1
  · rw [if_pos h3] at hr
    have e3 := eq_true_ h3
    have hM := RMay_any v W0
    rw [hr] at hM
    have HM := Lib.hid hM
    clear hM
    clear hr h3
    go_enter Tryz.func59, Tryz.ntmps59
    go_wp2_with (go_at_call 88; rw [← hW0]; clear hW0; refine HM.out.mono ?_; rintro e w1 ⟨rfl, rfl⟩)
    go_ret
    exact ⟨rfl, HB0.out⟩
  rw [if_neg h3] at hr
  have e3 := eq_false h3
  by_cases h4 : v < 0
  · obtain rfl : r = false := by rw [← hr, decide_eq_false (by omega)]; rfl
    clear hr
    go_enter Tryz.func59, Tryz.ntmps59
    go_wp2
    rw [← hW0]
    go_ret
    exact ⟨rfl, HB0.out⟩
  rw [decide_eq_true (by omega), Bool.true_and] at hr
  obtain ⟨k, rfl⟩ : ∃ k : Nat, s = 2 + (k : Int) := ⟨(s - 2).toNat, by omega⟩
  have ek : (2 + (k : Int) - 2).toNat = k := by omega
  rw [ek] at hr
  have hk : k < y.sizes.length := by have := HN.out; omega
  obtain ⟨m, hm⟩ : ∃ m, y.sizes[k]? = some m := ⟨_, List.getElem?_eq_getElem hk⟩
  rw [List.getD_eq_getElem?_getD, hm, Option.getD_some] at hr
  obtain ⟨g, o, ha, hg, hcell⟩ := HY.out.sat (by rw [len_flat numL_len]; omega)
  have q0 := hcell _ _ ((get_flat numL_len y.sizes k 0 m hm (by omega)).trans rfl)
  simp only [Nat.add_zero, Nat.mul_one] at q0
  rw [ha] at y0 hW0
  have hwk : wrap64 (2 + (k : Int) - 2) = (k : Int) := by unfold wrap64; omega
  have hks : (k : Int) < (y.sizes.length : Int) := by omega
  have hm1 := HY.out.sok m (List.mem_of_getElem? hm)
  clear hm hcell ek
  cases r with
  | true =>
    have d5 : v < m := by simpa using hr
    clear hr
    go_enter Tryz.func59, Tryz.ntmps59
    go_wp2
    rw [← hW0]
    go_ret
    exact ⟨rfl, HB0.out⟩
  | false =>
    have d5 : ¬ v < m := by simpa using hr
    clear hr
    go_enter Tryz.func59, Tryz.ntmps59
    go_wp2
    rw [← hW0]
    go_ret
    exact ⟨rfl, HB0.out⟩
end Go.Proofs.YtfbjgadgfjnamaaGreatDoor
