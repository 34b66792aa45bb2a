/- The document's Many, alike. -/
import Derived.Test.YtpppfghdjbmbgaaGreatDoorZHdK
import Derived.Test.YtpppfghdjbmbgaaGreatDoorZTmC
namespace Go.Proofs.YtpppfghdjbmbgaaGreatDoor
open Go.RowKit
set_option linter.unusedVariables false
theorem seqQ_at {α : Type} {one : List α → α → Bool} {l : List α} {k : Nat} {p : α} (h : seqQ one [] l = true) (hp : l[k]? = some p) : one (l.take k) p = true := by
  cases h2 : one (l.take k) p with
  | true => rfl
  | false =>
    have h3 : seqQ one [] l = false := seqQ_no (k := k + 1) (by rw [seqQ_take hp, h2, Bool.and_false])
    rw [h] at h3; cases h3
def noFun : FunA := ⟨⟨#[]⟩, 0, 0, 0, 0, 0⟩
def fnA (x : SigV) (f : Int) : FunA := (x.funs[f.toNat]?).getD noFun
def askE (x : SigV) (y : WorV) (f : Int) (l : List Int) : Int :=
  if worQ x y = true ∧ 0 ≤ f ∧ f < (x.funs.length : Int) ∧ (l.length : Int) = (fnA x f).len then (if fitB x.sorts.length y.sizes (fnA x f) (l.getD 0 0) (l.getD 1 0) (l.getD 2 0) = true then 0 else 33) else 2
theorem askE_no {x : SigV} {y : WorV} {f : Int} {l : List Int} (h : ¬ (worQ x y = true ∧ 0 ≤ f ∧ f < (x.funs.length : Int) ∧ (l.length : Int) = (fnA x f).len)) : askE x y f l = 2 := if_neg h
/-- The four boxes of asked: signature, interpretation, answer, row. -/
structure AskI (w V : World) (x : SigV) (y : WorV) (a0 a1 a2 : Int) : Prop where
  below : Below w.heap.size w V
  bx : V.heap[w.heap.size]? = some (.cells #[.slice x.sa x.sorts.length x.sc, .slice x.fa x.funs.length x.fc, .slice x.ma x.macs.length x.mc] 26 (0, 0))
  bw : V.heap[w.heap.size + 1]? = some (.cells #[.slice y.sa y.sizes.length y.sc, .slice y.fa y.funs.length y.fc] 30 (0, 0))
  br : V.heap[w.heap.size + 1 + 1]? = some (.cells #[.int .i64 0, .int .i64 0, .int .i64 0] 52 (0, 0))
  ba : V.heap[w.heap.size + 1 + 1 + 1]? = some (.cells #[.int .i64 a0, .int .i64 a1, .int .i64 a2] 52 (0, 0))
theorem AskI.lt {w V : World} {x : SigV} {y : WorV} {a0 a1 a2 : Int} (h : AskI w V x y a0 a1 a2) : w.heap.size + 1 + 1 + 1 < V.heap.size := (Array.getElem?_eq_some_iff.1 h.ba).1
theorem AskI.on {w V V' : World} {x : SigV} {y : WorV} {a0 a1 a2 : Int} (h : AskI w V x y a0 a1 a2) (hb : Below V.heap.size V V') : AskI w V' x y a0 a1 a2 := by
  have hl := h.lt
  exact ⟨h.below.trans (hb.mono h.below.size), (hb.block _ (by omega)).trans h.bx, (hb.block _ (by omega)).trans h.bw, (hb.block _ (by omega)).trans h.br, (hb.block _ hl).trans h.ba⟩
theorem AskI.cells {w V : World} {x : SigV} {y : WorV} {a0 a1 a2 : Int} (h : AskI w V x y a0 a1 a2) : V.cell? ⟨w.heap.size, 0, none⟩ = some (.slice x.sa x.sorts.length x.sc) ∧ V.cell? ⟨w.heap.size, 1, none⟩ = some (.slice x.fa x.funs.length x.fc) ∧ V.cell? ⟨w.heap.size, 2, none⟩ = some (.slice x.ma x.macs.length x.mc) ∧ V.cell? ⟨w.heap.size + 1, 0, none⟩ = some (.slice y.sa y.sizes.length y.sc) ∧ V.cell? ⟨w.heap.size + 1, 1, none⟩ = some (.slice y.fa y.funs.length y.fc) ∧ V.cell? ⟨w.heap.size + 1 + 1, 0, none⟩ = some (.int .i64 0) ∧ V.cell? ⟨w.heap.size + 1 + 1, 1, none⟩ = some (.int .i64 0) ∧ V.cell? ⟨w.heap.size + 1 + 1, 2, none⟩ = some (.int .i64 0) ∧ V.cell? ⟨w.heap.size + 1 + 1 + 1, 0, none⟩ = some (.int .i64 a0) ∧ V.cell? ⟨w.heap.size + 1 + 1 + 1, 1, none⟩ = some (.int .i64 a1) ∧ V.cell? ⟨w.heap.size + 1 + 1 + 1, 2, none⟩ = some (.int .i64 a2) ∧ (∀ i, V.frozen? ⟨w.heap.size + 1 + 1, i, none⟩ = false) ∧ (∀ i, V.frozen? ⟨w.heap.size + 1 + 1 + 1, i, none⟩ = false) := by
  obtain ⟨c0, c1, c2, _⟩ := sig_cells h.bx
  obtain ⟨w0, w1, _⟩ := wor_cells h.bw
  obtain ⟨p0, p1, p2, _⟩ := arr_cells h.br
  obtain ⟨q0, q1, q2, _⟩ := arr_cells h.ba
  have h1 := h.br
  have h2 := h.ba
  exact ⟨c0, c1, c2, w0, w1, p0, p1, p2, q0, q1, q2, fun i => by simp [World.frozen?, h1], fun i => by simp [World.frozen?, h2]⟩
theorem AskI.set0 {w V : World} {x : SigV} {y : WorV} {a0 a1 a2 : Int} (h : AskI w V x y a0 a1 a2) (v : Int) : AskI w (V.setCell ⟨w.heap.size + 1 + 1 + 1, 0, none⟩ (.int .i64 v)) x y v a1 a2 := by
  obtain ⟨h1, h2, h3, h4, h5⟩ := h
  exact ⟨h1.setCell (p := ⟨w.heap.size + 1 + 1 + 1, 0, none⟩) (by simp; omega) _, by first | (simp [World.setCell, Array.getElem?_modify, h2]; done) | (simp [World.setCell, Array.getElem?_modify, h2]; omega), by first | (simp [World.setCell, Array.getElem?_modify, h3]; done) | (simp [World.setCell, Array.getElem?_modify, h3]; omega), by first | (simp [World.setCell, Array.getElem?_modify, h4]; done) | (simp [World.setCell, Array.getElem?_modify, h4]; omega), by first | (simp [World.setCell, Array.getElem?_modify, h5]; done) | (simp [World.setCell, Array.getElem?_modify, h5]; omega)⟩
theorem AskI.set1 {w V : World} {x : SigV} {y : WorV} {a0 a1 a2 : Int} (h : AskI w V x y a0 a1 a2) (v : Int) : AskI w (V.setCell ⟨w.heap.size + 1 + 1 + 1, 1, none⟩ (.int .i64 v)) x y a0 v a2 := by
  obtain ⟨h1, h2, h3, h4, h5⟩ := h
  exact ⟨h1.setCell (p := ⟨w.heap.size + 1 + 1 + 1, 1, none⟩) (by simp; omega) _, by first | (simp [World.setCell, Array.getElem?_modify, h2]; done) | (simp [World.setCell, Array.getElem?_modify, h2]; omega), by first | (simp [World.setCell, Array.getElem?_modify, h3]; done) | (simp [World.setCell, Array.getElem?_modify, h3]; omega), by first | (simp [World.setCell, Array.getElem?_modify, h4]; done) | (simp [World.setCell, Array.getElem?_modify, h4]; omega), by first | (simp [World.setCell, Array.getElem?_modify, h5]; done) | (simp [World.setCell, Array.getElem?_modify, h5]; omega)⟩
theorem AskI.drew {w V : World} {x : SigV} {y : WorV} {a0 a1 a2 : Int} (h : AskI w V x y a0 a1 a2) : AskI w V.drew x y a0 a1 a2 := h.on (Below.refl _ _).drew
theorem AskI.new (w : World) (x : SigV) (y : WorV) : AskI w ((((w.alloc (.cells #[.slice x.sa x.sorts.length x.sc, .slice x.fa x.funs.length x.fc, .slice x.ma x.macs.length x.mc] 26)).alloc (.cells #[.slice y.sa y.sizes.length y.sc, .slice y.fa y.funs.length y.fc] 30)).alloc (.cells #[.int .i64 0, .int .i64 0, .int .i64 0] 52)).alloc (.cells #[.int .i64 0, .int .i64 0, .int .i64 0] 52)) x y 0 0 0 := by
  refine ⟨((((Below.refl _ w).alloc (Nat.le_refl _) _).alloc (by simp) _).alloc (by simp; omega) _).alloc (by simp; omega) _, ?_, ?_, ?_, ?_⟩
  · exact (((Below.heap_alloc _ _ _ (by simp; omega)).trans (Below.heap_alloc _ _ _ (by simp; omega))).trans (Below.heap_alloc _ _ _ (by simp))).trans (heap_alloc_new w _)
  · have := heap_alloc_new (w.alloc (.cells #[.slice x.sa x.sorts.length x.sc, .slice x.fa x.funs.length x.fc, .slice x.ma x.macs.length x.mc] 26)) (.cells #[.slice y.sa y.sizes.length y.sc, .slice y.fa y.funs.length y.fc] 30)
    rw [World.size_alloc] at this
    exact ((Below.heap_alloc _ _ _ (by simp)).trans (Below.heap_alloc _ _ _ (by simp))).trans this
  · have := heap_alloc_new ((w.alloc (.cells #[.slice x.sa x.sorts.length x.sc, .slice x.fa x.funs.length x.fc, .slice x.ma x.macs.length x.mc] 26)).alloc (.cells #[.slice y.sa y.sizes.length y.sc, .slice y.fa y.funs.length y.fc] 30)) (.cells #[.int .i64 0, .int .i64 0, .int .i64 0] 52)
    rw [World.size_alloc, World.size_alloc] at this
    exact (Below.heap_alloc _ _ _ (by simp)).trans this
  · have := heap_alloc_new (((w.alloc (.cells #[.slice x.sa x.sorts.length x.sc, .slice x.fa x.funs.length x.fc, .slice x.ma x.macs.length x.mc] 26)).alloc (.cells #[.slice y.sa y.sizes.length y.sc, .slice y.fa y.funs.length y.fc] 30)).alloc (.cells #[.int .i64 0, .int .i64 0, .int .i64 0] 52)) (.cells #[.int .i64 0, .int .i64 0, .int .i64 0] 52)
    rw [World.size_alloc, World.size_alloc, World.size_alloc] at this
    exact this
end Go.Proofs.YtpppfghdjbmbgaaGreatDoor
namespace Go.Proofs.YtpppfghdjbmbgaaGreatDoor
open Go.RowKit
set_option linter.unusedVariables false
def noFv : FvV := ⟨[], none, 0, 0⟩
def fvA (y : WorV) (f : Int) : FvV := (y.funs[f.toNat]?).getD noFv
def rowV (rows : List RowA) (b0 b1 b2 els : Int) : Int := ((rows.find? (fun s => sameA s ⟨b0, b1, b2, 0⟩)).map (·.v)).getD els
/-- What a function is of those arguments. -/
def applyV (x : SigV) (y : WorV) (f : Int) (l : List Int) : Int := if askE x y f l = 0 then rowV (fvA y f).rows (l.getD 0 0) (l.getD 1 0) (l.getD 2 0) (fvA y f).els else 0
theorem askE_zero {x : SigV} {y : WorV} {f : Int} {l : List Int} (h : askE x y f l = 0) : worQ x y = true ∧ 0 ≤ f ∧ f < (x.funs.length : Int) ∧ (l.length : Int) = (fnA x f).len := by
  by_cases hc : worQ x y = true ∧ 0 ≤ f ∧ f < (x.funs.length : Int) ∧ (l.length : Int) = (fnA x f).len
  · exact hc
  · rw [askE_no hc] at h; cases h
theorem worQ_len {x : SigV} {y : WorV} (h : worQ x y = true) : y.funs.length = x.funs.length ∧ x.funs.length ≤ 12 := by
  unfold worQ at h
  simp only [Bool.and_eq_true, decide_eq_true_eq] at h
  exact ⟨h.2.2.1, (checkQ_len h.1).2⟩
end Go.Proofs.YtpppfghdjbmbgaaGreatDoor
namespace Go.Proofs.YtpppfghdjbmbgaaGreatDoor
open Go.RowKit
set_option linter.unusedVariables false
def manyN (op : Int) : Int := if Tm.arityA op < 0 then -1 else Tm.arityA op
theorem Many_any (op : Int) (k : Int) (w : World) (hk : manyN op = k) : Calls Tryz.prog 49 #[.int .i8 op] w fun e w' => e = .returned (.int .i64 k) ∧ w = w' := by
  by_cases h : op = 0 ∨ op = 1 ∨ op = 2 ∨ op = 3 ∨ op = 4 ∨ op = 5 ∨ op = 6 ∨ op = 7 ∨ op = 8 ∨ op = 9 ∨ op = 10 ∨ op = 11 ∨ op = 12
  · rcases h with rfl | rfl | rfl | rfl | rfl | rfl | rfl | rfl | rfl | rfl | rfl | rfl | rfl <;>
    · obtain rfl : _ = k := (show _ = k from hk)
      go_enter Tryz.func49, Tryz.ntmps49
      go_wp2
      go_ret
      exact ⟨rfl, rfl⟩
  · have hk2 : k = -1 := by
      rw [← hk]; unfold manyN Tm.arityA
      by_cases h13 : op = 13
      · subst h13; rfl
      · repeat (rw [if_neg (by omega : ¬ (op = 0 ∨ op = 10)), if_neg (by omega : ¬ (op = 1 ∨ op = 11)), if_neg (by omega : ¬ (op = 2 ∨ op = 3 ∨ op = 4 ∨ op = 5 ∨ op = 6 ∨ op = 8 ∨ op = 9 ∨ op = 12)), if_neg (by omega : ¬ op = 7), if_neg h13])
        rfl
    subst hk2
    have e0 := eq_false (x := op) (y := 0) (by omega)
    have e1 := eq_false (x := op) (y := 1) (by omega)
    have e2 := eq_false (x := op) (y := 2) (by omega)
    have e3 := eq_false (x := op) (y := 3) (by omega)
    have e4 := eq_false (x := op) (y := 4) (by omega)
    have e5 := eq_false (x := op) (y := 5) (by omega)
    have e6 := eq_false (x := op) (y := 6) (by omega)
    have e7 := eq_false (x := op) (y := 7) (by omega)
    have e8 := eq_false (x := op) (y := 8) (by omega)
    have e9 := eq_false (x := op) (y := 9) (by omega)
    have e10 := eq_false (x := op) (y := 10) (by omega)
    have e11 := eq_false (x := op) (y := 11) (by omega)
    have e12 := eq_false (x := op) (y := 12) (by omega)
    clear hk h
    go_enter Tryz.func49, Tryz.ntmps49
    go_wp2
    go_ret
    exact ⟨rfl, rfl⟩
/-- So many, each one this. -/
def alikeB (l : List Int) (n s : Int) : Bool := l.all (fun y => decide (y = s)) && decide ((l.length : Int) = n)
theorem alike_any (l : List Int) (la : Option Addr) (lc : Nat) (n s : Int) (r : Bool) (w : World) (hl : At w w.heap.size (l.flatMap numL) la) (hln : l.length ≤ 3) (hr : alikeB l n s = r) :
    Calls Tryz.prog 50 #[.slice la l.length lc, .int .i64 n, .int .i64 s] w fun e w' => e = .returned (.bool r) ∧ w = w' := by
  have HL := Lib.hid hl
  have HR : Hid (alikeB l n s = r) := hr
  clear hl hr
  go_enter Tryz.func50, Tryz.ntmps50
  go_wp2
  go_loop [7] (fun i => ∃ j : Nat, j ≤ l.length ∧ i = .int .i64 j ∧ Hid (∀ (i : Nat) (y : Int), i < j → l[i]? = some y → decide (y = s) = true)) (fun i => l.length - (intOf i).toNat)
  case atStart => exact ⟨0, Nat.zero_le _, rfl, fun j _ hj => absurd hj (Nat.not_lt_zero _)⟩
  case round =>
    obtain ⟨j, hj, rfl, HN⟩ := hrel
    by_cases hlt : j < l.length
    rotate_left
    · obtain rfl : j = l.length := by omega
      have ha : l.all (fun y => decide (y = s)) = true := all_yes (fun i y hy => HN.out i y (List.getElem?_eq_some_iff.1 hy).1 hy)
      by_cases hn : (l.length : Int) = n
      · obtain rfl : r = true := by rw [← HR.out]; unfold alikeB; rw [ha, decide_eq_true hn]; rfl
        have e1 := eq_true_ hn
        clear hn ha
        go_wp2
        go_ret
        exact ⟨rfl, rfl⟩
      · obtain rfl : r = false := by rw [← HR.out]; unfold alikeB; rw [decide_eq_false hn]; simp
        have e1 := eq_false hn
        clear hn ha
        go_wp2
        go_ret
        exact ⟨rfl, rfl⟩
    obtain ⟨y, hy⟩ : ∃ y, l[j]? = some y := ⟨_, List.getElem?_eq_getElem hlt⟩
    obtain ⟨g, o, ha, hg, hcell⟩ := HL.out (by rw [len_flat numL_len]; omega)
    have n0 := hcell _ _ ((get_flat numL_len l j 0 y hy (by omega)).trans rfl)
    simp only [Nat.add_zero, Nat.mul_one] at n0
    subst ha
    have hji : (j : Int) < (l.length : Int) := by omega
    by_cases hys : y = s
    · have HN2 : Hid (∀ (i : Nat) (z : Int), i < j + 1 → l[i]? = some z → decide (z = s) = true) := fun i z hi hz => by
        by_cases hij : i < j
        · exact HN.out i z hij hz
        · obtain rfl : i = j := by omega
          obtain rfl : y = z := by rw [hy] at hz; exact Option.some.inj hz
          exact decide_eq_true hys
      have e1 := ne_false hys
      clear hys hcell hy
      go_wp2
      go_round
      case rel => exact ⟨j + 1, by omega, by go_num, HN2⟩
      case measure => simp [intOf]; omega
    · obtain rfl : r = false := by rw [← HR.out]; unfold alikeB; rw [all_no hy (decide_eq_false hys)]; rfl
      have e1 := ne_true hys
      clear hys hcell hy
      go_wp2
      go_ret
      exact ⟨rfl, rfl⟩
end Go.Proofs.YtpppfghdjbmbgaaGreatDoor
