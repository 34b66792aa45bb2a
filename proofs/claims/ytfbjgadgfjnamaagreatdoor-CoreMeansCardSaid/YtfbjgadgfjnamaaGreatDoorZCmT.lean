/- CoreMeans' walk and the opening of its arguments, together. -/
import Derived.Test.YtfbjgadgfjnamaaGreatDoorZHdI
import Derived.Test.YtfbjgadgfjnamaaGreatDoorZTmOpen
import Derived.Test.YtfbjgadgfjnamaaGreatDoorZSgOq
import Derived.Test.YtfbjgadgfjnamaaGreatDoorZCmW
namespace Go.Proofs.YtfbjgadgfjnamaaGreatDoor
open Go.RowKit
set_option linter.unusedVariables false
theorem cRow : Tryz.prog.cellsOf 124 = 4 := by kernel_rfl
theorem cFv : Tryz.prog.cellsOf 72 = 2 := by kernel_rfl
theorem cWor : Tryz.prog.cellsOf 30 = 2 := by kernel_rfl
theorem cRows : Tryz.prog.cellsOf 70 = 1 := by kernel_rfl
theorem cFvs : Tryz.prog.cellsOf 28 = 1 := by kernel_rfl
theorem cInts : Tryz.prog.cellsOf 27 = 1 := by kernel_rfl
section
variable {H : Type} {enc : TypeId × Value → H} {W : World} {sp : Nat → Bool} {held : Bool}
theorem open_rowA {fuel : Nat} {cs : List Value} {x : DataW H × List MemPlace} (h : DataW.trod enc Tryz.prog W 0 sp held fuel 124 cs = some x) : ∃ r : RowA, cs = rowL r ∧ RowOk r := by
  obtain ⟨xs, n, rfl, rfl, hlen, hxs, hf⟩ := DataW.trod_struct Tryz.underlying124 h
  rw [cRow] at hlen
  clear h
  obtain ⟨c0, c1, c2, c3, rfl⟩ := list4 hlen
  obtain ⟨y0, y1, rfl⟩ := list2 (show xs.length = 2 from hxs)
  have h2 := hf 0 ({ name := "Args", type := 45, offset := 0, embedded := false, tag := "", pkgPath := "", byteOffset := 0 }) rfl
  have h3 := hf 1 ({ name := "Val", type := 3, offset := 3, embedded := false, tag := "", pkgPath := "", byteOffset := 24 }) rfl
  simp only [cInt, cArr, List.drop_zero, List.take_succ_cons, List.take_zero, List.drop_succ_cons, List.getElem?_cons_zero, List.getElem?_cons_succ] at h2 h3
  obtain ⟨n5, rfl, hn5⟩ := open_int1 h3
  obtain ⟨zs, m, rfl, hx, hl2, hz, hg⟩ := DataW.trod_array Tryz.underlying45 h2
  obtain ⟨z0, z1, z2, rfl⟩ := list3 hz
  have g0 := hg 0 (by decide)
  have g1 := hg 1 (by decide)
  have g2 := hg 2 (by decide)
  simp only [cInt, Nat.mul_one, List.drop_zero, List.take_succ_cons, List.take_zero, List.drop_succ_cons, List.getElem?_cons_zero, List.getElem?_cons_succ] at g0 g1 g2
  obtain ⟨n2, rfl, hn2⟩ := open_int1 g0
  obtain ⟨n3, rfl, hn3⟩ := open_int1 g1
  obtain ⟨n4, rfl, hn4⟩ := open_int1 g2
  exact ⟨⟨n2, n3, n4, n5⟩, rfl, hn2, hn3, hn4, hn5⟩
theorem open_fv {fuel : Nat} {cs : List Value} {x : DataW H × List MemPlace} (h : DataW.trod enc Tryz.prog W 0 sp held fuel 72 cs = some x) : ∃ f : FvV, cs = fvL f ∧ FvOk W W.heap.size f := by
  obtain ⟨xs, n, rfl, rfl, hlen, hxs, hf⟩ := DataW.trod_struct Tryz.underlying72 h
  rw [cFv] at hlen
  clear h
  obtain ⟨c0, c1, rfl⟩ := list2 hlen
  obtain ⟨y0, y1, rfl⟩ := list2 (show xs.length = 2 from hxs)
  have h0 := hf 0 ({ name := "Rows", type := 70, offset := 0, embedded := false, tag := "", pkgPath := "", byteOffset := 0 }) rfl
  have h1 := hf 1 ({ name := "Else", type := 3, offset := 1, embedded := false, tag := "", pkgPath := "", byteOffset := 24 }) rfl
  simp only [cInt, cRows, List.drop_zero, List.take_succ_cons, List.take_zero, List.drop_succ_cons, List.getElem?_cons_zero, List.getElem?_cons_succ] at h0 h1
  obtain ⟨l, a, cap, rfl, q1, q2, q3, q4⟩ := Tm.open_row (f := rowL) (n := 4) (Q := RowOk) (by decide) rowL_len Tryz.underlying70 cRow (fun fuel cs x h => open_rowA h) h0
  obtain ⟨n1, rfl, hn1⟩ := open_int1 h1
  exact ⟨⟨l, a, cap, n1⟩, rfl, q1, q2, q3, q4, hn1⟩
theorem open_world {fuel : Nat} {cs : List Value} {x : DataW H × List MemPlace} (h : DataW.trod enc Tryz.prog W 0 sp held fuel 30 cs = some x) : ∃ z : WorV, cs = [.slice z.sa z.sizes.length z.sc, .slice z.fa z.funs.length z.fc] ∧ WorR W z := by
  obtain ⟨xs, n, rfl, rfl, hlen, hxs, hf⟩ := DataW.trod_struct Tryz.underlying30 h
  rw [cWor] at hlen
  clear h
  obtain ⟨c0, c1, rfl⟩ := list2 hlen
  obtain ⟨y0, y1, rfl⟩ := list2 (show xs.length = 2 from hxs)
  have h0 := hf 0 ({ name := "Sizes", type := 27, offset := 0, embedded := false, tag := "", pkgPath := "", byteOffset := 0 }) rfl
  have h1 := hf 1 ({ name := "Funs", type := 28, offset := 1, embedded := false, tag := "", pkgPath := "", byteOffset := 24 }) rfl
  simp only [cInts, cFvs, List.drop_zero, List.take_succ_cons, List.take_zero, List.drop_succ_cons, List.getElem?_cons_zero, List.getElem?_cons_succ] at h0 h1
  obtain ⟨l, a, cap, rfl, q1, q2, q3, q4⟩ := Tm.open_row (f := numL) (n := 1) (Q := I64) (by decide) numL_len Tryz.underlying27 cInt (fun fuel cs x h => by
    obtain ⟨k, e, _, hw⟩ := DataW.trod_int Tryz.underlying3 h
    exact ⟨k, e, i64_wf hw⟩) h0
  obtain ⟨m, b, bc, rfl, r1, r2, r3, r4⟩ := Tm.open_row (f := fvL) (n := 2) (Q := FvOk W W.heap.size) (by decide) fvL_len Tryz.underlying28 cFv (fun fuel cs x h => open_fv h) h1
  exact ⟨⟨l, a, cap, m, b, bc⟩, rfl, q1, q2, q3, q4, r1, r2, r3, r4⟩
end
end Go.Proofs.YtfbjgadgfjnamaaGreatDoor
