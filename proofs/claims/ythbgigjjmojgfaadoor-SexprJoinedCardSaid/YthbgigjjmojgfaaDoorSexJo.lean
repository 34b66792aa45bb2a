/- The law SexprJoined: its walk, in the card's form. -/
import Derived.Test.YthbgigjjmojgfaaDoorSexJn
namespace Go.Proofs.YthbgigjjmojgfaaDoor
open Go.RowKit
set_option linter.unusedVariables false
set_option maxHeartbeats 4000000 in
theorem joined_bad (a b : ByteArray) (w : World) (ha : a.size ≤ 1000) (hb : b.size ≤ 1000) (hG : Globs w) (hK : Kinds w) (hbad : (allS a.data.toList).err ≠ 0 ∨ ((allS a.data.toList).err = 0 ∧ (allS b.data.toList).err ≠ 0)) :
    Calls Tryd.prog 7 #[.string a, .string b] w fun e w' => e = .returned (.bool true) ∧ Below w.heap.size w w' := by
  have ec : (a ++ (ByteArray.mk #[10]) ++ b).data.toList = a.data.toList ++ 10 :: b.data.toList := by simp
  obtain ⟨X, hX⟩ : ∃ X, allS a.data.toList = X := ⟨_, rfl⟩
  obtain ⟨Y, hY⟩ : ∃ Y, allS b.data.toList = Y := ⟨_, rfl⟩
  obtain ⟨Z, hZ⟩ : ∃ Z, allS (a ++ (ByteArray.mk #[10]) ++ b).data.toList = Z := ⟨_, rfl⟩
  have hglue : X.err = 0 → Z.err = Y.err := fun h0 => by
    have := allS_glue a.data.toList b.data.toList (by rw [hX]; exact h0)
    rw [← hZ, ec, this, hY]
  rw [hX, hY] at hbad
  have hz1 : (a ++ (ByteArray.mk #[10]) ++ b).size ≤ 2001 := by rw [ByteArray.size_append, ByteArray.size_append]; show a.size + 1 + b.size ≤ 2001; omega
  have HR1 := Lib.hid (fun W h1 h2 => all_to a X (by omega) hX W h1 h2)
  have HR2 := Lib.hid (fun W h1 h2 => all_to b Y (by omega) hY W h1 h2)
  have HR3 := Lib.hid (fun W h1 h2 => all_to _ Z (by omega) hZ W h1 h2)
  have HG := Lib.hid hG
  have HK := Lib.hid hK
  clear hX hY hZ hG hK hz1 ec
  rcases hbad with herr | ⟨h0, herr⟩
  · have e1 := ne_true (x := (X.err : Int)) (y := 0) (by omega)
    clear herr hglue
    go_enter Tryd.func7, Tryd.ntmps7
    go_wp2_with fail
    refine (HR1.out _ HG.out HK.out).mono ?_
    rintro e w1 ⟨a1, cap1, rfl, hm1, hb1⟩
    have HB1 := Lib.hid hb1
    clear hm1 hb1
    go_wp2_with fail
    refine (HR2.out _ (HG.out.below HB1.out) (HK.out.below HB1.out HK.out.lt)).mono ?_
    rintro e w2 ⟨a2, cap2, rfl, hm2, hb2⟩
    have HB2 : Hid (Below w.heap.size w w2) := HB1.out.trans (hb2.mono HB1.out.size)
    clear hm2 hb2
    go_wp2_with fail
    refine (HR3.out _ (HG.out.below HB2.out) (HK.out.below HB2.out HK.out.lt)).mono ?_
    rintro e w3 ⟨a3, cap3, rfl, hm3, hb3⟩
    have HB3 : Hid (Below w.heap.size w w3) := HB2.out.trans (hb3.mono HB2.out.size)
    clear hm3 hb3
    go_wp2_with fail
    refine (wakes_any _ (HG.out.below HB3.out) (HK.out.below HB3.out HK.out.lt)).mono ?_
    rintro e w4 ⟨rfl, hb4⟩
    go_wp2
    go_ret
    exact ⟨rfl, HB3.out.trans (hb4.mono HB3.out.size)⟩
  · have e1 := ne_false (x := (X.err : Int)) (y := 0) (by omega)
    have e2 := ne_true (x := (Y.err : Int)) (y := 0) (by omega)
    have e3 := eq_true_ (x := (Z.err : Int)) (y := (Y.err : Int)) (by rw [hglue h0])
    clear herr hglue h0
    go_enter Tryd.func7, Tryd.ntmps7
    go_wp2_with fail
    refine (HR1.out _ HG.out HK.out).mono ?_
    rintro e w1 ⟨a1, cap1, rfl, hm1, hb1⟩
    have HB1 := Lib.hid hb1
    clear hm1 hb1
    go_wp2_with fail
    refine (HR2.out _ (HG.out.below HB1.out) (HK.out.below HB1.out HK.out.lt)).mono ?_
    rintro e w2 ⟨a2, cap2, rfl, hm2, hb2⟩
    have HB2 : Hid (Below w.heap.size w w2) := HB1.out.trans (hb2.mono HB1.out.size)
    clear hm2 hb2
    go_wp2_with fail
    refine (HR3.out _ (HG.out.below HB2.out) (HK.out.below HB2.out HK.out.lt)).mono ?_
    rintro e w3 ⟨a3, cap3, rfl, hm3, hb3⟩
    have HB3 : Hid (Below w.heap.size w w3) := HB2.out.trans (hb3.mono HB2.out.size)
    clear hm3 hb3
    go_wp2_with fail
    refine (wakes_any _ (HG.out.below HB3.out) (HK.out.below HB3.out HK.out.lt)).mono ?_
    rintro e w4 ⟨rfl, hb4⟩
    go_wp2
    go_ret
    exact ⟨rfl, HB3.out.trans (hb4.mono HB3.out.size)⟩
set_option maxHeartbeats 4000000 in
theorem joined_ok (a b : ByteArray) (w : World) (ha : a.size ≤ 1000) (hb : b.size ≤ 1000) (hG : Globs w) (hK : Kinds w) (hx : (allS a.data.toList).err = 0) (hy : (allS b.data.toList).err = 0) :
    Calls Tryd.prog 7 #[.string a, .string b] w fun e w' => e = .returned (.bool true) ∧ Below w.heap.size w w' := by
  have ec : (a ++ (ByteArray.mk #[10]) ++ b).data.toList = a.data.toList ++ 10 :: b.data.toList := by simp
  have hla : a.data.toList.length = a.size := by simp
  have hlb : b.data.toList.length = b.size := by simp
  have hz1 : (a ++ (ByteArray.mk #[10]) ++ b).size ≤ 2001 := by rw [ByteArray.size_append, ByteArray.size_append]; show a.size + 1 + b.size ≤ 2001; omega
  obtain ⟨xs, hxs⟩ : ∃ xs, (allS a.data.toList).ts = xs := ⟨_, rfl⟩
  obtain ⟨ys, hys⟩ : ∃ ys, (allS b.data.toList).ts = ys := ⟨_, rfl⟩
  obtain ⟨px, hpx⟩ : ∃ p, (allS a.data.toList).stop = p := ⟨_, rfl⟩
  obtain ⟨py, hpy⟩ : ∃ p, (allS b.data.toList).stop = p := ⟨_, rfl⟩
  have hX : allS a.data.toList = ⟨xs, px, 0⟩ := by rw [← hxs, ← hpx, ← hx]
  have hY : allS b.data.toList = ⟨ys, py, 0⟩ := by rw [← hys, ← hpy, ← hy]
  have hZ : allS (a ++ (ByteArray.mk #[10]) ++ b).data.toList = ⟨xs ++ ys, a.size + 1 + b.size, 0⟩ := by
    rw [ec, allS_glue _ _ hx, hxs, hys, allS_whole _ hy, hy, hla, hlb]
  have hht : ∀ t ∈ xs ++ ys, hT t ≤ 60 := fun t ht => by
    rcases List.mem_append.1 ht with ht | ht
    · exact allS_ht (by rw [hxs]; exact ht)
    · exact allS_ht (by rw [hys]; exact ht)
  have hlx : xs.length ≤ 1000 := by have := allS_len a.data.toList; rw [hxs] at this; omega
  have hly : ys.length ≤ 1000 := by have := allS_len b.data.toList; rw [hys] at this; omega
  have HHT := Lib.hid hht
  have HR1 : Hid (∀ W : World, Globs W → Kinds W → Calls Tryd.prog 12 #[.string a] W fun e w' => ∃ q cap, e = .returned (.tuple #[.slice q xs.length cap, .int .i64 px, .int .i64 0]) ∧ AllM w' W.heap.size (.slice q xs.length cap) xs ∧ Below W.heap.size W w') := fun W h1 h2 => all_to a _ (by omega) hX W h1 h2
  have HR2 : Hid (∀ W : World, Globs W → Kinds W → Calls Tryd.prog 12 #[.string b] W fun e w' => ∃ q cap, e = .returned (.tuple #[.slice q ys.length cap, .int .i64 py, .int .i64 0]) ∧ AllM w' W.heap.size (.slice q ys.length cap) ys ∧ Below W.heap.size W w') := fun W h1 h2 => all_to b _ (by omega) hY W h1 h2
  have HR3 : Hid (∀ W : World, Globs W → Kinds W → Calls Tryd.prog 12 #[.string (a ++ (ByteArray.mk #[10]) ++ b)] W fun e w' => ∃ q cap, e = .returned (.tuple #[.slice q (xs.length + ys.length : Nat) cap, .int .i64 ((a.size : Int) + 1 + b.size), .int .i64 0]) ∧ AllM w' W.heap.size (.slice q (xs.length + ys.length) cap) (xs ++ ys) ∧ Below W.heap.size W w') := fun W h1 h2 => by
    refine (all_to _ _ (by omega) hZ W h1 h2).mono ?_
    rintro e w' ⟨q, cap, rfl, h1, h2⟩
    exact ⟨q, cap, by simp, by simpa using h1, h2⟩
  have HG := Lib.hid hG
  have HK := Lib.hid hK
  clear hx hy hX hY hZ hG hK hz1 ec hla hlb hxs hys hpx hpy hht
  go_enter Tryd.func7, Tryd.ntmps7
  go_wp2_with fail
  refine (HR1.out _ HG.out HK.out).mono ?_
  rintro e w1 ⟨a1, cap1, rfl, hm1, hb1⟩
  have HB1 := Lib.hid hb1
  have HM1 := Lib.hid hm1
  clear hm1 hb1
  go_wp2_with fail
  refine (HR2.out _ (HG.out.below HB1.out) (HK.out.below HB1.out HK.out.lt)).mono ?_
  rintro e w2 ⟨a2, cap2, rfl, hm2, hb2⟩
  have HB2 : Hid (Below w.heap.size w w2) := HB1.out.trans (hb2.mono HB1.out.size)
  have HM1' := Lib.hid (HM1.out.keep hb2)
  have HM2 := Lib.hid hm2
  clear hm2 hb2
  go_wp2_with fail
  refine (HR3.out _ (HG.out.below HB2.out) (HK.out.below HB2.out HK.out.lt)).mono ?_
  rintro e w3 ⟨a3, cap3, rfl, hm3, hb3⟩
  have HB3 : Hid (Below w.heap.size w w3) := HB2.out.trans (hb3.mono HB2.out.size)
  have HX3 := Lib.hid (HM1'.out.keep hb3)
  have HY3 := Lib.hid (HM2.out.keep hb3)
  have HZ3 := Lib.hid hm3
  clear hm3 hb3
  go_wp2_with fail
  go_loopw [14, 87] (fun d i wr => ∃ k : Nat, k ≤ xs.length + ys.length ∧ i = .int .i64 k ∧ d = .int .i64 (dL ((xs ++ ys).take k) : Nat) ∧ Hid (Below w.heap.size w wr) ∧ Hid (Below w3.heap.size w3 wr)) (fun _ i _ => xs.length + ys.length - (intOf i).toNat)
  case atStart => exact ⟨0, Nat.zero_le _, rfl, rfl, HB3, Below.refl _ _⟩
  case round =>
    obtain ⟨k, hk, rfl, rfl, HBr, HB3r⟩ := hrel
    have HXr := Lib.hid (HX3.out.keep HB3r.out)
    have HYr := Lib.hid (HY3.out.keep HB3r.out)
    have HZr := Lib.hid (HZ3.out.keep HB3r.out)
    by_cases hlt : k < xs.length + ys.length
    · obtain ⟨t, ht⟩ : ∃ t, (xs ++ ys)[k]? = some t := ⟨_, List.getElem?_eq_getElem (by simp; omega)⟩
      have hmem := List.mem_of_getElem? ht
      have h60 := HHT.out t hmem
      have hdT := dT_hT t
      obtain ⟨g, ka, kc, rfl, hg, c0, c1, c2, he⟩ := HZr.out.get ht
      have HNX := Lib.hid (dL_take ht)
      have hd62 : dL ((xs ++ ys).take k) ≤ 61 := dL_le (fun t' ht' => by have := dT_hT t'; have := HHT.out t' (List.mem_of_mem_take ht'); omega)
      obtain ⟨d, hd⟩ : ∃ d, dL ((xs ++ ys).take k) = d := ⟨_, rfl⟩
      obtain ⟨n, hn⟩ : ∃ n, dT t = n := ⟨_, rfl⟩
      rw [hd, hn] at HNX
      rw [hd] at hd62
      rw [hd]
      have HBX : Hid (Below wr.heap.size wr (wr.alloc (.cells #[.int .i8 t.kind, .string (bytesL t.text), .slice ka t.kids.length kc] 26))) := (Below.refl _ _).alloc (Nat.le_refl _) _
      have HXB : Hid ((wr.alloc (.cells #[.int .i8 t.kind, .string (bytesL t.text), .slice ka t.kids.length kc] 26)).heap[wr.heap.size]? = some (.cells #[.int .i8 t.kind, .string (bytesL t.text), .slice ka t.kids.length kc] 26 (0, 0))) := heap_alloc_new wr _
      have HDp : Hid (∀ W : World, Below wr.heap.size wr W → Calls Tryd.prog 19 #[.agg #[.int .i8 t.kind, .string (bytesL t.text), .slice ka t.kids.length kc]] W fun e w' => e = .returned (.int .i64 n) ∧ Below W.heap.size W w') := fun W hW => Depth_el t n _ W (by omega) (he.below hW) hn
      have hn61 : n ≤ 61 := by omega
      by_cases hx : k < xs.length
      · have dx : decide ((k : Int) < (xs.length : Int)) = true := by simp; omega
        have dx2 : decide ((xs.length : Int) ≤ (k : Int)) = false := by simp; omega
        have dn : decide (k < xs.length) = true := by simp; omega
        have dn2 : decide (xs.length ≤ k) = false := by simp; omega
        have hx' : xs[k]? = some t := by rw [List.getElem?_append_left hx] at ht; exact ht
        obtain ⟨gx, xa, xc, rfl, hgx, x0, x1, x2, hex⟩ := HXr.out.get hx'
        have HSm : Hid (∀ W : World, Below wr.heap.size wr W → Calls Tryd.prog 21 #[.agg #[.int .i8 t.kind, .string (bytesL t.text), .slice ka t.kids.length kc], .agg #[.int .i8 t.kind, .string (bytesL t.text), .slice xa t.kids.length xc]] W fun e w' => e = .returned (.bool true) ∧ Below W.heap.size W w') := fun W hW => Same_eq t _ _ W h60 (he.below hW) (hex.below hW)
        have HC : Hid (∀ m, m < wr.heap.size → ∀ i, (wr.alloc (.cells #[.int .i8 t.kind, .string (bytesL t.text), .slice ka t.kids.length kc] 26)).cell? ⟨m, i, none⟩ = wr.cell? ⟨m, i, none⟩) := fun m hm i => World.cell?_alloc_lt wr _ _ hm
        have y0 := (HC.out gx hgx (k * 3)).trans x0
        have y1 := (HC.out gx hgx (k * 3 + 1)).trans x1
        have y2 := (HC.out gx hgx (k * 3 + 2)).trans x2
        have hgx2 : gx < (wr.alloc (.cells #[.int .i8 t.kind, .string (bytesL t.text), .slice ka t.kids.length kc] 26)).heap.size := by simp; omega
        clear hd hn he hex ht hx' hmem h60 hdT
        go_wp2
        have b0 : (wr.alloc (.cells #[.int .i8 t.kind, .string (bytesL t.text), .slice ka t.kids.length kc] 26)).cell? ⟨wr.heap.size, 0, none⟩ = some (.int .i8 t.kind) := cell_of_row _ _ 0 _ _ _ HXB.out
        have b1 : (wr.alloc (.cells #[.int .i8 t.kind, .string (bytesL t.text), .slice ka t.kids.length kc] 26)).cell? ⟨wr.heap.size, 1, none⟩ = some (.string (bytesL t.text)) := cell_of_row _ _ 1 _ _ _ HXB.out
        have b2 : (wr.alloc (.cells #[.int .i8 t.kind, .string (bytesL t.text), .slice ka t.kids.length kc] 26)).cell? ⟨wr.heap.size, 2, none⟩ = some (.slice ka t.kids.length kc) := cell_of_row _ _ 2 _ _ _ HXB.out
        have HY0 := Lib.hid y0
        have HY1 := Lib.hid y1
        have HY2 := Lib.hid y2
        have HB0 := Lib.hid b0
        have HB1 := Lib.hid b1
        have HB2 := Lib.hid b2
        clear y0 y1 y2 b0 b1 b2
        refine wp_region_held_drew (S := fun w' => w'.cell? ⟨wr.heap.size, 0, none⟩ = some (.int .i8 t.kind) ∧ w'.cell? ⟨wr.heap.size, 1, none⟩ = some (.string (bytesL t.text)) ∧ w'.cell? ⟨wr.heap.size, 2, none⟩ = some (.slice ka t.kids.length kc) ∧ w'.cell? ⟨gx, k * 3, none⟩ = some (.int .i8 t.kind) ∧ w'.cell? ⟨gx, k * 3 + 1, none⟩ = some (.string (bytesL t.text)) ∧ w'.cell? ⟨gx, k * 3 + 2, none⟩ = some (.slice xa t.kids.length xc)) (by kernel_rfl) ⟨HB0.out, HB1.out, HB2.out, HY0.out, HY1.out, HY2.out⟩ (fun hHeld => ?_)
        refine wpAnyH_take (i := 0) (oi := { dst := some 92, op := Op.move (Operand.tmp 15), type := 3, pos := "law.go:111", after := #[], guard := none }) (v := .int .i64 k) rfl (by kernel_rfl) (by kernel_rfl) (by kernel_rfl) (fun _ _ _ h => h) (Or.inl ⟨by rfl, ?_⟩) (by assumption) ?_
        · (intro w hSw; (try dsimp only at hSw); go_simp)
        try simp only [Act.put, List.setIfInBounds_toArray, List.set_cons_zero, List.set_cons_succ]
        refine wpAnyH_take (i := 1) (oi := { dst := some 93, op := Op.move (Operand.tmp 5), type := 24, pos := "law.go:111", after := #[], guard := none }) (v := .slice (some ⟨gx, 0, none⟩) xs.length cap1) rfl (by kernel_rfl) (by kernel_rfl) (by kernel_rfl) (fun _ _ _ h => h) (Or.inl ⟨by rfl, ?_⟩) (by assumption) ?_
        · (intro w hSw; (try dsimp only at hSw); go_simp)
        try simp only [Act.put, List.setIfInBounds_toArray, List.set_cons_zero, List.set_cons_succ]
        refine wpAnyH_take (i := 2) (oi := { dst := some 94, op := Op.call { callee := Callee.builtin Builtin.len, args := #[Operand.tmp 93], argTypes := #[24] }, type := 3, pos := "law.go:111", after := #[{ on := 1, ground := Ground.data }], guard := none }) (v := .int .i64 xs.length) rfl (by kernel_rfl) (by kernel_rfl) (by kernel_rfl) (fun _ _ _ h => h) (Or.inl ⟨by rfl, ?_⟩) (by assumption) ?_
        · (intro w hSw; (try dsimp only at hSw); go_simp)
        try simp only [Act.put, List.setIfInBounds_toArray, List.set_cons_zero, List.set_cons_succ]
        refine wpAnyH_take (i := 3) (oi := { dst := some 95, op := Op.binOp BinOp.lss 3 (Operand.tmp 92) (Operand.tmp 94) 3, type := 4, pos := "law.go:111", after := #[{ on := 0, ground := Ground.data }, { on := 2, ground := Ground.data }], guard := none }) (v := .bool true) rfl (by kernel_rfl) (by kernel_rfl) (by kernel_rfl) (fun _ _ _ h => h) (Or.inl ⟨by rfl, ?_⟩) (by assumption) ?_
        · (intro w hSw; (try dsimp only at hSw); go_simp)
        try simp only [Act.put, List.setIfInBounds_toArray, List.set_cons_zero, List.set_cons_succ]
        refine wpAnyH_take (i := 4) (oi := { dst := some 96, op := Op.move (Operand.tmp 95), type := 4, pos := "law.go:111", after := #[{ on := 3, ground := Ground.data }], guard := none }) (v := .bool true) rfl (by kernel_rfl) (by kernel_rfl) (by kernel_rfl) (fun _ _ _ h => h) (Or.inl ⟨by rfl, ?_⟩) (by assumption) ?_
        · (intro w hSw; (try dsimp only at hSw); go_simp)
        try simp only [Act.put, List.setIfInBounds_toArray, List.set_cons_zero, List.set_cons_succ]
        refine wpAnyH_take (i := 5) (oi := { dst := some 97, op := Op.load 26 (Operand.tmp 16), type := 26, pos := "law.go:111", after := #[{ on := 4, ground := Ground.guard }], guard := some (4, true) }) (v := .agg #[.int .i8 t.kind, .string (bytesL t.text), .slice ka t.kids.length kc]) rfl (by kernel_rfl) (by kernel_rfl) (by kernel_rfl) (fun _ _ _ h => h) (Or.inl ⟨by rfl, ?_⟩) (by assumption) ?_
        · (intro w hSw; (try dsimp only at hSw); go_simp)
        try simp only [Act.put, List.setIfInBounds_toArray, List.set_cons_zero, List.set_cons_succ]
        refine wpAnyH_take (i := 6) (oi := { dst := some 98, op := Op.move (Operand.tmp 5), type := 24, pos := "law.go:111", after := #[{ on := 4, ground := Ground.guard }], guard := some (4, true) }) (v := .slice (some ⟨gx, 0, none⟩) xs.length cap1) rfl (by kernel_rfl) (by kernel_rfl) (by kernel_rfl) (fun _ _ _ h => h) (Or.inl ⟨by rfl, ?_⟩) (by assumption) ?_
        · (intro w hSw; (try dsimp only at hSw); go_simp)
        try simp only [Act.put, List.setIfInBounds_toArray, List.set_cons_zero, List.set_cons_succ]
        refine wpAnyH_take (i := 7) (oi := { dst := some 99, op := Op.move (Operand.tmp 15), type := 3, pos := "law.go:111", after := #[{ on := 4, ground := Ground.guard }], guard := some (4, true) }) (v := .int .i64 k) rfl (by kernel_rfl) (by kernel_rfl) (by kernel_rfl) (fun _ _ _ h => h) (Or.inl ⟨by rfl, ?_⟩) (by assumption) ?_
        · (intro w hSw; (try dsimp only at hSw); go_simp)
        try simp only [Act.put, List.setIfInBounds_toArray, List.set_cons_zero, List.set_cons_succ]
        refine wpAnyH_take (i := 8) (oi := { dst := some 100, op := Op.indexAddr 24 (Operand.tmp 98) (Operand.tmp 99), type := 0, pos := "law.go:111", after := #[{ on := 6, ground := Ground.data }, { on := 7, ground := Ground.data }, { on := 4, ground := Ground.guard }], guard := some (4, true) }) (v := .pointer (some ⟨gx, k * 3, none⟩)) rfl (by kernel_rfl) (by kernel_rfl) (by kernel_rfl) (fun _ _ _ h => h) (Or.inl ⟨by rfl, ?_⟩) (by assumption) ?_
        · (intro w hSw; (try dsimp only at hSw); go_simp)
        try simp only [Act.put, List.setIfInBounds_toArray, List.set_cons_zero, List.set_cons_succ]
        refine wpAnyH_take (i := 9) (oi := { dst := some 101, op := Op.load 26 (Operand.tmp 100), type := 26, pos := "law.go:111", after := #[{ on := 8, ground := Ground.data }, { on := 4, ground := Ground.guard }], guard := some (4, true) }) (v := .agg #[.int .i8 t.kind, .string (bytesL t.text), .slice xa t.kids.length xc]) rfl (by kernel_rfl) (by kernel_rfl) (by kernel_rfl) (fun _ _ _ h => h) (Or.inl ⟨by rfl, ?_⟩) (by assumption) ?_
        · (intro w hSw; (try dsimp only at hSw); go_simp)
        try simp only [Act.put, List.setIfInBounds_toArray, List.set_cons_zero, List.set_cons_succ]
        refine wpAnyH_ready (rs := [10]) (by kernel_rfl) (by simp) ?_
        refine AllReadyH.cons (o := { dst := some 102, op := Op.call { callee := Callee.value (Operand.func 21), args := #[Operand.tmp 97, Operand.tmp 101], argTypes := #[26, 26] }, type := 4, pos := "law.go:111", after := #[{ on := 5, ground := Ground.data }, { on := 9, ground := Ground.data }, { on := 4, ground := Ground.chain }, { on := 4, ground := Ground.guard }], guard := some (4, true) }) rfl (fun K hK => ?_) AllReadyH.nil
        go_simp
        go_at_call 21
        refine (HSm.out _ (by first | exact HBX.out | exact HBX.out.drew)).mono ?_
        rintro e w4 ⟨rfl, hb4⟩
        obtain ⟨hc1, hf1⟩ := bcell hb4
        go_wp2_with fail
        refine hK.out _ _ ?_ (fun hHeld => ?_)
        · exact ⟨(hc1 _ _ (by simp)).trans HB0.out, (hc1 _ _ (by simp)).trans HB1.out, (hc1 _ _ (by simp)).trans HB2.out, (hc1 _ _ hgx2).trans HY0.out, (hc1 _ _ hgx2).trans HY1.out, (hc1 _ _ hgx2).trans HY2.out⟩
        clear hK K
        try simp only [Act.put, List.setIfInBounds_toArray, List.set_cons_zero, List.set_cons_succ]
        refine wpAnyH_take (i := 11) (oi := { dst := some 103, op := Op.unOp UnOp.not 4 (Operand.tmp 102), type := 4, pos := "law.go:111", after := #[{ on := 10, ground := Ground.data }, { on := 4, ground := Ground.guard }], guard := some (4, true) }) (v := .bool false) rfl (by kernel_rfl) (by kernel_rfl) (by kernel_rfl) (fun _ _ _ h => h) (Or.inl ⟨by rfl, ?_⟩) (by assumption) ?_
        · (intro w hSw; (try dsimp only at hSw); go_simp)
        try simp only [Act.put, List.setIfInBounds_toArray, List.set_cons_zero, List.set_cons_succ]
        refine wpAnyH_take (i := 12) (oi := { dst := some 104, op := Op.pick (Operand.tmp 96) (Operand.tmp 103) (Operand.const (Value.bool false)), type := 4, pos := "law.go:111", after := #[{ on := 4, ground := Ground.data }, { on := 11, ground := Ground.data }], guard := none }) (v := .bool false) rfl (by kernel_rfl) (by kernel_rfl) (by kernel_rfl) (fun _ _ _ h => h) (Or.inl ⟨by rfl, ?_⟩) (by assumption) ?_
        · (intro w hSw; (try dsimp only at hSw); go_simp)
        try simp only [Act.put, List.setIfInBounds_toArray, List.set_cons_zero, List.set_cons_succ]
        refine wpAnyH_take (i := 13) (oi := { dst := some 105, op := Op.move (Operand.tmp 104), type := 4, pos := "law.go:111", after := #[{ on := 12, ground := Ground.data }, { on := 10, ground := Ground.chain }], guard := none }) (v := .bool false) rfl (by kernel_rfl) (by kernel_rfl) (by kernel_rfl) (fun _ _ _ h => h) (Or.inl ⟨by rfl, ?_⟩) (by assumption) ?_
        · (intro w hSw; (try dsimp only at hSw); go_simp)
        try simp only [Act.put, List.setIfInBounds_toArray, List.set_cons_zero, List.set_cons_succ]
        refine wpAnyH_take (i := 14) (oi := { dst := some 106, op := Op.move (Operand.tmp 15), type := 3, pos := "law.go:111", after := #[{ on := 13, ground := Ground.guard }], guard := some (13, false) }) (v := .int .i64 k) rfl (by kernel_rfl) (by kernel_rfl) (by kernel_rfl) (fun _ _ _ h => h) (Or.inl ⟨by rfl, ?_⟩) (by assumption) ?_
        · (intro w hSw; (try dsimp only at hSw); go_simp)
        try simp only [Act.put, List.setIfInBounds_toArray, List.set_cons_zero, List.set_cons_succ]
        refine wpAnyH_take (i := 15) (oi := { dst := some 107, op := Op.move (Operand.tmp 5), type := 24, pos := "law.go:111", after := #[{ on := 13, ground := Ground.guard }], guard := some (13, false) }) (v := .slice (some ⟨gx, 0, none⟩) xs.length cap1) rfl (by kernel_rfl) (by kernel_rfl) (by kernel_rfl) (fun _ _ _ h => h) (Or.inl ⟨by rfl, ?_⟩) (by assumption) ?_
        · (intro w hSw; (try dsimp only at hSw); go_simp)
        try simp only [Act.put, List.setIfInBounds_toArray, List.set_cons_zero, List.set_cons_succ]
        refine wpAnyH_take (i := 16) (oi := { dst := some 108, op := Op.call { callee := Callee.builtin Builtin.len, args := #[Operand.tmp 107], argTypes := #[24] }, type := 3, pos := "law.go:111", after := #[{ on := 15, ground := Ground.data }, { on := 13, ground := Ground.guard }], guard := some (13, false) }) (v := .int .i64 xs.length) rfl (by kernel_rfl) (by kernel_rfl) (by kernel_rfl) (fun _ _ _ h => h) (Or.inl ⟨by rfl, ?_⟩) (by assumption) ?_
        · (intro w hSw; (try dsimp only at hSw); go_simp)
        try simp only [Act.put, List.setIfInBounds_toArray, List.set_cons_zero, List.set_cons_succ]
        refine wpAnyH_take (i := 17) (oi := { dst := some 109, op := Op.binOp BinOp.geq 3 (Operand.tmp 106) (Operand.tmp 108) 3, type := 4, pos := "law.go:111", after := #[{ on := 14, ground := Ground.data }, { on := 16, ground := Ground.data }, { on := 13, ground := Ground.guard }], guard := some (13, false) }) (v := .bool false) rfl (by kernel_rfl) (by kernel_rfl) (by kernel_rfl) (fun _ _ _ h => h) (Or.inl ⟨by rfl, ?_⟩) (by assumption) ?_
        · (intro w hSw; (try dsimp only at hSw); go_simp)
        try simp only [Act.put, List.setIfInBounds_toArray, List.set_cons_zero, List.set_cons_succ]
        refine wpAnyH_take (i := 18) (oi := { dst := some 110, op := Op.move (Operand.tmp 109), type := 4, pos := "law.go:111", after := #[{ on := 17, ground := Ground.data }, { on := 13, ground := Ground.chain }, { on := 13, ground := Ground.guard }], guard := some (13, false) }) (v := .bool false) rfl (by kernel_rfl) (by kernel_rfl) (by kernel_rfl) (fun _ _ _ h => h) (Or.inl ⟨by rfl, ?_⟩) (by assumption) ?_
        · (intro w hSw; (try dsimp only at hSw); go_simp)
        try simp only [Act.put, List.setIfInBounds_toArray, List.set_cons_zero, List.set_cons_succ]
        refine wpAnyH_take (i := 19) (oi := { dst := some 111, op := Op.load 26 (Operand.tmp 16), type := 26, pos := "law.go:111", after := #[{ on := 18, ground := Ground.guard }], guard := some (18, true) }) (v := undef) rfl (by kernel_rfl) (by kernel_rfl) (by kernel_rfl) (fun _ _ _ h => h) (Or.inr ⟨by rfl, rfl⟩) (by assumption) ?_
        try simp only [Act.put, List.setIfInBounds_toArray, List.set_cons_zero, List.set_cons_succ]
        refine wpAnyH_take (i := 20) (oi := { dst := some 112, op := Op.move (Operand.tmp 8), type := 24, pos := "law.go:111", after := #[{ on := 18, ground := Ground.guard }], guard := some (18, true) }) (v := undef) rfl (by kernel_rfl) (by kernel_rfl) (by kernel_rfl) (fun _ _ _ h => h) (Or.inr ⟨by rfl, rfl⟩) (by assumption) ?_
        try simp only [Act.put, List.setIfInBounds_toArray, List.set_cons_zero, List.set_cons_succ]
        refine wpAnyH_take (i := 21) (oi := { dst := some 113, op := Op.move (Operand.tmp 15), type := 3, pos := "law.go:111", after := #[{ on := 18, ground := Ground.guard }], guard := some (18, true) }) (v := undef) rfl (by kernel_rfl) (by kernel_rfl) (by kernel_rfl) (fun _ _ _ h => h) (Or.inr ⟨by rfl, rfl⟩) (by assumption) ?_
        try simp only [Act.put, List.setIfInBounds_toArray, List.set_cons_zero, List.set_cons_succ]
        refine wpAnyH_take (i := 22) (oi := { dst := some 114, op := Op.move (Operand.tmp 5), type := 24, pos := "law.go:111", after := #[{ on := 18, ground := Ground.guard }], guard := some (18, true) }) (v := undef) rfl (by kernel_rfl) (by kernel_rfl) (by kernel_rfl) (fun _ _ _ h => h) (Or.inr ⟨by rfl, rfl⟩) (by assumption) ?_
        try simp only [Act.put, List.setIfInBounds_toArray, List.set_cons_zero, List.set_cons_succ]
        refine wpAnyH_take (i := 23) (oi := { dst := some 115, op := Op.call { callee := Callee.builtin Builtin.len, args := #[Operand.tmp 114], argTypes := #[24] }, type := 3, pos := "law.go:111", after := #[{ on := 22, ground := Ground.data }, { on := 18, ground := Ground.guard }], guard := some (18, true) }) (v := undef) rfl (by kernel_rfl) (by kernel_rfl) (by kernel_rfl) (fun _ _ _ h => h) (Or.inr ⟨by rfl, rfl⟩) (by assumption) ?_
        try simp only [Act.put, List.setIfInBounds_toArray, List.set_cons_zero, List.set_cons_succ]
        refine wpAnyH_take (i := 24) (oi := { dst := some 116, op := Op.binOp BinOp.sub 3 (Operand.tmp 113) (Operand.tmp 115) 3, type := 3, pos := "law.go:111", after := #[{ on := 21, ground := Ground.data }, { on := 23, ground := Ground.data }, { on := 18, ground := Ground.guard }], guard := some (18, true) }) (v := undef) rfl (by kernel_rfl) (by kernel_rfl) (by kernel_rfl) (fun _ _ _ h => h) (Or.inr ⟨by rfl, rfl⟩) (by assumption) ?_
        try simp only [Act.put, List.setIfInBounds_toArray, List.set_cons_zero, List.set_cons_succ]
        refine wpAnyH_take (i := 25) (oi := { dst := some 117, op := Op.indexAddr 24 (Operand.tmp 112) (Operand.tmp 116), type := 0, pos := "law.go:111", after := #[{ on := 20, ground := Ground.data }, { on := 24, ground := Ground.data }, { on := 18, ground := Ground.guard }], guard := some (18, true) }) (v := undef) rfl (by kernel_rfl) (by kernel_rfl) (by kernel_rfl) (fun _ _ _ h => h) (Or.inr ⟨by rfl, rfl⟩) (by assumption) ?_
        try simp only [Act.put, List.setIfInBounds_toArray, List.set_cons_zero, List.set_cons_succ]
        refine wpAnyH_take (i := 26) (oi := { dst := some 118, op := Op.load 26 (Operand.tmp 117), type := 26, pos := "law.go:111", after := #[{ on := 25, ground := Ground.data }, { on := 18, ground := Ground.guard }], guard := some (18, true) }) (v := undef) rfl (by kernel_rfl) (by kernel_rfl) (by kernel_rfl) (fun _ _ _ h => h) (Or.inr ⟨by rfl, rfl⟩) (by assumption) ?_
        try simp only [Act.put, List.setIfInBounds_toArray, List.set_cons_zero, List.set_cons_succ]
        refine wpAnyH_take (i := 27) (oi := { dst := some 119, op := Op.call { callee := Callee.value (Operand.func 21), args := #[Operand.tmp 111, Operand.tmp 118], argTypes := #[26, 26] }, type := 4, pos := "law.go:111", after := #[{ on := 19, ground := Ground.data }, { on := 26, ground := Ground.data }, { on := 18, ground := Ground.chain }, { on := 18, ground := Ground.guard }], guard := some (18, true) }) (v := undef) rfl (by kernel_rfl) (by kernel_rfl) (by kernel_rfl) (fun _ _ _ h => h) (Or.inr ⟨by rfl, rfl⟩) (by assumption) ?_
        try simp only [Act.put, List.setIfInBounds_toArray, List.set_cons_zero, List.set_cons_succ]
        refine wpAnyH_take (i := 28) (oi := { dst := some 120, op := Op.unOp UnOp.not 4 (Operand.tmp 119), type := 4, pos := "law.go:111", after := #[{ on := 27, ground := Ground.data }, { on := 18, ground := Ground.guard }], guard := some (18, true) }) (v := undef) rfl (by kernel_rfl) (by kernel_rfl) (by kernel_rfl) (fun _ _ _ h => h) (Or.inr ⟨by rfl, rfl⟩) (by assumption) ?_
        try simp only [Act.put, List.setIfInBounds_toArray, List.set_cons_zero, List.set_cons_succ]
        refine wpAnyH_take (i := 29) (oi := { dst := some 121, op := Op.pick (Operand.tmp 110) (Operand.tmp 120) (Operand.const (Value.bool false)), type := 4, pos := "law.go:111", after := #[{ on := 18, ground := Ground.data }, { on := 28, ground := Ground.data }, { on := 13, ground := Ground.guard }], guard := some (13, false) }) (v := .bool false) rfl (by kernel_rfl) (by kernel_rfl) (by kernel_rfl) (fun _ _ _ h => h) (Or.inl ⟨by rfl, ?_⟩) (by assumption) ?_
        · (intro w hSw; (try dsimp only at hSw); go_simp)
        try simp only [Act.put, List.setIfInBounds_toArray, List.set_cons_zero, List.set_cons_succ]
        refine wpAnyH_take (i := 30) (oi := { dst := some 122, op := Op.pick (Operand.tmp 105) (Operand.const (Value.bool true)) (Operand.tmp 121), type := 4, pos := "law.go:111", after := #[{ on := 13, ground := Ground.data }, { on := 29, ground := Ground.data }], guard := none }) (v := .bool false) rfl (by kernel_rfl) (by kernel_rfl) (by kernel_rfl) (fun _ _ _ h => h) (Or.inl ⟨by rfl, ?_⟩) (by assumption) ?_
        · (intro w hSw; (try dsimp only at hSw); go_simp)
        try simp only [Act.put, List.setIfInBounds_toArray, List.set_cons_zero, List.set_cons_succ]
        refine wpAnyH_done (by kernel_rfl) ?_ _
        have HW4 : Hid (Below wr.heap.size wr w4) := (HBX.out.drew).trans (hb4.mono (HBX.out.drew).size)
        have hx4 := (hb4.block wr.heap.size (by simp)).trans HXB.out
        have d0 := cell_of_row _ _ 0 _ _ _ hx4
        have d1 := cell_of_row _ _ 1 _ _ _ hx4
        have d2 := cell_of_row _ _ 2 _ _ _ hx4
        simp only [List.getElem?_toArray, List.getElem?_cons_zero, List.getElem?_cons_succ] at d0 d1 d2
        clear hb4 hx4 hc1 hf1 hHeld
        go_wp2_with fail
        refine (HDp.out _ HW4.out).mono ?_
        rintro e w5 ⟨rfl, hb5⟩
        have HW5 : Hid (Below wr.heap.size wr w5) := HW4.out.trans (hb5.mono HW4.out.size)
        go_wp2_with fail
        go_roundw
        case rel => exact ⟨k + 1, by omega, by go_num, by rw [HNX.out]; first | done | (congr 1; omega), HBr.out.trans (HW5.out.mono HBr.out.size), HB3r.out.trans (HW5.out.mono HB3r.out.size)⟩
        case measure => simp [intOf]; omega
      · obtain ⟨j, hj⟩ : ∃ j, j = k - xs.length := ⟨_, rfl⟩
        have dx : decide ((k : Int) < (xs.length : Int)) = false := by simp; omega
        have dx2 : decide ((xs.length : Int) ≤ (k : Int)) = true := by simp; omega
        have dn : decide (k < xs.length) = false := by simp; omega
        have dn2 : decide (xs.length ≤ k) = true := by simp; omega
        have hsub : (k : Int) - (xs.length : Int) = (j : Int) := by omega
        have hwj : IntKind.i64.wrap (j : Int) = (j : Int) := by rw [IntKind.wrap_i64]; omega
        have hjy : j < ys.length := by omega
        have hjy0 : (0 : Int) ≤ (j : Int) := by omega
        have hjy1 : (j : Int) < (ys.length : Int) := by omega
        have hx' : ys[j]? = some t := by rw [List.getElem?_append_right (by omega), ← hj] at ht; exact ht
        obtain ⟨gy, ya, yc, rfl, hgy, x0, x1, x2, hex⟩ := HYr.out.get hx'
        have HSm : Hid (∀ W : World, Below wr.heap.size wr W → Calls Tryd.prog 21 #[.agg #[.int .i8 t.kind, .string (bytesL t.text), .slice ka t.kids.length kc], .agg #[.int .i8 t.kind, .string (bytesL t.text), .slice ya t.kids.length yc]] W fun e w' => e = .returned (.bool true) ∧ Below W.heap.size W w') := fun W hW => Same_eq t _ _ W h60 (he.below hW) (hex.below hW)
        have HC : Hid (∀ m, m < wr.heap.size → ∀ i, (wr.alloc (.cells #[.int .i8 t.kind, .string (bytesL t.text), .slice ka t.kids.length kc] 26)).cell? ⟨m, i, none⟩ = wr.cell? ⟨m, i, none⟩) := fun m hm i => World.cell?_alloc_lt wr _ _ hm
        have y0 := (HC.out gy hgy (j * 3)).trans x0
        have y1 := (HC.out gy hgy (j * 3 + 1)).trans x1
        have y2 := (HC.out gy hgy (j * 3 + 2)).trans x2
        have hgy2 : gy < (wr.alloc (.cells #[.int .i8 t.kind, .string (bytesL t.text), .slice ka t.kids.length kc] 26)).heap.size := by simp; omega
        clear hd hn he hex ht hx' hmem h60 hdT hj
        go_wp2
        have b0 : (wr.alloc (.cells #[.int .i8 t.kind, .string (bytesL t.text), .slice ka t.kids.length kc] 26)).cell? ⟨wr.heap.size, 0, none⟩ = some (.int .i8 t.kind) := cell_of_row _ _ 0 _ _ _ HXB.out
        have b1 : (wr.alloc (.cells #[.int .i8 t.kind, .string (bytesL t.text), .slice ka t.kids.length kc] 26)).cell? ⟨wr.heap.size, 1, none⟩ = some (.string (bytesL t.text)) := cell_of_row _ _ 1 _ _ _ HXB.out
        have b2 : (wr.alloc (.cells #[.int .i8 t.kind, .string (bytesL t.text), .slice ka t.kids.length kc] 26)).cell? ⟨wr.heap.size, 2, none⟩ = some (.slice ka t.kids.length kc) := cell_of_row _ _ 2 _ _ _ HXB.out
        have HY0 := Lib.hid y0
        have HY1 := Lib.hid y1
        have HY2 := Lib.hid y2
        have HB0 := Lib.hid b0
        have HB1 := Lib.hid b1
        have HB2 := Lib.hid b2
        clear y0 y1 y2 b0 b1 b2
        refine wp_region_held_drew (S := fun w' => w'.cell? ⟨wr.heap.size, 0, none⟩ = some (.int .i8 t.kind) ∧ w'.cell? ⟨wr.heap.size, 1, none⟩ = some (.string (bytesL t.text)) ∧ w'.cell? ⟨wr.heap.size, 2, none⟩ = some (.slice ka t.kids.length kc) ∧ w'.cell? ⟨gy, j * 3, none⟩ = some (.int .i8 t.kind) ∧ w'.cell? ⟨gy, j * 3 + 1, none⟩ = some (.string (bytesL t.text)) ∧ w'.cell? ⟨gy, j * 3 + 2, none⟩ = some (.slice ya t.kids.length yc)) (by kernel_rfl) ⟨HB0.out, HB1.out, HB2.out, HY0.out, HY1.out, HY2.out⟩ (fun hHeld => ?_)
        refine wpAnyH_take (i := 0) (oi := { dst := some 92, op := Op.move (Operand.tmp 15), type := 3, pos := "law.go:111", after := #[], guard := none }) (v := .int .i64 k) rfl (by kernel_rfl) (by kernel_rfl) (by kernel_rfl) (fun _ _ _ h => h) (Or.inl ⟨by rfl, ?_⟩) (by assumption) ?_
        · (intro w hSw; (try dsimp only at hSw); go_simp)
        try simp only [Act.put, List.setIfInBounds_toArray, List.set_cons_zero, List.set_cons_succ]
        refine wpAnyH_take (i := 1) (oi := { dst := some 93, op := Op.move (Operand.tmp 5), type := 24, pos := "law.go:111", after := #[], guard := none }) (v := .slice a1 xs.length cap1) rfl (by kernel_rfl) (by kernel_rfl) (by kernel_rfl) (fun _ _ _ h => h) (Or.inl ⟨by rfl, ?_⟩) (by assumption) ?_
        · (intro w hSw; (try dsimp only at hSw); go_simp)
        try simp only [Act.put, List.setIfInBounds_toArray, List.set_cons_zero, List.set_cons_succ]
        refine wpAnyH_take (i := 2) (oi := { dst := some 94, op := Op.call { callee := Callee.builtin Builtin.len, args := #[Operand.tmp 93], argTypes := #[24] }, type := 3, pos := "law.go:111", after := #[{ on := 1, ground := Ground.data }], guard := none }) (v := .int .i64 xs.length) rfl (by kernel_rfl) (by kernel_rfl) (by kernel_rfl) (fun _ _ _ h => h) (Or.inl ⟨by rfl, ?_⟩) (by assumption) ?_
        · (intro w hSw; (try dsimp only at hSw); go_simp)
        try simp only [Act.put, List.setIfInBounds_toArray, List.set_cons_zero, List.set_cons_succ]
        refine wpAnyH_take (i := 3) (oi := { dst := some 95, op := Op.binOp BinOp.lss 3 (Operand.tmp 92) (Operand.tmp 94) 3, type := 4, pos := "law.go:111", after := #[{ on := 0, ground := Ground.data }, { on := 2, ground := Ground.data }], guard := none }) (v := .bool false) rfl (by kernel_rfl) (by kernel_rfl) (by kernel_rfl) (fun _ _ _ h => h) (Or.inl ⟨by rfl, ?_⟩) (by assumption) ?_
        · (intro w hSw; (try dsimp only at hSw); go_simp)
        try simp only [Act.put, List.setIfInBounds_toArray, List.set_cons_zero, List.set_cons_succ]
        refine wpAnyH_take (i := 4) (oi := { dst := some 96, op := Op.move (Operand.tmp 95), type := 4, pos := "law.go:111", after := #[{ on := 3, ground := Ground.data }], guard := none }) (v := .bool false) rfl (by kernel_rfl) (by kernel_rfl) (by kernel_rfl) (fun _ _ _ h => h) (Or.inl ⟨by rfl, ?_⟩) (by assumption) ?_
        · (intro w hSw; (try dsimp only at hSw); go_simp)
        try simp only [Act.put, List.setIfInBounds_toArray, List.set_cons_zero, List.set_cons_succ]
        refine wpAnyH_take (i := 5) (oi := { dst := some 97, op := Op.load 26 (Operand.tmp 16), type := 26, pos := "law.go:111", after := #[{ on := 4, ground := Ground.guard }], guard := some (4, true) }) (v := undef) rfl (by kernel_rfl) (by kernel_rfl) (by kernel_rfl) (fun _ _ _ h => h) (Or.inr ⟨by rfl, rfl⟩) (by assumption) ?_
        try simp only [Act.put, List.setIfInBounds_toArray, List.set_cons_zero, List.set_cons_succ]
        refine wpAnyH_take (i := 6) (oi := { dst := some 98, op := Op.move (Operand.tmp 5), type := 24, pos := "law.go:111", after := #[{ on := 4, ground := Ground.guard }], guard := some (4, true) }) (v := undef) rfl (by kernel_rfl) (by kernel_rfl) (by kernel_rfl) (fun _ _ _ h => h) (Or.inr ⟨by rfl, rfl⟩) (by assumption) ?_
        try simp only [Act.put, List.setIfInBounds_toArray, List.set_cons_zero, List.set_cons_succ]
        refine wpAnyH_take (i := 7) (oi := { dst := some 99, op := Op.move (Operand.tmp 15), type := 3, pos := "law.go:111", after := #[{ on := 4, ground := Ground.guard }], guard := some (4, true) }) (v := undef) rfl (by kernel_rfl) (by kernel_rfl) (by kernel_rfl) (fun _ _ _ h => h) (Or.inr ⟨by rfl, rfl⟩) (by assumption) ?_
        try simp only [Act.put, List.setIfInBounds_toArray, List.set_cons_zero, List.set_cons_succ]
        refine wpAnyH_take (i := 8) (oi := { dst := some 100, op := Op.indexAddr 24 (Operand.tmp 98) (Operand.tmp 99), type := 0, pos := "law.go:111", after := #[{ on := 6, ground := Ground.data }, { on := 7, ground := Ground.data }, { on := 4, ground := Ground.guard }], guard := some (4, true) }) (v := undef) rfl (by kernel_rfl) (by kernel_rfl) (by kernel_rfl) (fun _ _ _ h => h) (Or.inr ⟨by rfl, rfl⟩) (by assumption) ?_
        try simp only [Act.put, List.setIfInBounds_toArray, List.set_cons_zero, List.set_cons_succ]
        refine wpAnyH_take (i := 9) (oi := { dst := some 101, op := Op.load 26 (Operand.tmp 100), type := 26, pos := "law.go:111", after := #[{ on := 8, ground := Ground.data }, { on := 4, ground := Ground.guard }], guard := some (4, true) }) (v := undef) rfl (by kernel_rfl) (by kernel_rfl) (by kernel_rfl) (fun _ _ _ h => h) (Or.inr ⟨by rfl, rfl⟩) (by assumption) ?_
        try simp only [Act.put, List.setIfInBounds_toArray, List.set_cons_zero, List.set_cons_succ]
        refine wpAnyH_take (i := 10) (oi := { dst := some 102, op := Op.call { callee := Callee.value (Operand.func 21), args := #[Operand.tmp 97, Operand.tmp 101], argTypes := #[26, 26] }, type := 4, pos := "law.go:111", after := #[{ on := 5, ground := Ground.data }, { on := 9, ground := Ground.data }, { on := 4, ground := Ground.chain }, { on := 4, ground := Ground.guard }], guard := some (4, true) }) (v := undef) rfl (by kernel_rfl) (by kernel_rfl) (by kernel_rfl) (fun _ _ _ h => h) (Or.inr ⟨by rfl, rfl⟩) (by assumption) ?_
        try simp only [Act.put, List.setIfInBounds_toArray, List.set_cons_zero, List.set_cons_succ]
        refine wpAnyH_take (i := 11) (oi := { dst := some 103, op := Op.unOp UnOp.not 4 (Operand.tmp 102), type := 4, pos := "law.go:111", after := #[{ on := 10, ground := Ground.data }, { on := 4, ground := Ground.guard }], guard := some (4, true) }) (v := undef) rfl (by kernel_rfl) (by kernel_rfl) (by kernel_rfl) (fun _ _ _ h => h) (Or.inr ⟨by rfl, rfl⟩) (by assumption) ?_
        try simp only [Act.put, List.setIfInBounds_toArray, List.set_cons_zero, List.set_cons_succ]
        refine wpAnyH_take (i := 12) (oi := { dst := some 104, op := Op.pick (Operand.tmp 96) (Operand.tmp 103) (Operand.const (Value.bool false)), type := 4, pos := "law.go:111", after := #[{ on := 4, ground := Ground.data }, { on := 11, ground := Ground.data }], guard := none }) (v := .bool false) rfl (by kernel_rfl) (by kernel_rfl) (by kernel_rfl) (fun _ _ _ h => h) (Or.inl ⟨by rfl, ?_⟩) (by assumption) ?_
        · (intro w hSw; (try dsimp only at hSw); go_simp)
        try simp only [Act.put, List.setIfInBounds_toArray, List.set_cons_zero, List.set_cons_succ]
        refine wpAnyH_take (i := 13) (oi := { dst := some 105, op := Op.move (Operand.tmp 104), type := 4, pos := "law.go:111", after := #[{ on := 12, ground := Ground.data }, { on := 10, ground := Ground.chain }], guard := none }) (v := .bool false) rfl (by kernel_rfl) (by kernel_rfl) (by kernel_rfl) (fun _ _ _ h => h) (Or.inl ⟨by rfl, ?_⟩) (by assumption) ?_
        · (intro w hSw; (try dsimp only at hSw); go_simp)
        try simp only [Act.put, List.setIfInBounds_toArray, List.set_cons_zero, List.set_cons_succ]
        refine wpAnyH_take (i := 14) (oi := { dst := some 106, op := Op.move (Operand.tmp 15), type := 3, pos := "law.go:111", after := #[{ on := 13, ground := Ground.guard }], guard := some (13, false) }) (v := .int .i64 k) rfl (by kernel_rfl) (by kernel_rfl) (by kernel_rfl) (fun _ _ _ h => h) (Or.inl ⟨by rfl, ?_⟩) (by assumption) ?_
        · (intro w hSw; (try dsimp only at hSw); go_simp)
        try simp only [Act.put, List.setIfInBounds_toArray, List.set_cons_zero, List.set_cons_succ]
        refine wpAnyH_take (i := 15) (oi := { dst := some 107, op := Op.move (Operand.tmp 5), type := 24, pos := "law.go:111", after := #[{ on := 13, ground := Ground.guard }], guard := some (13, false) }) (v := .slice a1 xs.length cap1) rfl (by kernel_rfl) (by kernel_rfl) (by kernel_rfl) (fun _ _ _ h => h) (Or.inl ⟨by rfl, ?_⟩) (by assumption) ?_
        · (intro w hSw; (try dsimp only at hSw); go_simp)
        try simp only [Act.put, List.setIfInBounds_toArray, List.set_cons_zero, List.set_cons_succ]
        refine wpAnyH_take (i := 16) (oi := { dst := some 108, op := Op.call { callee := Callee.builtin Builtin.len, args := #[Operand.tmp 107], argTypes := #[24] }, type := 3, pos := "law.go:111", after := #[{ on := 15, ground := Ground.data }, { on := 13, ground := Ground.guard }], guard := some (13, false) }) (v := .int .i64 xs.length) rfl (by kernel_rfl) (by kernel_rfl) (by kernel_rfl) (fun _ _ _ h => h) (Or.inl ⟨by rfl, ?_⟩) (by assumption) ?_
        · (intro w hSw; (try dsimp only at hSw); go_simp)
        try simp only [Act.put, List.setIfInBounds_toArray, List.set_cons_zero, List.set_cons_succ]
        refine wpAnyH_take (i := 17) (oi := { dst := some 109, op := Op.binOp BinOp.geq 3 (Operand.tmp 106) (Operand.tmp 108) 3, type := 4, pos := "law.go:111", after := #[{ on := 14, ground := Ground.data }, { on := 16, ground := Ground.data }, { on := 13, ground := Ground.guard }], guard := some (13, false) }) (v := .bool true) rfl (by kernel_rfl) (by kernel_rfl) (by kernel_rfl) (fun _ _ _ h => h) (Or.inl ⟨by rfl, ?_⟩) (by assumption) ?_
        · (intro w hSw; (try dsimp only at hSw); go_simp)
        try simp only [Act.put, List.setIfInBounds_toArray, List.set_cons_zero, List.set_cons_succ]
        refine wpAnyH_take (i := 18) (oi := { dst := some 110, op := Op.move (Operand.tmp 109), type := 4, pos := "law.go:111", after := #[{ on := 17, ground := Ground.data }, { on := 13, ground := Ground.chain }, { on := 13, ground := Ground.guard }], guard := some (13, false) }) (v := .bool true) rfl (by kernel_rfl) (by kernel_rfl) (by kernel_rfl) (fun _ _ _ h => h) (Or.inl ⟨by rfl, ?_⟩) (by assumption) ?_
        · (intro w hSw; (try dsimp only at hSw); go_simp)
        try simp only [Act.put, List.setIfInBounds_toArray, List.set_cons_zero, List.set_cons_succ]
        refine wpAnyH_take (i := 19) (oi := { dst := some 111, op := Op.load 26 (Operand.tmp 16), type := 26, pos := "law.go:111", after := #[{ on := 18, ground := Ground.guard }], guard := some (18, true) }) (v := .agg #[.int .i8 t.kind, .string (bytesL t.text), .slice ka t.kids.length kc]) rfl (by kernel_rfl) (by kernel_rfl) (by kernel_rfl) (fun _ _ _ h => h) (Or.inl ⟨by rfl, ?_⟩) (by assumption) ?_
        · (intro w hSw; (try dsimp only at hSw); go_simp)
        try simp only [Act.put, List.setIfInBounds_toArray, List.set_cons_zero, List.set_cons_succ]
        refine wpAnyH_take (i := 20) (oi := { dst := some 112, op := Op.move (Operand.tmp 8), type := 24, pos := "law.go:111", after := #[{ on := 18, ground := Ground.guard }], guard := some (18, true) }) (v := .slice (some ⟨gy, 0, none⟩) ys.length cap2) rfl (by kernel_rfl) (by kernel_rfl) (by kernel_rfl) (fun _ _ _ h => h) (Or.inl ⟨by rfl, ?_⟩) (by assumption) ?_
        · (intro w hSw; (try dsimp only at hSw); go_simp)
        try simp only [Act.put, List.setIfInBounds_toArray, List.set_cons_zero, List.set_cons_succ]
        refine wpAnyH_take (i := 21) (oi := { dst := some 113, op := Op.move (Operand.tmp 15), type := 3, pos := "law.go:111", after := #[{ on := 18, ground := Ground.guard }], guard := some (18, true) }) (v := .int .i64 k) rfl (by kernel_rfl) (by kernel_rfl) (by kernel_rfl) (fun _ _ _ h => h) (Or.inl ⟨by rfl, ?_⟩) (by assumption) ?_
        · (intro w hSw; (try dsimp only at hSw); go_simp)
        try simp only [Act.put, List.setIfInBounds_toArray, List.set_cons_zero, List.set_cons_succ]
        refine wpAnyH_take (i := 22) (oi := { dst := some 114, op := Op.move (Operand.tmp 5), type := 24, pos := "law.go:111", after := #[{ on := 18, ground := Ground.guard }], guard := some (18, true) }) (v := .slice a1 xs.length cap1) rfl (by kernel_rfl) (by kernel_rfl) (by kernel_rfl) (fun _ _ _ h => h) (Or.inl ⟨by rfl, ?_⟩) (by assumption) ?_
        · (intro w hSw; (try dsimp only at hSw); go_simp)
        try simp only [Act.put, List.setIfInBounds_toArray, List.set_cons_zero, List.set_cons_succ]
        refine wpAnyH_take (i := 23) (oi := { dst := some 115, op := Op.call { callee := Callee.builtin Builtin.len, args := #[Operand.tmp 114], argTypes := #[24] }, type := 3, pos := "law.go:111", after := #[{ on := 22, ground := Ground.data }, { on := 18, ground := Ground.guard }], guard := some (18, true) }) (v := .int .i64 xs.length) rfl (by kernel_rfl) (by kernel_rfl) (by kernel_rfl) (fun _ _ _ h => h) (Or.inl ⟨by rfl, ?_⟩) (by assumption) ?_
        · (intro w hSw; (try dsimp only at hSw); go_simp)
        try simp only [Act.put, List.setIfInBounds_toArray, List.set_cons_zero, List.set_cons_succ]
        refine wpAnyH_take (i := 24) (oi := { dst := some 116, op := Op.binOp BinOp.sub 3 (Operand.tmp 113) (Operand.tmp 115) 3, type := 3, pos := "law.go:111", after := #[{ on := 21, ground := Ground.data }, { on := 23, ground := Ground.data }, { on := 18, ground := Ground.guard }], guard := some (18, true) }) (v := .int .i64 j) rfl (by kernel_rfl) (by kernel_rfl) (by kernel_rfl) (fun _ _ _ h => h) (Or.inl ⟨by rfl, ?_⟩) (by assumption) ?_
        · (intro w hSw; (try dsimp only at hSw); go_simp)
        try simp only [Act.put, List.setIfInBounds_toArray, List.set_cons_zero, List.set_cons_succ]
        refine wpAnyH_take (i := 25) (oi := { dst := some 117, op := Op.indexAddr 24 (Operand.tmp 112) (Operand.tmp 116), type := 0, pos := "law.go:111", after := #[{ on := 20, ground := Ground.data }, { on := 24, ground := Ground.data }, { on := 18, ground := Ground.guard }], guard := some (18, true) }) (v := .pointer (some ⟨gy, j * 3, none⟩)) rfl (by kernel_rfl) (by kernel_rfl) (by kernel_rfl) (fun _ _ _ h => h) (Or.inl ⟨by rfl, ?_⟩) (by assumption) ?_
        · (intro w hSw; (try dsimp only at hSw); go_simp)
        try simp only [Act.put, List.setIfInBounds_toArray, List.set_cons_zero, List.set_cons_succ]
        refine wpAnyH_take (i := 26) (oi := { dst := some 118, op := Op.load 26 (Operand.tmp 117), type := 26, pos := "law.go:111", after := #[{ on := 25, ground := Ground.data }, { on := 18, ground := Ground.guard }], guard := some (18, true) }) (v := .agg #[.int .i8 t.kind, .string (bytesL t.text), .slice ya t.kids.length yc]) rfl (by kernel_rfl) (by kernel_rfl) (by kernel_rfl) (fun _ _ _ h => h) (Or.inl ⟨by rfl, ?_⟩) (by assumption) ?_
        · (intro w hSw; (try dsimp only at hSw); go_simp)
        try simp only [Act.put, List.setIfInBounds_toArray, List.set_cons_zero, List.set_cons_succ]
        refine wpAnyH_ready (rs := [27]) (by kernel_rfl) (by simp) ?_
        refine AllReadyH.cons (o := { dst := some 119, op := Op.call { callee := Callee.value (Operand.func 21), args := #[Operand.tmp 111, Operand.tmp 118], argTypes := #[26, 26] }, type := 4, pos := "law.go:111", after := #[{ on := 19, ground := Ground.data }, { on := 26, ground := Ground.data }, { on := 18, ground := Ground.chain }, { on := 18, ground := Ground.guard }], guard := some (18, true) }) rfl (fun K hK => ?_) AllReadyH.nil
        go_simp
        go_at_call 21
        refine (HSm.out _ (by first | exact HBX.out | exact HBX.out.drew)).mono ?_
        rintro e w4 ⟨rfl, hb4⟩
        obtain ⟨hc1, hf1⟩ := bcell hb4
        go_wp2_with fail
        refine hK.out _ _ ?_ (fun hHeld => ?_)
        · exact ⟨(hc1 _ _ (by simp)).trans HB0.out, (hc1 _ _ (by simp)).trans HB1.out, (hc1 _ _ (by simp)).trans HB2.out, (hc1 _ _ hgy2).trans HY0.out, (hc1 _ _ hgy2).trans HY1.out, (hc1 _ _ hgy2).trans HY2.out⟩
        clear hK K
        try simp only [Act.put, List.setIfInBounds_toArray, List.set_cons_zero, List.set_cons_succ]
        refine wpAnyH_take (i := 28) (oi := { dst := some 120, op := Op.unOp UnOp.not 4 (Operand.tmp 119), type := 4, pos := "law.go:111", after := #[{ on := 27, ground := Ground.data }, { on := 18, ground := Ground.guard }], guard := some (18, true) }) (v := .bool false) rfl (by kernel_rfl) (by kernel_rfl) (by kernel_rfl) (fun _ _ _ h => h) (Or.inl ⟨by rfl, ?_⟩) (by assumption) ?_
        · (intro w hSw; (try dsimp only at hSw); go_simp)
        try simp only [Act.put, List.setIfInBounds_toArray, List.set_cons_zero, List.set_cons_succ]
        refine wpAnyH_take (i := 29) (oi := { dst := some 121, op := Op.pick (Operand.tmp 110) (Operand.tmp 120) (Operand.const (Value.bool false)), type := 4, pos := "law.go:111", after := #[{ on := 18, ground := Ground.data }, { on := 28, ground := Ground.data }, { on := 13, ground := Ground.guard }], guard := some (13, false) }) (v := .bool false) rfl (by kernel_rfl) (by kernel_rfl) (by kernel_rfl) (fun _ _ _ h => h) (Or.inl ⟨by rfl, ?_⟩) (by assumption) ?_
        · (intro w hSw; (try dsimp only at hSw); go_simp)
        try simp only [Act.put, List.setIfInBounds_toArray, List.set_cons_zero, List.set_cons_succ]
        refine wpAnyH_take (i := 30) (oi := { dst := some 122, op := Op.pick (Operand.tmp 105) (Operand.const (Value.bool true)) (Operand.tmp 121), type := 4, pos := "law.go:111", after := #[{ on := 13, ground := Ground.data }, { on := 29, ground := Ground.data }], guard := none }) (v := .bool false) rfl (by kernel_rfl) (by kernel_rfl) (by kernel_rfl) (fun _ _ _ h => h) (Or.inl ⟨by rfl, ?_⟩) (by assumption) ?_
        · (intro w hSw; (try dsimp only at hSw); go_simp)
        try simp only [Act.put, List.setIfInBounds_toArray, List.set_cons_zero, List.set_cons_succ]
        refine wpAnyH_done (by kernel_rfl) ?_ _
        have HW4 : Hid (Below wr.heap.size wr w4) := (HBX.out.drew).trans (hb4.mono (HBX.out.drew).size)
        have hx4 := (hb4.block wr.heap.size (by simp)).trans HXB.out
        have d0 := cell_of_row _ _ 0 _ _ _ hx4
        have d1 := cell_of_row _ _ 1 _ _ _ hx4
        have d2 := cell_of_row _ _ 2 _ _ _ hx4
        simp only [List.getElem?_toArray, List.getElem?_cons_zero, List.getElem?_cons_succ] at d0 d1 d2
        clear hb4 hx4 hc1 hf1 hHeld
        go_wp2_with fail
        refine (HDp.out _ HW4.out).mono ?_
        rintro e w5 ⟨rfl, hb5⟩
        have HW5 : Hid (Below wr.heap.size wr w5) := HW4.out.trans (hb5.mono HW4.out.size)
        go_wp2_with fail
        go_roundw
        case rel => exact ⟨k + 1, by omega, by go_num, by rw [HNX.out]; first | done | (congr 1; omega), HBr.out.trans (HW5.out.mono HBr.out.size), HB3r.out.trans (HW5.out.mono HB3r.out.size)⟩
        case measure => simp [intOf]; omega
    · obtain rfl : k = xs.length + ys.length := by omega
      have hall : (xs ++ ys).take (xs.length + ys.length) = xs ++ ys := List.take_of_length_le (by simp)
      rw [hall]
      have hd62 : dL (xs ++ ys) ≤ 61 := dL_le (fun t' ht' => by have := dT_hT t'; have := HHT.out t' ht'; omega)
      obtain ⟨d, hd⟩ : ∃ d, dL (xs ++ ys) = d := ⟨_, rfl⟩
      rw [hd] at hd62
      rw [hd]
      have hlist := HZr.out.list
      have HDp : Hid (∀ W : World, Below wr.heap.size wr W → Calls Tryd.prog 19 #[.agg #[.int .i8 3, .string ⟨#[]⟩, .slice a3 (xs.length + ys.length : Nat) cap3]] W fun e w' => e = .returned (.int .i64 ((d + 1 : Nat) : Int)) ∧ Below W.heap.size W w') := fun W hW => Depth_el (.node 3 [] (xs ++ ys)) (d + 1) _ W (by simp only [dT, if_true]; omega) (hlist.below hW) (by simp only [dT, if_true]; omega)
      have hw1 : IntKind.i64.wrap ((d : Int) + 1) = (d : Int) + 1 := by rw [IntKind.wrap_i64]; omega
      clear hd hlist hall
      go_wp2_with fail
      refine (HDp.out _ (by first | exact Below.refl _ _ | exact (Below.refl _ _).drew)).mono ?_
      rintro e w5 ⟨rfl, hb5⟩
      have HW5 : Hid (Below w.heap.size w w5) := HBr.out.trans (hb5.mono HBr.out.size)
      go_wp2_with fail
      refine (wakes_any _ (HG.out.below HW5.out) (HK.out.below HW5.out HK.out.lt)).mono ?_
      rintro e w6 ⟨rfl, hb6⟩
      go_wp2
      go_ret
      exact ⟨rfl, HW5.out.trans (hb6.mono HW5.out.size)⟩
theorem SexprJoined_walk (a b : ByteArray) (w : World) (hG : Globs w) (hK : Kinds w) :
    Calls Tryd.prog 7 #[.string a, .string b] w fun e w' => e = .returned (.bool true) ∧ Below w.heap.size w w' := by
  by_cases hA : 1000 < a.size
  · have HG := Lib.hid hG
    have HK := Lib.hid hK
    clear hG hK
    go_enter Tryd.func7, Tryd.ntmps7
    go_wp2_with fail
    refine (wakes_any _ HG.out HK.out).mono ?_
    rintro e w1 ⟨rfl, hb1⟩
    go_wp2
    go_ret
    exact ⟨rfl, hb1⟩
  · by_cases hB : 1000 < b.size
    · have HG := Lib.hid hG
      have HK := Lib.hid hK
      clear hG hK
      go_enter Tryd.func7, Tryd.ntmps7
      go_wp2_with fail
      refine (wakes_any _ HG.out HK.out).mono ?_
      rintro e w1 ⟨rfl, hb1⟩
      go_wp2
      go_ret
      exact ⟨rfl, hb1⟩
    · by_cases h1 : (allS a.data.toList).err = 0
      · by_cases h2 : (allS b.data.toList).err = 0
        · exact joined_ok a b w (by omega) (by omega) hG hK h1 h2
        · exact joined_bad a b w (by omega) (by omega) hG hK (.inr ⟨h1, h2⟩)
      · exact joined_bad a b w (by omega) (by omega) hG hK (.inl h1)
theorem SexprJoined_w (w : World) (a : ByteArray) (_ : a.size ≤ maxLen) (b : ByteArray) (_ : b.size ≤ maxLen) (hG : Held w) :
    Calls Tryd.prog 7 #[.string a, .string b] w fun e w' => e = .returned (.bool true) ∧ Below w.heap.size w w' := SexprJoined_walk a b w hG.g hG.k
end Go.Proofs.YthbgigjjmojgfaaDoor
