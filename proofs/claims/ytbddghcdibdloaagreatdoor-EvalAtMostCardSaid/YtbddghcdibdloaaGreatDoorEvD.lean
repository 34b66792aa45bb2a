/- Package eval's never, kindsIn, and the value of a function's node. -/
import Derived.Test.YtbddghcdibdloaaGreatDoorVaV
import Derived.Test.YtbddghcdibdloaaGreatDoorVaC
namespace Go.Proofs.YtbddghcdibdloaaGreatDoor
open Go.RowKit
set_option linter.unusedVariables false
theorem Add_31 (w : World) : Calls Tryz.prog 33 #[.int .i64 3, .int .i64 1] w fun e w' => e = .returned (.tuple #[.int .i64 4, .int .i64 0]) ∧ Below w.heap.size w w' := by
  have m1 : mayB 3 = true := by decide
  have m2 : mayB 1 = true := by decide
  have m3 : mayB 4 = true := by decide
  have M1 := Lib.hid m1
  have M2 := Lib.hid m2
  have M3 := Lib.hid m3
  clear m1 m2 m3
  go_enter Tryz.func33, Tryz.ntmps33
  go_wp2_with (go_at_call 11; refine (Tm.allMay3_yes _ 3 1 4 _ M1.out M2.out M3.out (by simp) (by simp) (by simp)).mono ?_; rintro e w' ⟨rfl, rfl⟩)
  go_ret2
  exact ⟨rfl, (Below.refl _ _).alloc (Nat.le_refl _) _⟩
/-- A box that holds a function's name. -/
def BxF (w : World) (p f : Nat) : Prop := w.heap[p]? = some (.cells #[.func (.func f) #[] #[]] 73 (0, 0))
theorem BxF.lt {w : World} {p f : Nat} (h : BxF w p f) : p < w.heap.size := (Array.getElem?_eq_some_iff.1 h).1
theorem BxF.below {w w' : World} {p f : Nat} (h : BxF w p f) (hb : Below w.heap.size w w') : BxF w' p f := (hb.block _ h.lt).trans h
theorem BxF.cell {w : World} {p f : Nat} (h : BxF w p f) : w.cell? ⟨p, 0, none⟩ = some (.func (.func f) #[] #[]) := by
  have e0 := cell_of_row _ _ 0 _ _ _ h
  simpa only [List.getElem?_toArray, List.getElem?_cons_zero, List.getElem?_cons_succ] using e0
theorem k1_any (n0 n1 n2 n3 n4 n5 n6 n7 b0 b1 b2 : Value) (w : World) :
    Calls Tryz.prog 20 #[.agg #[n0, n1, n2, n3, n4, n5, n6, n7], .agg #[b0, b1, b2]] w fun e w' => e = .returned (.int .i64 1) ∧ Below w.heap.size w w' := by
  go_enter Tryz.func20, Tryz.ntmps20
  go_wp2
  go_ret
  exact ⟨rfl, ((Below.refl _ _).alloc (Nat.le_refl _) _).alloc (by simp) _⟩
theorem k11_any (n0 n1 n2 n3 n4 n5 n6 b0 b1 b2 : Value) (v : Int) (w : World) :
    Calls Tryz.prog 31 #[.agg #[n0, n1, n2, n3, n4, n5, n6, .int .i64 v], .agg #[b0, b1, b2]] w fun e w' => e = .returned (.int .i64 v) ∧ Below w.heap.size w w' := by
  go_enter Tryz.func31, Tryz.ntmps31
  go_wp2
  go_ret
  exact ⟨rfl, ((Below.refl _ _).alloc (Nat.le_refl _) _).alloc (by simp) _⟩
theorem k12_31 (n0 n1 n2 n3 n4 n5 n6 b1 b2 : Value) (w : World) :
    Calls Tryz.prog 32 #[.agg #[n0, n1, n2, n3, n4, n5, n6, .int .i64 1], .agg #[.int .i64 3, b1, b2]] w fun e w' => e = .returned (.tuple #[.int .i64 4, .int .i64 0]) ∧ Below w.heap.size w w' := by
  have hB : ∀ o1 o2, Below w.heap.size w ((w.alloc o1).alloc o2) := fun o1 o2 => ((Below.refl _ _).alloc (Nat.le_refl _) _).alloc (by simp) _
  go_enter Tryz.func32, Tryz.ntmps32
  go_wp2_with (go_at_call 33; refine (Add_31 _).mono ?_; rintro e w1 ⟨rfl, hb1⟩)
  go_ret2
  exact ⟨rfl, (hB _ _).trans (hb1.mono (by simp; omega))⟩
theorem nev1 (p : Nat) (n0 n1 n2 n3 n4 n5 n6 b0 b1 b2 : Value) (v : Int) (w : World) (hp : BxF w p 20) :
    Calls Tryz.prog 44 #[.agg #[n0, n1, n2, n3, n4, n5, n6, .int .i64 v], .agg #[b0, b1, b2], .pointer (some ⟨p, 0, none⟩)] w fun e w' => e = .returned (.tuple #[.int .i64 1, .int .i64 0]) ∧ Below w.heap.size w w' := by
  have c0 := hp.cell
  have hlt := hp.lt
  have hB : ∀ o1 o2, Below w.heap.size w ((w.alloc o1).alloc o2) := fun o1 o2 => ((Below.refl _ _).alloc (Nat.le_refl _) _).alloc (by simp) _
  clear hp
  go_enter Tryz.func44, Tryz.ntmps44
  go_wp2_with (go_at_call 20; refine (k1_any _ _ _ _ _ _ _ _ _ _ _  _).mono ?_; rintro e w1 ⟨rfl, hb1⟩)
  go_ret2
  exact ⟨rfl, (hB _ _).trans (hb1.mono (by simp; omega))⟩
theorem nev11 (p : Nat) (n0 n1 n2 n3 n4 n5 n6 b0 b1 b2 : Value) (v : Int) (w : World) (hp : BxF w p 31) :
    Calls Tryz.prog 44 #[.agg #[n0, n1, n2, n3, n4, n5, n6, .int .i64 v], .agg #[b0, b1, b2], .pointer (some ⟨p, 0, none⟩)] w fun e w' => e = .returned (.tuple #[.int .i64 v, .int .i64 0]) ∧ Below w.heap.size w w' := by
  have c0 := hp.cell
  have hlt := hp.lt
  have hB : ∀ o1 o2, Below w.heap.size w ((w.alloc o1).alloc o2) := fun o1 o2 => ((Below.refl _ _).alloc (Nat.le_refl _) _).alloc (by simp) _
  clear hp
  go_enter Tryz.func44, Tryz.ntmps44
  go_wp2_with (go_at_call 31; refine (k11_any _ _ _ _ _ _ _  _ _ _ v _).mono ?_; rintro e w1 ⟨rfl, hb1⟩)
  go_ret2
  exact ⟨rfl, (hB _ _).trans (hb1.mono (by simp; omega))⟩
end Go.Proofs.YtbddghcdibdloaaGreatDoor
namespace Go.Proofs.YtbddghcdibdloaaGreatDoor
open Go.RowKit
set_option linter.unusedVariables false
theorem bxF_new (w : World) (f : Nat) (o : Obj) : BxF ((w.alloc (.cells #[.func (.func f) #[] #[]] 73)).alloc o) w.heap.size f :=
  (Below.heap_alloc _ _ _ (by simp)).trans (heap_alloc_new w _)
def NvPost (w : World) (f : Nat) (e : Ending) (w' : World) : Prop := ∃ p, w.heap.size ≤ p ∧ e = .returned (.agg #[.func (.func 44) #[] #[.pointer (some ⟨p, 0, none⟩)]]) ∧ BxF w' p f ∧ Below w.heap.size w w'
theorem kind_size : (Tryz.prog.info? 62).map (·.size) = some 1 := by kernel_rfl
theorem kinds_size : (Tryz.prog.info? 64).map (·.size) = some 14 := by kernel_rfl
theorem never_any (f : Nat) (w : World) : Calls Tryz.prog 19 #[.func (.func f) #[] #[]] w (NvPost w f) := by
  have hx := heap_alloc_new (w.alloc (.cells #[.func (.func f) #[] #[]] 73)) (.cells #[.func (.func 44) #[] #[.pointer (some ⟨w.heap.size, 0, none⟩)]] 62)
  rw [World.size_alloc] at hx
  have HX := Lib.hid hx
  clear hx
  go_enter Tryz.func19, Tryz.ntmps19
  go_wp2
  refine bodyPost_ret (results_cell_row rfl _ _ (w.heap.size + 1) _ _ _ _ rfl HX.out Tryz.underlying62 rfl kind_size) rfl ?_
  exact ⟨w.heap.size, Nat.le_refl _, rfl, bxF_new w f _, ((Below.refl _ _).alloc (Nat.le_refl _) _).alloc (by simp) _⟩
/-- What kindsIn answers: the kinds that are asked for, the others of any boxes. -/
def kdV (p0 p1 p2 p3 p4 p5 p6 p7 p8 p9 p10 p12 bg bw : Nat) : Array Value := #[.func (.func 44) #[] #[.pointer (some ⟨p0, 0, none⟩)], .func (.func 44) #[] #[.pointer (some ⟨p1, 0, none⟩)], .func (.func 44) #[] #[.pointer (some ⟨p2, 0, none⟩)], .func (.func 44) #[] #[.pointer (some ⟨p3, 0, none⟩)], .func (.func 44) #[] #[.pointer (some ⟨p4, 0, none⟩)], .func (.func 44) #[] #[.pointer (some ⟨p5, 0, none⟩)], .func (.func 44) #[] #[.pointer (some ⟨p6, 0, none⟩)], .func (.func 44) #[] #[.pointer (some ⟨p7, 0, none⟩)], .func (.func 44) #[] #[.pointer (some ⟨p8, 0, none⟩)], .func (.func 44) #[] #[.pointer (some ⟨p9, 0, none⟩)], .func (.func 44) #[] #[.pointer (some ⟨p10, 0, none⟩)], .func (.func 32) #[] #[], .func (.func 44) #[] #[.pointer (some ⟨p12, 0, none⟩)], .func (.func 35) #[] #[.pointer (some ⟨bg, 0, none⟩), .pointer (some ⟨bw, 0, none⟩)]]
theorem set14 {w : World} {b : Nat} {t : TypeId} {z v0 v1 v2 v3 v4 v5 v6 v7 v8 v9 v10 v11 v12 v13 : Value} (h : w.heap[b]? = some (.cells #[z, z, z, z, z, z, z, z, z, z, z, z, z, z] t (0, 0))) :
    ((((((((((((((w.setCell ⟨b, 0, none⟩ v0).setCell ⟨b, 1, none⟩ v1).setCell ⟨b, 2, none⟩ v2).setCell ⟨b, 3, none⟩ v3).setCell ⟨b, 4, none⟩ v4).setCell ⟨b, 5, none⟩ v5).setCell ⟨b, 6, none⟩ v6).setCell ⟨b, 7, none⟩ v7).setCell ⟨b, 8, none⟩ v8).setCell ⟨b, 9, none⟩ v9).setCell ⟨b, 10, none⟩ v10).setCell ⟨b, 11, none⟩ v11).setCell ⟨b, 12, none⟩ v12).setCell ⟨b, 13, none⟩ v13).heap[b]? = some (.cells #[v0, v1, v2, v3, v4, v5, v6, v7, v8, v9, v10, v11, v12, v13] t (0, 0)) := by
  simp [World.setCell, Array.getElem?_modify, h]
theorem below_set14 {B b : Nat} {w w' : World} {v0 v1 v2 v3 v4 v5 v6 v7 v8 v9 v10 v11 v12 v13 : Value} (h : Below B w w') (hb : B ≤ b) :
    Below B w ((((((((((((((w'.setCell ⟨b, 0, none⟩ v0).setCell ⟨b, 1, none⟩ v1).setCell ⟨b, 2, none⟩ v2).setCell ⟨b, 3, none⟩ v3).setCell ⟨b, 4, none⟩ v4).setCell ⟨b, 5, none⟩ v5).setCell ⟨b, 6, none⟩ v6).setCell ⟨b, 7, none⟩ v7).setCell ⟨b, 8, none⟩ v8).setCell ⟨b, 9, none⟩ v9).setCell ⟨b, 10, none⟩ v10).setCell ⟨b, 11, none⟩ v11).setCell ⟨b, 12, none⟩ v12).setCell ⟨b, 13, none⟩ v13) :=
  (((((((((((((h.setCell (p := ⟨b, 0, none⟩) hb v0).setCell (p := ⟨b, 1, none⟩) hb v1).setCell (p := ⟨b, 2, none⟩) hb v2).setCell (p := ⟨b, 3, none⟩) hb v3).setCell (p := ⟨b, 4, none⟩) hb v4).setCell (p := ⟨b, 5, none⟩) hb v5).setCell (p := ⟨b, 6, none⟩) hb v6).setCell (p := ⟨b, 7, none⟩) hb v7).setCell (p := ⟨b, 8, none⟩) hb v8).setCell (p := ⟨b, 9, none⟩) hb v9).setCell (p := ⟨b, 10, none⟩) hb v10).setCell (p := ⟨b, 11, none⟩) hb v11).setCell (p := ⟨b, 12, none⟩) hb v12).setCell (p := ⟨b, 13, none⟩) hb v13
theorem set14_other {b c : Nat} {w' : World} {v0 v1 v2 v3 v4 v5 v6 v7 v8 v9 v10 v11 v12 v13 : Value} (hc : c ≠ b) :
    ((((((((((((((w'.setCell ⟨b, 0, none⟩ v0).setCell ⟨b, 1, none⟩ v1).setCell ⟨b, 2, none⟩ v2).setCell ⟨b, 3, none⟩ v3).setCell ⟨b, 4, none⟩ v4).setCell ⟨b, 5, none⟩ v5).setCell ⟨b, 6, none⟩ v6).setCell ⟨b, 7, none⟩ v7).setCell ⟨b, 8, none⟩ v8).setCell ⟨b, 9, none⟩ v9).setCell ⟨b, 10, none⟩ v10).setCell ⟨b, 11, none⟩ v11).setCell ⟨b, 12, none⟩ v12).setCell ⟨b, 13, none⟩ v13).heap[c]? = w'.heap[c]? := by
  repeat rw [Below.heap_setCell _ _ _ c hc]
theorem mid_new' (A : World) (o1 o2 : Obj) : ((A.alloc o1).alloc o2).heap[A.heap.size]? = some o1 := (Below.heap_alloc _ _ _ (by simp)).trans (heap_alloc_new A o1)
def KdPost (w : World) (G W : Array Value) (e : Ending) (w' : World) : Prop := ∃ p0 p1 p2 p3 p4 p5 p6 p7 p8 p9 p10 p12 bg bw : Nat, e = .returned (.agg (kdV p0 p1 p2 p3 p4 p5 p6 p7 p8 p9 p10 p12 bg bw)) ∧ BxF w' p0 20 ∧ BxF w' p10 31 ∧ w'.heap[bg]? = some (.cells G 34 (0, 0)) ∧ w'.heap[bw]? = some (.cells W 51 (0, 0)) ∧ Below w.heap.size w w'
set_option maxRecDepth 100000 in
set_option maxHeartbeats 4000000 in
theorem kindsIn_any (g0 g1 g2 u0 u1 : Value) (w : World) : Calls Tryz.prog 15 #[.agg #[g0, g1, g2], .agg #[u0, u1]] w (KdPost w #[g0, g1, g2] #[u0, u1]) := by
  obtain ⟨W0, hW0⟩ : ∃ W0, W0 = ((w.alloc (.cells #[g0, g1, g2] 34)).alloc (.cells #[u0, u1] 51)).alloc (.cells #[.nilFunc, .nilFunc, .nilFunc, .nilFunc, .nilFunc, .nilFunc, .nilFunc, .nilFunc, .nilFunc, .nilFunc, .nilFunc, .nilFunc, .nilFunc, .nilFunc] 64) := ⟨_, rfl⟩
  have hB0 : Below w.heap.size w W0 := by rw [hW0]; exact (((Below.refl _ _).alloc (Nat.le_refl _) _).alloc (by simp) _).alloc (by simp; omega) _
  have hz0 : W0.heap.size = w.heap.size + 3 := by rw [hW0]; simp
  have hG : W0.heap[w.heap.size]? = some (.cells #[g0, g1, g2] 34 (0, 0)) := by rw [hW0, Below.heap_alloc _ _ _ (by simp; omega)]; exact mid_new' w _ _
  have hU : W0.heap[w.heap.size + 1]? = some (.cells #[u0, u1] 51 (0, 0)) := by
    rw [hW0, Below.heap_alloc _ _ _ (by simp)]
    have := heap_alloc_new (w.alloc (.cells #[g0, g1, g2] 34)) (.cells #[u0, u1] 51)
    simpa only [World.size_alloc] using this
  have hZ : W0.heap[w.heap.size + 1 + 1]? = some (.cells #[.nilFunc, .nilFunc, .nilFunc, .nilFunc, .nilFunc, .nilFunc, .nilFunc, .nilFunc, .nilFunc, .nilFunc, .nilFunc, .nilFunc, .nilFunc, .nilFunc] 64 (0, 0)) := by
    rw [hW0]
    have := heap_alloc_new ((w.alloc (.cells #[g0, g1, g2] 34)).alloc (.cells #[u0, u1] 51)) (.cells #[.nilFunc, .nilFunc, .nilFunc, .nilFunc, .nilFunc, .nilFunc, .nilFunc, .nilFunc, .nilFunc, .nilFunc, .nilFunc, .nilFunc, .nilFunc, .nilFunc] 64)
    simpa only [World.size_alloc] using this
  have HN : Hid (∀ f V, Calls Tryz.prog 19 #[.func (.func f) #[] #[]] V (NvPost V f)) := fun f V => never_any f V
  have HBw := Lib.hid hB0
  have HG := Lib.hid hG
  have HU := Lib.hid hU
  have HZ := Lib.hid hZ
  clear hB0 hG hU hZ
  go_enter Tryz.func15, Tryz.ntmps15
  go_wp2_with fail
  rw [← hW0]
  clear hW0
  refine (HN.out _ _).mono ?_
  rintro e w0 ⟨p0, _, rfl, hp0, hb0⟩
  have HB0 : Hid (Below W0.heap.size W0 w0) := hb0
  have HP0 : Hid (BxF w0 p0 20) := hp0
  clear hp0 hb0
  go_wp2_with fail
  refine (HN.out _ _).mono ?_
  rintro e w1 ⟨p1, _, rfl, hp1, hb1⟩
  have HB1 : Hid (Below W0.heap.size W0 w1) := ball' HB0.out hb1
  have HP0 : Hid (BxF w1 p0 20) := HP0.out.below hb1
  clear hp1 hb1
  go_wp2_with fail
  refine (HN.out _ _).mono ?_
  rintro e w2 ⟨p2, _, rfl, hp2, hb2⟩
  have HB2 : Hid (Below W0.heap.size W0 w2) := ball' HB1.out hb2
  have HP0 : Hid (BxF w2 p0 20) := HP0.out.below hb2
  clear hp2 hb2
  go_wp2_with fail
  refine (HN.out _ _).mono ?_
  rintro e w3 ⟨p3, _, rfl, hp3, hb3⟩
  have HB3 : Hid (Below W0.heap.size W0 w3) := ball' HB2.out hb3
  have HP0 : Hid (BxF w3 p0 20) := HP0.out.below hb3
  clear hp3 hb3
  go_wp2_with fail
  refine (HN.out _ _).mono ?_
  rintro e w4 ⟨p4, _, rfl, hp4, hb4⟩
  have HB4 : Hid (Below W0.heap.size W0 w4) := ball' HB3.out hb4
  have HP0 : Hid (BxF w4 p0 20) := HP0.out.below hb4
  clear hp4 hb4
  go_wp2_with fail
  refine (HN.out _ _).mono ?_
  rintro e w5 ⟨p5, _, rfl, hp5, hb5⟩
  have HB5 : Hid (Below W0.heap.size W0 w5) := ball' HB4.out hb5
  have HP0 : Hid (BxF w5 p0 20) := HP0.out.below hb5
  clear hp5 hb5
  go_wp2_with fail
  refine (HN.out _ _).mono ?_
  rintro e w6 ⟨p6, _, rfl, hp6, hb6⟩
  have HB6 : Hid (Below W0.heap.size W0 w6) := ball' HB5.out hb6
  have HP0 : Hid (BxF w6 p0 20) := HP0.out.below hb6
  clear hp6 hb6
  go_wp2_with fail
  refine (HN.out _ _).mono ?_
  rintro e w7 ⟨p7, _, rfl, hp7, hb7⟩
  have HB7 : Hid (Below W0.heap.size W0 w7) := ball' HB6.out hb7
  have HP0 : Hid (BxF w7 p0 20) := HP0.out.below hb7
  clear hp7 hb7
  go_wp2_with fail
  refine (HN.out _ _).mono ?_
  rintro e w8 ⟨p8, _, rfl, hp8, hb8⟩
  have HB8 : Hid (Below W0.heap.size W0 w8) := ball' HB7.out hb8
  have HP0 : Hid (BxF w8 p0 20) := HP0.out.below hb8
  clear hp8 hb8
  go_wp2_with fail
  refine (HN.out _ _).mono ?_
  rintro e w9 ⟨p9, _, rfl, hp9, hb9⟩
  have HB9 : Hid (Below W0.heap.size W0 w9) := ball' HB8.out hb9
  have HP0 : Hid (BxF w9 p0 20) := HP0.out.below hb9
  clear hp9 hb9
  go_wp2_with fail
  refine (HN.out _ _).mono ?_
  rintro e w10 ⟨p10, _, rfl, hp10, hb10⟩
  have HB10 : Hid (Below W0.heap.size W0 w10) := ball' HB9.out hb10
  have HP0 : Hid (BxF w10 p0 20) := HP0.out.below hb10
  have HP10 : Hid (BxF w10 p10 31) := hp10
  clear hp10 hb10
  go_wp2_with fail
  refine (HN.out _ _).mono ?_
  rintro e w12 ⟨p12, _, rfl, hp12, hb12⟩
  have HB12 : Hid (Below W0.heap.size W0 w12) := ball' HB10.out hb12
  have HP0 : Hid (BxF w12 p0 20) := HP0.out.below hb12
  have HP10 : Hid (BxF w12 p10 31) := HP10.out.below hb12
  clear hp12 hb12
  have hz := (HB12.out.block _ (by omega)).trans HZ.out
  have hlt := (Array.getElem?_eq_some_iff.1 hz).1
  have hfz : ∀ i, w12.frozen? ⟨w.heap.size + 1 + 1, i, none⟩ = false := fun i => by simp [World.frozen?, hz]
  have z0 := cell_of_row _ _ 0 _ _ _ hz
  have z1 := cell_of_row _ _ 1 _ _ _ hz
  have z2 := cell_of_row _ _ 2 _ _ _ hz
  have z3 := cell_of_row _ _ 3 _ _ _ hz
  have z4 := cell_of_row _ _ 4 _ _ _ hz
  have z5 := cell_of_row _ _ 5 _ _ _ hz
  have z6 := cell_of_row _ _ 6 _ _ _ hz
  have z7 := cell_of_row _ _ 7 _ _ _ hz
  have z8 := cell_of_row _ _ 8 _ _ _ hz
  have z9 := cell_of_row _ _ 9 _ _ _ hz
  have z10 := cell_of_row _ _ 10 _ _ _ hz
  have z11 := cell_of_row _ _ 11 _ _ _ hz
  have z12 := cell_of_row _ _ 12 _ _ _ hz
  have z13 := cell_of_row _ _ 13 _ _ _ hz
  simp only [List.getElem?_toArray, List.getElem?_cons_zero, List.getElem?_cons_succ] at z0 z1 z2 z3 z4 z5 z6 z7 z8 z9 z10 z11 z12 z13
  have HZ2 := Lib.hid hz
  clear hz
  go_wp2
  refine bodyPost_ret (results_cell_row rfl _ _ (w.heap.size + 1 + 1) _ _ _ _ rfl (set14 HZ2.out) Tryz.underlying64 rfl kinds_size) rfl ?_
  refine ⟨p0, p1, p2, p3, p4, p5, p6, p7, p8, p9, p10, p12, w.heap.size, w.heap.size + 1, rfl, ?_, ?_, ?_, ?_, below_set14 (HBw.out.trans (HB12.out.mono (by omega))) (by omega)⟩
  · exact (set14_other (by have := HP0.out; intro e; subst e; rw [show w12.heap[w.heap.size + 1 + 1]? = _ from this] at HZ2; have := HZ2.out; simp at this)).trans HP0.out
  · exact (set14_other (by have := HP10.out; intro e; subst e; rw [show w12.heap[w.heap.size + 1 + 1]? = _ from this] at HZ2; have := HZ2.out; simp at this)).trans HP10.out
  · exact (set14_other (by omega)).trans ((HB12.out.block _ (by omega)).trans HG.out)
  · exact (set14_other (by omega)).trans ((HB12.out.block _ (by omega)).trans HU.out)
end Go.Proofs.YtbddghcdibdloaaGreatDoor
