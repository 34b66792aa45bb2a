/- rup.Core's closure: is what is ahead enough? -/
import Derived.Test.YtggighikemhnfaaDoorZRcB
namespace Go.Proofs.YtggighikemhnfaaDoor.Tm
open Go.RowKit
set_option linter.unusedVariables false
set_option maxRecDepth 100000 in
set_option maxHeartbeats 1000000 in
theorem Core1_any (N B6 B7 : Nat) (rs : List RowD) (a : Option Addr) (c : Nat) (ks : List RowD) (ka : Option Addr) (kc : Nat) (xs gs : List Int) (ga : Option Addr) (gc : Nat) (k : Nat) (V : World) (hG : GC V) (hR : RowsR V rs a c) (hK : RowsR V ks ka kc) (hA : IntsR V gs ga gc) (hgs : xs.map negM = gs)
    (c0 : V.cell? ⟨N, 0, none⟩ = some (.slice a rs.length c)) (c6 : V.cell? ⟨B6, 0, none⟩ = some (.slice ka ks.length kc)) (c7 : V.cell? ⟨B7, 0, none⟩ = some (.slice ga gs.length gc)) (hk : k ≤ rs.length) (hl : rs.length + ks.length ≤ 1000) (hx : ∀ y ∈ rs ++ ks, y.xs.length ≤ 100) (hxl : xs.length ≤ 1000) :
    Calls Tryd.prog 53 #[.int .i64 (k : Int), .pointer (some ⟨N, 0, none⟩), .pointer (some ⟨B6, 0, none⟩), .pointer (some ⟨B7, 0, none⟩)] V fun e w' => (∃ q : Bool, e = .returned (.bool q) ∧ (q = true ↔ Fol ((rs.take k ++ ks).map (·.xs)) xs)) ∧ Below V.heap.size V w' := by
  have hlt : (rs.take k).length = k := by rw [List.length_take]; omega
  have HCc : Hid (Calls Tryd.prog 54 #[.slice (some ⟨V.heap.size, 0, none⟩) 2 2] (V.alloc (.cells #[.slice a k c, .slice ka ks.length kc] 22)).drew fun e w' => ∃ (aa : Option Addr) (cc ml : Nat), e = .returned (.slice aa ml cc) ∧ Hid (RowsR w' (rs.take k ++ ks) aa cc ∧ (rs.take k ++ ks).length = ml ∧ Below V.heap.size V w')) := by
    have hRV := (hR.take k).below (Below.refl _ V).drew
    have hSV := hK.below (Below.refl _ V).drew
    have h2 := rr_two V.drew ⟨rs.take k, a, c⟩ ⟨ks, ka, kc⟩ hRV hSV
    dsimp only at h2
    rw [hlt] at h2
    refine (ConcatR_any [⟨rs.take k, a, c⟩, ⟨ks, ka, kc⟩] _ 2 _ h2 (by simp [flatR]; omega)).mono ?_
    rintro e w' ⟨v, h2, h3, h4⟩
    rw [show flatR [⟨rs.take k, a, c⟩, ⟨ks, ka, kc⟩] = rs.take k ++ ks by simp [flatR]] at h3
    obtain ⟨aa, cc, rfl, _⟩ := own_at h3
    have hb : Below V.heap.size V w' := ((Below.refl _ V).drew.alloc (Nat.le_refl _) _).trans (h4.mono (by simp))
    exact ⟨aa, cc, _, h2, ⟨h3.rows (fun y hy => (List.mem_append.1 hy).elim (fun h => (hR.below hb).ok y (List.mem_of_mem_take h)) ((hK.below hb).ok y)), rfl, hb⟩⟩
  have HCl : Hid (∀ W aa cc ml, RowsR W (rs.take k ++ ks) aa cc → (rs.take k ++ ks).length = ml → Below V.heap.size V W → Calls Tryd.prog 17 #[.slice aa ml cc, .slice ga gs.length gc] W fun e w' => (∃ q : Bool, e = .returned (.bool q) ∧ (q = true ↔ Fol ((rs.take k ++ ks).map (·.xs)) xs)) ∧ Below V.heap.size V w') := fun W aa cc ml h1 h2 h3 => by
    have hh : ∀ y ∈ rs.take k ++ ks, y.xs.length ≤ 100 := fun y hy => hx y ((List.mem_append.1 hy).elim (fun h => List.mem_append_left _ (List.mem_of_mem_take h)) (fun h => List.mem_append_right _ h))
    have hml : (rs.take k ++ ks).length ≤ 1000 := by rw [List.length_append, hlt]; omega
    have h := Closes_any (rs.take k ++ ks) aa cc gs ga gc _ W rfl (hG.below h3) h1 (hA.below h3) hml (by have := flat_hund hh; omega) (by rw [← hgs, List.length_map]; omega)
    rw [h2] at h
    refine h.mono ?_
    rintro e w' ⟨⟨r, k', q, h4, h5, h6⟩, h7⟩
    refine ⟨⟨q, h5, ?_⟩, ball h3 h7⟩
    rw [← hgs] at h4
    rw [fol_of h4, h6]
    simp
  have HSx : Hid (∀ W, Below V.heap.size V W → W.cell? ⟨N, 0, none⟩ = some (.slice a rs.length c) ∧ W.cell? ⟨B6, 0, none⟩ = some (.slice ka ks.length kc) ∧ W.cell? ⟨B7, 0, none⟩ = some (.slice ga gs.length gc) ∧ N < W.heap.size ∧ B6 < W.heap.size ∧ B7 < W.heap.size) := fun W hW => by
    have z0 := World.block_lt_of_cell? V _ c0
    have z6 := World.block_lt_of_cell? V _ c6
    have z7 := World.block_lt_of_cell? V _ c7
    have hz := hW.size
    dsimp only at z0 z6 z7
    exact ⟨(hW.cell (p := ⟨N, 0, none⟩) z0).trans c0, (hW.cell (p := ⟨B6, 0, none⟩) z6).trans c6, (hW.cell (p := ⟨B7, 0, none⟩) z7).trans c7, by omega, by omega, by omega⟩
  have l1 : rs.length ≤ c := hR.le
  have l2 : c ≤ 9223372036854775807 := by have := hR.cap; simp only [maxLen] at this; omega
  have hkc : (k : Int) ≤ (c : Int) := by omega
  clear hG hR hK hA hgs c0 c6 c7 hl hx hlt
  go_enter Tryd.func53, Tryd.ntmps53
  go_wp2_with fail
  refine wp_region_held_drew (S := fun W => W.cell? ⟨N, 0, none⟩ = some (.slice a rs.length c) ∧ W.cell? ⟨B6, 0, none⟩ = some (.slice ka ks.length kc) ∧ W.cell? ⟨B7, 0, none⟩ = some (.slice ga gs.length gc) ∧ N < W.heap.size ∧ B6 < W.heap.size ∧ B7 < W.heap.size) (by kernel_rfl) (HSx.out _ (Below.refl _ V).drew) (fun hHeld => ?_)
  refine tkY 0 (.slice a rs.length c) ?_
  try simp only [kP, kA, kZ, kS]
  refine tkY 1 (.int .i64 (k : Int)) ?_
  try simp only [kP, kA, kZ, kS]
  refine tkY 2 (.slice a k c) ?_
  try simp only [kP, kA, kZ, kS]
  refine tkY 3 (.slice ka ks.length kc) ?_
  try simp only [kP, kA, kZ, kS]
  refine tkY 6 (.slice ga gs.length gc) ?_
  try simp only [kP, kA, kZ, kS]
  refine wpAnyH_ready (rs := [4]) (by kernel_rfl) (by simp) ?_
  refine AllReadyH.cons (o := { dst := some 10, op := Op.buildSlice 91 2 #[(0, Operand.tmp 8), (1, Operand.tmp 9)], type := 91, pos := "rup.go:83", after := #[{ on := 2, ground := Ground.data }, { on := 3, ground := Ground.data }], guard := none }) rfl (fun K hK => ?_) AllReadyH.nil
  go_simp
  refine hK.out _ _ ?_ (fun hHeld => ?_)
  · exact HSx.out _ ((Below.refl _ V).drew.alloc (Nat.le_refl _) _)
  clear hK K
  try simp only [kP, kA, kZ, kS]
  refine wpAnyH_ready (rs := [5]) (by kernel_rfl) (by simp) ?_
  refine AllReadyH.cons (o := { dst := some 11, op := Op.call { callee := Callee.value (Operand.func 54), args := #[Operand.tmp 10], argTypes := #[91] }, type := 22, pos := "rup.go:83", after := #[{ on := 4, ground := Ground.data }], guard := none }) rfl (fun K hK => ?_) AllReadyH.nil
  go_simp
  go_at_call 54
  with_reducible refine HCc.out.mono ?_
  rintro e w1 ⟨a8, c8, ml, rfl, HX1⟩
  go_wp2_with fail
  refine hK.out _ _ ?_ (fun hHeld => ?_)
  · exact HSx.out _ HX1.out.2.2
  clear hK K
  try simp only [kP, kA, kZ, kS]
  have HC1 := Lib.hid (HCl.out w1 a8 c8 ml HX1.out.1 HX1.out.2.1 HX1.out.2.2)
  refine wpAnyH_ready (rs := [7]) (by kernel_rfl) (by simp) ?_
  refine AllReadyH.cons (o := { dst := some 13, op := Op.call { callee := Callee.value (Operand.func 17), args := #[Operand.tmp 11, Operand.tmp 12], argTypes := #[22, 23] }, type := 4, pos := "rup.go:83", after := #[{ on := 5, ground := Ground.data }, { on := 6, ground := Ground.data }, { on := 5, ground := Ground.chain }], guard := none }) rfl (fun K hK => ?_) AllReadyH.nil
  go_simp
  go_at_call 17
  with_reducible refine HC1.out.mono ?_
  rintro e w2 ⟨⟨q, rfl, hq⟩, hb2⟩
  have HQ := Lib.hid hq
  have HB2 := Lib.hid hb2
  clear hq hb2
  go_wp2_with fail
  refine hK.out _ _ ?_ (fun hHeld => ?_)
  · exact HSx.out _ HB2.out
  clear hK K
  try simp only [kP, kA, kZ, kS]
  refine tkY 8 (.bool q) ?_
  try simp only [kP, kA, kZ, kS]
  refine wpAnyH_done (by kernel_rfl) ?_ _
  clear hHeld
  go_wp2_with fail
  go_ret
  exact ⟨⟨q, rfl, HQ.out⟩, HB2.out⟩
end Go.Proofs.YtggighikemhnfaaDoor.Tm
