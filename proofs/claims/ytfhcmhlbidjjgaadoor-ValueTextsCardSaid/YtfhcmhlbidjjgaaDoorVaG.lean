/- Package value's mayFun, of a function of one Int to Int. -/
import Derived.Test.YtfhcmhlbidjjgaaDoorVaF
namespace Go.Proofs.YtfhcmhlbidjjgaaDoor
open Go.RowKit
set_option linter.unusedVariables false
/-- A row of a function of one Int to Int. -/
structure RowI (r : RowA) : Prop where
  a0 : mayB r.a0 = true
  a1 : r.a1 = 0
  a2 : r.a2 = 0
  val : mayB r.val = true
theorem i64_may {x : Int} (h : mayB x = true) : I64 x := by rw [mayB_true] at h; exact ⟨by omega, by omega⟩
theorem RowI.ok {r : RowA} (h : RowI r) : FrOk r := ⟨i64_may h.a0, by rw [h.a1]; exact ⟨by omega, by omega⟩, by rw [h.a2]; exact ⟨by omega, by omega⟩, i64_may h.val⟩
/-- The rows of a function as they lie. -/
structure RowsR (w : World) (l : List RowA) (a : Option Addr) (c : Nat) : Prop where
  at_ : At w w.heap.size (l.flatMap frC) a
  le : l.length ≤ c
  cap : c ≤ maxLen
  few : l.length ≤ 400
  ok : ∀ r ∈ l, RowI r
  uniq : Uniq l
theorem RowsR.below {w w' : World} {l : List RowA} {a : Option Addr} {c : Nat} (h : RowsR w l a c) (hb : Below w.heap.size w w') : RowsR w' l a c :=
  ⟨(h.at_.below hb).more hb.size, h.le, h.cap, h.few, h.ok, h.uniq⟩
theorem ball' {W0 w1 w2 : World} (h : Below W0.heap.size W0 w1) (h2 : Below w1.heap.size w1 w2) : Below W0.heap.size W0 w2 := h.trans (h2.mono h.size)
set_option maxRecDepth 100000 in
set_option maxHeartbeats 4000000 in
theorem mayFun_one (B : Nat) (l : List RowA) (ra : Option Addr) (rc : Nat) (w : World) (hL : LV w B) (hR : RowsR w l ra rc) :
    Calls Tryd.prog 37 #[.slice (some ⟨B, 0, none⟩) 2 2, .agg #[.string ⟨#[102]⟩, .int .i64 1, .int .i64 1, .int .i64 0, .int .i64 0, .int .i64 1], .agg #[.slice ra l.length rc, .int .i64 0]] w fun e w' => e = .returned (.bool true) ∧ Below w.heap.size w w' := by
  obtain ⟨W0, hW0⟩ : ∃ W0, W0 = ((w.alloc (.cells #[.string ⟨#[102]⟩, .int .i64 1, .int .i64 1, .int .i64 0, .int .i64 0, .int .i64 1] 71)).alloc (.cells #[.slice ra l.length rc, .int .i64 0] 62)) := ⟨_, rfl⟩
  have hB0 : Below w.heap.size w W0 := by rw [hW0]; exact ((Below.refl _ _).alloc (Nat.le_refl _) _).alloc (by simp) _
  have hF : W0.heap[w.heap.size]? = some (.cells #[.string ⟨#[102]⟩, .int .i64 1, .int .i64 1, .int .i64 0, .int .i64 0, .int .i64 1] 71 (0, 0)) := by
    rw [hW0, Below.heap_alloc _ _ _ (by simp)]; exact heap_alloc_new w _
  have hX : W0.heap[w.heap.size + 1]? = some (.cells #[.slice ra l.length rc, .int .i64 0] 62 (0, 0)) := by
    rw [hW0]
    have := heap_alloc_new (w.alloc (.cells #[.string ⟨#[102]⟩, .int .i64 1, .int .i64 1, .int .i64 0, .int .i64 0, .int .i64 1] 71)) (.cells #[.slice ra l.length rc, .int .i64 0] 62)
    simpa only [World.size_alloc] using this
  have hsz : W0.heap.size = w.heap.size + 2 := by rw [hW0]; simp
  have HC6 : Hid (∀ V, Below W0.heap.size W0 V → V.cell? ⟨w.heap.size, 0, none⟩ = some (.string ⟨#[102]⟩) ∧ V.cell? ⟨w.heap.size, 1, none⟩ = some (.int .i64 1) ∧ V.cell? ⟨w.heap.size, 2, none⟩ = some (.int .i64 1) ∧ V.cell? ⟨w.heap.size, 3, none⟩ = some (.int .i64 0) ∧ V.cell? ⟨w.heap.size, 4, none⟩ = some (.int .i64 0) ∧ V.cell? ⟨w.heap.size, 5, none⟩ = some (.int .i64 1)) := fun V hV => by
    have hx := (hV.block _ (by omega)).trans hF
    have e0 := cell_of_row _ _ 0 _ _ _ hx
    have e1 := cell_of_row _ _ 1 _ _ _ hx
    have e2 := cell_of_row _ _ 2 _ _ _ hx
    have e3 := cell_of_row _ _ 3 _ _ _ hx
    have e4 := cell_of_row _ _ 4 _ _ _ hx
    have e5 := cell_of_row _ _ 5 _ _ _ hx
    simp only [List.getElem?_toArray, List.getElem?_cons_zero, List.getElem?_cons_succ] at e0 e1 e2 e3 e4 e5
    exact ⟨e0, e1, e2, e3, e4, e5⟩
  have HC3 : Hid (∀ V, Below W0.heap.size W0 V → V.cell? ⟨w.heap.size, 5, none⟩ = some (.int .i64 1) ∧ V.cell? ⟨w.heap.size + 1, 0, none⟩ = some (.slice ra l.length rc) ∧ V.cell? ⟨w.heap.size + 1, 1, none⟩ = some (.int .i64 0)) := fun V hV => by
    have e0 := (HC6.out V hV).2.2.2.2.2
    have e1 := cell_of_row _ _ 0 _ _ _ ((hV.block _ (by omega)).trans hX)
    have e2 := cell_of_row _ _ 1 _ _ _ ((hV.block _ (by omega)).trans hX)
    simp only [List.getElem?_toArray, List.getElem?_cons_zero, List.getElem?_cons_succ] at e1 e2
    exact ⟨e0, e1, e2⟩
  have HPl : Hid (∀ V, Below W0.heap.size W0 V → Calls Tryd.prog 16 #[.slice ra l.length rc] V fun e w' => ∃ b, e = .returned (.map (some b)) ∧ MapP w' b l ∧ Below W0.heap.size W0 w') := fun V hV => by
    have hR' := (hR.below hB0).below hV
    refine (places_any l ra rc V hR'.at_ (by have := hR.few; omega) hR.le (fun r hr => (hR.ok r hr).ok) hR.uniq).mono ?_
    rintro e w' ⟨hb, b, _, rfl, hm⟩
    exact ⟨b, rfl, hm, ball' hV hb⟩
  have HHas : Hid (∀ v V, mayB v = true → Below W0.heap.size W0 V → Calls Tryd.prog 18 #[.slice (some ⟨B, 0, none⟩) 2 2, .int .i64 1, .int .i64 v] V fun e w' => e = .returned (.bool true) ∧ Below V.heap.size V w') := fun v V hv hV => has_int B v V ((hL.below hB0).below hV) hv
  have HFit : Hid (∀ v V, mayB v = true → Below W0.heap.size W0 V → Calls Tryd.prog 26 #[.slice (some ⟨B, 0, none⟩) 2 2, .agg #[.string ⟨#[102]⟩, .int .i64 1, .int .i64 1, .int .i64 0, .int .i64 0, .int .i64 1], .agg #[.int .i64 v, .int .i64 0, .int .i64 0]] V fun e w' => e = .returned (.bool true) ∧ Below V.heap.size V w') := fun v V hv hV => fit_one B v V ((hL.below hB0).below hV) hv
  have hfew := hR.few
  have gd1 : decide ((400 : Int) < (l.length : Int)) = false := by simp; omega
  have gd2 : decide (400 < l.length) = false := by simp; omega
  have HR := Lib.hid (hR.below hB0)
  have HF := Lib.hid hF
  have HX := Lib.hid hX
  have HB0 := Lib.hid hB0
  have m0 : mayB 0 = true := by decide
  have HM0 := Lib.hid m0
  clear hF hX hB0 hL hR m0
  go_enter Tryd.func37, Tryd.ntmps37
  go_wp2_with fail
  rw [← hW0]
  clear hW0
  obtain ⟨c0, c1, c2⟩ := HC3.out W0 (Below.refl _ _)
  refine wp_region_held_drew (S := fun W => W.cell? ⟨w.heap.size, 5, none⟩ = some (.int .i64 1) ∧ W.cell? ⟨w.heap.size + 1, 0, none⟩ = some (.slice ra l.length rc) ∧ W.cell? ⟨w.heap.size + 1, 1, none⟩ = some (.int .i64 0)) (by kernel_rfl) (HC3.out _ (Below.refl _ _).drew) (fun hHeld => ?_)
  refine wpAnyH_take (i := 0) (oi := { dst := some 9, op := Op.fieldAddr 62 (Operand.tmp 5) 0, type := 0, pos := "value.go:57", after := #[], guard := none }) (v := .pointer (some ⟨w.heap.size + 1, 0, none⟩)) rfl (by kernel_rfl) (by kernel_rfl) (by kernel_rfl) (fun _ _ _ h => h) (Or.inl ⟨by rfl, ?_⟩) (by assumption) ?_
  · (intro w hSw; (try dsimp only at hSw); go_simp)
  try simp only [Act.put, List.setIfInBounds_toArray, List.set_cons_zero, List.set_cons_succ]
  refine wpAnyH_take (i := 1) (oi := { dst := some 10, op := Op.load 60 (Operand.tmp 9), type := 60, pos := "value.go:57", after := #[{ on := 0, ground := Ground.data }], guard := none }) (v := .slice ra l.length rc) rfl (by kernel_rfl) (by kernel_rfl) (by kernel_rfl) (fun _ _ _ h => h) (Or.inl ⟨by rfl, ?_⟩) (by assumption) ?_
  · (intro w hSw; (try dsimp only at hSw); go_simp)
  try simp only [Act.put, List.setIfInBounds_toArray, List.set_cons_zero, List.set_cons_succ]
  refine wpAnyH_take (i := 2) (oi := { dst := some 11, op := Op.call { callee := Callee.builtin Builtin.len, args := #[Operand.tmp 10], argTypes := #[60] }, type := 3, pos := "value.go:57", after := #[{ on := 1, ground := Ground.data }], guard := none }) (v := .int .i64 l.length) rfl (by kernel_rfl) (by kernel_rfl) (by kernel_rfl) (fun _ _ _ h => h) (Or.inl ⟨by rfl, ?_⟩) (by assumption) ?_
  · (intro w hSw; (try dsimp only at hSw); go_simp)
  try simp only [Act.put, List.setIfInBounds_toArray, List.set_cons_zero, List.set_cons_succ]
  refine wpAnyH_take (i := 3) (oi := { dst := some 12, op := Op.binOp BinOp.gtr 3 (Operand.tmp 11) (Operand.const (Value.int IntKind.i64 400)) 3, type := 4, pos := "value.go:57", after := #[{ on := 2, ground := Ground.data }], guard := none }) (v := .bool false) rfl (by kernel_rfl) (by kernel_rfl) (by kernel_rfl) (fun _ _ _ h => h) (Or.inl ⟨by rfl, ?_⟩) (by assumption) ?_
  · (intro w hSw; (try dsimp only at hSw); go_simp)
  try simp only [Act.put, List.setIfInBounds_toArray, List.set_cons_zero, List.set_cons_succ]
  refine wpAnyH_take (i := 4) (oi := { dst := some 13, op := Op.move (Operand.tmp 12), type := 4, pos := "value.go:57", after := #[{ on := 3, ground := Ground.data }], guard := none }) (v := .bool false) rfl (by kernel_rfl) (by kernel_rfl) (by kernel_rfl) (fun _ _ _ h => h) (Or.inl ⟨by rfl, ?_⟩) (by assumption) ?_
  · (intro w hSw; (try dsimp only at hSw); go_simp)
  try simp only [Act.put, List.setIfInBounds_toArray, List.set_cons_zero, List.set_cons_succ]
  refine wpAnyH_take (i := 5) (oi := { dst := some 14, op := Op.fieldAddr 62 (Operand.tmp 5) 0, type := 0, pos := "value.go:57", after := #[{ on := 4, ground := Ground.guard }], guard := some (4, false) }) (v := .pointer (some ⟨w.heap.size + 1, 0, none⟩)) rfl (by kernel_rfl) (by kernel_rfl) (by kernel_rfl) (fun _ _ _ h => h) (Or.inl ⟨by rfl, ?_⟩) (by assumption) ?_
  · (intro w hSw; (try dsimp only at hSw); go_simp)
  try simp only [Act.put, List.setIfInBounds_toArray, List.set_cons_zero, List.set_cons_succ]
  refine wpAnyH_take (i := 6) (oi := { dst := some 15, op := Op.load 60 (Operand.tmp 14), type := 60, pos := "value.go:57", after := #[{ on := 5, ground := Ground.data }, { on := 4, ground := Ground.guard }], guard := some (4, false) }) (v := .slice ra l.length rc) rfl (by kernel_rfl) (by kernel_rfl) (by kernel_rfl) (fun _ _ _ h => h) (Or.inl ⟨by rfl, ?_⟩) (by assumption) ?_
  · (intro w hSw; (try dsimp only at hSw); go_simp)
  try simp only [Act.put, List.setIfInBounds_toArray, List.set_cons_zero, List.set_cons_succ]
  refine wpAnyH_take (i := 9) (oi := { dst := some 18, op := Op.fieldAddr 62 (Operand.tmp 5) 0, type := 0, pos := "value.go:57", after := #[{ on := 4, ground := Ground.guard }], guard := some (4, false) }) (v := .pointer (some ⟨w.heap.size + 1, 0, none⟩)) rfl (by kernel_rfl) (by kernel_rfl) (by kernel_rfl) (fun _ _ _ h => h) (Or.inl ⟨by rfl, ?_⟩) (by assumption) ?_
  · (intro w hSw; (try dsimp only at hSw); go_simp)
  try simp only [Act.put, List.setIfInBounds_toArray, List.set_cons_zero, List.set_cons_succ]
  refine wpAnyH_take (i := 10) (oi := { dst := some 19, op := Op.load 60 (Operand.tmp 18), type := 60, pos := "value.go:57", after := #[{ on := 9, ground := Ground.data }, { on := 4, ground := Ground.guard }], guard := some (4, false) }) (v := .slice ra l.length rc) rfl (by kernel_rfl) (by kernel_rfl) (by kernel_rfl) (fun _ _ _ h => h) (Or.inl ⟨by rfl, ?_⟩) (by assumption) ?_
  · (intro w hSw; (try dsimp only at hSw); go_simp)
  try simp only [Act.put, List.setIfInBounds_toArray, List.set_cons_zero, List.set_cons_succ]
  refine wpAnyH_take (i := 11) (oi := { dst := some 20, op := Op.call { callee := Callee.builtin Builtin.len, args := #[Operand.tmp 19], argTypes := #[60] }, type := 3, pos := "value.go:57", after := #[{ on := 10, ground := Ground.data }, { on := 4, ground := Ground.guard }], guard := some (4, false) }) (v := .int .i64 l.length) rfl (by kernel_rfl) (by kernel_rfl) (by kernel_rfl) (fun _ _ _ h => h) (Or.inl ⟨by rfl, ?_⟩) (by assumption) ?_
  · (intro w hSw; (try dsimp only at hSw); go_simp)
  try simp only [Act.put, List.setIfInBounds_toArray, List.set_cons_zero, List.set_cons_succ]
  refine wpAnyH_ready (rs := [7]) (by kernel_rfl) (by simp) ?_
  refine AllReadyH.cons (o := { dst := some 16, op := Op.call { callee := Callee.value (Operand.func 16), args := #[Operand.tmp 15], argTypes := #[60] }, type := 64, pos := "value.go:57", after := #[{ on := 6, ground := Ground.data }, { on := 4, ground := Ground.chain }, { on := 4, ground := Ground.guard }], guard := some (4, false) }) rfl (fun K hK => ?_) AllReadyH.nil
  go_simp
  go_at_call 16
  refine (HPl.out _ (Below.refl _ _).drew).mono ?_
  rintro e w1 ⟨b, rfl, hm1, hb1⟩
  have hln := hm1.len 3
  go_wp2_with fail
  refine hK.out _ _ ?_ (fun hHeld => ?_)
  · exact HC3.out _ hb1
  clear hK K
  try simp only [Act.put, List.setIfInBounds_toArray, List.set_cons_zero, List.set_cons_succ]
  refine wpAnyH_ready (rs := [8]) (by kernel_rfl) (by simp) ?_
  refine AllReadyH.cons (o := { dst := some 17, op := Op.call { callee := Callee.builtin Builtin.len, args := #[Operand.tmp 16], argTypes := #[64] }, type := 3, pos := "value.go:57", after := #[{ on := 7, ground := Ground.data }, { on := 7, ground := Ground.chain }, { on := 4, ground := Ground.guard }], guard := some (4, false) }) rfl (fun K hK => ?_) AllReadyH.nil
  go_simp
  refine hK.out _ _ ?_ (fun hHeld => ?_)
  · exact HC3.out _ hb1
  clear hK K
  try simp only [Act.put, List.setIfInBounds_toArray, List.set_cons_zero, List.set_cons_succ]
  refine wpAnyH_take (i := 12) (oi := { dst := some 21, op := Op.binOp BinOp.neq 3 (Operand.tmp 17) (Operand.tmp 20) 3, type := 4, pos := "value.go:57", after := #[{ on := 8, ground := Ground.data }, { on := 11, ground := Ground.data }, { on := 4, ground := Ground.guard }], guard := some (4, false) }) (v := .bool false) rfl (by kernel_rfl) (by kernel_rfl) (by kernel_rfl) (fun _ _ _ h => h) (Or.inl ⟨by rfl, ?_⟩) (by assumption) ?_
  · (intro w hSw; (try dsimp only at hSw); go_simp)
  try simp only [Act.put, List.setIfInBounds_toArray, List.set_cons_zero, List.set_cons_succ]
  refine wpAnyH_take (i := 13) (oi := { dst := some 22, op := Op.pick (Operand.tmp 13) (Operand.const (Value.bool true)) (Operand.tmp 21), type := 4, pos := "value.go:57", after := #[{ on := 4, ground := Ground.data }, { on := 12, ground := Ground.data }], guard := none }) (v := .bool false) rfl (by kernel_rfl) (by kernel_rfl) (by kernel_rfl) (fun _ _ _ h => h) (Or.inl ⟨by rfl, ?_⟩) (by assumption) ?_
  · (intro w hSw; (try dsimp only at hSw); go_simp)
  try simp only [Act.put, List.setIfInBounds_toArray, List.set_cons_zero, List.set_cons_succ]
  refine wpAnyH_take (i := 14) (oi := { dst := some 23, op := Op.move (Operand.tmp 22), type := 4, pos := "value.go:57", after := #[{ on := 13, ground := Ground.data }, { on := 8, ground := Ground.chain }], guard := none }) (v := .bool false) rfl (by kernel_rfl) (by kernel_rfl) (by kernel_rfl) (fun _ _ _ h => h) (Or.inl ⟨by rfl, ?_⟩) (by assumption) ?_
  · (intro w hSw; (try dsimp only at hSw); go_simp)
  try simp only [Act.put, List.setIfInBounds_toArray, List.set_cons_zero, List.set_cons_succ]
  refine wpAnyH_take (i := 15) (oi := { dst := some 24, op := Op.move (Operand.tmp 0), type := 67, pos := "value.go:57", after := #[{ on := 14, ground := Ground.guard }], guard := some (14, false) }) (v := .slice (some ⟨B, 0, none⟩) 2 2) rfl (by kernel_rfl) (by kernel_rfl) (by kernel_rfl) (fun _ _ _ h => h) (Or.inl ⟨by rfl, ?_⟩) (by assumption) ?_
  · (intro w hSw; (try dsimp only at hSw); go_simp)
  try simp only [Act.put, List.setIfInBounds_toArray, List.set_cons_zero, List.set_cons_succ]
  refine wpAnyH_take (i := 16) (oi := { dst := some 25, op := Op.fieldAddr 71 (Operand.tmp 4) 3, type := 0, pos := "value.go:57", after := #[{ on := 14, ground := Ground.guard }], guard := some (14, false) }) (v := .pointer (some ⟨w.heap.size, 5, none⟩)) rfl (by kernel_rfl) (by kernel_rfl) (by kernel_rfl) (fun _ _ _ h => h) (Or.inl ⟨by rfl, ?_⟩) (by assumption) ?_
  · (intro w hSw; (try dsimp only at hSw); go_simp)
  try simp only [Act.put, List.setIfInBounds_toArray, List.set_cons_zero, List.set_cons_succ]
  refine wpAnyH_take (i := 17) (oi := { dst := some 26, op := Op.load 3 (Operand.tmp 25), type := 3, pos := "value.go:57", after := #[{ on := 16, ground := Ground.data }, { on := 14, ground := Ground.guard }], guard := some (14, false) }) (v := .int .i64 1) rfl (by kernel_rfl) (by kernel_rfl) (by kernel_rfl) (fun _ _ _ h => h) (Or.inl ⟨by rfl, ?_⟩) (by assumption) ?_
  · (intro w hSw; (try dsimp only at hSw); go_simp)
  try simp only [Act.put, List.setIfInBounds_toArray, List.set_cons_zero, List.set_cons_succ]
  refine wpAnyH_take (i := 18) (oi := { dst := some 27, op := Op.fieldAddr 62 (Operand.tmp 5) 1, type := 0, pos := "value.go:57", after := #[{ on := 14, ground := Ground.guard }], guard := some (14, false) }) (v := .pointer (some ⟨w.heap.size + 1, 1, none⟩)) rfl (by kernel_rfl) (by kernel_rfl) (by kernel_rfl) (fun _ _ _ h => h) (Or.inl ⟨by rfl, ?_⟩) (by assumption) ?_
  · (intro w hSw; (try dsimp only at hSw); go_simp)
  try simp only [Act.put, List.setIfInBounds_toArray, List.set_cons_zero, List.set_cons_succ]
  refine wpAnyH_take (i := 19) (oi := { dst := some 28, op := Op.load 3 (Operand.tmp 27), type := 3, pos := "value.go:57", after := #[{ on := 18, ground := Ground.data }, { on := 14, ground := Ground.guard }], guard := some (14, false) }) (v := .int .i64 0) rfl (by kernel_rfl) (by kernel_rfl) (by kernel_rfl) (fun _ _ _ h => h) (Or.inl ⟨by rfl, ?_⟩) (by assumption) ?_
  · (intro w hSw; (try dsimp only at hSw); go_simp)
  try simp only [Act.put, List.setIfInBounds_toArray, List.set_cons_zero, List.set_cons_succ]
  refine wpAnyH_ready (rs := [20]) (by kernel_rfl) (by simp) ?_
  refine AllReadyH.cons (o := { dst := some 29, op := Op.call { callee := Callee.value (Operand.func 18), args := #[Operand.tmp 24, Operand.tmp 26, Operand.tmp 28], argTypes := #[67, 3, 3] }, type := 4, pos := "value.go:57", after := #[{ on := 15, ground := Ground.data }, { on := 17, ground := Ground.data }, { on := 19, ground := Ground.data }, { on := 14, ground := Ground.chain }, { on := 14, ground := Ground.guard }], guard := some (14, false) }) rfl (fun K hK => ?_) AllReadyH.nil
  go_simp
  go_at_call 18
  refine (HHas.out 0 _ HM0.out hb1).mono ?_
  rintro e w2 ⟨rfl, hb2⟩
  go_wp2_with fail
  refine hK.out _ _ ?_ (fun hHeld => ?_)
  · exact HC3.out _ (ball' hb1 hb2)
  clear hK K
  try simp only [Act.put, List.setIfInBounds_toArray, List.set_cons_zero, List.set_cons_succ]
  refine wpAnyH_take (i := 21) (oi := { dst := some 30, op := Op.unOp UnOp.not 4 (Operand.tmp 29), type := 4, pos := "value.go:57", after := #[{ on := 20, ground := Ground.data }, { on := 14, ground := Ground.guard }], guard := some (14, false) }) (v := .bool false) rfl (by kernel_rfl) (by kernel_rfl) (by kernel_rfl) (fun _ _ _ h => h) (Or.inl ⟨by rfl, ?_⟩) (by assumption) ?_
  · (intro w hSw; (try dsimp only at hSw); go_simp)
  try simp only [Act.put, List.setIfInBounds_toArray, List.set_cons_zero, List.set_cons_succ]
  refine wpAnyH_take (i := 22) (oi := { dst := some 31, op := Op.pick (Operand.tmp 23) (Operand.const (Value.bool true)) (Operand.tmp 30), type := 4, pos := "value.go:57", after := #[{ on := 14, ground := Ground.data }, { on := 21, ground := Ground.data }], guard := none }) (v := .bool false) rfl (by kernel_rfl) (by kernel_rfl) (by kernel_rfl) (fun _ _ _ h => h) (Or.inl ⟨by rfl, ?_⟩) (by assumption) ?_
  · (intro w hSw; (try dsimp only at hSw); go_simp)
  try simp only [Act.put, List.setIfInBounds_toArray, List.set_cons_zero, List.set_cons_succ]
  refine wpAnyH_done (by kernel_rfl) ?_ _
  have HB2 := Lib.hid (ball' hb1 hb2)
  clear hln hHeld hm1 hb1 hb2 c0 c1 c2
  obtain ⟨c0, c1, c2⟩ := HC3.out _ HB2.out
  have hlt0 : w.heap.size + 1 < w2.heap.size := by have := HB2.out.size; omega
  go_wp2
  clear c0 c1 c2
  go_loopw [35] (fun i wr => ∃ k : Nat, k ≤ l.length ∧ i = .int .i64 k ∧ Hid (Below W0.heap.size W0 wr)) (fun i _ => l.length - (intOf i).toNat)
  case atStart => exact ⟨0, Nat.zero_le _, rfl, HB2⟩
  case round =>
    obtain ⟨k, hkl, rfl, HW⟩ := hrel
    by_cases hlt : k < l.length
    · obtain ⟨y, hy⟩ : ∃ y, l[k]? = some y := ⟨_, List.getElem?_eq_getElem hlt⟩
      obtain ⟨g, o, ha, hg, hcell⟩ := (HR.out.below HW.out).at_ (by rw [len_flat frC_len]; omega)
      have q0 := hcell _ _ ((get_flat frC_len l k 0 y hy (by omega)).trans rfl)
      have q1 := hcell _ _ ((get_flat frC_len l k 1 y hy (by omega)).trans rfl)
      have q2 := hcell _ _ ((get_flat frC_len l k 2 y hy (by omega)).trans rfl)
      have q3 := hcell _ _ ((get_flat frC_len l k 3 y hy (by omega)).trans rfl)
      simp only [Nat.add_zero, ← Nat.add_assoc] at q0 q1 q2 q3
      have hyo : RowI y := HR.out.ok y (List.mem_of_getElem? hy)
      clear hcell hy
      obtain ⟨y0, y1, y2, yv⟩ := y
      obtain ⟨h0, h1, h2, h3⟩ := hyo
      simp only at h0 h1 h2 h3 q0 q1 q2 q3
      subst h1
      subst h2
      subst ha
      have HM := Lib.hid (And.intro h0 h3)
      obtain ⟨c0, c1, c2, c3, c4, c5⟩ := HC6.out _ HW.out
      have hltw : w.heap.size < wr.heap.size := by have := HW.out.size; omega
      have HBA : Hid (Below W0.heap.size W0 (wr.alloc (.cells #[.int .i64 y0, .int .i64 0, .int .i64 0, .int .i64 yv] 75))) := HW.out.alloc HW.out.size _
      clear h0 h3
      go_wp2_with (first | (go_at_call 26; refine (HFit.out y0 _ HM.out.1 HBA.out).mono ?_; rintro e w3 ⟨rfl, hb3⟩; obtain ⟨hc3, hf3⟩ := bcell hb3) | (go_at_call 18; refine (HHas.out yv _ HM.out.2 (ball' HBA.out hb3)).mono ?_; rintro e w4 ⟨rfl, hb4⟩))
      go_roundw
      case rel => exact ⟨k + 1, by omega, by go_num, ball' (ball' HBA.out hb3) hb4⟩
      case measure => simp [intOf]; omega
    · obtain rfl : k = l.length := by omega
      go_wp2
      go_ret
      exact ⟨rfl, HB0.out.trans (HW.out.mono (by omega))⟩
end Go.Proofs.YtfhcmhlbidjjgaaDoor
