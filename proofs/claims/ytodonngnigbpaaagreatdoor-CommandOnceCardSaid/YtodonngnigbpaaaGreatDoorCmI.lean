/- Package command's readers of one expression. -/
import Derived.Test.YtodonngnigbpaaaGreatDoorCmC
import Derived.Laws.ResultCell
namespace Go.Proofs.YtodonngnigbpaaaGreatDoor
open Go.RowKit
set_option linter.unusedVariables false
/-- What a reader answers of an expression: something that lies in memory, and whether that is what m tells. -/
def ReadP {α : Type} (m : Tree → Option α) (lies : Nat → World → α → Value → Prop) (W : World) (y : Tree) (e : Ending) (w' : World) : Prop :=
  ∃ (b : Bool) (v : Value) (a : α), e = .returned (.tuple #[v, .bool b]) ∧ lies W.heap.size w' a v ∧ (m y = if b = true then some a else none) ∧ Below W.heap.size W w'
def LStr (B : Nat) (w : World) (a : List UInt8) (v : Value) : Prop := v = .string (bytesL a)
def LInt (B : Nat) (w : World) (a : Int) (v : Value) : Prop := v = .int .i64 a
def LPar (B : Nat) (w : World) (a : List UInt8 × List UInt8) (v : Value) : Prop := v = .agg #[.string (bytesL a.1), .string (bytesL a.2)]
def LTree (B : Nat) (w : World) (t : Tree) (v : Value) : Prop := ∃ s : SexV, s.t = t ∧ v = sexV s ∧ NewT B w t (sexV s)
def LRow {α : Type} (C : α → List Value) (B : Nat) (w : World) (l : List α) (v : Value) : Prop := ∃ ad c, v = .slice ad l.length c ∧ l.length ≤ c ∧ c ≤ maxLen ∧ AtI w B w.heap.size (l.flatMap C) ad
def LTrees (B : Nat) (w : World) (l : List Tree) (v : Value) : Prop := ∃ ad c, v = .slice ad l.length c ∧ l.length ≤ c ∧ c ≤ maxLen ∧ RdL w (newBad B w) l ad
theorem res_cell_tmp {P : Program} {fn : Func} {p u : Tmp} {ty : TypeId} (h : fn.results = #[.cell p ty, .tmp u]) (tmps : Array Value) (w : World) (g : Nat) (t : TypeId) (cs : Array Value) (fr : Nat × Nat) (d : TypeDesc)
    (hp : tmps.getD p undef = .pointer (some ⟨g, 0, none⟩)) (hg : w.heap[g]? = some (.cells cs t fr))
    (hu : P.underlying ty = some d) (hd : (match d with | .struct _ | .array _ _ => true | _ => false) = true) (hi : (P.info? ty).map (·.size) = some cs.size) :
    (results fn tmps).run P w = .ok (.tuple #[.agg cs, tmps.getD u undef]) w := by
  rw [results_cell_tmp h, hp]
  simp [asAddr, run_loadVar_row w g t ty cs fr d hg hu hd hi]
/-- The result, stored: it is new. -/
theorem new_store {w1 : World} {B b : Nat} {t : Tree} {s : SexV} {u0 u1 u2 : Value} (hx : w1.heap[b]? = some (.cells #[u0, u1, u2] 35 (0, 0))) (hB : b < B) (hs : NewT B w1 t (sexV s)) :
    (((w1.setCell ⟨b, 0, none⟩ (.int .i8 s.t.kind)).setCell ⟨b, 1, none⟩ (.string (bytesL s.t.text))).setCell ⟨b, 2, none⟩ (.slice s.a s.t.kids.length s.c)).heap[b]? = some (.cells #[.int .i8 s.t.kind, .string (bytesL s.t.text), .slice s.a s.t.kids.length s.c] 35 (0, 0)) ∧
    NewT B (((w1.setCell ⟨b, 0, none⟩ (.int .i8 s.t.kind)).setCell ⟨b, 1, none⟩ (.string (bytesL s.t.text))).setCell ⟨b, 2, none⟩ (.slice s.a s.t.kids.length s.c)) t (sexV s) := by
  refine ⟨set3 hx, hs.keep (fun g hg hlt => ?_)⟩
  have hne : g ≠ b := by omega
  exact ((Below.heap_setCell _ _ _ g hne).trans (Below.heap_setCell _ _ _ g hne)).trans (Below.heap_setCell _ _ _ g hne)
theorem sx_box {w : World} {t : Tree} {v : Value} (hr : Sx w t v) : ∃ a cap, v = .agg #[.int .i8 t.kind, .string (bytesL t.text), .slice a t.kids.length cap] ∧ t.kids.length ≤ cap ∧ cap ≤ maxLen ∧ SxL w t.kids a ∧ Below w.heap.size w (w.alloc (.cells #[.int .i8 t.kind, .string (bytesL t.text), .slice a t.kids.length cap] 35)) := by
  obtain ⟨a, cap, rfl, hl, hc, hs, hk⟩ := hr.parts
  exact ⟨a, cap, rfl, hl, hc, hk, (Below.refl _ _).alloc (Nat.le_refl _) _⟩
set_option maxRecDepth 100000 in
theorem name_any (y : Tree) (yv : Value) (w : World) (hr : Sx w y yv) : Calls Tryz.prog 70 #[yv] w (ReadP symM LStr w y) := by
  obtain ⟨a, cap, rfl, hl, hc, hk, hb⟩ := sx_box hr
  have HB := Lib.hid hb
  clear hr hb hk hl hc
  go_enter Tryz.func70, Tryz.ntmps70
  go_wp2
  go_quiet (fail)
  go_wp2
  go_ret2
  refine ⟨decide (y.kind = 0), _, y.text, ?_, rfl, by unfold symM; by_cases h : y.kind = 0 <;> simp [h], below_drewN HB.out _⟩
  by_cases h : y.kind = 0 <;> simp [h]
set_option maxRecDepth 100000 in
theorem keyword_any (y : Tree) (yv : Value) (w : World) (hr : Sx w y yv) : Calls Tryz.prog 71 #[yv] w (ReadP keyM LStr w y) := by
  obtain ⟨a, cap, rfl, hl, hc, hk, hb⟩ := sx_box hr
  have HB := Lib.hid hb
  clear hr hb hk hl hc
  go_enter Tryz.func71, Tryz.ntmps71
  go_wp2
  go_quiet (fail)
  go_wp2
  go_ret2
  refine ⟨decide (y.kind = 2), _, y.text, ?_, rfl, by unfold keyM; by_cases h : y.kind = 2 <;> simp [h], below_drewN HB.out _⟩
  by_cases h : y.kind = 2 <;> simp [h]
def numB3 (most : Int) (y : Tree) : Bool := decide (y.kind = 1) && decide (parseE y.text = 0) && decide (parseV y.text ≤ most)
theorem numM_b (most : Int) (y : Tree) : numM most y = if numB3 most y = true then some (parseV y.text) else none := by
  unfold numM numB3
  by_cases h1 : y.kind = 1 <;> by_cases h2 : parseE y.text = 0 <;> by_cases h3 : parseV y.text ≤ most <;> simp [h1, h2, h3]
set_option maxRecDepth 100000 in
set_option maxHeartbeats 2000000 in
theorem number_any (most : Int) (y : Tree) (yv : Value) (w : World) (hr : Sx w y yv) : Calls Tryz.prog 102 #[yv, .int .i64 most] w fun e w' => e = .returned (.tuple #[.int .i64 (parseV y.text), .bool (numB3 most y)]) ∧ Below w.heap.size w w' := by
  have hs : y.text.length ≤ maxLen := by obtain ⟨_, _, _, _, _, hs, _⟩ := hr.parts; exact hs
  obtain ⟨a, cap, rfl, hl, hc, hk, hb⟩ := sx_box hr
  have HB := Lib.hid hb
  have hP := fun (W : World) => Parse_any (bytesL y.text) W (by rw [bytesL_size]; simp only [maxLen] at hs; omega)
  rw [bytesL_list] at hP
  have HP := Lib.hid hP
  have HX := Lib.hid (heap_alloc_new w (.cells #[.int .i8 y.kind, .string (bytesL y.text), .slice a y.kids.length cap] 35))
  obtain ⟨W0, hW0⟩ : ∃ W0, W0 = w.alloc (.cells #[.int .i8 y.kind, .string (bytesL y.text), .slice a y.kids.length cap] 35) := ⟨_, rfl⟩
  rw [← hW0] at HX HB
  have HL := Lib.hid hW0
  have hz : w.heap.size < W0.heap.size := by rw [hW0]; simp
  clear hr hb hk hl hc hs hP hW0
  obtain ⟨n, hn⟩ : ∃ n, n = parseV y.text := ⟨_, rfl⟩
  obtain ⟨q, hq⟩ : ∃ q, q = parseE y.text := ⟨_, rfl⟩
  have HN : Hid (numB3 most y = (decide (y.kind = 1) && decide (q = 0) && decide (n ≤ most))) := by show _ = _; unfold numB3; rw [← hn, ← hq]
  rw [HN.out]
  rw [← hn, ← hq] at HP
  rw [← hn]
  clear hn hq HN
  have fin : ∀ b w', Below W0.heap.size W0 w' → b = (decide (y.kind = 1) && decide (q = 0) && decide (n ≤ most)) → (Ending.returned (.tuple #[.int .i64 n, .bool b]) = .returned (.tuple #[.int .i64 n, .bool (decide (y.kind = 1) && decide (q = 0) && decide (n ≤ most))])) ∧ Below w.heap.size w w' := fun b w' hb he => ⟨by rw [he], HB.out.trans (hb.mono (by omega))⟩
  by_cases h1 : y.kind = 1
  · have e1 := eq_true_ (x := y.kind) (y := 1) h1
    have D1 := Lib.hid h1
    clear h1
    by_cases h2 : q = 0
    · have e2 := eq_true_ (x := q) (y := 0) h2
      have D2 := Lib.hid h2
      clear h2
      go_enter Tryz.func102, Tryz.ntmps102
      go_wp2_with (go_at_call 114; rw [← HL.out]; clear HL; refine (HP.out _).mono ?_; rintro e w1 ⟨rfl, hb1⟩; have hx := (hb1.block _ hz).trans HX.out; obtain ⟨c0, c1, c2, fz, hzz⟩ := cells3b hx)
      go_ret2
      exact fin _ _ hb1 (by simp [D1.out, D2.out])
    · have e2 := eq_false (x := q) (y := 0) h2
      have D2 := Lib.hid h2
      clear h2
      go_enter Tryz.func102, Tryz.ntmps102
      go_wp2_with (go_at_call 114; rw [← HL.out]; clear HL; refine (HP.out _).mono ?_; rintro e w1 ⟨rfl, hb1⟩; have hx := (hb1.block _ hz).trans HX.out; obtain ⟨c0, c1, c2, fz, hzz⟩ := cells3b hx)
      go_ret2
      exact fin _ _ hb1 (by simp [D2.out])
  · have e1 := eq_false (x := y.kind) (y := 1) h1
    have D1 := Lib.hid h1
    clear h1
    go_enter Tryz.func102, Tryz.ntmps102
    go_wp2_with (go_at_call 114; rw [← HL.out]; clear HL; refine (HP.out _).mono ?_; rintro e w1 ⟨rfl, hb1⟩; have hx := (hb1.block _ hz).trans HX.out; obtain ⟨c0, c1, c2, fz, hzz⟩ := cells3b hx)
    go_ret2
    exact fin _ _ hb1 (by simp [D1.out])
set_option maxRecDepth 100000 in
theorem isZero_any (y : Tree) (yv : Value) (w : World) (hr : Sx w y yv) : Calls Tryz.prog 73 #[yv] w fun e w' => e = .returned (.bool (numB3 0 y)) ∧ Below w.heap.size w w' := by
  obtain ⟨a, cap, rfl, hl, hc, hk, hb⟩ := sx_box hr
  have HB := Lib.hid hb
  have HC : Hid (Calls Tryz.prog 102 #[.agg #[.int .i8 y.kind, .string (bytesL y.text), .slice a y.kids.length cap], .int .i64 0] (w.alloc (.cells #[.int .i8 y.kind, .string (bytesL y.text), .slice a y.kids.length cap] 35)) fun e w' => e = .returned (.tuple #[.int .i64 (parseV y.text), .bool (numB3 0 y)]) ∧ Below w.heap.size w w') := (number_any 0 y _ _ (hr.below hb)).mono fun e w' h => ⟨h.1, hb.trans (h.2.mono hb.size)⟩
  clear hr hb hk hl hc
  go_enter Tryz.func73, Tryz.ntmps73
  go_wp2_with (go_at_call 102; refine HC.out.mono ?_; rintro e w1 ⟨rfl, hb1⟩)
  go_ret
  exact ⟨rfl, hb1⟩
set_option maxRecDepth 100000 in
theorem marks_any (y : Tree) (yv : Value) (w : World) (hr : Sx w y yv) : Calls Tryz.prog 81 #[yv] w (ReadP (numM 8) LInt w y) := by
  obtain ⟨a, cap, rfl, hl, hc, hk, hb⟩ := sx_box hr
  have HC : Hid (Calls Tryz.prog 102 #[.agg #[.int .i8 y.kind, .string (bytesL y.text), .slice a y.kids.length cap], .int .i64 8] (w.alloc (.cells #[.int .i8 y.kind, .string (bytesL y.text), .slice a y.kids.length cap] 35)) fun e w' => e = .returned (.tuple #[.int .i64 (parseV y.text), .bool (numB3 8 y)]) ∧ Below w.heap.size w w') := (number_any 8 y _ _ (hr.below hb)).mono fun e w' h => ⟨h.1, hb.trans (h.2.mono hb.size)⟩
  clear hr hb hk hl hc
  go_enter Tryz.func81, Tryz.ntmps81
  go_wp2_with (go_at_call 102; refine HC.out.mono ?_; rintro e w1 ⟨rfl, hb1⟩)
  go_ret2
  exact ⟨_, _, _, rfl, rfl, numM_b 8 y, hb1⟩
set_option maxRecDepth 100000 in
theorem conflicts_any (y : Tree) (yv : Value) (w : World) (hr : Sx w y yv) : Calls Tryz.prog 99 #[yv] w (ReadP (numM 1048576) LInt w y) := by
  obtain ⟨a, cap, rfl, hl, hc, hk, hb⟩ := sx_box hr
  have HC : Hid (Calls Tryz.prog 102 #[.agg #[.int .i8 y.kind, .string (bytesL y.text), .slice a y.kids.length cap], .int .i64 1048576] (w.alloc (.cells #[.int .i8 y.kind, .string (bytesL y.text), .slice a y.kids.length cap] 35)) fun e w' => e = .returned (.tuple #[.int .i64 (parseV y.text), .bool (numB3 1048576 y)]) ∧ Below w.heap.size w w') := (number_any 1048576 y _ _ (hr.below hb)).mono fun e w' h => ⟨h.1, hb.trans (h.2.mono hb.size)⟩
  clear hr hb hk hl hc
  go_enter Tryz.func99, Tryz.ntmps99
  go_wp2_with (go_at_call 102; refine HC.out.mono ?_; rintro e w1 ⟨rfl, hb1⟩)
  go_ret2
  exact ⟨_, _, _, rfl, rfl, numM_b 1048576 y, hb1⟩
set_option maxRecDepth 100000 in
theorem term_any (y : Tree) (yv : Value) (w : World) (hr : Sx w y yv) (hrt : RowsT y) : Calls Tryz.prog 111 #[yv] w (ReadP termM LTree w y) := by
  obtain ⟨a, cap, rfl, hl, hc, hk, hb⟩ := sx_box hr
  obtain ⟨W0, hW0⟩ : ∃ W0, W0 = (w.alloc (.cells #[.int .i8 y.kind, .string (bytesL y.text), .slice a y.kids.length cap] 35)).alloc zSx := ⟨_, rfl⟩
  have HL : Hid (W0 = (w.alloc (.cells #[.int .i8 y.kind, .string (bytesL y.text), .slice a y.kids.length cap] 35)).alloc (.cells #[.int .i8 0, .string ⟨#[]⟩, .slice none 0 0] 35)) := hW0
  have hb0 : Below w.heap.size w W0 := by rw [hW0]; exact hb.alloc (by simp) _
  have hY : W0.heap[w.heap.size + 1]? = some zSx := by
    rw [hW0]
    have := heap_alloc_new (w.alloc (.cells #[.int .i8 y.kind, .string (bytesL y.text), .slice a y.kids.length cap] 35)) zSx
    rwa [World.size_alloc] at this
  have hsz : W0.heap.size = w.heap.size + 2 := by rw [hW0]; simp
  have HC := Lib.hid (anew_any y _ W0 (hr.below hb0) hrt)
  have HB0 := Lib.hid hb0
  have HY := Lib.hid hY
  clear hr hb hk hl hc hb0 hY hW0
  go_enter Tryz.func111, Tryz.ntmps111
  go_wp2_with (go_at_call 23; rw [← HL.out]; clear HL; refine HC.out.mono ?_; rintro e w1 ⟨s, hst, rfl, h1, h2, hn, hb1⟩; unfold sexV; have HST := Lib.hid hst; have HN := Lib.hid hn; clear hst hn h1 h2; have hx := (hb1.block _ (by omega)).trans HY.out; obtain ⟨c0, c1, c2, fz, hzz⟩ := cells3b hx)
  obtain ⟨h1, h2⟩ := new_store hx (by omega) HN.out
  refine bodyPost_ret (res_cell_tmp rfl _ _ (w.heap.size + 1) _ _ _ _ rfl (h1) Tryz.underlying35 rfl sexSize3) rfl ?_
  refine ⟨true, _, y, rfl, ⟨s, HST.out, rfl, h2.more (by omega)⟩, rfl, ?_⟩
  exact (((HB0.out.trans (hb1.mono (by omega))).setCell (p := ⟨w.heap.size + 1, 0, none⟩) (by simp) _).setCell (p := ⟨w.heap.size + 1, 1, none⟩) (by simp) _).setCell (p := ⟨w.heap.size + 1, 2, none⟩) (by simp) _
set_option maxRecDepth 100000 in
theorem oneTerm_any (y : Tree) (yv : Value) (w : World) (hr : Sx w y yv) (hrt : RowsT y) : Calls Tryz.prog 79 #[yv] w (ReadP (fun t => some [t]) LTrees w y) := by
  obtain ⟨a, cap, rfl, hl, hc, hk, hb⟩ := sx_box hr
  have HC : Hid (Calls Tryz.prog 23 #[.agg #[.int .i8 y.kind, .string (bytesL y.text), .slice a y.kids.length cap]] (w.alloc (.cells #[.int .i8 y.kind, .string (bytesL y.text), .slice a y.kids.length cap] 35)) (BodyPost (w.alloc (.cells #[.int .i8 y.kind, .string (bytesL y.text), .slice a y.kids.length cap] 35)) y)) := anew_any y _ _ (hr.below hb) hrt
  have HB := Lib.hid hb
  clear hr hb hk hl hc
  go_enter Tryz.func79, Tryz.ntmps79
  go_wp2_with (go_at_call 23; refine HC.out.mono ?_; rintro e w1 ⟨s, hst, rfl, h1, h2, hn, hb1⟩; unfold sexV; have HST := Lib.hid hst; have HN := Lib.hid hn; clear hst hn h1 h2)
  go_ret2
  have hb2 : Below w.heap.size w w1 := HB.out.trans (hb1.mono (by simp))
  have hn2 : NewT w.heap.size (w1.alloc (.cells (sexC s).toArray 35)) s.t (sexV s) := by
    rw [HST.out]
    exact (HN.out.more (by simp)).keep (fun b _ hlt => Below.heap_alloc _ _ _ hlt)
  have hM := heap_alloc_new w1 (.cells (sexC s).toArray 35)
  have hrd := build_rdl (w := w1.alloc (.cells (sexC s).toArray 35)) (bad := newBad w.heap.size (w1.alloc (.cells (sexC s).toArray 35))) hM (by
    rintro (h | h)
    · have := hb2.size; omega
    · exact h ⟨_, _, hM⟩) [s] 0 (fun i v hi => by
      rw [cell_of_row _ _ _ _ _ _ hM, Nat.zero_add, ← Array.getElem?_toList]
      simpa using hi) (fun s' hs' => by
      simp only [List.mem_singleton] at hs'
      subst hs'
      exact hn2)
  refine ⟨true, _, [y], rfl, ⟨some ⟨w1.heap.size, 0, none⟩, 1, rfl, by simp, by simp [maxLen], ?_⟩, rfl, hb2.alloc hb2.size _⟩
  have e : [s].map (·.t) = [y] := by simp [HST.out]
  rw [← e]
  exact hrd
end Go.Proofs.YtodonngnigbpaaaGreatDoor
