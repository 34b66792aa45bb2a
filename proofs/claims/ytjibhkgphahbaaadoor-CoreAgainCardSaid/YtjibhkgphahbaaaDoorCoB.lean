/- Core: a maker in memory; fail, number. -/
import Derived.Test.YtjibhkgphahbaaaDoorCoA
import Derived.Test.YtjibhkgphahbaaaDoorOfB
import Derived.BigQuiet
namespace Go.Proofs.YtjibhkgphahbaaaDoor.Tm
open Go.RowKit
set_option linter.unusedVariables false
/-- Some blocks are as they were. -/
structure Kp (P : Nat → Prop) (w w' : World) : Prop where
  os : w'.os = w.os
  tape : w'.tape = w.tape
  output : w'.output = w.output
  size : w.heap.size ≤ w'.heap.size
  keep : ∀ k, P k → w'.heap[k]? = w.heap[k]?
theorem Kp.refl (P : Nat → Prop) (w : World) : Kp P w w := ⟨rfl, rfl, rfl, Nat.le_refl _, fun _ _ => rfl⟩
theorem Kp.trans {P : Nat → Prop} {u v w : World} (h : Kp P u v) (k : Kp P v w) : Kp P u w :=
  ⟨k.os.trans h.os, k.tape.trans h.tape, k.output.trans h.output, Nat.le_trans h.size k.size, fun i hi => (k.keep i hi).trans (h.keep i hi)⟩
theorem Kp.of {P : Nat → Prop} {w w' : World} (h : Below w.heap.size w w') (hP : ∀ k, P k → k < w.heap.size) : Kp P w w' := ⟨h.os, h.tape, h.output, h.size, fun k hk => h.block k (hP k hk)⟩
theorem Kp.less {P Q : Nat → Prop} {w w' : World} (h : Kp P w w') (hq : ∀ k, Q k → P k) : Kp Q w w' := ⟨h.os, h.tape, h.output, h.size, fun k hk => h.keep k (hq k hk)⟩
theorem Kp.drew {P : Nat → Prop} {u w : World} (h : Kp P u w) : Kp P u w.drew := ⟨h.os, h.tape, h.output, h.size, h.keep⟩
theorem Kp.drewN {P : Nat → Prop} {u w : World} (h : Kp P u w) (n : Nat) : Kp P u (w.drewN n) := ⟨h.os, h.tape, h.output, h.size, h.keep⟩
theorem Kp.below {P : Nat → Prop} {n : Nat} {w w' : World} (h : Kp P w w') (hn : n ≤ w.heap.size) (hq : ∀ k, k < n → P k) : Below n w w' := ⟨h.os, h.tape, h.output, h.size, fun k hk => h.keep k (hq k hk)⟩
theorem Kp.cell {P : Nat → Prop} {w w' : World} (h : Kp P w w') {b o : Nat} (hb : P b) : w'.cell? ⟨b, o, none⟩ = w.cell? ⟨b, o, none⟩ := World.cell?_of_block (a := ⟨b, o, none⟩) (h.keep b hb)
def fnV (f : Nat) : Value := .func (.func f) #[] #[]
/-- A maker's cells. -/
def mkC (a : Option Addr) (n c b : Nat) (most e : Int) : Array Value := #[.slice a n c, .map (some b), .int .i64 most,
  fnV 48, fnV 49, fnV 48, fnV 48, fnV 50, fnV 51, fnV 52, fnV 53, fnV 54, fnV 55, fnV 48, fnV 56, fnV 57, fnV 48, .int .i64 e]
theorem MapI.heap {w w' : World} {b : Nat} {l : List NodeA} (h : MapI w b l) (hk : w'.heap[b]? = w.heap[b]?) : MapI w' b l := by
  obtain ⟨D, ⟨es, clock, hb, F, hs, hD⟩, h2, h3⟩ := h
  exact ⟨D, ⟨es, clock, hk.trans hb, F, hs, hD⟩, h2, h3⟩
theorem MapI.lt {w : World} {b : Nat} {l : List NodeA} (h : MapI w b l) : b < w.heap.size := by
  obtain ⟨D, h1, _⟩ := h
  exact h1.lt
/-- A maker lies at block M, its nodes and its map in blocks of its own; P: others' blocks. -/
structure MkX (w : World) (P : Nat → Prop) (M : Nat) (most : Int) (s : MkS) (a : Option Addr) (c b : Nat) : Prop where
  box : w.heap[M]? = some (.cells (mkC a s.l.length c b most s.e) 54 (0, 0))
  own : w.ownsRow 0 36 8 (.slice a s.l.length c) s.l.length (s.l.flatMap nodeC)
  map : MapI w b s.l
  apart : ∀ k, P k → k < w.heap.size ∧ k ≠ M ∧ k ≠ b ∧ (Value.slice a s.l.length c).ownBlock ≠ some k
  inv : MkI s
def MkR (w : World) (P : Nat → Prop) (M : Nat) (most : Int) (s : MkS) : Prop := ∃ a c b, MkX w P M most s a c b
theorem own_lt {w : World} {base size n : Nat} {E : TypeId} {v : Value} {L : List Value} (h : w.ownsRow base E size v n L) {g : Nat} (hg : v.ownBlock = some g) : base ≤ g ∧ g < w.heap.size := by
  rcases h.2 with ⟨rfl, _⟩ | ⟨g', cap, cur, rfl, h1, h2, _⟩
  · cases hg
  · obtain rfl : g' = g := by simpa [Value.ownBlock] using hg
    exact ⟨h1, (Array.getElem?_eq_some_iff.1 h2).1⟩
theorem own_type {w : World} {base size n : Nat} {E : TypeId} {v : Value} {L : List Value} (h : w.ownsRow base E size v n L) {g : Nat} (hg : v.ownBlock = some g) : ∃ cur, w.heap[g]? = some (.cells cur E (0, 0)) := by
  rcases h.2 with ⟨rfl, _⟩ | ⟨g', cap, cur, rfl, h1, h2, _⟩
  · cases hg
  · obtain rfl : g' = g := by simpa [Value.ownBlock] using hg
    exact ⟨cur, h2⟩
theorem own_blk {w w' : World} {base size n : Nat} {E : TypeId} {v : Value} {L : List Value} (h : w.ownsRow base E size v n L) (hk : ∀ g, v.ownBlock = some g → w'.heap[g]? = w.heap[g]?) : w'.ownsRow base E size v n L := by
  refine ⟨h.1, ?_⟩
  rcases h.2 with h1 | ⟨g, cap, cur, rfl, h1, h2, h3⟩
  · exact .inl h1
  · exact .inr ⟨g, cap, cur, rfl, h1, (hk g (by simp [Value.ownBlock])).trans h2, h3⟩
theorem MkX.move {w w' : World} {P P' : Nat → Prop} {M : Nat} {most : Int} {s : MkS} {a : Option Addr} {c b : Nat} (h : MkX w P M most s a c b) (h1 : w'.heap[M]? = w.heap[M]?) (h2 : w'.heap[b]? = w.heap[b]?) (h3 : ∀ g, (Value.slice a s.l.length c).ownBlock = some g → w'.heap[g]? = w.heap[g]?)
    (hp : ∀ k, P' k → k < w'.heap.size ∧ k ≠ M ∧ k ≠ b ∧ (Value.slice a s.l.length c).ownBlock ≠ some k) : MkX w' P' M most s a c b :=
  ⟨h1.trans h.box, own_blk h.own h3, h.map.heap h2, hp, h.inv⟩
theorem MkX.lt {w : World} {P : Nat → Prop} {M : Nat} {most : Int} {s : MkS} {a : Option Addr} {c b : Nat} (h : MkX w P M most s a c b) : M < w.heap.size := (Array.getElem?_eq_some_iff.1 h.box).1
theorem MkX.ne_b {w : World} {P : Nat → Prop} {M : Nat} {most : Int} {s : MkS} {a : Option Addr} {c b : Nat} (h : MkX w P M most s a c b) : M ≠ b := fun e' => by
  obtain ⟨D, ⟨es, clock, hb, _⟩, _⟩ := h.map
  rw [← e', h.box] at hb
  cases hb
theorem MkX.ne_own {w : World} {P : Nat → Prop} {M : Nat} {most : Int} {s : MkS} {a : Option Addr} {c b : Nat} (h : MkX w P M most s a c b) {g : Nat} (hg : (Value.slice a s.l.length c).ownBlock = some g) : g ≠ M ∧ g ≠ b := by
  obtain ⟨cur, hc⟩ := own_type h.own hg
  refine ⟨fun e' => ?_, fun e' => ?_⟩
  · rw [e', h.box] at hc
    exact absurd hc (by simp only [Option.some.injEq, Obj.cells.injEq]; intro h; exact absurd h.2.1 (by decide))
  · obtain ⟨D, ⟨es, clock, hb, _⟩, _⟩ := h.map
    rw [e', hb] at hc
    cases hc
/-- New blocks, none of the maker's turned. -/
theorem MkR.grow {w w' : World} {P : Nat → Prop} {M : Nat} {most : Int} {s : MkS} (h : MkR w P M most s) (hb : Below w.heap.size w w') : MkR w' (fun k => P k ∨ (w.heap.size ≤ k ∧ k < w'.heap.size)) M most s := by
  obtain ⟨a, c, b, hx⟩ := h
  refine ⟨a, c, b, hx.move (hb.block _ hx.lt) (hb.block _ hx.map.lt) (fun g hg => hb.block _ (own_lt hx.own hg).2) (fun k hk => ?_)⟩
  rcases hk with hk | ⟨hk, hk2⟩
  · obtain ⟨h1, h2, h3, h4⟩ := hx.apart k hk
    exact ⟨Nat.lt_of_lt_of_le h1 hb.size, h2, h3, h4⟩
  · refine ⟨hk2, ?_, ?_, fun e => ?_⟩
    · have := hx.lt; omega
    · have := hx.map.lt; omega
    · have := (own_lt hx.own e).2; omega
theorem MkR.less {w : World} {P Q : Nat → Prop} {M : Nat} {most : Int} {s : MkS} (h : MkR w P M most s) (hq : ∀ k, Q k → P k) : MkR w Q M most s := by
  obtain ⟨a, c, b, hx⟩ := h
  exact ⟨a, c, b, hx.box, hx.own, hx.map, fun k hk => hx.apart k (hq k hk), hx.inv⟩
theorem MkR.inv {w : World} {P : Nat → Prop} {M : Nat} {most : Int} {s : MkS} (h : MkR w P M most s) : MkI s := by
  obtain ⟨a, c, b, hx⟩ := h
  exact hx.inv
theorem MkR.below {w w' : World} {P : Nat → Prop} {M : Nat} {most : Int} {s : MkS} (h : MkR w P M most s) (hb : Below w.heap.size w w') : MkR w' P M most s := (h.grow hb).less (fun _ hk => .inl hk)
theorem MkR.drew {w : World} {P : Nat → Prop} {M : Nat} {most : Int} {s : MkS} (h : MkR w P M most s) : MkR w.drew P M most s := by
  obtain ⟨a, c, b, hx⟩ := h
  exact ⟨a, c, b, hx.box, hx.own, hx.map, hx.apart, hx.inv⟩
theorem MkR.same {w w' : World} {P : Nat → Prop} {M : Nat} {most : Int} {s : MkS} (h : MkR w P M most s) (e : w'.heap = w.heap) : MkR w' P M most s := by
  obtain ⟨a, c, b, hx⟩ := h
  exact ⟨a, c, b, hx.move (by rw [e]) (by rw [e]) (fun g _ => by rw [e]) (fun k hk => by rw [e]; exact hx.apart k hk)⟩
theorem MkR.lt {w : World} {P : Nat → Prop} {M : Nat} {most : Int} {s : MkS} (h : MkR w P M most s) {k : Nat} (hk : P k) : k < w.heap.size := by
  obtain ⟨a, c, b, hx⟩ := h
  exact (hx.apart k hk).1
/-- A cell of another's block is written. -/
theorem MkR.set {w : World} {P : Nat → Prop} {M : Nat} {most : Int} {s : MkS} (h : MkR w P M most s) {k o : Nat} (hk : P k) (v : Value) : MkR (w.setCell ⟨k, o, none⟩ v) P M most s := by
  obtain ⟨a, c, b, hx⟩ := h
  obtain ⟨h1, h2, h3, h4⟩ := hx.apart k hk
  refine ⟨a, c, b, hx.move (Below.heap_setCell _ _ _ _ (fun e => h2 e.symm)) (Below.heap_setCell _ _ _ _ (fun e => h3 e.symm)) (fun g hg => Below.heap_setCell _ _ _ _ (fun e => h4 (by rw [hg]; exact congrArg some e))) (fun j hj => ?_)⟩
  obtain ⟨g1, g2, g3, g4⟩ := hx.apart j hj
  exact ⟨by simpa using g1, g2, g3, g4⟩
/-- The cells that are asked. -/
structure MkC (w : World) (M : Nat) (most : Int) (s : MkS) (a : Option Addr) (c b : Nat) : Prop where
  c0 : w.cell? ⟨M, 0, none⟩ = some (.slice a s.l.length c)
  c1 : w.cell? ⟨M, 1, none⟩ = some (.map (some b))
  c2 : w.cell? ⟨M, 2, none⟩ = some (.int .i64 most)
  c17 : w.cell? ⟨M, 17, none⟩ = some (.int .i64 s.e)
  lt : M < w.heap.size
  fz : ∀ i, w.frozen? ⟨M, i, none⟩ = false
theorem MkX.cells {w : World} {P : Nat → Prop} {M : Nat} {most : Int} {s : MkS} {a : Option Addr} {c b : Nat} (h : MkX w P M most s a c b) : MkC w M most s a c b :=
  ⟨(cell_of_row _ _ 0 _ _ _ h.box).trans rfl, (cell_of_row _ _ 1 _ _ _ h.box).trans rfl, (cell_of_row _ _ 2 _ _ _ h.box).trans rfl, (cell_of_row _ _ 17 _ _ _ h.box).trans rfl, h.lt, fun i => by simp [World.frozen?, h.box]⟩
theorem MkX.tab {w : World} {P : Nat → Prop} {M : Nat} {most : Int} {s : MkS} {a : Option Addr} {c b : Nat} (h : MkX w P M most s a c b) : TabR w s.l a c := by
  obtain ⟨a', c', e, ht⟩ := own_tab (base := 0) h.own h.inv.ok
  cases e
  exact ht
/-- The kinds' functions. -/
def kindF (op : Int) : Nat := if op = 1 then 49 else if op = 4 then 50 else if op = 5 then 51 else if op = 6 then 52 else if op = 7 then 53 else if op = 8 then 54 else if op = 9 then 55 else if op = 11 then 56 else if op = 12 then 57 else 48
theorem MkX.kind {w : World} {P : Nat → Prop} {M : Nat} {most : Int} {s : MkS} {a : Option Addr} {c b : Nat} (h : MkX w P M most s a c b) (k : Nat) (hk : k < 14) : w.cell? ⟨M, 3 + k, none⟩ = some (fnV (kindF (k : Int))) := by
  have e := cell_of_row _ _ (3 + k) _ _ _ h.box
  rw [e]
  have hc : k = 0 ∨ k = 1 ∨ k = 2 ∨ k = 3 ∨ k = 4 ∨ k = 5 ∨ k = 6 ∨ k = 7 ∨ k = 8 ∨ k = 9 ∨ k = 10 ∨ k = 11 ∨ k = 12 ∨ k = 13 := by omega
  rcases hc with rfl | rfl | rfl | rfl | rfl | rfl | rfl | rfl | rfl | rfl | rfl | rfl | rfl | rfl <;> rfl
def failM (s : MkS) (e : Int) : MkS := if s.e = 0 then ⟨s.l, e⟩ else s
theorem MkX.setE {w : World} {P : Nat → Prop} {M : Nat} {most : Int} {s : MkS} {a : Option Addr} {c b : Nat} (h : MkX w P M most s a c b) {e : Int} (he : e = 0 ∨ e = 10 ∨ e = 40) : MkX (w.setCell ⟨M, 17, none⟩ (.int .i64 e)) P M most ⟨s.l, e⟩ a c b := by
  have hM : ∀ g, (Value.slice a s.l.length c).ownBlock = some g → g ≠ M := fun g hg e' => by
    obtain ⟨cur, hc⟩ := own_type h.own hg
    rw [e', h.box] at hc
    exact absurd hc (by simp only [Option.some.injEq, Obj.cells.injEq]; intro h; exact absurd h.2.1 (by decide))
  have hb : b ≠ M := fun e' => by
    obtain ⟨D, ⟨es, clock, hb, _⟩, _⟩ := h.map
    rw [e', h.box] at hb
    cases hb
  refine ⟨?_, own_blk h.own (fun g hg => Below.heap_setCell _ _ _ _ (hM g hg)), h.map.heap (Below.heap_setCell _ _ _ _ hb), fun k hk => ?_, ⟨h.inv.may, h.inv.len, h.inv.ok, he⟩⟩
  · exact heap_setCell_same w M 17 _ _ _ h.box
  · obtain ⟨g1, g2, g3, g4⟩ := h.apart k hk
    exact ⟨by simpa using g1, g2, g3, g4⟩
theorem MkX.setKp {w : World} {P : Nat → Prop} {M : Nat} {most : Int} {s : MkS} {a : Option Addr} {c b : Nat} (h : MkX w P M most s a c b) {o : Nat} (v : Value) : Kp P w (w.setCell ⟨M, o, none⟩ v) :=
  ⟨rfl, rfl, rfl, by simp, fun k hk => Below.heap_setCell _ _ _ _ (h.apart k hk).2.1⟩
/-- What a method of a maker answers and makes. -/
def MkPost (P : Nat → Prop) (M : Nat) (most : Int) (w : World) (r : MkS × Int) (e : Ending) (w' : World) : Prop := e = .returned (.int .i64 r.2) ∧ MkR w' P M most r.1 ∧ Kp P w w'
theorem fail_any (P : Nat → Prop) (M : Nat) (most : Int) (s : MkS) (x : Int) (w : World) (h : MkR w P M most s) (hx : x = 10 ∨ x = 40) :
    Calls Tryd.prog 64 #[.pointer (some ⟨M, 0, none⟩), .int .i64 x] w (MkPost P M most w (failM s x, 0)) := by
  obtain ⟨a, c, b, hX⟩ := h
  obtain ⟨m0, m1, m2, m17, mlt, mfz⟩ := hX.cells
  have mz := mfz 17
  by_cases he : s.e = 0
  · have HF : Hid (MkPost P M most w (failM s x, 0) (.returned (.int .i64 0)) (w.setCell ⟨M, 17, none⟩ (.int .i64 x))) := by
      have e : failM s x = ⟨s.l, x⟩ := if_pos he
      refine ⟨rfl, ?_, hX.setKp _⟩
      rw [e]
      exact ⟨a, c, b, hX.setE (by omega)⟩
    have e0 := eq_t he
    clear hX mfz he
    go_enter Tryd.func64, Tryd.ntmps64
    go_wp2
    go_ret
    exact HF.out
  · have HF : Hid (MkPost P M most w (failM s x, 0) (.returned (.int .i64 0)) w) := by
      have e : failM s x = s := if_neg he
      refine ⟨rfl, ?_, Kp.refl _ _⟩
      rw [e]
      exact ⟨a, c, b, hX⟩
    have e0 := eq_f he
    clear hX mfz he
    go_enter Tryd.func64, Tryd.ntmps64
    go_wp2
    go_ret
    exact HF.out
theorem number_any (P : Nat → Prop) (M : Nat) (most : Int) (s : MkS) (n x : Int) (r : MkS × Int) (w : World) (h : MkR w P M most s) (hx : x = 0 ∨ x = 10) (hr : numM s n x = r) :
    Calls Tryd.prog 68 #[.pointer (some ⟨M, 0, none⟩), .int .i64 n, .int .i64 x] w (MkPost P M most w r) := by
  rcases hx with rfl | rfl
  · obtain rfl : (s, n) = r := by rw [← hr]; rfl
    have H := Lib.hid h
    clear h hr
    go_enter Tryd.func68, Tryd.ntmps68
    go_wp2
    go_ret
    exact ⟨rfl, H.out, Kp.refl _ _⟩
  · obtain rfl : (failM s 10, 0) = r := by rw [← hr]; unfold numM failM; rw [if_neg (by decide : ¬ (10 : Int) = 0)]
    have H := Lib.hid (fail_any P M most s 10 w h (.inl rfl))
    clear h hr
    go_enter Tryd.func68, Tryd.ntmps68
    go_wp2_with (go_at_call 64; refine H.out.mono ?_; rintro e w1 ⟨rfl, h1, h2⟩)
    go_ret
    exact ⟨rfl, h1, h2⟩
end Go.Proofs.YtjibhkgphahbaaaDoor.Tm
