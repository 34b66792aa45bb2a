/- The document's Check of a signature. -/
import Derived.Test.YtfbjgadgfjnamaaGreatDoorZHdF
import Derived.Test.YtfbjgadgfjnamaaGreatDoorZTmJ
import Derived.Maps.AppendAt
import Derived.Deep.AppendLies
import Derived.Deep.RegionHeldLaw
import Derived.Deep.RegionLaw
namespace Go.Proofs.YtfbjgadgfjnamaaGreatDoor
open Go.RowKit
set_option linter.unusedVariables false
def seqQ {α : Type} (one : List α → α → Bool) (ahead : List α) : List α → Bool
  | [] => true
  | y :: r => one ahead y && seqQ one (ahead ++ [y]) r
theorem seqQ_append {α : Type} (one : List α → α → Bool) : ∀ (l m a : List α), seqQ one a (l ++ m) = (seqQ one a l && seqQ one (a ++ l) m)
  | [], m, a => by simp [seqQ]
  | y :: r, m, a => by
    simp only [List.cons_append, seqQ]
    rw [seqQ_append one r m, List.append_assoc]
    simp only [Bool.and_assoc]; rfl
theorem seqQ_take {α : Type} {one : List α → α → Bool} {l : List α} {k : Nat} {p : α} (h : l[k]? = some p) : seqQ one [] (l.take (k + 1)) = (seqQ one [] (l.take k) && one (l.take k) p) := by
  rw [tk_snoc h, seqQ_append]; simp [seqQ]
theorem seqQ_no {α : Type} {one : List α → α → Bool} {l : List α} {k : Nat} (h : seqQ one [] (l.take k) = false) : seqQ one [] l = false := by
  have := seqQ_append one (l.take k) (l.drop k) []
  rw [List.take_append_drop, h] at this
  rw [this]; rfl
def oneS (ahead : List ByteArray) (s : ByteArray) : Bool := freeQ ahead [] [] s true == 0
def oneF (ss : List ByteArray) (ahead : List FunA) (f : FunA) : Bool := freeQ ss (ahead.map (·.name)) [] f.name false == 0 && funB ss.length f
def oneM (ss : List ByteArray) (fs : List FunA) (ahead : List MacA) (m : MacA) : Bool := freeQ ss (fs.map (·.name)) (ahead.map (·.name)) m.name false == 0 && macQ ss.length m
/-- Whether a signature may be. -/
def checkQ (x : SigA) : Bool := decide (x.sorts.length ≤ 4) && (decide (x.funs.length ≤ 12) && (decide (x.macros.length ≤ 12) && (seqQ oneS [] x.sorts && (seqQ (oneF x.sorts) [] x.funs && seqQ (oneM x.sorts x.funs) [] x.macros))))
theorem info_str : (Tryz.prog.info? 9).map (fun i => (i.zero, i.size, i.bytes)) = some (some (.string ⟨#[]⟩), 1, 16) := by kernel_rfl
theorem info_fun : (Tryz.prog.info? 120).map (fun i => (i.zero, i.size, i.bytes)) = some (some (.agg #[.string ⟨#[]⟩, .int .i64 0, .int .i64 0, .int .i64 0, .int .i64 0, .int .i64 0]), 6, 56) := by kernel_rfl
theorem info_mac : (Tryz.prog.info? 69).map (fun i => (i.zero, i.size, i.bytes)) = some (some (.agg #[.string ⟨#[]⟩, .slice none 0 0, .int .i64 0, .int .i8 0, .string ⟨#[]⟩, .slice none 0 0]), 6, 96) := by kernel_rfl
/-- The signature that Check puts together. -/
structure OB (W1 V : World) (y : SigV) : Prop where
  below : Below W1.heap.size W1 V
  box : V.heap[W1.heap.size]? = some (.cells #[.slice y.sa y.sorts.length y.sc, .slice y.fa y.funs.length y.fc, .slice y.ma y.macs.length y.mc] 26 (0, 0))
  so : V.ownsRow (W1.heap.size + 1) 9 1 (.slice y.sa y.sorts.length y.sc) y.sorts.length (y.sorts.flatMap strC)
  fo : V.ownsRow (W1.heap.size + 1) 120 6 (.slice y.fa y.funs.length y.fc) y.funs.length (y.funs.flatMap funC)
  mo : V.ownsRow (W1.heap.size + 1) 69 6 (.slice y.ma y.macs.length y.mc) y.macs.length (y.macs.flatMap macC)
theorem own_kept {w w' : World} {base size n : Nat} {E : TypeId} {v : Value} {L : List Value} (h : w.ownsRow base E size v n L) (hb : Below w.heap.size w w') : w'.ownsRow base E size v n L := Tm.own_heap h (fun k _ hk => hb.block k hk)
theorem OB.keep {W1 V V' : World} {y : SigV} (h : OB W1 V y) (hb : Below V.heap.size V V') : OB W1 V' y :=
  ⟨h.below.trans (hb.mono h.below.size), (hb.block _ (Array.getElem?_eq_some_iff.1 h.box).1).trans h.box, own_kept h.so hb, own_kept h.fo hb, own_kept h.mo hb⟩
theorem OB.drew {W1 V : World} {y : SigV} (h : OB W1 V y) : OB W1 V.drew y := h.keep (Below.refl _ _).drew
theorem OB.cells {W1 V : World} {y : SigV} (h : OB W1 V y) : V.cell? ⟨W1.heap.size, 0, none⟩ = some (.slice y.sa y.sorts.length y.sc) ∧ V.cell? ⟨W1.heap.size, 1, none⟩ = some (.slice y.fa y.funs.length y.fc) ∧ V.cell? ⟨W1.heap.size, 2, none⟩ = some (.slice y.ma y.macs.length y.mc) ∧ W1.heap.size < V.heap.size ∧ ∀ i, V.frozen? ⟨W1.heap.size, i, none⟩ = false := by
  obtain ⟨a, b, c, d⟩ := sig_cells h.box
  have hb := h.box
  exact ⟨a, b, c, d, fun i => by simp [World.frozen?, hb]⟩
theorem own_to {w : World} {base size n : Nat} {E : TypeId} {a : Option Addr} {c : Nat} {L : List Value} (h : w.ownsRow base E size (.slice a n c) n L) : n ≤ c ∧ c ≤ maxLen ∧ At w w.heap.size L a := by
  obtain ⟨a', c', e, h1, h2, h3, _⟩ := Tm.own_at h
  cases e
  exact ⟨h1, h2, h3⟩
theorem MacOk.up {w w' : World} {x : MacV} (h : MacOk w w.heap.size x) (hb : Below w.heap.size w w') : MacOk w' w'.heap.size x := by
  have := h.below hb
  exact ⟨this.name, this.plen, this.pcap, this.pat.more hb.size, this.pok, this.res, this.body⟩
theorem OB.sig {w W1 V : World} {x y : SigV} (h : OB W1 V y) (hw : Below w.heap.size w W1) (hR : SigR w x) (hs : ∀ s ∈ y.sorts, s ∈ x.sorts) (hf : ∀ f ∈ y.funs, f ∈ x.funs) (hm : ∀ m ∈ y.macs, m ∈ x.macs) : SigR V y := by
  obtain ⟨s1, s2, s3⟩ := own_to h.so
  obtain ⟨f1, f2, f3⟩ := own_to h.fo
  obtain ⟨m1, m2, m3⟩ := own_to h.mo
  have hb : Below w.heap.size w V := hw.trans (h.below.mono hw.size)
  exact ⟨s1, s2, s3, fun s hs' => hR.sok s (hs s hs'), f1, f2, f3, fun f hf' => hR.fok f (hf f hf'), m1, m2, m3, fun m hm' => (hR.mok m (hm m hm')).up hb⟩
/-- A row's block bears its type: rows of unlike types lie apart. -/
theorem own_apart {w : World} {base base' size size' n n' : Nat} {E E' : TypeId} {v v' : Value} {L L' : List Value} (h : w.ownsRow base E size v n L) (h' : w.ownsRow base' E' size' v' n' L') (hne : E ≠ E') {g : Nat} (hg : v.ownBlock = some g) : v'.ownBlock ≠ some g := by
  rcases h.2 with ⟨rfl, _⟩ | ⟨g1, cap, cur, rfl, h1, h2, _⟩
  · cases hg
  · rcases h'.2 with ⟨rfl, _⟩ | ⟨g2, cap', cur', rfl, h1', h2', _⟩
    · exact fun e => by cases e
    · intro e
      have e1 : g1 = g := by simpa [Value.ownBlock] using hg
      have e2 : g2 = g := by simpa [Value.ownBlock] using e
      subst e1 e2
      rw [h2] at h2'
      cases h2'
      exact hne rfl
theorem own_ne {w : World} {base size n : Nat} {E : TypeId} {v : Value} {L : List Value} (h : w.ownsRow base E size v n L) {g : Nat} (hg : v.ownBlock = some g) : base ≤ g ∧ g < w.heap.size := by
  rcases h.2 with ⟨rfl, _⟩ | ⟨g1, cap, cur, rfl, h1, h2, _⟩
  · cases hg
  · have e1 : g1 = g := by simpa [Value.ownBlock] using hg
    subst e1
    exact ⟨h1, (Array.getElem?_eq_some_iff.1 h2).1⟩
theorem own_far {w w' : World} {base size n : Nat} {E : TypeId} {v : Value} {L : List Value} (h : w.ownsRow base E size v n L) (hk : ∀ g, v.ownBlock = some g → w'.heap[g]? = w.heap[g]?) : w'.ownsRow base E size v n L := by
  refine ⟨h.1, ?_⟩
  rcases h.2 with h1 | ⟨g, cap, cur, rfl, h1, h2, h3⟩
  · exact .inl h1
  · exact .inr ⟨g, cap, cur, rfl, h1, (hk g (by simp [Value.ownBlock])).trans h2, h3⟩
theorem ty_sf : (9 : TypeId) ≠ 120 := by decide
theorem ty_sm : (9 : TypeId) ≠ 69 := by decide
theorem ty_fm : (120 : TypeId) ≠ 69 := by decide
/-- What an append upon one of its rows, and the store of it, leave. -/
structure Push (W1 V V2 : World) (o : Obj) (row : Option Nat) (g : Nat) : Prop where
  grown : (V.alloc o).drew.grownBy V2 row
  at_ : row = some g ∨ g = V.heap.size + 1
theorem Push.block {W1 V V2 : World} {o : Obj} {row : Option Nat} {g b : Nat} (h : Push W1 V V2 o row g) (hb : b < V.heap.size) (hne : some b ≠ row) : V2.heap[b]? = V.heap[b]? :=
  (h.grown.block b (by show b < (V.alloc o).heap.size; simp; omega) hne).trans (Below.heap_alloc V o b hb)
theorem Push.size {W1 V V2 : World} {o : Obj} {row : Option Nat} {g : Nat} (h : Push W1 V V2 o row g) : V.heap.size < V2.heap.size := by
  have := h.grown.size
  have h2 : (V.alloc o).drew.heap.size = V.heap.size + 1 := by show (V.alloc o).heap.size = _; simp
  omega
theorem OB.pushed {W1 V V2 : World} {y : SigV} {o : Obj} {row : Option Nat} {g : Nat} (h : OB W1 V y) (hp : Push W1 V V2 o row g) (hne : some W1.heap.size ≠ row) : V2.cell? ⟨W1.heap.size, 0, none⟩ = some (.slice y.sa y.sorts.length y.sc) ∧ V2.cell? ⟨W1.heap.size, 1, none⟩ = some (.slice y.fa y.funs.length y.fc) ∧ V2.cell? ⟨W1.heap.size, 2, none⟩ = some (.slice y.ma y.macs.length y.mc) ∧ W1.heap.size < V2.heap.size ∧ ∀ i, V2.frozen? ⟨W1.heap.size, i, none⟩ = false := by
  have hb := (hp.block (Array.getElem?_eq_some_iff.1 h.box).1 hne).trans h.box
  obtain ⟨a, b, c, d⟩ := sig_cells hb
  exact ⟨a, b, c, d, fun i => by simp [World.frozen?, hb]⟩
theorem pushed_at {V : World} {o : Obj} {g : Nat} (h : g = (V.alloc o).drew.heap.size) : g = V.heap.size + 1 := by rw [h]; show (V.alloc o).heap.size = _; simp
theorem OB.ne_s {W1 V : World} {y : SigV} (h : OB W1 V y) : some W1.heap.size ≠ (Value.slice y.sa y.sorts.length y.sc).ownBlock := fun e => by have := (own_ne h.so e.symm).1; omega
theorem OB.ne_f {W1 V : World} {y : SigV} (h : OB W1 V y) : some W1.heap.size ≠ (Value.slice y.fa y.funs.length y.fc).ownBlock := fun e => by have := (own_ne h.fo e.symm).1; omega
theorem OB.ne_m {W1 V : World} {y : SigV} (h : OB W1 V y) : some W1.heap.size ≠ (Value.slice y.ma y.macs.length y.mc).ownBlock := fun e => by have := (own_ne h.mo e.symm).1; omega
theorem OB.push_s {W1 V V2 : World} {y : SigV} {o : Obj} {g cap : Nat} {e : ByteArray} (h : OB W1 V y) (hp : Push W1 V V2 o (Value.slice y.sa y.sorts.length y.sc).ownBlock g) (hown : V2.ownsRow (W1.heap.size + 1) 9 1 (.slice (some ⟨g, 0, none⟩) (y.sorts.length + 1) cap) (y.sorts.length + 1) (y.sorts.flatMap strC ++ strC e)) : OB W1 (V2.setCell ⟨W1.heap.size, 0, none⟩ (.slice (some ⟨g, 0, none⟩) (y.sorts.length + 1) cap)) { y with sorts := y.sorts ++ [e], sa := some ⟨g, 0, none⟩, sc := cap } := by
  have hz := (Array.getElem?_eq_some_iff.1 h.box).1
  have hne : some W1.heap.size ≠ (Value.slice y.sa y.sorts.length y.sc).ownBlock := fun e' => by have := (own_ne h.so e'.symm).1; omega
  have hgne : g ≠ W1.heap.size := by
    rcases hp.at_ with e' | e'
    · have := (own_ne h.so e').1; omega
    · omega
  have hbox := (hp.block hz hne).trans h.box
  have hkeep : ∀ b, b ≠ W1.heap.size → (V2.setCell ⟨W1.heap.size, 0, none⟩ (.slice (some ⟨g, 0, none⟩) (y.sorts.length + 1) cap)).heap[b]? = V2.heap[b]? := fun b hb => Below.heap_setCell _ _ _ _ hb
  have hlen : (y.sorts ++ [e]).length = y.sorts.length + 1 := by simp
  have hfl : (y.sorts ++ [e]).flatMap strC = y.sorts.flatMap strC ++ strC e := by simp
  have hB : Below W1.heap.size W1 (V2.setCell ⟨W1.heap.size, 0, none⟩ (.slice (some ⟨g, 0, none⟩) (y.sorts.length + 1) cap)) :=
    ⟨hp.grown.os.trans h.below.os, hp.grown.tape.trans h.below.tape, hp.grown.output.trans h.below.output, by have := hp.size; have := h.below.size; simp; omega, fun k hk => (hkeep k (by omega)).trans ((hp.block (by have := h.below.size; omega) (fun e' => by have := (own_ne h.so e'.symm).1; omega)).trans (h.below.block k hk))⟩
  have hnew := Tm.own_heap (w' := (V2.setCell ⟨W1.heap.size, 0, none⟩ (.slice (some ⟨g, 0, none⟩) (y.sorts.length + 1) cap))) hown (fun k hk _ => hkeep k (by omega))
  have hf := own_far (w' := (V2.setCell ⟨W1.heap.size, 0, none⟩ (.slice (some ⟨g, 0, none⟩) (y.sorts.length + 1) cap))) h.fo (fun k hk => (hkeep k (by have := (own_ne h.fo hk).1; omega)).trans (hp.block (own_ne h.fo hk).2 (fun e' => own_apart h.fo h.so ty_sf.symm hk e'.symm)))
  have hm := own_far (w' := (V2.setCell ⟨W1.heap.size, 0, none⟩ (.slice (some ⟨g, 0, none⟩) (y.sorts.length + 1) cap))) h.mo (fun k hk => (hkeep k (by have := (own_ne h.mo hk).1; omega)).trans (hp.block (own_ne h.mo hk).2 (fun e' => own_apart h.mo h.so ty_sm.symm hk e'.symm)))
  refine ⟨hB, ?_, (by show World.ownsRow _ _ _ _ _ _ _; rw [hlen, hfl]; exact hnew), hf, hm⟩
  show _ = some (Obj.cells #[.slice (some ⟨g, 0, none⟩) (y.sorts ++ [e]).length cap, .slice y.fa y.funs.length y.fc, .slice y.ma y.macs.length y.mc] 26 (0, 0))
  rw [hlen]
  exact heap_setCell_same V2 W1.heap.size 0 _ _ _ hbox
theorem OB.push_f {W1 V V2 : World} {y : SigV} {o : Obj} {g cap : Nat} {e : FunA} (h : OB W1 V y) (hp : Push W1 V V2 o (Value.slice y.fa y.funs.length y.fc).ownBlock g) (hown : V2.ownsRow (W1.heap.size + 1) 120 6 (.slice (some ⟨g, 0, none⟩) (y.funs.length + 1) cap) (y.funs.length + 1) (y.funs.flatMap funC ++ funC e)) : OB W1 (V2.setCell ⟨W1.heap.size, 1, none⟩ (.slice (some ⟨g, 0, none⟩) (y.funs.length + 1) cap)) { y with funs := y.funs ++ [e], fa := some ⟨g, 0, none⟩, fc := cap } := by
  have hz := (Array.getElem?_eq_some_iff.1 h.box).1
  have hne : some W1.heap.size ≠ (Value.slice y.fa y.funs.length y.fc).ownBlock := fun e' => by have := (own_ne h.fo e'.symm).1; omega
  have hgne : g ≠ W1.heap.size := by
    rcases hp.at_ with e' | e'
    · have := (own_ne h.fo e').1; omega
    · omega
  have hbox := (hp.block hz hne).trans h.box
  have hkeep : ∀ b, b ≠ W1.heap.size → (V2.setCell ⟨W1.heap.size, 1, none⟩ (.slice (some ⟨g, 0, none⟩) (y.funs.length + 1) cap)).heap[b]? = V2.heap[b]? := fun b hb => Below.heap_setCell _ _ _ _ hb
  have hlen : (y.funs ++ [e]).length = y.funs.length + 1 := by simp
  have hfl : (y.funs ++ [e]).flatMap funC = y.funs.flatMap funC ++ funC e := by simp
  have hB : Below W1.heap.size W1 (V2.setCell ⟨W1.heap.size, 1, none⟩ (.slice (some ⟨g, 0, none⟩) (y.funs.length + 1) cap)) :=
    ⟨hp.grown.os.trans h.below.os, hp.grown.tape.trans h.below.tape, hp.grown.output.trans h.below.output, by have := hp.size; have := h.below.size; simp; omega, fun k hk => (hkeep k (by omega)).trans ((hp.block (by have := h.below.size; omega) (fun e' => by have := (own_ne h.fo e'.symm).1; omega)).trans (h.below.block k hk))⟩
  have hnew := Tm.own_heap (w' := (V2.setCell ⟨W1.heap.size, 1, none⟩ (.slice (some ⟨g, 0, none⟩) (y.funs.length + 1) cap))) hown (fun k hk _ => hkeep k (by omega))
  have hs := own_far (w' := (V2.setCell ⟨W1.heap.size, 1, none⟩ (.slice (some ⟨g, 0, none⟩) (y.funs.length + 1) cap))) h.so (fun k hk => (hkeep k (by have := (own_ne h.so hk).1; omega)).trans (hp.block (own_ne h.so hk).2 (fun e' => own_apart h.so h.fo ty_sf hk e'.symm)))
  have hm := own_far (w' := (V2.setCell ⟨W1.heap.size, 1, none⟩ (.slice (some ⟨g, 0, none⟩) (y.funs.length + 1) cap))) h.mo (fun k hk => (hkeep k (by have := (own_ne h.mo hk).1; omega)).trans (hp.block (own_ne h.mo hk).2 (fun e' => own_apart h.mo h.fo ty_fm.symm hk e'.symm)))
  refine ⟨hB, ?_, hs, (by show World.ownsRow _ _ _ _ _ _ _; rw [hlen, hfl]; exact hnew), hm⟩
  show _ = some (Obj.cells #[.slice y.sa y.sorts.length y.sc, .slice (some ⟨g, 0, none⟩) (y.funs ++ [e]).length cap, .slice y.ma y.macs.length y.mc] 26 (0, 0))
  rw [hlen]
  exact heap_setCell_same V2 W1.heap.size 1 _ _ _ hbox
theorem OB.push_m {W1 V V2 : World} {y : SigV} {o : Obj} {g cap : Nat} {e : MacV} (h : OB W1 V y) (hp : Push W1 V V2 o (Value.slice y.ma y.macs.length y.mc).ownBlock g) (hown : V2.ownsRow (W1.heap.size + 1) 69 6 (.slice (some ⟨g, 0, none⟩) (y.macs.length + 1) cap) (y.macs.length + 1) (y.macs.flatMap macC ++ macC e)) : OB W1 (V2.setCell ⟨W1.heap.size, 2, none⟩ (.slice (some ⟨g, 0, none⟩) (y.macs.length + 1) cap)) { y with macs := y.macs ++ [e], ma := some ⟨g, 0, none⟩, mc := cap } := by
  have hz := (Array.getElem?_eq_some_iff.1 h.box).1
  have hne : some W1.heap.size ≠ (Value.slice y.ma y.macs.length y.mc).ownBlock := fun e' => by have := (own_ne h.mo e'.symm).1; omega
  have hgne : g ≠ W1.heap.size := by
    rcases hp.at_ with e' | e'
    · have := (own_ne h.mo e').1; omega
    · omega
  have hbox := (hp.block hz hne).trans h.box
  have hkeep : ∀ b, b ≠ W1.heap.size → (V2.setCell ⟨W1.heap.size, 2, none⟩ (.slice (some ⟨g, 0, none⟩) (y.macs.length + 1) cap)).heap[b]? = V2.heap[b]? := fun b hb => Below.heap_setCell _ _ _ _ hb
  have hlen : (y.macs ++ [e]).length = y.macs.length + 1 := by simp
  have hfl : (y.macs ++ [e]).flatMap macC = y.macs.flatMap macC ++ macC e := by simp
  have hB : Below W1.heap.size W1 (V2.setCell ⟨W1.heap.size, 2, none⟩ (.slice (some ⟨g, 0, none⟩) (y.macs.length + 1) cap)) :=
    ⟨hp.grown.os.trans h.below.os, hp.grown.tape.trans h.below.tape, hp.grown.output.trans h.below.output, by have := hp.size; have := h.below.size; simp; omega, fun k hk => (hkeep k (by omega)).trans ((hp.block (by have := h.below.size; omega) (fun e' => by have := (own_ne h.mo e'.symm).1; omega)).trans (h.below.block k hk))⟩
  have hnew := Tm.own_heap (w' := (V2.setCell ⟨W1.heap.size, 2, none⟩ (.slice (some ⟨g, 0, none⟩) (y.macs.length + 1) cap))) hown (fun k hk _ => hkeep k (by omega))
  have hs := own_far (w' := (V2.setCell ⟨W1.heap.size, 2, none⟩ (.slice (some ⟨g, 0, none⟩) (y.macs.length + 1) cap))) h.so (fun k hk => (hkeep k (by have := (own_ne h.so hk).1; omega)).trans (hp.block (own_ne h.so hk).2 (fun e' => own_apart h.so h.mo ty_sm hk e'.symm)))
  have hf := own_far (w' := (V2.setCell ⟨W1.heap.size, 2, none⟩ (.slice (some ⟨g, 0, none⟩) (y.macs.length + 1) cap))) h.fo (fun k hk => (hkeep k (by have := (own_ne h.fo hk).1; omega)).trans (hp.block (own_ne h.fo hk).2 (fun e' => own_apart h.fo h.mo ty_fm hk e'.symm)))
  refine ⟨hB, ?_, hs, hf, (by show World.ownsRow _ _ _ _ _ _ _; rw [hlen, hfl]; exact hnew)⟩
  show _ = some (Obj.cells #[.slice y.sa y.sorts.length y.sc, .slice y.fa y.funs.length y.fc, .slice (some ⟨g, 0, none⟩) (y.macs ++ [e]).length cap] 26 (0, 0))
  rw [hlen]
  exact heap_setCell_same V2 W1.heap.size 2 _ _ _ hbox
set_option maxRecDepth 100000 in
set_option maxHeartbeats 8000000 in
theorem RSigCheck_aux (ss : List ByteArray) (sa : Option Addr) (sc : Nat) (fs : List FunA) (fa : Option Addr) (fc : Nat) (ms : List MacV) (ma : Option Addr) (mc : Nat) (r : Bool) (w : World) (hR : SigR w ⟨ss, sa, sc, fs, fa, fc, ms, ma, mc⟩) (hr : checkQ ⟨ss, fs, ms.map (·.m)⟩ = r) :
    Calls Tryz.prog 58 #[.agg #[.slice sa ss.length sc, .slice fa fs.length fc, .slice ma ms.length mc]] w fun e w' => e = .returned (.int .i64 (if r = true then 0 else 2)) ∧ Below w.heap.size w w' := by
  obtain ⟨W1, hW1⟩ : ∃ W1, W1 = w.alloc (.cells #[.slice sa ss.length sc, .slice fa fs.length fc, .slice ma ms.length mc] 26) := ⟨_, rfl⟩
  have hB1 : Below w.heap.size w W1 := by rw [hW1]; exact (Below.refl _ w).alloc (Nat.le_refl _) _
  have HB1 := Lib.hid hB1
  have hX1 : W1.heap[w.heap.size]? = some (.cells #[.slice sa ss.length sc, .slice fa fs.length fc, .slice ma ms.length mc] 26 (0, 0)) := by rw [hW1]; exact heap_alloc_new w _
  have HX : Hid (∀ V, Below W1.heap.size W1 V → V.cell? ⟨w.heap.size, 0, none⟩ = some (.slice sa ss.length sc) ∧ V.cell? ⟨w.heap.size, 1, none⟩ = some (.slice fa fs.length fc) ∧ V.cell? ⟨w.heap.size, 2, none⟩ = some (.slice ma ms.length mc) ∧ w.heap.size < V.heap.size) := fun V hV => sig_cells ((hV.block _ (Array.getElem?_eq_some_iff.1 hX1).1).trans hX1)
  have HR := Lib.hid hR
  unfold checkQ at hr
  simp only [List.length_map] at hr
  obtain ⟨t0, t1, t2, tz⟩ := HX.out _ (Below.refl _ _)
  by_cases l4 : ss.length ≤ 4
  rotate_left
  · obtain rfl : r = false := by rw [← hr, decide_eq_false l4]; rfl
    have d0 : (4 : Int) < (ss.length : Int) := by omega
    clear hr hR hX1
    go_enter Tryz.func58, Tryz.ntmps58
    go_wp2
    rw [← hW1]
    go_ret
    exact ⟨rfl, HB1.out⟩
  rw [decide_eq_true l4, Bool.true_and] at hr
  have d0 : ¬ (4 : Int) < (ss.length : Int) := by omega
  by_cases l12 : fs.length ≤ 12
  rotate_left
  · obtain rfl : r = false := by rw [← hr, decide_eq_false l12]; rfl
    have d1 : (12 : Int) < (fs.length : Int) := by omega
    clear hr hR hX1
    go_enter Tryz.func58, Tryz.ntmps58
    go_wp2
    rw [← hW1]
    go_ret
    exact ⟨rfl, HB1.out⟩
  rw [decide_eq_true l12, Bool.true_and] at hr
  have d1 : ¬ (12 : Int) < (fs.length : Int) := by omega
  by_cases m12 : ms.length ≤ 12
  rotate_left
  · obtain rfl : r = false := by rw [← hr, decide_eq_false m12]; rfl
    have d2 : (12 : Int) < (ms.length : Int) := by omega
    clear hr hR hX1
    go_enter Tryz.func58, Tryz.ntmps58
    go_wp2
    rw [← hW1]
    go_ret
    exact ⟨rfl, HB1.out⟩
  rw [decide_eq_true m12, Bool.true_and] at hr
  have d2 : ¬ (12 : Int) < (ms.length : Int) := by omega
  have HRr := Lib.hid hr
  have HO1 : Hid (OB W1 (W1.alloc (.cells #[.slice none 0 0, .slice none 0 0, .slice none 0 0] 26)) ⟨[], none, 0, [], none, 0, [], none, 0⟩) :=
    ⟨(Below.refl _ W1).alloc (Nat.le_refl _) _, heap_alloc_new W1 _, World.ownsRow_nil _ _ _ _, World.ownsRow_nil _ _ _ _, World.ownsRow_nil _ _ _ _⟩
  have hO : W1.heap.size = w.heap.size + 1 := by rw [hW1]; simp
  obtain ⟨is0, his, hs0, hs1, hs2⟩ := info_parts info_str
  obtain ⟨if0, hif, hf0, hf1, hf2⟩ := info_parts info_fun
  obtain ⟨im0, him, hm0, hm1, hm2⟩ := info_parts info_mac
  clear hr hR hX1
  go_enter Tryz.func58, Tryz.ntmps58
  go_wp2
  rw [← hW1]
  rw [← hO]
  have hOl : w.heap.size < W1.heap.size := by omega
  clear hW1 t0 t1 t2 tz hO
  obtain ⟨W2, hW2⟩ : ∃ W2, W2 = W1.alloc (.cells #[.slice none 0 0, .slice none 0 0, .slice none 0 0] 26) := ⟨_, rfl⟩
  rw [← hW2] at HO1 ⊢
  clear hW2
  go_loopw [4] (fun i wr => ∃ (k : Nat) (oa : Option Addr) (oc : Nat), k ≤ ss.length ∧ i = .int .i64 k ∧ Hid (seqQ oneS [] (ss.take k) = true) ∧ Hid (OB W1 wr ⟨ss.take k, oa, oc, [], none, 0, [], none, 0⟩)) (fun i _ => ss.length - (intOf i).toNat)
  case atStart => exact ⟨0, none, 0, Nat.zero_le _, rfl, by show _ = _; rw [List.take_zero]; rfl, HO1⟩
  case round =>
    obtain ⟨k, oa, oc, hk, rfl, HQ, HOB⟩ := hrel
    obtain ⟨t0, t1, t2, tz⟩ := HX.out _ HOB.out.below
    obtain ⟨o0, o1, o2, oz, of⟩ := HOB.out.cells
    by_cases hlt : k < ss.length
    · obtain ⟨s, hs⟩ : ∃ s, ss[k]? = some s := ⟨_, List.getElem?_eq_getElem hlt⟩
      obtain ⟨g, o, ha, hg, hcell⟩ := HR.out.sat.below (HB1.out.trans (HOB.out.below.mono HB1.out.size)) (by show 0 < (ss.flatMap strC).length; rw [len_flat strC_len]; omega)
      obtain rfl : sa = some ⟨g, o, none⟩ := ha
      have q0 := hcell _ _ ((get_flat strC_len ss k 0 s hs (by omega)).trans rfl)
      simp only [Nat.mul_one, Nat.add_zero] at q0
      have hgw : g < wr.heap.size := by have := HOB.out.below.size; have := HB1.out.size; omega
      have hgO : g < W1.heap.size := by omega
      have hlk : (ss.take k).length = k := by rw [List.length_take]; omega
      have hsz : s.size ≤ maxLen := HR.out.sok s (List.mem_of_getElem? hs)
      have hsl := HR.out.sl
      simp only at hsl
      have hki : (k : Int) < (ss.length : Int) := by omega
      have hk0 : (0 : Int) ≤ (k : Int) := by omega
      simp only [hlk, List.length_nil] at o0 o1 o2
      have HFr : Hid (Calls Tryz.prog 89 #[.agg #[.slice oa k oc, .slice none 0 0, .slice none 0 0], .string s, .bool true] wr.drew fun e w' => e = .returned (.int .i64 (freeQ (ss.take k) [] [] s true)) ∧ Below wr.heap.size wr w') := by
        have h := RFree_any ⟨ss.take k, oa, oc, [], none, 0, [], none, 0⟩ s true _ wr.drew (HOB.out.drew.sig HB1.out HR.out (fun x hx => List.mem_of_mem_take hx) (fun _ hf => by simp at hf) (fun _ hm => by simp at hm)) hsz rfl
        simp only [hlk, List.length_nil, List.map_nil] at h
        exact h.mono fun e w' ⟨h1, h2⟩ => ⟨h1, (Below.refl _ wr).drew.trans h2⟩
      have HNX := Lib.hid (seqQ_take (one := oneS) hs)
      have hone : oneS (ss.take k) s = (freeQ (ss.take k) [] [] s true == 0) := rfl
      generalize freeQ (ss.take k) [] [] s true = fr at HFr hone
      have HSn : Hid (ss.take (k + 1) = ss.take k ++ [s]) := tk_snoc hs
      have HKK : Hid (∀ V, Below wr.heap.size wr V → V.cell? ⟨W1.heap.size, 0, none⟩ = some (.slice oa k oc) ∧ V.cell? ⟨W1.heap.size, 1, none⟩ = some (.slice none 0 0) ∧ V.cell? ⟨W1.heap.size, 2, none⟩ = some (.slice none 0 0) ∧ V.cell? ⟨w.heap.size, 0, none⟩ = some (.slice (some ⟨g, o, none⟩) ss.length sc) ∧ V.cell? ⟨g, o + k, none⟩ = some (.string s)) := fun V hV =>
        ⟨(hV.cell (p := ⟨W1.heap.size, 0, none⟩) oz).trans o0, (hV.cell (p := ⟨W1.heap.size, 1, none⟩) oz).trans o1, (hV.cell (p := ⟨W1.heap.size, 2, none⟩) oz).trans o2, (hV.cell (p := ⟨w.heap.size, 0, none⟩) tz).trans t0, (hV.cell (p := ⟨g, o + k, none⟩) hgw).trans q0⟩
      clear hs hcell
      by_cases hf : fr = 0
      rotate_left
      · obtain rfl : r = false := by
          rw [← HRr.out, seqQ_no (one := oneS) (l := ss) (k := k + 1) (by rw [HNX.out, hone, eq_false hf, Bool.and_false])]; rfl
        have e1 := ne_true hf
        clear hf hone
        go_wp2_with fail
        go_region_held3 (fun V => V.cell? ⟨W1.heap.size, 0, none⟩ = some (.slice oa k oc) ∧ V.cell? ⟨W1.heap.size, 1, none⟩ = some (.slice none 0 0) ∧ V.cell? ⟨W1.heap.size, 2, none⟩ = some (.slice none 0 0) ∧ V.cell? ⟨w.heap.size, 0, none⟩ = some (.slice (some ⟨g, o, none⟩) ss.length sc) ∧ V.cell? ⟨g, o + k, none⟩ = some (.string s)) (first | exact HKK.out _ (Below.refl _ _) | exact HKK.out _ (Below.refl _ _).drew | exact HKK.out _ HB2.out | go_keep) (first | (go_at_call 89; with_reducible refine HFr.out.mono ?_; rintro e w2 ⟨rfl, hb2⟩; have HB2 := Lib.hid hb2; clear hb2))
        go_wp2_with fail
        go_ret
        exact ⟨rfl, HB1.out.trans ((HOB.out.below.trans (HB2.out.mono HOB.out.below.size)).mono HB1.out.size)⟩
      subst hf
      have HQ2 : Hid (seqQ oneS [] (ss.take (k + 1)) = true) := by show _ = _; rw [HNX.out, hone, HQ.out]; rfl
      clear hone
      go_wp2_with fail
      go_region_held3 (fun V => V.cell? ⟨W1.heap.size, 0, none⟩ = some (.slice oa k oc) ∧ V.cell? ⟨W1.heap.size, 1, none⟩ = some (.slice none 0 0) ∧ V.cell? ⟨W1.heap.size, 2, none⟩ = some (.slice none 0 0) ∧ V.cell? ⟨w.heap.size, 0, none⟩ = some (.slice (some ⟨g, o, none⟩) ss.length sc) ∧ V.cell? ⟨g, o + k, none⟩ = some (.string s)) (first | exact HKK.out _ (Below.refl _ _) | exact HKK.out _ (Below.refl _ _).drew | exact HKK.out _ HB2.out | go_keep) (first | (go_at_call 89; with_reducible refine HFr.out.mono ?_; rintro e w2 ⟨rfl, hb2⟩; have HB2 := Lib.hid hb2; clear hb2))
      have HOB2 : Hid (OB W1 w2 ⟨ss.take k, oa, oc, [], none, 0, [], none, 0⟩) := HOB.out.keep HB2.out
      have hbs := HB2.out.size
      clear o0 o1 o2 oz of t0 t1 t2 tz q0
      obtain ⟨t0, t1, t2, tz⟩ := HX.out _ HOB2.out.below
      obtain ⟨o0, o1, o2, oz, of⟩ := HOB2.out.cells
      simp only [hlk, List.length_nil] at o0 o1 o2
      have q0 := (HKK.out _ HB2.out).2.2.2.2
      have hgw2 : g < w2.heap.size := by omega
      have hgO1 : ¬ g = W1.heap.size := by omega
      have hown : w2.ownsRow (W1.heap.size + 1) 9 1 (.slice oa k oc) k ((ss.take k).flatMap strC) := by have h := HOB2.out.so; simp only [hlk] at h; exact h
      go_wp2_with fail
      go_region_law (refine step_append_lies _ rfl (.tmp 40) (.tmp 46) 22 rfl (W1.heap.size + 1) 9 is0 _ 1 16 Tryz.underlying22 his hs0 hs1 hs2 rfl (by decide) (.slice oa k oc) k ((ss.take k).flatMap strC) (by rfl) (hown.alloc _) ⟨w2.heap.size, 0, none⟩ 1 1 [.string s] (by rfl) rfl (World.news_of_block (B := w2.heap.size) (cs := #[.string s]) (t := 9) (fr := (0, 0)) (heap_alloc_new w2 _)) (by simp [Value.oneCell']) (by omega) (by simp only [maxLen]; omega) (by omega) (by simp; omega) _ rfl ?_; intro g9 c9 w9 hown9 hgrow9 hat9 hlt9; have P9 : Push W1 w2 w9 (.cells #[.string s] 9) (Value.slice oa k oc).ownBlock g9 := ⟨hgrow9, hat9.imp id (fun e => pushed_at e)⟩; have hne9 : some W1.heap.size ≠ (Value.slice oa k oc).ownBlock := (by have h := HOB2.out.ne_s; simp only [hlk] at h; exact h); obtain ⟨k0, _, _, kz, kf⟩ := HOB2.out.pushed P9 hne9; simp only [hlk] at k0; have HP9 := Lib.hid P9; have HOwn9 := Lib.hid hown9; clear hown9 hgrow9 hat9 hne9 P9)
      all_goals
        have HOB3 : Hid (OB W1 (w9.setCell ⟨W1.heap.size, 0, none⟩ (.slice (some ⟨g9, 0, none⟩) (k + 1) c9)) ⟨ss.take (k + 1), some ⟨g9, 0, none⟩, c9, [], none, 0, [], none, 0⟩) := by
          show OB _ _ _
          rw [HSn.out]
          have h := HOB2.out.push_s (o := .cells #[.string s] 9) (g := g9) (cap := c9) (e := s) (V2 := w9) (by simp only [hlk]; exact HP9.out) (by simp only [hlk]; exact HOwn9.out)
          simp only [hlk] at h
          exact h
        go_wp2_with fail
        go_roundw
        case rel => exact ⟨k + 1, some ⟨g9, 0, none⟩, c9, by omega, by go_num, HQ2, by first | exact HOB3 | exact HOB3.out.drew⟩
        case measure => simp [intOf]; omega
    · obtain rfl : k = ss.length := by omega
      have HSq : Hid (seqQ oneS [] ss = true) := by show _ = _; have h := HQ.out; rwa [List.take_length] at h
      have HO2 : Hid (OB W1 wr ⟨ss, oa, oc, [], none, 0, [], none, 0⟩) := by show OB _ _ _; have h := HOB.out; rwa [List.take_length] at h
      go_wp2_with fail
      clear t0 t1 t2 tz o0 o1 o2 oz of HQ HOB
      go_loopw [5] (fun i wr => ∃ (k : Nat) (pa : Option Addr) (pc : Nat), k ≤ fs.length ∧ i = .int .i64 k ∧ Hid (seqQ (oneF ss) [] (fs.take k) = true) ∧ Hid (OB W1 wr ⟨ss, oa, oc, fs.take k, pa, pc, [], none, 0⟩)) (fun i _ => fs.length - (intOf i).toNat)
      case atStart => exact ⟨0, none, 0, Nat.zero_le _, rfl, by show _ = _; rw [List.take_zero]; rfl, HO2⟩
      case round =>
        obtain ⟨k, pa, pc, hk, rfl, HQ, HOB⟩ := hrel
        obtain ⟨t0, t1, t2, tz⟩ := HX.out _ HOB.out.below
        obtain ⟨o0, o1, o2, oz, of⟩ := HOB.out.cells
        by_cases hlt : k < fs.length
        · obtain ⟨f, hf'⟩ : ∃ f, fs[k]? = some f := ⟨_, List.getElem?_eq_getElem hlt⟩
          obtain ⟨g, o, ha, hg, hcell⟩ := HR.out.fat.below (HB1.out.trans (HOB.out.below.mono HB1.out.size)) (by show 0 < (fs.flatMap funC).length; rw [len_flat funC_len]; omega)
          obtain rfl : fa = some ⟨g, o, none⟩ := ha
          have q0 := hcell _ _ ((get_flat funC_len fs k 0 f hf' (by omega)).trans rfl)
          have q1 := hcell _ _ ((get_flat funC_len fs k 1 f hf' (by omega)).trans rfl)
          have q2 := hcell _ _ ((get_flat funC_len fs k 2 f hf' (by omega)).trans rfl)
          have q3 := hcell _ _ ((get_flat funC_len fs k 3 f hf' (by omega)).trans rfl)
          have q4 := hcell _ _ ((get_flat funC_len fs k 4 f hf' (by omega)).trans rfl)
          have q5 := hcell _ _ ((get_flat funC_len fs k 5 f hf' (by omega)).trans rfl)
          simp only [Nat.add_zero, ← Nat.add_assoc] at q0 q1 q2 q3 q4 q5
          have hgw : g < wr.heap.size := by have := HOB.out.below.size; have := HB1.out.size; omega
          have hgO : g < W1.heap.size := by omega
          have hlk : (fs.take k).length = k := by rw [List.length_take]; omega
          have hfo : FunOk f := HR.out.fok f (List.mem_of_getElem? hf')
          have hsl := HR.out.fl
          simp only at hsl
          have hki : (k : Int) < (fs.length : Int) := by omega
          have hk0 : (0 : Int) ≤ (k : Int) := by omega
          simp only [hlk, List.length_nil] at o0 o1 o2
          have HFr : Hid (Calls Tryz.prog 89 #[.agg #[.slice oa ss.length oc, .slice pa k pc, .slice none 0 0], .string f.name, .bool false] wr.drew fun e w' => e = .returned (.int .i64 (freeQ ss ((fs.take k).map (·.name)) [] f.name false)) ∧ Below wr.heap.size wr w') := by
            have h := RFree_any ⟨ss, oa, oc, fs.take k, pa, pc, [], none, 0⟩ f.name false _ wr.drew (HOB.out.drew.sig HB1 HR.out (fun x hx => hx) (fun x hx => List.mem_of_mem_take hx) (fun _ hm => by simp at hm)) hfo.name rfl
            simp only [hlk, List.length_nil, List.map_nil] at h
            exact h.mono fun e w' ⟨h1, h2⟩ => ⟨h1, (Below.refl _ wr).drew.trans h2⟩
          have HSec : Hid (∀ V, Below wr.heap.size wr V → Calls Tryz.prog 90 #[.agg #[.slice oa ss.length oc, .slice pa k pc, .slice none 0 0], .agg #[.string f.name, .int .i64 f.len, .int .i64 f.a0, .int .i64 f.a1, .int .i64 f.a2, .int .i64 f.res]] V fun e w' => e = .returned (.bool (funB ss.length f)) ∧ Below wr.heap.size wr w') := fun V hV => by
            have hob := HOB.out.keep hV
            have h := Rfun_any ⟨ss, oa, oc, fs.take k, pa, pc, [], none, 0⟩ f _ V (hob.sig HB1 HR.out (fun x hx => hx) (fun x hx => List.mem_of_mem_take hx) (fun _ hm => by simp at hm)) hfo (by show ss.length ≤ 100; omega) rfl
            simp only [hlk, List.length_nil] at h
            exact h.mono fun e w' ⟨h1, h2⟩ => ⟨h1, hV.trans (h2.mono hV.size)⟩
          have HNX := Lib.hid (seqQ_take (one := oneF ss) (l := fs) (k := k) (p := f) hf')
          have hone : oneF ss (fs.take k) f = ((freeQ ss ((fs.take k).map (·.name)) [] f.name false) == 0 && funB ss.length f) := rfl
          have HSn : Hid (fs.take (k + 1) = fs.take k ++ [f]) := tk_snoc hf'
          have HKK : Hid (∀ V, Below wr.heap.size wr V → V.cell? ⟨W1.heap.size, 0, none⟩ = some (.slice oa ss.length oc) ∧ V.cell? ⟨W1.heap.size, 1, none⟩ = some (.slice pa k pc) ∧ V.cell? ⟨W1.heap.size, 2, none⟩ = some (.slice none 0 0) ∧ V.cell? ⟨w.heap.size, 1, none⟩ = some (.slice (some ⟨g, o, none⟩) fs.length fc) ∧ V.cell? ⟨g, o + k * 6, none⟩ = some (.string f.name) ∧ V.cell? ⟨g, o + k * 6 + 1, none⟩ = some (.int .i64 f.len) ∧ V.cell? ⟨g, o + k * 6 + 2, none⟩ = some (.int .i64 f.a0) ∧ V.cell? ⟨g, o + k * 6 + 3, none⟩ = some (.int .i64 f.a1) ∧ V.cell? ⟨g, o + k * 6 + 4, none⟩ = some (.int .i64 f.a2) ∧ V.cell? ⟨g, o + k * 6 + 5, none⟩ = some (.int .i64 f.res)) := fun V hV =>
            ⟨(hV.cell (p := ⟨W1.heap.size, 0, none⟩) oz).trans o0, (hV.cell (p := ⟨W1.heap.size, 1, none⟩) oz).trans o1, (hV.cell (p := ⟨W1.heap.size, 2, none⟩) oz).trans o2, (hV.cell (p := ⟨w.heap.size, 1, none⟩) tz).trans t1, (hV.cell (p := ⟨g, o + k * 6, none⟩) hgw).trans q0, (hV.cell (p := ⟨g, o + k * 6 + 1, none⟩) hgw).trans q1, (hV.cell (p := ⟨g, o + k * 6 + 2, none⟩) hgw).trans q2, (hV.cell (p := ⟨g, o + k * 6 + 3, none⟩) hgw).trans q3, (hV.cell (p := ⟨g, o + k * 6 + 4, none⟩) hgw).trans q4, (hV.cell (p := ⟨g, o + k * 6 + 5, none⟩) hgw).trans q5⟩
          generalize freeQ ss ((fs.take k).map (·.name)) [] f.name false = fr at HFr hone
          generalize hqq : funB ss.length f = qs at HSec hone
          clear hf' hcell hqq
          have HNo : Hid (oneF ss (fs.take k) f = false → r = false) := fun h => by
            have h2 : seqQ (oneF ss) [] (fs) = false := seqQ_no (k := k + 1) (by rw [HNX.out, h, Bool.and_false])
            rw [← HRr.out, HSq.out, Bool.true_and, h2]; rfl
          by_cases hf : fr = 0
          rotate_left
          · obtain rfl : r = false := HNo.out (by rw [hone, eq_false hf]; rfl)
            have e1 := ne_true hf
            clear hf hone
            go_wp2_with fail
            refine wp_region_held_drew (S := fun V => V.cell? ⟨W1.heap.size, 0, none⟩ = some (.slice oa ss.length oc) ∧ V.cell? ⟨W1.heap.size, 1, none⟩ = some (.slice pa k pc) ∧ V.cell? ⟨W1.heap.size, 2, none⟩ = some (.slice none 0 0) ∧ V.cell? ⟨w.heap.size, 1, none⟩ = some (.slice (some ⟨g, o, none⟩) fs.length fc) ∧ V.cell? ⟨g, o + k * 6, none⟩ = some (.string f.name) ∧ V.cell? ⟨g, o + k * 6 + 1, none⟩ = some (.int .i64 f.len) ∧ V.cell? ⟨g, o + k * 6 + 2, none⟩ = some (.int .i64 f.a0) ∧ V.cell? ⟨g, o + k * 6 + 3, none⟩ = some (.int .i64 f.a1) ∧ V.cell? ⟨g, o + k * 6 + 4, none⟩ = some (.int .i64 f.a2) ∧ V.cell? ⟨g, o + k * 6 + 5, none⟩ = some (.int .i64 f.res)) (by kernel_rfl) (HKK.out _ (Below.refl _ _).drew) (fun hHeld => ?_)
            refine tkY 0 (.agg #[.slice oa ss.length oc, .slice pa k pc, .slice none 0 0]) ?_
            try simp only [kP, kA, kZ, kS]
            refine tkY 1 (.pointer (some ⟨w.heap.size, 1, none⟩)) ?_
            try simp only [kP, kA, kZ, kS]
            refine tkY 2 (.slice (some ⟨g, o, none⟩) fs.length fc) ?_
            try simp only [kP, kA, kZ, kS]
            refine tkY 3 (.int .i64 k) ?_
            try simp only [kP, kA, kZ, kS]
            refine tkY 4 (.pointer (some ⟨g, o + k * 6, none⟩)) ?_
            try simp only [kP, kA, kZ, kS]
            refine tkY 5 (.pointer (some ⟨g, o + k * 6, none⟩)) ?_
            try simp only [kP, kA, kZ, kS]
            refine tkY 6 (.string f.name) ?_
            try simp only [kP, kA, kZ, kS]
            refine wpAnyH_ready (rs := [7]) (by kernel_rfl) (by simp) ?_
            refine AllReadyH.cons (o := { dst := some 63, op := Op.call { callee := Callee.value (Operand.func 89), args := #[Operand.tmp 56, Operand.tmp 62, Operand.const (Value.bool false)], argTypes := #[26, 9, 4] }, type := 39, pos := "ref.go:139", after := #[{ on := 0, ground := Ground.data }, { on := 6, ground := Ground.data }], guard := none }) rfl (fun K hK => ?_) AllReadyH.nil
            go_simp
            go_at_call 89
            refine HFr.out.mono ?_
            rintro e w2 ⟨rfl, hb2⟩
            have HB2 := Lib.hid hb2
            clear hb2
            go_wp2_with fail
            refine hK.out _ _ ?_ (fun hHeld => ?_)
            · exact HKK.out _ HB2.out
            clear hK K
            try simp only [Act.put, List.setIfInBounds_toArray, List.set_cons_zero, List.set_cons_succ]
            refine tkY 8 (.bool true) ?_
            try simp only [kP, kA, kZ, kS]
            refine tkY 9 (.bool true) ?_
            try simp only [kP, kA, kZ, kS]
            refine tkN 10 ?_
            try simp only [kP, kA, kZ, kS]
            refine tkN 11 ?_
            try simp only [kP, kA, kZ, kS]
            refine tkN 12 ?_
            try simp only [kP, kA, kZ, kS]
            refine tkN 13 ?_
            try simp only [kP, kA, kZ, kS]
            refine tkN 14 ?_
            try simp only [kP, kA, kZ, kS]
            refine tkN 15 ?_
            try simp only [kP, kA, kZ, kS]
            refine tkN 16 ?_
            try simp only [kP, kA, kZ, kS]
            refine tkN 17 ?_
            try simp only [kP, kA, kZ, kS]
            refine tkY 18 (.bool true) ?_
            try simp only [kP, kA, kZ, kS]
            refine wpAnyH_done (by kernel_rfl) ?_ _
            go_wp2_with fail
            go_ret
            exact ⟨rfl, HB1.out.trans ((HOB.out.below.trans (HB2.out.mono HOB.out.below.size)).mono HB1.out.size)⟩
          subst hf
          cases qs with
          | false =>
            obtain rfl : r = false := HNo.out (by rw [hone]; rfl)
            clear hone
            go_wp2_with fail
            refine wp_region_held_drew (S := fun V => V.cell? ⟨W1.heap.size, 0, none⟩ = some (.slice oa ss.length oc) ∧ V.cell? ⟨W1.heap.size, 1, none⟩ = some (.slice pa k pc) ∧ V.cell? ⟨W1.heap.size, 2, none⟩ = some (.slice none 0 0) ∧ V.cell? ⟨w.heap.size, 1, none⟩ = some (.slice (some ⟨g, o, none⟩) fs.length fc) ∧ V.cell? ⟨g, o + k * 6, none⟩ = some (.string f.name) ∧ V.cell? ⟨g, o + k * 6 + 1, none⟩ = some (.int .i64 f.len) ∧ V.cell? ⟨g, o + k * 6 + 2, none⟩ = some (.int .i64 f.a0) ∧ V.cell? ⟨g, o + k * 6 + 3, none⟩ = some (.int .i64 f.a1) ∧ V.cell? ⟨g, o + k * 6 + 4, none⟩ = some (.int .i64 f.a2) ∧ V.cell? ⟨g, o + k * 6 + 5, none⟩ = some (.int .i64 f.res)) (by kernel_rfl) (HKK.out _ (Below.refl _ _).drew) (fun hHeld => ?_)
            refine tkY 0 (.agg #[.slice oa ss.length oc, .slice pa k pc, .slice none 0 0]) ?_
            try simp only [kP, kA, kZ, kS]
            refine tkY 1 (.pointer (some ⟨w.heap.size, 1, none⟩)) ?_
            try simp only [kP, kA, kZ, kS]
            refine tkY 2 (.slice (some ⟨g, o, none⟩) fs.length fc) ?_
            try simp only [kP, kA, kZ, kS]
            refine tkY 3 (.int .i64 k) ?_
            try simp only [kP, kA, kZ, kS]
            refine tkY 4 (.pointer (some ⟨g, o + k * 6, none⟩)) ?_
            try simp only [kP, kA, kZ, kS]
            refine tkY 5 (.pointer (some ⟨g, o + k * 6, none⟩)) ?_
            try simp only [kP, kA, kZ, kS]
            refine tkY 6 (.string f.name) ?_
            try simp only [kP, kA, kZ, kS]
            refine wpAnyH_ready (rs := [7]) (by kernel_rfl) (by simp) ?_
            refine AllReadyH.cons (o := { dst := some 63, op := Op.call { callee := Callee.value (Operand.func 89), args := #[Operand.tmp 56, Operand.tmp 62, Operand.const (Value.bool false)], argTypes := #[26, 9, 4] }, type := 39, pos := "ref.go:139", after := #[{ on := 0, ground := Ground.data }, { on := 6, ground := Ground.data }], guard := none }) rfl (fun K hK => ?_) AllReadyH.nil
            go_simp
            go_at_call 89
            refine HFr.out.mono ?_
            rintro e w2 ⟨rfl, hb2⟩
            have HB2 := Lib.hid hb2
            clear hb2
            go_wp2_with fail
            refine hK.out _ _ ?_ (fun hHeld => ?_)
            · exact HKK.out _ HB2.out
            clear hK K
            try simp only [Act.put, List.setIfInBounds_toArray, List.set_cons_zero, List.set_cons_succ]
            refine tkY 8 (.bool false) ?_
            try simp only [kP, kA, kZ, kS]
            refine tkY 9 (.bool false) ?_
            try simp only [kP, kA, kZ, kS]
            refine tkY 10 (.agg #[.slice oa ss.length oc, .slice pa k pc, .slice none 0 0]) ?_
            try simp only [kP, kA, kZ, kS]
            refine tkY 11 (.pointer (some ⟨w.heap.size, 1, none⟩)) ?_
            try simp only [kP, kA, kZ, kS]
            refine tkY 12 (.slice (some ⟨g, o, none⟩) fs.length fc) ?_
            try simp only [kP, kA, kZ, kS]
            refine tkY 13 (.int .i64 k) ?_
            try simp only [kP, kA, kZ, kS]
            refine tkY 14 (.pointer (some ⟨g, o + k * 6, none⟩)) ?_
            try simp only [kP, kA, kZ, kS]
            refine tkY 15 (.agg #[.string f.name, .int .i64 f.len, .int .i64 f.a0, .int .i64 f.a1, .int .i64 f.a2, .int .i64 f.res]) ?_
            try simp only [kP, kA, kZ, kS]
            refine wpAnyH_ready (rs := [16]) (by kernel_rfl) (by simp) ?_
            refine AllReadyH.cons (o := { dst := some 72, op := Op.call { callee := Callee.value (Operand.func 90), args := #[Operand.tmp 66, Operand.tmp 71], argTypes := #[26, 120] }, type := 4, pos := "ref.go:139", after := #[{ on := 10, ground := Ground.data }, { on := 15, ground := Ground.data }, { on := 9, ground := Ground.chain }, { on := 9, ground := Ground.guard }], guard := some (9, false) }) rfl (fun K hK => ?_) AllReadyH.nil
            go_simp
            go_at_call 90
            refine (HSec.out _ HB2.out).mono ?_
            rintro e w3 ⟨rfl, hb3⟩
            have HB3 := Lib.hid hb3
            clear hb3
            go_wp2_with fail
            refine hK.out _ _ ?_ (fun hHeld => ?_)
            · exact HKK.out _ HB3.out
            clear hK K
            try simp only [Act.put, List.setIfInBounds_toArray, List.set_cons_zero, List.set_cons_succ]
            refine tkY 17 (.bool true) ?_
            try simp only [kP, kA, kZ, kS]
            refine tkY 18 (.bool true) ?_
            try simp only [kP, kA, kZ, kS]
            refine wpAnyH_done (by kernel_rfl) ?_ _
            go_wp2_with fail
            go_ret
            exact ⟨rfl, HB1.out.trans ((HOB.out.below.trans (HB3.out.mono HOB.out.below.size)).mono HB1.out.size)⟩
          | true =>
            have HQ2 : Hid (seqQ (oneF ss) [] (fs.take (k + 1)) = true) := by show _ = _; rw [HNX.out, hone, HQ.out]; rfl
            clear hone
            go_wp2_with fail
            refine wp_region_held_drew (S := fun V => V.cell? ⟨W1.heap.size, 0, none⟩ = some (.slice oa ss.length oc) ∧ V.cell? ⟨W1.heap.size, 1, none⟩ = some (.slice pa k pc) ∧ V.cell? ⟨W1.heap.size, 2, none⟩ = some (.slice none 0 0) ∧ V.cell? ⟨w.heap.size, 1, none⟩ = some (.slice (some ⟨g, o, none⟩) fs.length fc) ∧ V.cell? ⟨g, o + k * 6, none⟩ = some (.string f.name) ∧ V.cell? ⟨g, o + k * 6 + 1, none⟩ = some (.int .i64 f.len) ∧ V.cell? ⟨g, o + k * 6 + 2, none⟩ = some (.int .i64 f.a0) ∧ V.cell? ⟨g, o + k * 6 + 3, none⟩ = some (.int .i64 f.a1) ∧ V.cell? ⟨g, o + k * 6 + 4, none⟩ = some (.int .i64 f.a2) ∧ V.cell? ⟨g, o + k * 6 + 5, none⟩ = some (.int .i64 f.res)) (by kernel_rfl) (HKK.out _ (Below.refl _ _).drew) (fun hHeld => ?_)
            refine tkY 0 (.agg #[.slice oa ss.length oc, .slice pa k pc, .slice none 0 0]) ?_
            try simp only [kP, kA, kZ, kS]
            refine tkY 1 (.pointer (some ⟨w.heap.size, 1, none⟩)) ?_
            try simp only [kP, kA, kZ, kS]
            refine tkY 2 (.slice (some ⟨g, o, none⟩) fs.length fc) ?_
            try simp only [kP, kA, kZ, kS]
            refine tkY 3 (.int .i64 k) ?_
            try simp only [kP, kA, kZ, kS]
            refine tkY 4 (.pointer (some ⟨g, o + k * 6, none⟩)) ?_
            try simp only [kP, kA, kZ, kS]
            refine tkY 5 (.pointer (some ⟨g, o + k * 6, none⟩)) ?_
            try simp only [kP, kA, kZ, kS]
            refine tkY 6 (.string f.name) ?_
            try simp only [kP, kA, kZ, kS]
            refine wpAnyH_ready (rs := [7]) (by kernel_rfl) (by simp) ?_
            refine AllReadyH.cons (o := { dst := some 63, op := Op.call { callee := Callee.value (Operand.func 89), args := #[Operand.tmp 56, Operand.tmp 62, Operand.const (Value.bool false)], argTypes := #[26, 9, 4] }, type := 39, pos := "ref.go:139", after := #[{ on := 0, ground := Ground.data }, { on := 6, ground := Ground.data }], guard := none }) rfl (fun K hK => ?_) AllReadyH.nil
            go_simp
            go_at_call 89
            refine HFr.out.mono ?_
            rintro e w2 ⟨rfl, hb2⟩
            have HB2 := Lib.hid hb2
            clear hb2
            go_wp2_with fail
            refine hK.out _ _ ?_ (fun hHeld => ?_)
            · exact HKK.out _ HB2.out
            clear hK K
            try simp only [Act.put, List.setIfInBounds_toArray, List.set_cons_zero, List.set_cons_succ]
            refine tkY 8 (.bool false) ?_
            try simp only [kP, kA, kZ, kS]
            refine tkY 9 (.bool false) ?_
            try simp only [kP, kA, kZ, kS]
            refine tkY 10 (.agg #[.slice oa ss.length oc, .slice pa k pc, .slice none 0 0]) ?_
            try simp only [kP, kA, kZ, kS]
            refine tkY 11 (.pointer (some ⟨w.heap.size, 1, none⟩)) ?_
            try simp only [kP, kA, kZ, kS]
            refine tkY 12 (.slice (some ⟨g, o, none⟩) fs.length fc) ?_
            try simp only [kP, kA, kZ, kS]
            refine tkY 13 (.int .i64 k) ?_
            try simp only [kP, kA, kZ, kS]
            refine tkY 14 (.pointer (some ⟨g, o + k * 6, none⟩)) ?_
            try simp only [kP, kA, kZ, kS]
            refine tkY 15 (.agg #[.string f.name, .int .i64 f.len, .int .i64 f.a0, .int .i64 f.a1, .int .i64 f.a2, .int .i64 f.res]) ?_
            try simp only [kP, kA, kZ, kS]
            refine wpAnyH_ready (rs := [16]) (by kernel_rfl) (by simp) ?_
            refine AllReadyH.cons (o := { dst := some 72, op := Op.call { callee := Callee.value (Operand.func 90), args := #[Operand.tmp 66, Operand.tmp 71], argTypes := #[26, 120] }, type := 4, pos := "ref.go:139", after := #[{ on := 10, ground := Ground.data }, { on := 15, ground := Ground.data }, { on := 9, ground := Ground.chain }, { on := 9, ground := Ground.guard }], guard := some (9, false) }) rfl (fun K hK => ?_) AllReadyH.nil
            go_simp
            go_at_call 90
            refine (HSec.out _ HB2.out).mono ?_
            rintro e w3 ⟨rfl, hb3⟩
            have HB3 := Lib.hid hb3
            clear hb3
            go_wp2_with fail
            refine hK.out _ _ ?_ (fun hHeld => ?_)
            · exact HKK.out _ HB3.out
            clear hK K
            try simp only [Act.put, List.setIfInBounds_toArray, List.set_cons_zero, List.set_cons_succ]
            refine tkY 17 (.bool false) ?_
            try simp only [kP, kA, kZ, kS]
            refine tkY 18 (.bool false) ?_
            try simp only [kP, kA, kZ, kS]
            refine wpAnyH_done (by kernel_rfl) ?_ _
            have HOB2 : Hid (OB W1 w3 ⟨ss, oa, oc, fs.take k, pa, pc, [], none, 0⟩) := HOB.out.keep HB3.out
            have hbs := HB3.out.size
            clear o0 o1 o2 oz of t0 t1 t2 tz q0 q1 q2 q3 q4 q5
            obtain ⟨t0, t1, t2, tz⟩ := HX.out _ HOB2.out.below
            obtain ⟨o0, o1, o2, oz, of⟩ := HOB2.out.cells
            simp only [hlk, List.length_nil] at o0 o1 o2
            obtain ⟨_, _, _, _, q0, q1, q2, q3, q4, q5⟩ := HKK.out _ HB3.out
            have hgw2 : g < w3.heap.size := by omega
            have hgO1 : ¬ g = W1.heap.size := by omega
            have hown : w3.ownsRow (W1.heap.size + 1) 120 6 (Value.slice pa k pc) k ((fs.take k).flatMap funC) := by have h := HOB2.out.fo; simp only [hlk] at h; exact h
            go_wp2_with fail
            go_region_law (refine step_append_lies _ rfl (.tmp 76) (.tmp 82) 23 rfl (W1.heap.size + 1) 120 if0 _ 6 56 Tryz.underlying23 hif hf0 hf1 hf2 rfl (by decide) (Value.slice pa k pc) k ((fs.take k).flatMap funC) (by rfl) (hown.alloc _) ⟨w3.heap.size, 0, none⟩ 1 1 [.string f.name, .int .i64 f.len, .int .i64 f.a0, .int .i64 f.a1, .int .i64 f.a2, .int .i64 f.res] (by rfl) rfl (World.news_of_block (B := w3.heap.size) (cs := #[.string f.name, .int .i64 f.len, .int .i64 f.a0, .int .i64 f.a1, .int .i64 f.a2, .int .i64 f.res]) (t := 120) (fr := (0, 0)) (heap_alloc_new w3 _)) (by simp [Value.oneCell']) (by omega) (by simp only [maxLen]; omega) (by omega) (by simp; omega) _ rfl ?_; intro g9 c9 w9 hown9 hgrow9 hat9 hlt9; have P9 : Push W1 w3 w9 (.cells #[.string f.name, .int .i64 f.len, .int .i64 f.a0, .int .i64 f.a1, .int .i64 f.a2, .int .i64 f.res] 120) (Value.slice pa k pc).ownBlock g9 := ⟨hgrow9, hat9.imp id (fun e => pushed_at e)⟩; have hne9 : some W1.heap.size ≠ (Value.slice pa k pc).ownBlock := (by have h := HOB2.out.ne_f; simp only [hlk] at h; exact h); obtain ⟨k0, k1, k2, kz, kf⟩ := HOB2.out.pushed P9 hne9; simp only [hlk, List.length_nil] at k0 k1 k2; have HP9 := Lib.hid P9; have HOwn9 := Lib.hid hown9; clear hown9 hgrow9 hat9 hne9 P9)
            all_goals
              have HOB3 : Hid (OB W1 (w9.setCell ⟨W1.heap.size, 1, none⟩ (.slice (some ⟨g9, 0, none⟩) (k + 1) c9)) ⟨ss, oa, oc, fs.take (k + 1), some ⟨g9, 0, none⟩, c9, [], none, 0⟩) := by
                show OB _ _ _
                rw [HSn.out]
                have h := HOB2.out.push_f (o := .cells #[.string f.name, .int .i64 f.len, .int .i64 f.a0, .int .i64 f.a1, .int .i64 f.a2, .int .i64 f.res] 120) (g := g9) (cap := c9) (e := f) (V2 := w9) (by simp only [hlk]; exact HP9.out) (by simp only [hlk]; exact HOwn9.out)
                simp only [hlk] at h
                exact h
              go_wp2_with fail
              go_roundw
              case rel => exact ⟨k + 1, some ⟨g9, 0, none⟩, c9, by omega, by go_num, HQ2, by first | exact HOB3 | exact HOB3.out.drew⟩
              case measure => simp [intOf]; omega
        · obtain rfl : k = fs.length := by omega
          have HSf : Hid (seqQ (oneF ss) [] fs = true) := by show _ = _; have h := HQ.out; rwa [List.take_length] at h
          have HO3 : Hid (OB W1 wr ⟨ss, oa, oc, fs, pa, pc, [], none, 0⟩) := by show OB _ _ _; have h := HOB.out; rwa [List.take_length] at h
          go_wp2_with fail
          clear t0 t1 t2 tz o0 o1 o2 oz of HQ HOB
          go_loopw [6] (fun i wr => ∃ (k : Nat) (na : Option Addr) (nc : Nat), k ≤ ms.length ∧ i = .int .i64 k ∧ Hid (seqQ (oneM ss fs) [] ((ms.map (·.m)).take k) = true) ∧ Hid (OB W1 wr ⟨ss, oa, oc, fs, pa, pc, ms.take k, na, nc⟩)) (fun i _ => ms.length - (intOf i).toNat)
          case atStart => exact ⟨0, none, 0, Nat.zero_le _, rfl, by show _ = _; rw [List.take_zero]; rfl, HO3⟩
          case round =>
            obtain ⟨k, na, nc, hk, rfl, HQ, HOB⟩ := hrel
            obtain ⟨t0, t1, t2, tz⟩ := HX.out _ HOB.out.below
            obtain ⟨o0, o1, o2, oz, of⟩ := HOB.out.cells
            by_cases hlt : k < ms.length
            · obtain ⟨m, hf'⟩ : ∃ m, ms[k]? = some m := ⟨_, List.getElem?_eq_getElem hlt⟩
              obtain ⟨g, o, ha, hg, hcell⟩ := HR.out.mat.below (HB1.out.trans (HOB.out.below.mono HB1.out.size)) (by show 0 < (ms.flatMap macC).length; rw [len_flat macC_len]; omega)
              obtain rfl : ma = some ⟨g, o, none⟩ := ha
              have q0 := hcell _ _ ((get_flat macC_len ms k 0 m hf' (by omega)).trans rfl)
              have q1 := hcell _ _ ((get_flat macC_len ms k 1 m hf' (by omega)).trans rfl)
              have q2 := hcell _ _ ((get_flat macC_len ms k 2 m hf' (by omega)).trans rfl)
              have q3 := hcell _ _ ((get_flat macC_len ms k 3 m hf' (by omega)).trans rfl)
              have q4 := hcell _ _ ((get_flat macC_len ms k 4 m hf' (by omega)).trans rfl)
              have q5 := hcell _ _ ((get_flat macC_len ms k 5 m hf' (by omega)).trans rfl)
              simp only [Nat.add_zero, ← Nat.add_assoc] at q0 q1 q2 q3 q4 q5
              have hgw : g < wr.heap.size := by have := HOB.out.below.size; have := HB1.out.size; omega
              have hgO : g < W1.heap.size := by omega
              have hlk : (ms.take k).length = k := by rw [List.length_take]; omega
              have hmo := HR.out.mok m (List.mem_of_getElem? hf')
              have hmm : (ms.map (·.m))[k]? = some m.m := by rw [List.getElem?_map, hf']; rfl
              have hsl := HR.out.ml
              simp only at hsl
              have hki : (k : Int) < (ms.length : Int) := by omega
              have hk0 : (0 : Int) ≤ (k : Int) := by omega
              simp only [hlk] at o0 o1 o2
              have HFr : Hid (Calls Tryz.prog 89 #[.agg #[.slice oa ss.length oc, .slice pa fs.length pc, .slice na k nc], .string m.m.name, .bool false] wr.drew fun e w' => e = .returned (.int .i64 (freeQ ss (fs.map (·.name)) ((ms.take k).map (·.m.name)) m.m.name false)) ∧ Below wr.heap.size wr w') := by
                have h := RFree_any ⟨ss, oa, oc, fs, pa, pc, ms.take k, na, nc⟩ m.m.name false _ wr.drew (HOB.out.drew.sig HB1 HR.out (fun x hx => hx) (fun x hx => hx) (fun x hx => List.mem_of_mem_take hx)) hmo.name rfl
                simp only [hlk] at h
                exact h.mono fun e w' ⟨h1, h2⟩ => ⟨h1, (Below.refl _ wr).drew.trans h2⟩
              have HSec : Hid (∀ V, Below wr.heap.size wr V → Calls Tryz.prog 91 #[.agg #[.slice oa ss.length oc, .slice pa fs.length pc, .slice na k nc], .agg #[.string m.m.name, .slice m.pa m.m.params.length m.pc, .int .i64 m.m.res, .int .i8 m.m.body.kind, .string (bytesL m.m.body.text), .slice m.ba m.m.body.kids.length m.bc]] V fun e w' => e = .returned (.bool (macQ ss.length m.m)) ∧ Below wr.heap.size wr w') := fun V hV => by
                have hob := HOB.out.keep hV
                have h := Rmacro_any ⟨ss, oa, oc, fs, pa, pc, ms.take k, na, nc⟩ m _ V (hob.sig HB1 HR.out (fun x hx => hx) (fun x hx => hx) (fun x hx => List.mem_of_mem_take hx)) (hmo.up (HB1.out.trans (hob.below.mono HB1.out.size))) (by show ss.length ≤ 100; omega) rfl
                simp only [hlk] at h
                exact h.mono fun e w' ⟨h1, h2⟩ => ⟨h1, hV.trans (h2.mono hV.size)⟩
              have HNX := Lib.hid (seqQ_take (one := oneM ss fs) (l := (ms.map (·.m))) (k := k) (p := m.m) hmm)
              have hone : oneM ss fs ((ms.map (·.m)).take k) m.m = ((freeQ ss (fs.map (·.name)) ((ms.take k).map (·.m.name)) m.m.name false) == 0 && macQ ss.length m.m) := by unfold oneM; rw [← List.map_take, List.map_map]; rfl
              have HSn : Hid (ms.take (k + 1) = ms.take k ++ [m]) := tk_snoc hf'
              have HKK : Hid (∀ V, Below wr.heap.size wr V → V.cell? ⟨W1.heap.size, 0, none⟩ = some (.slice oa ss.length oc) ∧ V.cell? ⟨W1.heap.size, 1, none⟩ = some (.slice pa fs.length pc) ∧ V.cell? ⟨W1.heap.size, 2, none⟩ = some (.slice na k nc) ∧ V.cell? ⟨w.heap.size, 2, none⟩ = some (.slice (some ⟨g, o, none⟩) ms.length mc) ∧ V.cell? ⟨g, o + k * 6, none⟩ = some (.string m.m.name) ∧ V.cell? ⟨g, o + k * 6 + 1, none⟩ = some (.slice m.pa m.m.params.length m.pc) ∧ V.cell? ⟨g, o + k * 6 + 2, none⟩ = some (.int .i64 m.m.res) ∧ V.cell? ⟨g, o + k * 6 + 3, none⟩ = some (.int .i8 m.m.body.kind) ∧ V.cell? ⟨g, o + k * 6 + 4, none⟩ = some (.string (bytesL m.m.body.text)) ∧ V.cell? ⟨g, o + k * 6 + 5, none⟩ = some (.slice m.ba m.m.body.kids.length m.bc)) := fun V hV =>
                ⟨(hV.cell (p := ⟨W1.heap.size, 0, none⟩) oz).trans o0, (hV.cell (p := ⟨W1.heap.size, 1, none⟩) oz).trans o1, (hV.cell (p := ⟨W1.heap.size, 2, none⟩) oz).trans o2, (hV.cell (p := ⟨w.heap.size, 2, none⟩) tz).trans t2, (hV.cell (p := ⟨g, o + k * 6, none⟩) hgw).trans q0, (hV.cell (p := ⟨g, o + k * 6 + 1, none⟩) hgw).trans q1, (hV.cell (p := ⟨g, o + k * 6 + 2, none⟩) hgw).trans q2, (hV.cell (p := ⟨g, o + k * 6 + 3, none⟩) hgw).trans q3, (hV.cell (p := ⟨g, o + k * 6 + 4, none⟩) hgw).trans q4, (hV.cell (p := ⟨g, o + k * 6 + 5, none⟩) hgw).trans q5⟩
              generalize freeQ ss (fs.map (·.name)) ((ms.take k).map (·.m.name)) m.m.name false = fr at HFr hone
              generalize hqq : macQ ss.length m.m = qs at HSec hone
              clear hf' hcell hqq
              have HNo : Hid (oneM ss fs ((ms.map (·.m)).take k) m.m = false → r = false) := fun h => by
                have h2 : seqQ (oneM ss fs) [] ((ms.map (·.m))) = false := seqQ_no (k := k + 1) (by rw [HNX.out, h, Bool.and_false])
                rw [← HRr.out, HSq.out, HSf.out, Bool.true_and, Bool.true_and, h2]
              by_cases hf : fr = 0
              rotate_left
              · obtain rfl : r = false := HNo.out (by rw [hone, eq_false hf]; rfl)
                have e1 := ne_true hf
                clear hf hone
                go_wp2_with fail
                refine wp_region_held_drew (S := fun V => V.cell? ⟨W1.heap.size, 0, none⟩ = some (.slice oa ss.length oc) ∧ V.cell? ⟨W1.heap.size, 1, none⟩ = some (.slice pa fs.length pc) ∧ V.cell? ⟨W1.heap.size, 2, none⟩ = some (.slice na k nc) ∧ V.cell? ⟨w.heap.size, 2, none⟩ = some (.slice (some ⟨g, o, none⟩) ms.length mc) ∧ V.cell? ⟨g, o + k * 6, none⟩ = some (.string m.m.name) ∧ V.cell? ⟨g, o + k * 6 + 1, none⟩ = some (.slice m.pa m.m.params.length m.pc) ∧ V.cell? ⟨g, o + k * 6 + 2, none⟩ = some (.int .i64 m.m.res) ∧ V.cell? ⟨g, o + k * 6 + 3, none⟩ = some (.int .i8 m.m.body.kind) ∧ V.cell? ⟨g, o + k * 6 + 4, none⟩ = some (.string (bytesL m.m.body.text)) ∧ V.cell? ⟨g, o + k * 6 + 5, none⟩ = some (.slice m.ba m.m.body.kids.length m.bc)) (by kernel_rfl) (HKK.out _ (Below.refl _ _).drew) (fun hHeld => ?_)
                refine tkY 0 (.agg #[.slice oa ss.length oc, .slice pa fs.length pc, .slice na k nc]) ?_
                try simp only [kP, kA, kZ, kS]
                refine tkY 1 (.pointer (some ⟨w.heap.size, 2, none⟩)) ?_
                try simp only [kP, kA, kZ, kS]
                refine tkY 2 (.slice (some ⟨g, o, none⟩) ms.length mc) ?_
                try simp only [kP, kA, kZ, kS]
                refine tkY 3 (.int .i64 k) ?_
                try simp only [kP, kA, kZ, kS]
                refine tkY 4 (.pointer (some ⟨g, o + k * 6, none⟩)) ?_
                try simp only [kP, kA, kZ, kS]
                refine tkY 5 (.pointer (some ⟨g, o + k * 6, none⟩)) ?_
                try simp only [kP, kA, kZ, kS]
                refine tkY 6 (.string m.m.name) ?_
                try simp only [kP, kA, kZ, kS]
                refine wpAnyH_ready (rs := [7]) (by kernel_rfl) (by simp) ?_
                refine AllReadyH.cons (o := { dst := some 99, op := Op.call { callee := Callee.value (Operand.func 89), args := #[Operand.tmp 92, Operand.tmp 98, Operand.const (Value.bool false)], argTypes := #[26, 9, 4] }, type := 39, pos := "ref.go:145", after := #[{ on := 0, ground := Ground.data }, { on := 6, ground := Ground.data }], guard := none }) rfl (fun K hK => ?_) AllReadyH.nil
                go_simp
                go_at_call 89
                refine HFr.out.mono ?_
                rintro e w2 ⟨rfl, hb2⟩
                have HB2 := Lib.hid hb2
                clear hb2
                go_wp2_with fail
                refine hK.out _ _ ?_ (fun hHeld => ?_)
                · exact HKK.out _ HB2.out
                clear hK K
                try simp only [Act.put, List.setIfInBounds_toArray, List.set_cons_zero, List.set_cons_succ]
                refine tkY 8 (.bool true) ?_
                try simp only [kP, kA, kZ, kS]
                refine tkY 9 (.bool true) ?_
                try simp only [kP, kA, kZ, kS]
                refine tkN 10 ?_
                try simp only [kP, kA, kZ, kS]
                refine tkN 11 ?_
                try simp only [kP, kA, kZ, kS]
                refine tkN 12 ?_
                try simp only [kP, kA, kZ, kS]
                refine tkN 13 ?_
                try simp only [kP, kA, kZ, kS]
                refine tkN 14 ?_
                try simp only [kP, kA, kZ, kS]
                refine tkN 15 ?_
                try simp only [kP, kA, kZ, kS]
                refine tkN 16 ?_
                try simp only [kP, kA, kZ, kS]
                refine tkN 17 ?_
                try simp only [kP, kA, kZ, kS]
                refine tkY 18 (.bool true) ?_
                try simp only [kP, kA, kZ, kS]
                refine wpAnyH_done (by kernel_rfl) ?_ _
                go_wp2_with fail
                go_ret
                exact ⟨rfl, HB1.out.trans ((HOB.out.below.trans (HB2.out.mono HOB.out.below.size)).mono HB1.out.size)⟩
              subst hf
              cases qs with
              | false =>
                obtain rfl : r = false := HNo.out (by rw [hone]; rfl)
                clear hone
                go_wp2_with fail
                refine wp_region_held_drew (S := fun V => V.cell? ⟨W1.heap.size, 0, none⟩ = some (.slice oa ss.length oc) ∧ V.cell? ⟨W1.heap.size, 1, none⟩ = some (.slice pa fs.length pc) ∧ V.cell? ⟨W1.heap.size, 2, none⟩ = some (.slice na k nc) ∧ V.cell? ⟨w.heap.size, 2, none⟩ = some (.slice (some ⟨g, o, none⟩) ms.length mc) ∧ V.cell? ⟨g, o + k * 6, none⟩ = some (.string m.m.name) ∧ V.cell? ⟨g, o + k * 6 + 1, none⟩ = some (.slice m.pa m.m.params.length m.pc) ∧ V.cell? ⟨g, o + k * 6 + 2, none⟩ = some (.int .i64 m.m.res) ∧ V.cell? ⟨g, o + k * 6 + 3, none⟩ = some (.int .i8 m.m.body.kind) ∧ V.cell? ⟨g, o + k * 6 + 4, none⟩ = some (.string (bytesL m.m.body.text)) ∧ V.cell? ⟨g, o + k * 6 + 5, none⟩ = some (.slice m.ba m.m.body.kids.length m.bc)) (by kernel_rfl) (HKK.out _ (Below.refl _ _).drew) (fun hHeld => ?_)
                refine tkY 0 (.agg #[.slice oa ss.length oc, .slice pa fs.length pc, .slice na k nc]) ?_
                try simp only [kP, kA, kZ, kS]
                refine tkY 1 (.pointer (some ⟨w.heap.size, 2, none⟩)) ?_
                try simp only [kP, kA, kZ, kS]
                refine tkY 2 (.slice (some ⟨g, o, none⟩) ms.length mc) ?_
                try simp only [kP, kA, kZ, kS]
                refine tkY 3 (.int .i64 k) ?_
                try simp only [kP, kA, kZ, kS]
                refine tkY 4 (.pointer (some ⟨g, o + k * 6, none⟩)) ?_
                try simp only [kP, kA, kZ, kS]
                refine tkY 5 (.pointer (some ⟨g, o + k * 6, none⟩)) ?_
                try simp only [kP, kA, kZ, kS]
                refine tkY 6 (.string m.m.name) ?_
                try simp only [kP, kA, kZ, kS]
                refine wpAnyH_ready (rs := [7]) (by kernel_rfl) (by simp) ?_
                refine AllReadyH.cons (o := { dst := some 99, op := Op.call { callee := Callee.value (Operand.func 89), args := #[Operand.tmp 92, Operand.tmp 98, Operand.const (Value.bool false)], argTypes := #[26, 9, 4] }, type := 39, pos := "ref.go:145", after := #[{ on := 0, ground := Ground.data }, { on := 6, ground := Ground.data }], guard := none }) rfl (fun K hK => ?_) AllReadyH.nil
                go_simp
                go_at_call 89
                refine HFr.out.mono ?_
                rintro e w2 ⟨rfl, hb2⟩
                have HB2 := Lib.hid hb2
                clear hb2
                go_wp2_with fail
                refine hK.out _ _ ?_ (fun hHeld => ?_)
                · exact HKK.out _ HB2.out
                clear hK K
                try simp only [Act.put, List.setIfInBounds_toArray, List.set_cons_zero, List.set_cons_succ]
                refine tkY 8 (.bool false) ?_
                try simp only [kP, kA, kZ, kS]
                refine tkY 9 (.bool false) ?_
                try simp only [kP, kA, kZ, kS]
                refine tkY 10 (.agg #[.slice oa ss.length oc, .slice pa fs.length pc, .slice na k nc]) ?_
                try simp only [kP, kA, kZ, kS]
                refine tkY 11 (.pointer (some ⟨w.heap.size, 2, none⟩)) ?_
                try simp only [kP, kA, kZ, kS]
                refine tkY 12 (.slice (some ⟨g, o, none⟩) ms.length mc) ?_
                try simp only [kP, kA, kZ, kS]
                refine tkY 13 (.int .i64 k) ?_
                try simp only [kP, kA, kZ, kS]
                refine tkY 14 (.pointer (some ⟨g, o + k * 6, none⟩)) ?_
                try simp only [kP, kA, kZ, kS]
                refine tkY 15 (.agg #[.string m.m.name, .slice m.pa m.m.params.length m.pc, .int .i64 m.m.res, .int .i8 m.m.body.kind, .string (bytesL m.m.body.text), .slice m.ba m.m.body.kids.length m.bc]) ?_
                try simp only [kP, kA, kZ, kS]
                refine wpAnyH_ready (rs := [16]) (by kernel_rfl) (by simp) ?_
                refine AllReadyH.cons (o := { dst := some 108, op := Op.call { callee := Callee.value (Operand.func 91), args := #[Operand.tmp 102, Operand.tmp 107], argTypes := #[26, 69] }, type := 4, pos := "ref.go:145", after := #[{ on := 10, ground := Ground.data }, { on := 15, ground := Ground.data }, { on := 9, ground := Ground.chain }, { on := 9, ground := Ground.guard }], guard := some (9, false) }) rfl (fun K hK => ?_) AllReadyH.nil
                go_simp
                go_at_call 91
                refine (HSec.out _ HB2.out).mono ?_
                rintro e w3 ⟨rfl, hb3⟩
                have HB3 := Lib.hid hb3
                clear hb3
                go_wp2_with fail
                refine hK.out _ _ ?_ (fun hHeld => ?_)
                · exact HKK.out _ HB3.out
                clear hK K
                try simp only [Act.put, List.setIfInBounds_toArray, List.set_cons_zero, List.set_cons_succ]
                refine tkY 17 (.bool true) ?_
                try simp only [kP, kA, kZ, kS]
                refine tkY 18 (.bool true) ?_
                try simp only [kP, kA, kZ, kS]
                refine wpAnyH_done (by kernel_rfl) ?_ _
                go_wp2_with fail
                go_ret
                exact ⟨rfl, HB1.out.trans ((HOB.out.below.trans (HB3.out.mono HOB.out.below.size)).mono HB1.out.size)⟩
              | true =>
                have HQ2 : Hid (seqQ (oneM ss fs) [] ((ms.map (·.m)).take (k + 1)) = true) := by show _ = _; rw [HNX.out, hone, HQ.out]; rfl
                clear hone
                go_wp2_with fail
                refine wp_region_held_drew (S := fun V => V.cell? ⟨W1.heap.size, 0, none⟩ = some (.slice oa ss.length oc) ∧ V.cell? ⟨W1.heap.size, 1, none⟩ = some (.slice pa fs.length pc) ∧ V.cell? ⟨W1.heap.size, 2, none⟩ = some (.slice na k nc) ∧ V.cell? ⟨w.heap.size, 2, none⟩ = some (.slice (some ⟨g, o, none⟩) ms.length mc) ∧ V.cell? ⟨g, o + k * 6, none⟩ = some (.string m.m.name) ∧ V.cell? ⟨g, o + k * 6 + 1, none⟩ = some (.slice m.pa m.m.params.length m.pc) ∧ V.cell? ⟨g, o + k * 6 + 2, none⟩ = some (.int .i64 m.m.res) ∧ V.cell? ⟨g, o + k * 6 + 3, none⟩ = some (.int .i8 m.m.body.kind) ∧ V.cell? ⟨g, o + k * 6 + 4, none⟩ = some (.string (bytesL m.m.body.text)) ∧ V.cell? ⟨g, o + k * 6 + 5, none⟩ = some (.slice m.ba m.m.body.kids.length m.bc)) (by kernel_rfl) (HKK.out _ (Below.refl _ _).drew) (fun hHeld => ?_)
                refine tkY 0 (.agg #[.slice oa ss.length oc, .slice pa fs.length pc, .slice na k nc]) ?_
                try simp only [kP, kA, kZ, kS]
                refine tkY 1 (.pointer (some ⟨w.heap.size, 2, none⟩)) ?_
                try simp only [kP, kA, kZ, kS]
                refine tkY 2 (.slice (some ⟨g, o, none⟩) ms.length mc) ?_
                try simp only [kP, kA, kZ, kS]
                refine tkY 3 (.int .i64 k) ?_
                try simp only [kP, kA, kZ, kS]
                refine tkY 4 (.pointer (some ⟨g, o + k * 6, none⟩)) ?_
                try simp only [kP, kA, kZ, kS]
                refine tkY 5 (.pointer (some ⟨g, o + k * 6, none⟩)) ?_
                try simp only [kP, kA, kZ, kS]
                refine tkY 6 (.string m.m.name) ?_
                try simp only [kP, kA, kZ, kS]
                refine wpAnyH_ready (rs := [7]) (by kernel_rfl) (by simp) ?_
                refine AllReadyH.cons (o := { dst := some 99, op := Op.call { callee := Callee.value (Operand.func 89), args := #[Operand.tmp 92, Operand.tmp 98, Operand.const (Value.bool false)], argTypes := #[26, 9, 4] }, type := 39, pos := "ref.go:145", after := #[{ on := 0, ground := Ground.data }, { on := 6, ground := Ground.data }], guard := none }) rfl (fun K hK => ?_) AllReadyH.nil
                go_simp
                go_at_call 89
                refine HFr.out.mono ?_
                rintro e w2 ⟨rfl, hb2⟩
                have HB2 := Lib.hid hb2
                clear hb2
                go_wp2_with fail
                refine hK.out _ _ ?_ (fun hHeld => ?_)
                · exact HKK.out _ HB2.out
                clear hK K
                try simp only [Act.put, List.setIfInBounds_toArray, List.set_cons_zero, List.set_cons_succ]
                refine tkY 8 (.bool false) ?_
                try simp only [kP, kA, kZ, kS]
                refine tkY 9 (.bool false) ?_
                try simp only [kP, kA, kZ, kS]
                refine tkY 10 (.agg #[.slice oa ss.length oc, .slice pa fs.length pc, .slice na k nc]) ?_
                try simp only [kP, kA, kZ, kS]
                refine tkY 11 (.pointer (some ⟨w.heap.size, 2, none⟩)) ?_
                try simp only [kP, kA, kZ, kS]
                refine tkY 12 (.slice (some ⟨g, o, none⟩) ms.length mc) ?_
                try simp only [kP, kA, kZ, kS]
                refine tkY 13 (.int .i64 k) ?_
                try simp only [kP, kA, kZ, kS]
                refine tkY 14 (.pointer (some ⟨g, o + k * 6, none⟩)) ?_
                try simp only [kP, kA, kZ, kS]
                refine tkY 15 (.agg #[.string m.m.name, .slice m.pa m.m.params.length m.pc, .int .i64 m.m.res, .int .i8 m.m.body.kind, .string (bytesL m.m.body.text), .slice m.ba m.m.body.kids.length m.bc]) ?_
                try simp only [kP, kA, kZ, kS]
                refine wpAnyH_ready (rs := [16]) (by kernel_rfl) (by simp) ?_
                refine AllReadyH.cons (o := { dst := some 108, op := Op.call { callee := Callee.value (Operand.func 91), args := #[Operand.tmp 102, Operand.tmp 107], argTypes := #[26, 69] }, type := 4, pos := "ref.go:145", after := #[{ on := 10, ground := Ground.data }, { on := 15, ground := Ground.data }, { on := 9, ground := Ground.chain }, { on := 9, ground := Ground.guard }], guard := some (9, false) }) rfl (fun K hK => ?_) AllReadyH.nil
                go_simp
                go_at_call 91
                refine (HSec.out _ HB2.out).mono ?_
                rintro e w3 ⟨rfl, hb3⟩
                have HB3 := Lib.hid hb3
                clear hb3
                go_wp2_with fail
                refine hK.out _ _ ?_ (fun hHeld => ?_)
                · exact HKK.out _ HB3.out
                clear hK K
                try simp only [Act.put, List.setIfInBounds_toArray, List.set_cons_zero, List.set_cons_succ]
                refine tkY 17 (.bool false) ?_
                try simp only [kP, kA, kZ, kS]
                refine tkY 18 (.bool false) ?_
                try simp only [kP, kA, kZ, kS]
                refine wpAnyH_done (by kernel_rfl) ?_ _
                have HOB2 : Hid (OB W1 w3 ⟨ss, oa, oc, fs, pa, pc, ms.take k, na, nc⟩) := HOB.out.keep HB3.out
                have hbs := HB3.out.size
                clear o0 o1 o2 oz of t0 t1 t2 tz q0 q1 q2 q3 q4 q5
                obtain ⟨t0, t1, t2, tz⟩ := HX.out _ HOB2.out.below
                obtain ⟨o0, o1, o2, oz, of⟩ := HOB2.out.cells
                simp only [hlk] at o0 o1 o2
                obtain ⟨_, _, _, _, q0, q1, q2, q3, q4, q5⟩ := HKK.out _ HB3.out
                have hgw2 : g < w3.heap.size := by omega
                have hgO1 : ¬ g = W1.heap.size := by omega
                have hown : w3.ownsRow (W1.heap.size + 1) 69 6 (Value.slice na k nc) k ((ms.take k).flatMap macC) := by have h := HOB2.out.mo; simp only [hlk] at h; exact h
                go_wp2_with fail
                go_region_law (refine step_append_lies _ rfl (.tmp 112) (.tmp 118) 24 rfl (W1.heap.size + 1) 69 im0 _ 6 96 Tryz.underlying24 him hm0 hm1 hm2 rfl (by decide) (Value.slice na k nc) k ((ms.take k).flatMap macC) (by rfl) (hown.alloc _) ⟨w3.heap.size, 0, none⟩ 1 1 [.string m.m.name, .slice m.pa m.m.params.length m.pc, .int .i64 m.m.res, .int .i8 m.m.body.kind, .string (bytesL m.m.body.text), .slice m.ba m.m.body.kids.length m.bc] (by rfl) rfl (World.news_of_block (B := w3.heap.size) (cs := #[.string m.m.name, .slice m.pa m.m.params.length m.pc, .int .i64 m.m.res, .int .i8 m.m.body.kind, .string (bytesL m.m.body.text), .slice m.ba m.m.body.kids.length m.bc]) (t := 69) (fr := (0, 0)) (heap_alloc_new w3 _)) (by simp [Value.oneCell']) (by omega) (by simp only [maxLen]; omega) (by omega) (by simp; omega) _ rfl ?_; intro g9 c9 w9 hown9 hgrow9 hat9 hlt9; have P9 : Push W1 w3 w9 (.cells #[.string m.m.name, .slice m.pa m.m.params.length m.pc, .int .i64 m.m.res, .int .i8 m.m.body.kind, .string (bytesL m.m.body.text), .slice m.ba m.m.body.kids.length m.bc] 69) (Value.slice na k nc).ownBlock g9 := ⟨hgrow9, hat9.imp id (fun e => pushed_at e)⟩; have hne9 : some W1.heap.size ≠ (Value.slice na k nc).ownBlock := (by have h := HOB2.out.ne_m; simp only [hlk] at h; exact h); obtain ⟨k0, k1, k2, kz, kf⟩ := HOB2.out.pushed P9 hne9; simp only [hlk] at k0 k1 k2; have HP9 := Lib.hid P9; have HOwn9 := Lib.hid hown9; clear hown9 hgrow9 hat9 hne9 P9)
                all_goals
                  have HOB3 : Hid (OB W1 (w9.setCell ⟨W1.heap.size, 2, none⟩ (.slice (some ⟨g9, 0, none⟩) (k + 1) c9)) ⟨ss, oa, oc, fs, pa, pc, ms.take (k + 1), some ⟨g9, 0, none⟩, c9⟩) := by
                    show OB _ _ _
                    rw [HSn.out]
                    have h := HOB2.out.push_m (o := .cells #[.string m.m.name, .slice m.pa m.m.params.length m.pc, .int .i64 m.m.res, .int .i8 m.m.body.kind, .string (bytesL m.m.body.text), .slice m.ba m.m.body.kids.length m.bc] 69) (g := g9) (cap := c9) (e := m) (V2 := w9) (by simp only [hlk]; exact HP9.out) (by simp only [hlk]; exact HOwn9.out)
                    simp only [hlk] at h
                    exact h
                  go_wp2_with fail
                  go_roundw
                  case rel => exact ⟨k + 1, some ⟨g9, 0, none⟩, c9, by omega, by go_num, HQ2, by first | exact HOB3 | exact HOB3.out.drew⟩
                  case measure => simp [intOf]; omega
            · obtain rfl : k = ms.length := by omega
              obtain rfl : r = true := by
                have h := HQ.out
                rw [List.take_of_length_le (by rw [List.length_map]; omega)] at h
                rw [← HRr.out, HSq.out, HSf.out, h]; rfl
              go_wp2_with fail
              go_ret
              exact ⟨rfl, HB1.out.trans (HOB.out.below.mono HB1.out.size)⟩
theorem RSigCheck_any (x : SigV) (r : Bool) (w : World) (hR : SigR w x) (hr : checkQ x.a = r) :
    Calls Tryz.prog 58 #[.agg #[.slice x.sa x.sorts.length x.sc, .slice x.fa x.funs.length x.fc, .slice x.ma x.macs.length x.mc]] w fun e w' => e = .returned (.int .i64 (if r = true then 0 else 2)) ∧ Below w.heap.size w w' := by
  obtain ⟨ss, sa, sc, fs, fa, fc, ms, ma, mc⟩ := x
  exact RSigCheck_aux ss sa sc fs fa fc ms ma mc r w hR hr
end Go.Proofs.YtfbjgadgfjnamaaGreatDoor
