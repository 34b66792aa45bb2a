/- The iterator that package sexpr's within makes. -/
import Derived.Test.YtbddghcdibdloaaGreatDoorSexRd
import Derived.BigQuiet
import Derived.LaidEqlPtr
import Derived.RangeFuncNested
import Derived.RangeFuncBound
import Derived.RangeFuncCalls
import Derived.RangeFuncLeaves
import Derived.Deep.LoopGhost
import Derived.Shelf.Abstract
import Derived.Shelf.AbstractIn
import Derived.Shelf.RegionOpen
import Derived.OwnWalkIn
import Derived.TacticsInMore
import Derived.LoopNIn
import Derived.LoopIn
import Derived.Maps.OwnIn
import Derived.Sort.QuietIn
import Derived.Deep.AppendLies
namespace Go.Proofs.YtbddghcdibdloaaGreatDoor
open Go.RowKit
theorem listed_yes (s : ByteArray) (a : Option Addr) (n c : Nat) (w : World) :
    Calls Tryz.prog 85 #[.agg #[.int .i8 3, .string s, .slice a n c]] w fun e w' => e = .returned (.slice a n c) ∧ Below w.heap.size w w' := by
  go_enter Tryz.func85, Tryz.ntmps85
  go_wp2
  go_ret
  exact ⟨rfl, (Below.refl _ _).alloc (Nat.le_refl _) _⟩
theorem listed_no (k : Int) (s : ByteArray) (a : Option Addr) (n c : Nat) (w : World) (hk : ¬ k = 3) :
    Calls Tryz.prog 85 #[.agg #[.int .i8 k, .string s, .slice a n c]] w fun e w' => e = .returned (.slice none 0 0) ∧ Below w.heap.size w w' := by
  have e1 := ne_true (x := k) (y := 3) hk
  clear hk
  go_enter Tryz.func85, Tryz.ntmps85
  go_wp2
  go_ret
  exact ⟨rfl, (Below.refl _ _).alloc (Nat.le_refl _) _⟩
/-- How many bits a byte has. -/
def lens : ByteArray := ⟨#[0, 1, 2, 2, 3, 3, 3, 3, 4, 4, 4, 4, 4, 4, 4, 4, 5, 5, 5, 5, 5, 5, 5, 5, 5, 5, 5, 5, 5, 5, 5, 5, 6, 6, 6, 6, 6, 6, 6, 6, 6, 6, 6, 6, 6, 6, 6, 6, 6, 6, 6, 6, 6, 6, 6, 6, 6, 6, 6, 6, 6, 6, 6, 6, 7, 7, 7, 7, 7, 7, 7, 7, 7, 7, 7, 7, 7, 7, 7, 7, 7, 7, 7, 7, 7, 7, 7, 7, 7, 7, 7, 7, 7, 7, 7, 7, 7, 7, 7, 7, 7, 7, 7, 7, 7, 7, 7, 7, 7, 7, 7, 7, 7, 7, 7, 7, 7, 7, 7, 7, 7, 7, 7, 7, 7, 7, 7, 7, 8, 8, 8, 8, 8, 8, 8, 8, 8, 8, 8, 8, 8, 8, 8, 8, 8, 8, 8, 8, 8, 8, 8, 8, 8, 8, 8, 8, 8, 8, 8, 8, 8, 8, 8, 8, 8, 8, 8, 8, 8, 8, 8, 8, 8, 8, 8, 8, 8, 8, 8, 8, 8, 8, 8, 8, 8, 8, 8, 8, 8, 8, 8, 8, 8, 8, 8, 8, 8, 8, 8, 8, 8, 8, 8, 8, 8, 8, 8, 8, 8, 8, 8, 8, 8, 8, 8, 8, 8, 8, 8, 8, 8, 8, 8, 8, 8, 8, 8, 8, 8, 8, 8, 8, 8, 8, 8, 8, 8, 8, 8, 8, 8, 8, 8, 8, 8, 8, 8, 8, 8, 8, 8, 8, 8, 8, 8, 8]⟩
set_option maxRecDepth 100000 in
theorem lens_size : lens.size = 256 := by decide +kernel
set_option maxRecDepth 100000 in
theorem lens_all : ∀ m : Fin 256, 1 ≤ m.val → 1 ≤ (lens[m.val]'(by rw [lens_size]; exact m.isLt)).toNat ∧ (lens[m.val]'(by rw [lens_size]; exact m.isLt)).toNat ≤ 8 ∧ 2 ^ ((lens[m.val]'(by rw [lens_size]; exact m.isLt)).toNat - 1) ≤ m.val := by decide +kernel
set_option maxRecDepth 100000 in
theorem Len64_any (m : Nat) (h1 : 1 ≤ m) (h2 : m < 256) (w : World) :
    Calls Tryz.prog 100 #[.int .u64 m] w fun e w' => (∃ L : Nat, e = .returned (.int .i64 L) ∧ 1 ≤ L ∧ L ≤ 8 ∧ 2 ^ (L - 1) ≤ m) ∧ w = w' := by
  have d1 : decide ((m : Int) ≥ 4294967296) = false := by simp; omega
  have d2 : decide ((m : Int) ≥ 65536) = false := by simp; omega
  have d3 : decide ((m : Int) ≥ 256) = false := by simp; omega
  go_enter Tryz.func100, Tryz.ntmps100
  go_wp2
  go_ret
  obtain ⟨h3, h4, h5⟩ := lens_all ⟨m, h2⟩ h1
  refine ⟨⟨(lens[m]'(by rw [lens_size]; exact h2)).toNat, ret_int ?_, h3, h4, h5⟩, rfl⟩
  have e : ∀ x : Nat, x ≤ 8 → wrap64 (wrap64 (x : Int)) = (x : Int) := fun x hx => by unfold wrap64; omega
  exact e _ h4
theorem Len_any (m : Nat) (h1 : 1 ≤ m) (h2 : m < 256) (w : World) :
    Calls Tryz.prog 95 #[.int .u64 m] w fun e w' => (∃ L : Nat, e = .returned (.int .i64 L) ∧ 1 ≤ L ∧ L ≤ 8 ∧ 2 ^ (L - 1) ≤ m) ∧ w = w' := by
  go_enter Tryz.func95, Tryz.ntmps95
  go_wp2_with fail
  refine (Len64_any m h1 h2 _).mono ?_
  rintro e w1 ⟨⟨L, rfl, h3, h4, h5⟩, rfl⟩
  go_wp2
  go_ret
  exact ⟨⟨L, rfl, h3, h4, h5⟩, rfl⟩
end Go.Proofs.YtbddghcdibdloaaGreatDoor
namespace Go.Proofs.YtbddghcdibdloaaGreatDoor
open Go.RowKit
/-- A row that is not the one at (a, n). -/
def NotRow (a : Option Addr) (n : Nat) (qa : Option Addr) (qn : Nat) : Prop :=
  qn ≠ n ∨ ∃ b o b' o', qa = some ⟨b, o, none⟩ ∧ a = some ⟨b', o', none⟩ ∧ ¬ (b = b' ∧ o = o') ∧ 0 < n
theorem sexSize : (Tryz.prog.info? 125).map (·.size) = some 3 := by kernel_rfl
theorem holds_any (g m cap : Nat) (a : Option Addr) (n c : Nat) (w : World) (h1 : 1 ≤ m) (h2 : m < 256)
    (hc : ∀ k, k < m → ∃ qa qn qc, w.cell? ⟨g, k * 2, none⟩ = some (.slice qa qn qc) ∧ NotRow a n qa qn ∧ ∀ b o, qa = some ⟨b, o, none⟩ → ∃ cs ty, w.heap[b]? = some (.cells cs ty (0, 0)))
    (hf : 0 < n → ∀ b o, a = some ⟨b, o, none⟩ → ∃ cs ty, w.heap[b]? = some (.cells cs ty (0, 0))) :
    Calls Tryz.prog 91 #[.slice (some ⟨g, 0, none⟩) m cap, .slice a n c] w fun e w' => e = .returned (.bool false) ∧ Below w.heap.size w w' := by
  have HC := Lib.hid hc
  have HF2 := Lib.hid hf
  clear hc hf
  go_enter Tryz.func91, Tryz.ntmps91
  go_wp2_with fail
  refine (Len_any m h1 h2 _).mono ?_
  rintro e w1 ⟨⟨L, rfl, h3, h4, h5⟩, rfl⟩
  have hp : 0 < 2 ^ (L - 1) := Nat.pow_pos (by omega)
  obtain ⟨k, hk⟩ : ∃ k : Nat, k = 2 ^ (L - 1) - 1 := ⟨_, rfl⟩
  have hkm : k < m := by omega
  have hw : wrap64 (wrap64 (2 ^ (L - 1)) - 1) = (k : Int) := by
    have e1 : (2 : Int) ^ (L - 1) = ((2 ^ (L - 1) : Nat) : Int) := by norm_cast
    rw [e1]
    unfold wrap64
    omega
  obtain ⟨qa, qn, qc, hcell, hnot, hfq⟩ := HC.out _ hkm
  have HF := Lib.hid hfq
  clear hfq
  clear hk hp h5
  rcases hnot with hne | ⟨b, o, b', o', rfl, rfl, hne, hpos⟩
  · have e2 := eq_false (x := (qn : Int)) (y := (n : Int)) (by omega)
    clear hne
    go_wp2
    go_quiet (fail)
    go_wp2
    go_ret
    exact ⟨rfl, below_drewN (Below.refl _ _) _⟩
  · by_cases hqn : qn = n
    · have e2 := eq_true_ (x := (qn : Int)) (y := (n : Int)) (by omega)
      subst hqn
      obtain ⟨j, hj, hjs⟩ := Option.map_eq_some_iff.1 sexSize
      have hn : (⟨b, o, none⟩ : Addr) ≠ ⟨b', o', none⟩ := fun e => hne (by cases e; exact ⟨rfl, rfl⟩)
      have hq0 : ∀ W : World, W.heap = w.heap → (Go.binOp .eql 166 (.pointer (some ⟨b, o, none⟩)) (.pointer (some ⟨b', o', none⟩))).run Tryz.prog W = .ok (.bool false) W := fun W hW => by
        obtain ⟨ca, ta, ha⟩ := HF.out b o rfl
        obtain ⟨cb, tb, hb⟩ := HF2.out hpos b' o' rfl
        exact run_eql_ptr_other W Tryz.underlying166 hj (by rw [hjs]; decide) hn (by rw [hW]; exact ha) (by rw [hW]; exact hb)
      have hq1 := hq0 w rfl
      have hq2 : ∀ k : Nat, _ := fun k => hq0 (w.drewN k) (by simp)
      clear hq0
      go_wp2
      go_quiet (fail)
      go_wp2
      go_ret
      exact ⟨rfl, below_drewN (Below.refl _ _) _⟩
    · have e2 := eq_false (x := (qn : Int)) (y := (n : Int)) (by omega)
      clear hqn
      go_wp2
      go_quiet (fail)
      go_wp2
      go_ret
      exact ⟨rfl, below_drewN (Below.refl _ _) _⟩
end Go.Proofs.YtbddghcdibdloaaGreatDoor
namespace Go.Proofs.YtbddghcdibdloaaGreatDoor
open Go.RowKit
variable {F : Fence} {n : Nat} {P : Program}
/-- From A to B: at most the blocks R have turned; R' are these, and some new ones. -/
structure Turn (R R' : Nat → Prop) (A B : World) : Prop where
  os : B.os = A.os
  tape : B.tape = A.tape
  output : B.output = A.output
  size : A.heap.size ≤ B.heap.size
  block : ∀ b, b < A.heap.size → ¬ R b → B.heap[b]? = A.heap[b]?
  more : ∀ b, R b → R' b
  new : ∀ b, R' b → R b ∨ (A.heap.size ≤ b ∧ b < B.heap.size)
theorem Turn.refl (R : Nat → Prop) (A : World) : Turn R R A A := ⟨rfl, rfl, rfl, Nat.le_refl _, fun _ _ _ => rfl, fun _ h => h, fun _ h => .inl h⟩
theorem Turn.trans {R R' R2 : Nat → Prop} {A B C : World} (h : Turn R R' A B) (k : Turn R' R2 B C) : Turn R R2 A C :=
  ⟨k.os.trans h.os, k.tape.trans h.tape, k.output.trans h.output, Nat.le_trans h.size k.size,
    fun b hb hR => (k.block b (Nat.lt_of_lt_of_le hb h.size) (fun hR' => by rcases h.new b hR' with h' | h'; exact hR h'; omega)).trans (h.block b hb hR),
    fun b hR => k.more b (h.more b hR), fun b hR => by
      have := h.size
      have := k.size
      rcases k.new b hR with h' | h'
      · rcases h.new b h' with h'' | h''
        · exact .inl h''
        · exact .inr ⟨h''.1, by omega⟩
      · exact .inr ⟨by omega, h'.2⟩⟩
theorem Turn.below {R : Nat → Prop} {A B : World} (h : Below A.heap.size A B) : Turn R R A B := ⟨h.os, h.tape, h.output, h.size, fun b hb _ => h.block b hb, fun _ h => h, fun _ h => .inl h⟩
/-- Only blocks of R have turned. -/
theorem Turn.of {R : Nat → Prop} {A B : World} {r : Nat} (hr : R r) (h : A.grownBy B (some r)) : Turn R R A B :=
  ⟨h.os, h.tape, h.output, h.size, fun b hb hR => h.block b hb (fun e => hR (by cases e; exact hr)), fun _ h => h, fun _ h => .inl h⟩
/-- A new block that is the iterator's. -/
theorem Turn.alloc (R : Nat → Prop) (A : World) (o : Obj) : Turn R (fun b => R b ∨ b = A.heap.size) A (A.alloc o) :=
  ⟨rfl, rfl, rfl, by simp, fun b hb _ => Below.heap_alloc A o b hb, fun _ h => .inl h, fun b h => by rcases h with h | rfl; exact .inl h; exact .inr ⟨Nat.le_refl _, by simp⟩⟩
/-- All the new blocks are the iterator's. -/
theorem Turn.news {R : Nat → Prop} {A B : World} (h : Below A.heap.size A B) : Turn R (fun b => R b ∨ (A.heap.size ≤ b ∧ b < B.heap.size)) A B :=
  ⟨h.os, h.tape, h.output, h.size, fun b hb _ => h.block b hb, fun _ h => .inl h, fun _ h => h⟩
theorem Turn.own {R R' : Nat → Prop} {A B : World} (h : Turn R R' A B) {b : Nat} (hb : b < A.heap.size) (hR : ¬ R b) : B.heap[b]? = A.heap[b]? ∧ ¬ R' b :=
  ⟨h.block b hb hR, fun h' => by rcases h.new b h' with h'' | h''; exact hR h''; omega⟩
/-- What a round keeps for the iterator: its own blocks R, and the blocks that it reads. -/
def KeepsR (keep R : Nat → Prop) (A B : World) : Prop := A.heap.size ≤ B.heap.size ∧ ∀ b, (R b ∨ keep b) → B.heap[b]? = A.heap[b]?
theorem KeepsR.trans {keep R : Nat → Prop} {A B C : World} (h : KeepsR keep R A B) (g : KeepsR keep R B C) : KeepsR keep R A C :=
  ⟨Nat.le_trans h.1 g.1, fun b hb => (g.2 b hb).trans (h.2 b hb)⟩
theorem KeepsR.refl (keep R : Nat → Prop) (A : World) : KeepsR keep R A A := ⟨Nat.le_refl _, fun _ _ => rfl⟩
theorem KeepsR.below {keep R : Nat → Prop} {A B : World} (h : Below A.heap.size A B) (hb : ∀ b, R b ∨ keep b → b < A.heap.size) : KeepsR keep R A B := ⟨h.size, fun b hR => h.block b (hb b hR)⟩
/-- An iterator that lays blocks of its own, turns these alone, and hands a row to yield, one behind the other, of which S holds in the end, and Sp behind each; yield goes on only where 'go' holds. -/
def SeqR {α : Type} (F : Fence) (n : Nat) (P : Program) (g : Nat) (lb : Array Value) (encs : α → Array Value) (S Sp : List α → Prop) (keep : Nat → Prop) (go : α → Prop) (W : World) : Prop :=
  ∀ (l : Nat) (J Jx : (Nat → Prop) → List α → World → Prop),
    (∀ R R' pre A B, (∀ b, R b → W.heap.size ≤ b ∧ b < A.heap.size) → J R pre A → Turn R R' A B → J R' pre B) →
    (∀ R R' pre A B, (∀ b, R b → W.heap.size ≤ b) → Jx R pre A → Turn R R' A B → Jx R' pre B) →
    (∀ R pre x A, (∀ b, R b → W.heap.size ≤ b ∧ b < A.heap.size) → W.heap.size ≤ A.heap.size → Sp (pre ++ [x]) → J R pre A → YieldAt F (n - 1) P l (encs x) A fun e B =>
      (e = .returned (.bool true) ∧ go x ∧ J R (pre ++ [x]) B ∧ KeepsR keep R A B) ∨ (e = .returned (.bool false) ∧ Jx R (pre ++ [x]) B)) →
    J (fun _ => False) [] W →
    CallsIn F n P g (#[.func (.yield l) #[] #[]] ++ lb) W fun e B => (∃ v, e = .returned v) ∧ ∃ R, (∀ b, R b → W.heap.size ≤ b) ∧ ((∃ ys, S ys ∧ J R ys B) ∨ ∃ pre x, Sp (pre ++ [x]) ∧ Jx R (pre ++ [x]) B)
/-- How the body of a round may be left. -/
def postR {α : Type} (D : Nat) (keep R : Nat → Prop) (go : α → Prop) (I : (Nat → Prop) → List α → World → Prop) (Ix : (Nat → Prop) → Code → List α → World → Prop) (pre : List α) (x : α) (A : World) : Exit → Act → World → Prop
  | .normal, _, B => KeepsFrom D A B ∧ KeepsR keep R A B ∧ go x ∧ I R (pre ++ [x]) B
  | .ret, _, B => KeepsFrom D A B ∧ Ix R .ret (pre ++ [x]) B
  | .exit id, _, B => KeepsFrom D A B ∧ Ix R (.exit id) (pre ++ [x]) B
  | .goto t, _, B => KeepsFrom D A B ∧ Ix R (.goto t) (pre ++ [x]) B
  | .panic _, _, _ => False
  | .outgrown, _, _ => False
/-- What abides the turn of a block that is no cells and lies at D or beyond. -/
def OwnO (D : Nat) (I : World → Prop) : Prop :=
  ∀ A l o o', I A → D ≤ l → A.heap[l]? = some o → o.isCells = false → I (A.putObj l o')
theorem keepsR_put {keep R : Nat → Prop} {A : World} {l : Nat} (o : Obj) (hR : ∀ b, R b → b ≠ l) (hk : ∀ b, keep b → b ≠ l) : KeepsR keep R A (A.putObj l o) :=
  ⟨by simp, fun b hb => World.putObj_heap_other (by rcases hb with hb | hb; exact hR b hb; exact hk b hb)⟩
theorem turn_keeps {R R' : Nat → Prop} {A B : World} {l : Nat} {o : Obj} (h : Turn R R' A B) (hl : A.heap[l]? = some o) (hne : ¬ R l) : B.heap[l]? = some o :=
  (h.block l (Array.getElem?_eq_some_iff.1 hl).1 hne).trans hl
theorem wpIn_rangeFunc_R {α : Type} {g : Operand} {ps : Array Tmp} {assign body : Code} {Q : Exit → Act → World → Prop} {a : Act} {w : World}
    (hro : F.round = none) (h1 : 1 ≤ n) {gf : Nat} {lb : Array Value} (hg : a.eval g = .func (.func gf) #[] lb) (hFg : F.fn gf) (eg : ∀ args w, (callFunc gf args).run P w = .ok (.enter gf args) w)
    {encs : α → Array Value} {S Sp : List α → Prop} {keep : Nat → Prop} {go : α → Prop} (hseq : ∀ W, Below w.heap.size w W → SeqR F (n - 1) P gf lb encs S Sp keep go W) (hkeep : ∀ b, keep b → b < w.heap.size) (hps : ∀ x, (encs x).size = ps.size)
    (I : (Nat → Prop) → List α → World → Prop) (Ix : (Nat → Prop) → Code → List α → World → Prop)
    (hI : ∀ R R' pre A B, (∀ b, R b → w.heap.size ≤ b ∧ b < A.heap.size) → I R pre A → Turn R R' A B → I R' pre B) (hIo : ∀ R pre, OwnO w.heap.size (I R pre))
    (hIx : ∀ R R' c pre A B, (∀ b, R b → w.heap.size ≤ b) → Ix R c pre A → Turn R R' A B → Ix R' c pre B) (hIxo : ∀ R c pre, OwnO w.heap.size (Ix R c pre))
    (h0 : ∀ B, Below w.heap.size w B → I (fun _ => False) [] B)
    (Ax : (Nat → Prop) → α → Act → World → Prop) (hAx : ∀ R x a', OwnO w.heap.size (Ax R x a'))
    (hassign : ∀ (l : Nat) (R : Nat → Prop) (pre : List α) (x : α) (W : World) (K : Act → World → Prop), (∀ b, R b → w.heap.size ≤ b ∧ b < W.heap.size) → w.heap.size ≤ W.heap.size → Sp (pre ++ [x]) → I R pre W →
      (∀ a' W', KeepsFrom w.heap.size W W' → KeepsR keep R W W' → I R pre W' → Ax R x a' W' → K a' W') →
      assign.wpIn (F.inRound l) (n - 1 - 1) P (Exit.then K (fun _ _ _ => False)) { tmps := (ps.zip (encs x)).foldl (fun t (p, v) => t.setIfInBounds p v) a.tmps, defers := [] } W)
    (hbody : ∀ (l : Nat) (R : Nat → Prop) (pre : List α) (x : α) (a' : Act) (W : World), (∀ b, R b → w.heap.size ≤ b ∧ b < W.heap.size) → w.heap.size ≤ W.heap.size → Sp (pre ++ [x]) → I R pre W → Ax R x a' W →
      body.wpIn (F.inRound l) (n - 1 - 1) P (postR w.heap.size keep R go I Ix pre x W) a' W)
    (hdone : ∀ (D : Nat) (R : Nat → Prop) (ys : List α) (W : World), w.heap.size ≤ D → (∀ b, R b → w.heap.size ≤ b) → S ys → I R ys W → W.heap[D]? = some (.deferred (some [])) → Q .normal { a with defers := { target := .collected D, args := #[] } :: a.defers } W)
    (hstop : ∀ (D : Nat) (R : Nat → Prop) (c : Code) (pre : List α) (x : α) (W : World), w.heap.size ≤ D → (∀ b, R b → w.heap.size ≤ b) → Sp (pre ++ [x]) → Ix R c (pre ++ [x]) W → W.heap[D]? = some (.deferred (some [])) →
      c.wpIn F n P Q { a with defers := { target := .collected D, args := #[] } :: a.defers } W) :
    (Code.rangeFunc g ps assign body).wpIn F n P Q a w := by
  refine wpIn_rangeFunc ?_
  intro fn hfn
  rw [hro]
  obtain ⟨rec, hrec⟩ : ∃ rec : LoopState → Option Code → Loop, rec = fun st pe => { state := st, pending := pe, fn, tmps := a.tmps, params := ps, assign, body, defers := w.heap.size } := ⟨_, rfl⟩
  obtain ⟨W1, hW1⟩ : ∃ W1, (w.alloc (.deferred (some []))).alloc (.loop (rec .ready none)) = W1 := ⟨_, rfl⟩
  have hsz : W1.heap.size = w.heap.size + 2 := by rw [← hW1]; simp
  have hL1 : W1.heap[w.heap.size + 1]? = some (.loop (rec .ready none)) := by
    rw [← hW1]; have := World.alloc_heap_new (w.alloc (.deferred (some []))) (.loop (rec .ready none)); rwa [World.size_alloc] at this
  have hK1 : W1.heap[w.heap.size]? = some (.deferred (some [])) := by
    rw [← hW1]; exact (Below.heap_alloc _ _ _ (by simp)).trans (World.alloc_heap_new w _)
  have hb1 : Below w.heap.size w W1 := by
    rw [← hW1]; exact ((Below.refl _ w).alloc (Nat.le_refl _) _).alloc (by simp) _
  refine ⟨w.heap.size + 1, [{ target := .collected w.heap.size, args := #[] }], W1, { target := .fn (.func gf) lb, args := #[.func (.yield (w.heap.size + 1)) #[] #[]] }, W1, gf,
    #[.func (.yield (w.heap.size + 1)) #[] #[]] ++ lb, W1, ?_, ?_, ?_, ?_, fun _ => h1, ?_⟩
  · rw [← hW1, hrec]; exact run_enterLoop_outer _ _ _ _ _
  · simp only [resolve, hg]
    simp [go_sem]
  · intro f' hf'; simp [Target.leads] at hf'; subst hf'; exact hFg
  · simp [invoke, go_sem, eg]
  · refine (hseq W1 hb1 (w.heap.size + 1)
      (fun R pre W => I R pre W ∧ W.heap[w.heap.size + 1]? = some (.loop (rec .ready none)) ∧ W.heap[w.heap.size]? = some (.deferred (some [])))
      (fun R pre W => ∃ c, Ix R c pre W ∧ W.heap[w.heap.size + 1]? = some (.loop (rec .done (some c))) ∧ W.heap[w.heap.size]? = some (.deferred (some [])))
      (fun R R' pre A B hR hs hg' => ⟨hI R R' pre A B (fun b hb => ⟨by have := (hR b hb).1; omega, (hR b hb).2⟩) hs.1 hg', turn_keeps hg' hs.2.1 (fun hb => by have := (hR _ hb).1; omega), turn_keeps hg' hs.2.2 (fun hb => by have := (hR _ hb).1; omega)⟩)
      (fun R R' pre A B hR hs hg' => by
        obtain ⟨c, hc, hl, hk⟩ := hs
        exact ⟨c, hIx R R' c pre A B (fun b hb => by have := hR b hb; omega) hc hg', turn_keeps hg' hl (fun hb => by have := hR _ hb; omega), turn_keeps hg' hk (fun hb => by have := hR _ hb; omega)⟩)
      ?_ ?_).mono ?_
    · rintro R pre x W hR hWs hx ⟨hi, hl, hk⟩
      have hlt : w.heap.size + 1 < W.heap.size := (Array.getElem?_eq_some_iff.1 hl).1
      have hR' : ∀ b, R b → w.heap.size ≤ b ∧ b < W.heap.size := fun b hb => ⟨by have := (hR b hb).1; omega, (hR b hb).2⟩
      have hy := run_yield (P := P) (args := encs x) hl (by rw [hrec]; exact hps x)
      rw [hrec] at hy
      refine ⟨fn, _, assign, body, hy, roundIn_of_wpIn hfn (hassign _ R pre x W _ hR' (by omega) hx hi ?_)⟩
      clear hy
      intro a' Wa hkfa hkpa hia hax
      have hRa : ∀ b, R b → w.heap.size ≤ b ∧ b < Wa.heap.size := fun b hb => ⟨(hR' b hb).1, Nat.lt_of_lt_of_le (hR' b hb).2 hkpa.1⟩
      replace hl := hkfa.same _ _ (by omega) hl rfl
      replace hk := hkfa.same _ _ (Nat.le_refl _) hk rfl
      replace hlt : w.heap.size + 1 < Wa.heap.size := (Array.getElem?_eq_some_iff.1 hl).1
      refine ⟨_, run_beginRound hl (by rw [hrec]), ?_⟩
      have hl2 : (Wa.putObj (w.heap.size + 1) (.loop { rec .ready none with state := .busy })).heap[w.heap.size + 1]? = some (.loop { rec .ready none with state := .busy }) := World.putObj_heap_same hlt
      have hk2 : (Wa.putObj (w.heap.size + 1) (.loop { rec .ready none with state := .busy })).heap[w.heap.size]? = some (.deferred (some [])) := (World.putObj_heap_other (by omega)).trans hk
      have hkw : ∀ b, keep b → b ≠ w.heap.size + 1 := fun b hb => by have := hkeep b hb; omega
      have hRw : ∀ b, R b → b ≠ w.heap.size + 1 := fun b hb => by have := (hR b hb).1; omega
      have hw2 : KeepsR keep R Wa (Wa.putObj (w.heap.size + 1) (.loop { rec .ready none with state := .busy })) := keepsR_put _ hRw hkw
      refine wpIn_mono (hbody _ R pre x a' _ (by simpa using hRa) (by simp; omega) hx (hIo R pre _ _ _ _ hia (by omega) hl rfl) (hAx R x a' _ _ _ _ hax (by omega) hl rfl)) ?_
      have fin : ∀ (jump : Option Code) (W3 : World), KeepsFrom w.heap.size (Wa.putObj (w.heap.size + 1) (.loop { rec .ready none with state := .busy })) W3 →
          (Instr.endRound (w.heap.size + 1) jump).run P W3 = .ok (.bool jump.isNone) (W3.putObj (w.heap.size + 1) (.loop (rec (if jump.isNone then .ready else .done) jump))) ∧
          W3.heap[w.heap.size + 1]? = some (.loop { rec .ready none with state := .busy }) ∧
          (W3.putObj (w.heap.size + 1) (.loop (rec (if jump.isNone then .ready else .done) jump))).heap[w.heap.size + 1]? = some (.loop (rec (if jump.isNone then .ready else .done) jump)) ∧
          (W3.putObj (w.heap.size + 1) (.loop (rec (if jump.isNone then .ready else .done) jump))).heap[w.heap.size]? = some (.deferred (some [])) := fun jump W3 hk3 => by
        have hl3 := hk3.same _ _ (by omega) hl2 rfl
        have := run_endRound (P := P) jump hl3
        rw [hrec] at this ⊢
        exact ⟨this, by rw [hrec] at hl3; exact hl3, World.putObj_heap_same (Array.getElem?_eq_some_iff.1 hl3).1, (World.putObj_heap_other (by omega)).trans (hk3.same _ _ (Nat.le_refl _) hk2 rfl)⟩
      rintro e a3 W3 hp
      cases e with
      | normal =>
        obtain ⟨hk3, hkp3, hgo, hi3⟩ := hp
        obtain ⟨hr, hl3, hl4, hk4⟩ := fin none W3 hk3
        exact ⟨_, _, hr, .inl ⟨rfl, hgo, ⟨hIo R _ _ _ _ _ hi3 (by omega) hl3 rfl, hl4, hk4⟩, hkpa.trans (hw2.trans (hkp3.trans (keepsR_put _ hRw hkw)))⟩⟩
      | ret =>
        obtain ⟨hk3, hi3⟩ := hp
        obtain ⟨hr, hl3, hl4, hk4⟩ := fin (some .ret) W3 hk3
        exact ⟨_, _, hr, .inr ⟨rfl, .ret, hIxo R _ _ _ _ _ _ hi3 (by omega) hl3 rfl, hl4, hk4⟩⟩
      | exit id =>
        obtain ⟨hk3, hi3⟩ := hp
        obtain ⟨hr, hl3, hl4, hk4⟩ := fin (some (.exit id)) W3 hk3
        exact ⟨_, _, hr, .inr ⟨rfl, .exit id, hIxo R _ _ _ _ _ _ hi3 (by omega) hl3 rfl, hl4, hk4⟩⟩
      | goto t =>
        obtain ⟨hk3, hi3⟩ := hp
        obtain ⟨hr, hl3, hl4, hk4⟩ := fin (some (.goto t)) W3 hk3
        exact ⟨_, _, hr, .inr ⟨rfl, .goto t, hIxo R _ _ _ _ _ _ hi3 (by omega) hl3 rfl, hl4, hk4⟩⟩
      | panic ch => exact hp.elim
      | outgrown => exact hp.elim
    · exact ⟨h0 W1 hb1, hL1, hK1⟩
    · rintro e W2 ⟨⟨v, rfl⟩, R, hR, (⟨ys, hS, hi, hl, hk⟩ | ⟨pre, x, hx, c, hi, hl, hk⟩)⟩
      · exact ⟨none, _, by have := run_endLoop (P := P) hl (by rw [hrec]; simp); rw [hrec] at this; exact this, hdone _ R ys _ (Nat.le_refl _) (fun b hb => by have := hR b hb; omega) hS (hIo R _ _ _ _ _ hi (by omega) hl rfl) ((World.putObj_heap_other (by omega)).trans hk)⟩
      · exact ⟨some c, _, by have := run_endLoop (P := P) hl (by rw [hrec]; simp); rw [hrec] at this; exact this, hstop _ R c pre x _ (Nat.le_refl _) (fun b hb => by have := hR b hb; omega) hx (hIxo R _ _ _ _ _ _ hi (by omega) hl rfl) ((World.putObj_heap_other (by omega)).trans hk)⟩
end Go.Proofs.YtbddghcdibdloaaGreatDoor
namespace Go.Proofs.YtbddghcdibdloaaGreatDoor
open Go.RowKit
mutual
/-- The expressions within one, as they are written, each with how many rows are around it. -/
def preT (own : Int → Bool) (d : Nat) : Tree → List (Nat × Tree)
  | .node k s l => (d, .node k s l) :: (if own k = true then preL own (d + 1) l else [])
def preL (own : Int → Bool) (d : Nat) : List Tree → List (Nat × Tree)
  | [] => []
  | t :: r => preT own d t ++ preL own d r
end
def ownL (own : Int → Bool) : Tree → List Tree
  | .node k _ l => if own k = true then l else []
theorem preT_eq (own : Int → Bool) (d : Nat) (t : Tree) : preT own d t = (d, t) :: preL own (d + 1) (ownL own t) := by
  cases t with
  | node k s l =>
    simp only [preT, ownL]
    by_cases h : own k = true
    · rw [if_pos h, if_pos h]
    · rw [if_neg h, if_neg h]; simp [preL]
theorem szL_own (own : Int → Bool) (t : Tree) : szL (ownL own t) < szT t := by
  cases t with
  | node k s l =>
    rw [szT_node]
    simp only [ownL]
    split
    · omega
    · simp [szL]
structure Row where
  full : List Tree
  pos : Nat
  a : Option Addr
  cap : Nat
def rowC (r : Row) : List Value := [.slice r.a r.full.length r.cap, .int .i64 r.pos]
def rowsC (rs : List Row) : List Value := rs.flatMap rowC
theorem rowsC_length (rs : List Row) : (rowsC rs).length = rs.length * 2 := by
  unfold rowsC
  induction rs with
  | nil => rfl
  | cons r t ih => simp only [List.flatMap_cons, List.length_append, ih, List.length_cons]; simp [rowC]; omega
theorem rowsC_snoc (rs : List Row) (r : Row) : rowsC (rs ++ [r]) = rowsC rs ++ rowC r := by simp [rowsC]
theorem rowsC_take (rs : List Row) (r : Row) : (rowsC (rs ++ [r])).take (rs.length * 2) = rowsC rs := by
  rw [rowsC_snoc, ← rowsC_length, List.take_left]
theorem rowsC_top (rs : List Row) (r : Row) : (rowsC (rs ++ [r]))[rs.length * 2]? = some (.slice r.a r.full.length r.cap) ∧ (rowsC (rs ++ [r]))[rs.length * 2 + 1]? = some (.int .i64 r.pos) := by
  rw [rowsC_snoc]
  have h := rowsC_length rs
  constructor
  · rw [List.getElem?_append_right (by omega), h]; simp [rowC]
  · rw [List.getElem?_append_right (by omega), h]; simp [rowC]
theorem rowsC_at (rs : List Row) (k : Nat) (h : k < rs.length) : (rowsC rs)[k * 2]? = some (.slice rs[k].a rs[k].full.length rs[k].cap) := by
  induction rs generalizing k with
  | nil => simp at h
  | cons r t ih =>
    have hd : rowsC (r :: t) = rowC r ++ rowsC t := rfl
    cases k with
    | zero => rw [hd]; simp [rowC]
    | succ k =>
      rw [hd, List.getElem?_append_right (by simp [rowC]; omega)]
      have := ih k (by simpa using h)
      simp only [rowC, List.length_cons, List.length_nil, List.getElem_cons_succ]
      rw [← this]
      congr 1
      omega
theorem rowsC_bump (rs : List Row) (r : Row) : (rowsC (rs ++ [r])).set (rs.length * 2 + 1) (.int .i64 ((r.pos + 1 : Nat) : Int)) = rowsC (rs ++ [{ r with pos := r.pos + 1 }]) := by
  rw [rowsC_snoc, rowsC_snoc, List.set_append_right _ _ (by rw [rowsC_length]; omega), rowsC_length]
  simp [rowC]
/-- What is still to come, the outermost row first. -/
def remR (own : Int → Bool) (d : Nat) : List Row → List (Nat × Tree)
  | [] => []
  | r :: rs => remR own (d + 1) rs ++ preL own d (r.full.drop r.pos)
theorem remR_snoc (own : Int → Bool) (d : Nat) (rs : List Row) (r : Row) : remR own d (rs ++ [r]) = preL own (d + rs.length) (r.full.drop r.pos) ++ remR own d rs := by
  induction rs generalizing d with
  | nil => simp [remR]
  | cons q t ih =>
    have e : d + 1 + t.length = d + (q :: t).length := by simp; omega
    simp only [List.cons_append, remR, ih, e, List.append_assoc]
theorem remR_pop {own : Int → Bool} {rs : List Row} {r : Row} (h : r.full.length ≤ r.pos) : remR own 0 (rs ++ [r]) = remR own 0 rs := by
  rw [remR_snoc, List.drop_eq_nil_of_le h]; simp [preL]
theorem remR_step {own : Int → Bool} {rs : List Row} {r : Row} {y : Tree} (a : Option Addr) (c : Nat) (h : r.full[r.pos]? = some y) :
    remR own 0 (rs ++ [r]) = (rs.length, y) :: remR own 0 ((rs ++ [{ r with pos := r.pos + 1 }]) ++ [⟨ownL own y, 0, a, c⟩]) := by
  obtain ⟨hlt, hy⟩ := List.getElem?_eq_some_iff.1 h
  rw [remR_snoc, remR_snoc, remR_snoc, List.drop_eq_getElem_cons hlt, hy]
  simp only [preL, preT_eq, List.drop_zero, List.cons_append, List.append_assoc, Nat.zero_add, List.length_append, List.length_cons, List.length_nil]
/-- An expression, how many rows are around it, and its value. -/
abbrev Itm := Nat × Tree × Value
def dt (x : Itm) : Nat × Tree := (x.1, x.2.1)
def encY (x : Itm) : Array Value := #[.int .i64 x.1, x.2.2]
/-- The value's own fields are the tree's. -/
def VF (t : Tree) (v : Value) : Prop := ∃ a cap, v = .agg #[.int .i8 t.kind, .string (bytesL t.text), .slice a t.kids.length cap] ∧ t.kids.length ≤ cap ∧ cap ≤ maxLen ∧ t.text.length ≤ maxLen
theorem Rd.vf {w : World} {bad : Nat → Prop} {t : Tree} {v : Value} (h : Rd w bad t v) : VF t v := by
  obtain ⟨a, cap, h1, h2, h3, h4, _⟩ := h.parts
  exact ⟨a, cap, h1, h2, h3, h4⟩
def SpY (own : Int → Bool) (t0 : Tree) (ys : List Itm) : Prop := ys.map dt <+: preT own 0 t0 ∧ ∀ x ∈ ys, VF x.2.1 x.2.2
def SY (own : Int → Bool) (t0 : Tree) (ys : List Itm) : Prop := ys.map dt = preT own 0 t0 ∧ ∀ x ∈ ys, VF x.2.1 x.2.2
structure RowOk (w : World) (bad : Nat → Prop) (r : Row) : Prop where
  pos : r.pos ≤ r.full.length
  len : r.full.length ≤ r.cap
  cap : r.cap ≤ maxLen
  rd : RdL w bad r.full r.a
/-- The iterator's rows. -/
structure Stk (n₀ B0 : Nat) (bad : Nat → Prop) (R : Nat → Prop) (rows : List Row) (g cap : Nat) (w : World) : Prop where
  R0 : ∀ b, R b → n₀ ≤ b ∧ b < w.heap.size
  RB : R B0
  Rg : R g
  gB : g ≠ B0
  low : ∀ b, ¬ bad b → b < n₀ ∨ b = B0
  box : ∃ cs ty, w.heap[B0]? = some (.cells cs ty (0, 0))
  row : w.ownsRow n₀ 159 2 (.slice (some ⟨g, 0, none⟩) rows.length cap) rows.length (rowsC rows)
  ok : ∀ r ∈ rows, RowOk w bad r
  inner : rows.Pairwise (fun r r' => szL r'.full < szL r.full)
  few : rows.length ≤ 241
  top : ∀ rs r, rows = rs ++ [r] → r.full ≠ [] → rows.length ≤ 240
theorem ownsRow_heap {w w' : World} {base : Nat} {e : TypeId} {size : Nat} {v : Value} {n : Nat} {xs : List Value} (h : w.ownsRow base e size v n xs) (hk : ∀ g, v.ownBlock = some g → w'.heap[g]? = w.heap[g]?) : w'.ownsRow base e size v n xs := by
  refine ⟨h.1, ?_⟩
  rcases h.2 with hn | ⟨g, cap, cur, rfl, hb, hgg, rest⟩
  · exact .inl hn
  · exact .inr ⟨g, cap, cur, rfl, hb, (hk g rfl).trans hgg, rest⟩
theorem RowOk.keep {w w' : World} {bad : Nat → Prop} {r : Row} (h : RowOk w bad r) (hk : ∀ b, ¬ bad b → b < w.heap.size → w'.heap[b]? = w.heap[b]?) : RowOk w' bad r :=
  ⟨h.pos, h.len, h.cap, RdL.keep hk _ _ h.rd⟩
section
variable {n₀ B0 : Nat} {bad R R' : Nat → Prop} {rows rs : List Row} {r : Row} {g cap : Nat} {w w' : World}
theorem Stk.keep (h : Stk n₀ B0 bad R rows g cap w) (hs : w.heap.size ≤ w'.heap.size) (hk : ∀ b, R b ∨ ¬ bad b → w'.heap[b]? = w.heap[b]?) : Stk n₀ B0 bad R rows g cap w' :=
  ⟨fun b hb => ⟨(h.R0 b hb).1, Nat.lt_of_lt_of_le (h.R0 b hb).2 hs⟩, h.RB, h.Rg, h.gB, h.low, (by obtain ⟨cs, ty, hb⟩ := h.box; exact ⟨cs, ty, (hk _ (.inl h.RB)).trans hb⟩), ownsRow_heap h.row (fun g' e => by cases e; exact hk _ (.inl h.Rg)), fun r hr => (h.ok r hr).keep (fun b hb _ => hk b (.inr hb)), h.inner, h.few, h.top⟩
theorem Stk.more (h : Stk n₀ B0 bad R rows g cap w) (hR : ∀ b, R b → R' b) (hR' : ∀ b, R' b → n₀ ≤ b ∧ b < w.heap.size) : Stk n₀ B0 bad R' rows g cap w :=
  ⟨hR', hR _ h.RB, hR _ h.Rg, h.gB, h.low, h.box, h.row, h.ok, h.inner, h.few, h.top⟩
theorem own_take {base k : Nat} {e : TypeId} {size : Nat} {xs : List Value} (h : w.ownsRow base e size (.slice (some ⟨g, 0, none⟩) (k + 1) cap) (k + 1) xs) :
    w.ownsRow base e size (.slice (some ⟨g, 0, none⟩) k cap) k (xs.take (k * size)) ∧ k + 1 ≤ cap := by
  rcases h.2 with ⟨h', _⟩ | ⟨g', cap', cur, h', hb, hg, hnc, hcm, hcs, htake⟩
  · simp at h'
  · simp only [Value.slice.injEq, Option.some.injEq, Addr.mk.injEq, and_true, true_and] at h'
    obtain ⟨rfl, rfl⟩ := h'
    refine ⟨⟨?_, .inr ⟨g, cap, cur, rfl, hb, hg, by omega, hcm, hcs, ?_⟩⟩, hnc⟩
    · rw [List.length_take, h.1, Nat.min_eq_left (Nat.mul_le_mul_right _ (by omega))]
    · rw [← htake, List.take_take, Nat.min_eq_left (Nat.mul_le_mul_right _ (by omega))]
theorem Stk.pop (h : Stk n₀ B0 bad R (rs ++ [r]) g cap w) : Stk n₀ B0 bad R rs g cap w := by
  have hrow := h.row
  rw [List.length_append, List.length_singleton] at hrow
  have hfew := h.few
  rw [List.length_append, List.length_singleton] at hfew
  have h2 := (own_take hrow).1
  rw [rowsC_take] at h2
  exact ⟨h.R0, h.RB, h.Rg, h.gB, h.low, h.box, h2, fun q hq => h.ok q (by simp [hq]), (List.pairwise_append.1 h.inner).1, by omega, fun _ _ _ _ => by omega⟩
/-- The last row's place, one further on. -/
theorem Stk.bump (h : Stk n₀ B0 bad R (rs ++ [r]) g cap w) (hlt : r.pos < r.full.length) :
    Stk n₀ B0 bad R (rs ++ [{ r with pos := r.pos + 1 }]) g cap (w.setCell ⟨g, rs.length * 2 + 1, none⟩ (.int .i64 ((r.pos + 1 : Nat) : Int))) := by
  have hl : (rs ++ [{ r with pos := r.pos + 1 }]).length = (rs ++ [r]).length := by simp
  have h2 := (h.row.stored (rs.length * 2 + 1) (.int .i64 ((r.pos + 1 : Nat) : Int))).1
  rw [rowsC_bump] at h2
  have hsz : (w.setCell ⟨g, rs.length * 2 + 1, none⟩ (.int .i64 ((r.pos + 1 : Nat) : Int))).heap.size = w.heap.size := by simp [World.setCell]
  have hk : ∀ b, ¬ bad b → b < w.heap.size → (w.setCell ⟨g, rs.length * 2 + 1, none⟩ (.int .i64 ((r.pos + 1 : Nat) : Int))).heap[b]? = w.heap[b]? := fun b hb _ =>
    Below.heap_setCell _ _ _ _ (fun e => by
      have e' : b = g := e
      subst e'
      rcases h.low b hb with h' | h'
      · have := (h.R0 b h.Rg).1; omega
      · exact h.gB h')
  have hin := List.pairwise_append.1 h.inner
  refine ⟨fun b hb => by rw [hsz]; exact h.R0 b hb, h.RB, h.Rg, h.gB, h.low, (by obtain ⟨cs, ty, hb⟩ := h.box; exact ⟨cs, ty, (Below.heap_setCell _ _ _ _ (fun e => h.gB (Eq.symm e))).trans hb⟩), by rw [hl]; exact h2, fun q hq => ?_, ?_, by rw [hl]; exact h.few, fun rs' r' e hne => ?_⟩
  · rcases List.mem_append.1 hq with hq | hq
    · exact (h.ok q (by simp [hq])).keep hk
    · simp at hq
      subst hq
      have := (h.ok r (by simp)).keep hk
      exact ⟨hlt, this.len, this.cap, this.rd⟩
  · refine List.pairwise_append.2 ⟨hin.1, by simp, fun a ha b hb => ?_⟩
    simp at hb
    subst hb
    exact hin.2.2 a ha r (by simp)
  · obtain ⟨h3, h4⟩ := List.append_inj' e rfl
    simp at h4
    subst h4
    rw [hl]
    exact h.top rs r rfl hne
/-- The rows of which the path holds none that is the next one. -/
theorem Stk.notRow (h : Stk n₀ B0 bad R (rs ++ [r]) g cap w) {y : Tree} (hy : y ∈ r.full) {l : List Tree} (hl : szL l < szT y) {a : Option Addr} (hrd : RdL w bad l a) :
    ∀ k, (hk : k < (rs ++ [r]).length) → NotRow a l.length (rs ++ [r])[k].a (rs ++ [r])[k].full.length := by
  intro k hk
  have hmem := List.getElem_mem hk
  have hok := h.ok _ hmem
  obtain ⟨q, hq⟩ : ∃ q, q = (rs ++ [r])[k] := ⟨_, rfl⟩
  rw [← hq] at hmem hok ⊢
  have hsz : szL l < szL q.full := by
    have h1 := szL_mem hy
    rcases List.mem_append.1 hmem with hq' | hq'
    · have := (List.pairwise_append.1 h.inner).2.2 q hq' r (by simp); omega
    · simp at hq'; subst hq'; omega
  by_cases hn : q.full.length = l.length
  · have hp : 0 < q.full.length := by
      cases hf : q.full with
      | nil => rw [hf] at hsz; simp [szL] at hsz
      | cons _ _ => simp
    obtain ⟨b, o, e1, _⟩ := hok.rd.addr hp
    obtain ⟨b', o', e2, _⟩ := hrd.addr (by omega)
    refine .inr ⟨b, o, b', o', e1, e2, fun he => ?_, by omega⟩
    obtain ⟨rfl, rfl⟩ := he
    have := RdL.one q.full l _ hn (e1 ▸ hok.rd) (e2 ▸ hrd)
    rw [this] at hsz
    omega
  · exact .inl hn
/-- One row more. -/
theorem Stk.push (h : Stk n₀ B0 bad R (rs ++ [r]) g cap w) {y : Tree} (hy : y ∈ r.full) {q : Row} (hq : szL q.full < szT y) (hqk : RowOk w bad q) (hk : q.full ≠ [] → rs.length < 239)
    (hw : ∀ b, b < w.heap.size → b ≠ g → w'.heap[b]? = w.heap[b]?) {g' cap' : Nat} (hg' : g' = g ∨ (w.heap.size ≤ g' ∧ g' < w'.heap.size)) (hR : ∀ b, R b → R' b) (hR' : ∀ b, R' b → n₀ ≤ b ∧ b < w'.heap.size) (hRg : R' g')
    (hrow : w'.ownsRow n₀ 159 2 (.slice (some ⟨g', 0, none⟩) (rs.length + 1 + 1) cap') (rs.length + 1 + 1) (rowsC (rs ++ [r] ++ [q]))) : Stk n₀ B0 bad R' (rs ++ [r] ++ [q]) g' cap' w' := by
  have hl : (rs ++ [r] ++ [q]).length = rs.length + 1 + 1 := by simp
  have hB := (h.R0 _ h.RB).2
  have hG := (h.R0 _ h.Rg)
  have hkk : ∀ b, ¬ bad b → b < w.heap.size → w'.heap[b]? = w.heap[b]? := fun b hb hlt => hw b hlt (fun e => by
    subst e
    rcases h.low b hb with h' | h'
    · omega
    · exact h.gB h')
  have hne : r.full ≠ [] := fun e => by rw [e] at hy; simp at hy
  have htop := h.top rs r rfl hne
  rw [List.length_append, List.length_singleton] at htop
  refine ⟨hR', hR _ h.RB, hRg, ?_, h.low, (by obtain ⟨cs, ty, hb⟩ := h.box; exact ⟨cs, ty, (hw _ hB (fun e => h.gB e.symm)).trans hb⟩), by rw [hl]; exact hrow, fun q' hq' => ?_, ?_, by rw [hl]; omega, fun rs' r' e hne' => ?_⟩
  · rcases hg' with rfl | ⟨h1, _⟩
    · exact h.gB
    · omega
  · rcases List.mem_append.1 hq' with hq' | hq'
    · exact (h.ok q' hq').keep hkk
    · simp at hq'; subst hq'; exact hqk.keep hkk
  · refine List.pairwise_append.2 ⟨h.inner, by simp, fun a ha b hb => ?_⟩
    simp at hb
    subst hb
    have h1 := szL_mem hy
    rcases List.mem_append.1 ha with ha | ha
    · have := (List.pairwise_append.1 h.inner).2.2 a ha r (by simp); omega
    · simp at ha; subst ha; omega
  · obtain ⟨_, h4⟩ := List.append_inj' e rfl
    simp at h4
    subst h4
    have := hk hne'
    rw [hl]; omega
end
/-- The head of a round, where N rounds at most are to come. -/
def WInv (own : Int → Bool) (W : World) (bad keep : Nat → Prop) (t0 : Tree) (J : (Nat → Prop) → List Itm → World → Prop) (N : Nat) (u : Value) (wr : World) : Prop :=
  ∃ ys rows g cap R, u = .slice (some ⟨g, 0, none⟩) rows.length cap ∧ Stk W.heap.size W.heap.size bad R rows g cap wr ∧ J R ys wr ∧ (∀ b, keep b → wr.heap[b]? = W.heap[b]?) ∧
    preT own 0 t0 = ys.map dt ++ remR own 0 rows ∧ (∀ x ∈ ys, VF x.2.1 x.2.2) ∧ N = 2 * (remR own 0 rows).length + rows.length
end Go.Proofs.YtbddghcdibdloaaGreatDoor
namespace Go.Proofs.YtbddghcdibdloaaGreatDoor
open Go.RowKit Go.Shelf
attribute [local go_sem] Oper.semAt_some
theorem leastOf_le {p : Nat → Prop} {n : Nat} (h : p n) : leastOf p ≤ n := (leastOf_spec ⟨n, h⟩).2 n h
theorem infoRow : (Tryz.prog.info? 159).map (fun i => (i.zero, i.size, i.bytes)) = some (some (.agg #[.slice none 0 0, .int .i64 0]), 2, 32) := by kernel_rfl
theorem grown_set (W : World) (b i : Nat) (v : Value) : W.grownBy (W.setCell ⟨b, i, none⟩ v) (some b) :=
  ⟨rfl, rfl, rfl, by simp [World.setCell], fun k _ hk => Below.heap_setCell _ _ _ k (fun e => hk (by rw [e]))⟩
theorem set3 {w : World} {b : Nat} {t : TypeId} {a0 a1 a2 v0 v1 v2 : Value} (h : w.heap[b]? = some (.cells #[a0, a1, a2] t (0, 0))) :
    (((w.setCell ⟨b, 0, none⟩ v0).setCell ⟨b, 1, none⟩ v1).setCell ⟨b, 2, none⟩ v2).heap[b]? = some (.cells #[v0, v1, v2] t (0, 0)) := by
  simp [World.setCell, Array.getElem?_modify, h]
set_option maxRecDepth 100000 in
set_option maxHeartbeats 4000000 in
theorem within1_in (own : Int → Bool) (fo : FuncId) (hent : ∀ args w, (callFunc fo args).run Tryz.prog w = .ok (.enter fo args) w) (hown : ∀ k s a n c W, Calls Tryz.prog fo #[.agg #[.int .i8 k, .string s, .slice a n c]] W fun e w' => e = .returned (if own k = true then .slice a n c else .slice none 0 0) ∧ Below W.heap.size W w')
    (n : Nat) (hn : 1 ≤ n) (Bx Bo : Nat) (k0 : Int) (s0 : List UInt8) (l0 : List Tree) (a0 : Option Addr) (c0 : Nat) (bad : Nat → Prop) (go : Itm → Prop) (W : World)
    (hcap : l0.length ≤ c0 ∧ c0 ≤ maxLen ∧ s0.length ≤ maxLen)
    (hx : W.heap[Bx]? = some (.cells #[.int .i8 k0, .string (bytesL s0), .slice a0 l0.length c0] 125 (0, 0))) (ho : W.heap[Bo]? = some (.cells #[.func (.func fo) #[] #[]] 151 (0, 0)))
    (hr : RdL W bad l0 a0) (hbad : ∀ b, ¬ bad b → b < W.heap.size) (hcl : Clean W bad)
    (hgo : ∀ x : Itm, dt x ∈ preT own 0 (.node k0 s0 l0) → go x → ownL own x.2.1 ≠ [] → x.1 < 239) :
    SeqR Fence.wide n Tryz.prog 90 #[.pointer (some ⟨Bx, 0, none⟩), .pointer (some ⟨Bo, 0, none⟩)] encY (SY own (.node k0 s0 l0)) (SpY own (.node k0 s0 l0)) (fun b => ¬ bad b ∨ b = Bx ∨ b = Bo) go W := fun l J Jx hJ hJx hY h0 => by
  have cx0 := cell_of_row _ _ 0 _ _ _ hx
  have cx1 := cell_of_row _ _ 1 _ _ _ hx
  have cx2 := cell_of_row _ _ 2 _ _ _ hx
  have co := cell_of_row _ _ 0 _ _ _ ho
  simp only [List.getElem?_toArray, List.getElem?_cons_zero, List.getElem?_cons_succ] at cx0 cx1 cx2 co
  have HX := Lib.hid hx
  have HO := Lib.hid ho
  have HJ := Lib.hid hJ
  have HJx := Lib.hid hJx
  have HY := Lib.hid hY
  have H0 := Lib.hid h0
  have HR := Lib.hid hr
  have HB := Lib.hid hbad
  have HC := Lib.hid hcl
  have HGo := Lib.hid hgo
  have HW := Lib.hid hown
  clear hx ho hJ hJx hY h0 hr hbad hcl hgo hown
  refine callsIn_of_wp Tryz.func90 rfl trivial ?_ rfl
  simp only [Tryz.ntmps90, List.size_toArray, List.length_cons, List.length_nil, Nat.reduceAdd, Nat.reduceSub, Array.replicate_succ, Array.replicate_zero, List.push_toArray, List.append_toArray, List.nil_append, List.cons_append]
  gi_wp2
  gi_loopw [4] (fun u wr => ∃ N, WInv own W (fun b => bad b ∧ b ≠ W.heap.size) (fun b => ¬ bad b ∨ b = Bx ∨ b = Bo) (.node k0 s0 l0) J N u wr) (fun u wr => leastOf (fun N => WInv own W (fun b => bad b ∧ b ≠ W.heap.size) (fun b => ¬ bad b ∨ b = Bx ∨ b = Bo) (.node k0 s0 l0) J N u wr))
  case atStart =>
    have hb : Below W.heap.size W ((W.alloc (.cells #[.int .i8 k0, .string (bytesL s0), .slice a0 l0.length c0] 125)).alloc (.cells #[.slice (some ⟨W.heap.size, 0, none⟩) 1 1, .int .i64 0] 159)) :=
      ((Below.refl _ _).alloc (Nat.le_refl _) _).alloc (by simp) _
    have hB0 : ((W.alloc (.cells #[.int .i8 k0, .string (bytesL s0), .slice a0 l0.length c0] 125)).alloc (.cells #[.slice (some ⟨W.heap.size, 0, none⟩) 1 1, .int .i64 0] 159)).heap[W.heap.size]? = some (.cells #[.int .i8 k0, .string (bytesL s0), .slice a0 l0.length c0] 125 (0, 0)) :=
      (Below.heap_alloc _ _ _ (by simp)).trans (World.alloc_heap_new W _)
    have hown1 := World.ownsRow_lit (base := W.heap.size) (e := 159) (size := 2) (W.alloc (.cells #[.int .i8 k0, .string (bytesL s0), .slice a0 l0.length c0] 125)) #[.slice (some ⟨W.heap.size, 0, none⟩) 1 1, .int .i64 0] 1 (by simp) (by simp [maxLen]) rfl
    rw [World.size_alloc] at hown1
    obtain ⟨w1, hw1⟩ : ∃ w1, w1 = ((W.alloc (.cells #[.int .i8 k0, .string (bytesL s0), .slice a0 l0.length c0] 125)).alloc (.cells #[.slice (some ⟨W.heap.size, 0, none⟩) 1 1, .int .i64 0] 159)) := ⟨_, rfl⟩
    have hs1 : w1.heap.size = W.heap.size + 1 + 1 := by rw [hw1]; simp
    rw [← hw1] at hb hB0 hown1 ⊢
    have g0 := cell_of_row _ _ 0 _ _ _ hB0
    have g1 := cell_of_row _ _ 1 _ _ _ hB0
    have g2 := cell_of_row _ _ 2 _ _ _ hB0
    simp only [List.getElem?_toArray, List.getElem?_cons_zero, List.getElem?_cons_succ] at g0 g1 g2
    have hlow : ∀ b, ¬ (bad b ∧ b ≠ W.heap.size) → b < W.heap.size ∨ b = W.heap.size := fun b hb => by
      by_cases hbb : bad b
      · exact .inr (Classical.byContradiction fun hn => hb ⟨hbb, hn⟩)
      · exact .inl (HB.out b hbb)
    have hrow : RowOk w1 (fun b => bad b ∧ b ≠ W.heap.size) ⟨[.node k0 s0 l0], 0, some ⟨W.heap.size, 0, none⟩, 1⟩ := by
      refine ⟨by simp, by simp, by simp [maxLen], ?_⟩
      refine ⟨W.heap.size, 0, _, _, _, rfl, fun h => h.2 rfl, frozen_of_row _ _ 0 _ _ hB0, g0, g1, g2, ⟨a0, c0, rfl, hcap.1, hcap.2.1, hcap.2.2, ?_⟩, trivial⟩
      exact RdL.mono (fun b _ h => h.1) _ _ (RdL.keep (fun b hn hlt => hb.block b hlt) _ _ HR.out)
    refine ⟨2 * (remR own 0 [⟨[.node k0 s0 l0], 0, some ⟨W.heap.size, 0, none⟩, 1⟩]).length + 1, [], [⟨[.node k0 s0 l0], 0, some ⟨W.heap.size, 0, none⟩, 1⟩], W.heap.size + 1, 1, fun b => W.heap.size ≤ b ∧ b < w1.heap.size, rfl, ?_, ?_, ?_, by simp [remR, preL], by simp, rfl⟩
    · refine ⟨fun b hb => hb, ⟨Nat.le_refl _, by omega⟩, ⟨by omega, by omega⟩, by omega, hlow, ⟨_, _, hB0⟩, hown1, fun r hr => ?_, by simp, by simp, fun _ _ _ _ => by simp⟩
      simp at hr
      subst hr
      exact hrow
    · exact HJ.out _ _ [] W w1 (fun _ h => h.elim) H0.out ⟨hb.os, hb.tape, hb.output, hb.size, fun b hlt _ => hb.block b hlt, fun _ h => h.elim, fun b h => .inr h⟩
    · intro b hb'
      refine hb.block b ?_
      rcases hb' with h | rfl | rfl
      · exact HB.out b h
      · exact (Array.getElem?_eq_some_iff.1 HX.out).1
      · exact (Array.getElem?_eq_some_iff.1 HO.out).1
  case round =>
    have hl := (leastOf_spec hrel).1
    obtain ⟨N, hN⟩ : ∃ N, N = leastOf (fun N => WInv own W (fun b => bad b ∧ b ≠ W.heap.size) (fun b => ¬ bad b ∨ b = Bx ∨ b = Bo) (.node k0 s0 l0) J N u4 wr) := ⟨_, rfl⟩
    rw [← hN] at hl
    obtain ⟨ys, rows, g, cap, R, hu, hst, hJr, hkp, hrem, hvf, hNN⟩ := hl
    subst hu
    have HN := Lib.hid hN
    have HNN := Lib.hid hNN
    have HS := Lib.hid hst
    have HJr := Lib.hid hJr
    have HK := Lib.hid hkp
    have HRem := Lib.hid hrem
    have HV := Lib.hid hvf
    clear hrel hN hNN hst hJr hkp hrem hvf
    rcases List.eq_nil_or_concat rows with hnil | ⟨rs, r, hcat⟩
    · subst hnil
      gi_wp2
      go_end0
      have hrem := HRem.out
      simp only [remR, List.append_nil] at hrem
      exact ⟨⟨_, rfl⟩, R, fun b hb => (HS.out.R0 b hb).1, .inl ⟨ys, ⟨hrem.symm, HV.out⟩, HJr.out⟩⟩
    · rw [List.concat_eq_append] at hcat
      subst hcat
      have hlen : (rs ++ [r]).length = rs.length + 1 := by simp
      have hrow := HS.out.row
      rw [hlen] at hrow ⊢
      have hc0 := hrow.cellAt (rs.length * 2) (by omega)
      have hc1 := hrow.cellAt (rs.length * 2 + 1) (by omega)
      rw [(rowsC_top rs r).1] at hc0
      rw [(rowsC_top rs r).2] at hc1
      have hf0 := hrow.frozenAt (rs.length * 2)
      have hf1 := hrow.frozenAt (rs.length * 2 + 1)
      have hok := HS.out.ok r (by simp)
      have hcp := (own_take hrow).2
      have HRow := Lib.hid hrow
      have hfew := HS.out.few
      rw [hlen] at hfew
      obtain ⟨k, hk⟩ : ∃ k, k = rs.length := ⟨_, rfl⟩
      rw [← hk] at hc0 hc1 hf0 hf1 hcp hfew ⊢
      have Hk := Lib.hid hk
      clear hrow hk hlen
      by_cases hfull : r.pos = r.full.length
      · have he := eq_true_ (x := (r.pos : Int)) (y := (r.full.length : Int)) (by omega)
        gi_wp2
        gi_quiet (fail)
        gi_wp2
        have hpop := remR_pop (own := own) (rs := rs) (r := r) (by omega)
        have hst := HS.out.pop.keep (w' := wr.drewN nq) (Nat.le_refl _) (fun _ _ => rfl)
        have hJn := HJ.out _ _ _ _ (wr.drewN nq) HS.out.R0 HJr.out ⟨rfl, rfl, rfl, Nat.le_refl _, fun _ _ _ => rfl, fun _ h => h, fun _ h => .inl h⟩
        have hinv : WInv own W (fun b => bad b ∧ b ≠ W.heap.size) (fun b => ¬ bad b ∨ b = Bx ∨ b = Bo) (.node k0 s0 l0) J (2 * (remR own 0 rs).length + k) (.slice (some ⟨g, 0, none⟩) k cap) (wr.drewN nq) :=
          ⟨_, _, g, cap, _, by rw [Hk.out], hst, hJn, HK.out, by rw [HRem.out, hpop], HV.out, by rw [Hk.out]⟩
        refine ⟨⟨_, hinv⟩, Nat.lt_of_le_of_lt (leastOf_le hinv) ?_⟩
        have hlen1 : (rs ++ [r]).length = k + 1 := by rw [Hk.out]; simp
        have hN := HN.out
        have hNN := HNN.out
        rw [hlen1] at hN hNN
        rw [← hN, hNN, hpop]
        omega
      · have he := eq_false (x := (r.pos : Int)) (y := (r.full.length : Int)) (by omega)
        have hpos : r.pos < r.full.length := by have := hok.pos; omega
        obtain ⟨y, hy⟩ : ∃ y, r.full[r.pos]? = some y := ⟨_, List.getElem?_eq_getElem hpos⟩
        obtain ⟨gr, or, hra, hbr, hgr, _⟩ := hok.rd.addr (by omega)
        have hrd := hok.rd
        rw [hra] at hrd
        obtain ⟨_, v0, v1, v2, hy0, hy1, hy2, hyr⟩ := RdL.get _ _ _ r.pos y hrd hy
        obtain ⟨ya, yc, hv, hyl, hyc, hyt, hyk⟩ := hyr.parts
        simp only [Value.agg.injEq, Array.mk.injEq, List.cons.injEq, and_true] at hv
        obtain ⟨rfl, rfl, rfl⟩ := hv
        have Hy := Lib.hid hy
        have Hyr := Lib.hid hyr
        have Hyk := Lib.hid hyk
        have Hpos := Lib.hid hpos
        have hgw : g < wr.heap.size := (HS.out.R0 g HS.out.Rg).2
        have n0 : ∀ m, ((wr.drewN m).alloc (.cells #[.int .i8 0, .string ⟨#[]⟩, .slice none 0 0] 125)).cell? ⟨wr.heap.size, 0, none⟩ = _ := fun m => cell_of_row _ _ 0 _ _ _ (World.alloc_heap_new (wr.drewN m) _)
        have n1 : ∀ m, ((wr.drewN m).alloc (.cells #[.int .i8 0, .string ⟨#[]⟩, .slice none 0 0] 125)).cell? ⟨wr.heap.size, 1, none⟩ = _ := fun m => cell_of_row _ _ 1 _ _ _ (World.alloc_heap_new (wr.drewN m) _)
        have n2 : ∀ m, ((wr.drewN m).alloc (.cells #[.int .i8 0, .string ⟨#[]⟩, .slice none 0 0] 125)).cell? ⟨wr.heap.size, 2, none⟩ = _ := fun m => cell_of_row _ _ 2 _ _ _ (World.alloc_heap_new (wr.drewN m) _)
        have n3 : ∀ m i, ((wr.drewN m).alloc (.cells #[.int .i8 0, .string ⟨#[]⟩, .slice none 0 0] 125)).frozen? ⟨wr.heap.size, i, none⟩ = false := fun m i => frozen_of_row _ _ i _ _ (World.alloc_heap_new (wr.drewN m) _)
        simp only [List.getElem?_toArray, List.getElem?_cons_zero, List.getElem?_cons_succ] at n0 n1 n2
        have b0 : ∀ o m, ((wr.drewN m).alloc o).cell? ⟨g, k * 2, none⟩ = _ := fun o m => (World.cell?_alloc_lt (wr.drewN m) o _ hgw).trans hc0
        have b1 : ∀ o m, ((wr.drewN m).alloc o).cell? ⟨g, k * 2 + 1, none⟩ = _ := fun o m => (World.cell?_alloc_lt (wr.drewN m) o _ hgw).trans hc1
        have b2 : ∀ o m, ((wr.drewN m).alloc o).cell? ⟨gr, or + r.pos * 3, none⟩ = _ := fun o m => (World.cell?_alloc_lt (wr.drewN m) o _ hgr).trans hy0
        have b3 : ∀ o m, ((wr.drewN m).alloc o).cell? ⟨gr, or + r.pos * 3 + 1, none⟩ = _ := fun o m => (World.cell?_alloc_lt (wr.drewN m) o _ hgr).trans hy1
        have b4 : ∀ o m, ((wr.drewN m).alloc o).cell? ⟨gr, or + r.pos * 3 + 1 + 1, none⟩ = _ := fun o m => (World.cell?_alloc_lt (wr.drewN m) o _ hgr).trans hy2
        have hi1 : (0 : Int) ≤ (r.pos : Int) := by omega
        have hi2 : (r.pos : Int) < (r.full.length : Int) := by omega
        have hmx : Tryz.prog.follows .mixedOrders = true := by kernel_rfl
        clear hy hyr hyk hrd hfull hpos
        gi_wp2
        gi_quiet (fail)
        gi_wp2
        gi_region
        obtain ⟨w5, hw5⟩ : ∃ w5, w5 = ((((wr.drewN (nq + 1)).alloc (.cells #[.int .i8 0, .string ⟨#[]⟩, .slice none 0 0] 125)).setCell ⟨wr.heap.size, 0, none⟩ (.int .i8 y.kind)).setCell ⟨wr.heap.size, 1, none⟩ (.string (bytesL y.text))).setCell ⟨wr.heap.size, 2, none⟩ (.slice ya y.kids.length yc) := ⟨_, rfl⟩
        rw [← hw5]
        have hb5 : Below wr.heap.size wr w5 := by
          rw [hw5]
          refine Below.trans (b := wr.drewN (nq + 1)) ⟨rfl, rfl, rfl, Nat.le_refl _, fun _ _ => rfl⟩ ?_
          exact ((((Below.refl _ (wr.drewN (nq + 1))).alloc (Nat.le_refl _) _).setCell (p := ⟨wr.heap.size, 0, none⟩) (Nat.le_refl _) _).setCell (p := ⟨wr.heap.size, 1, none⟩) (Nat.le_refl _) _).setCell (p := ⟨wr.heap.size, 2, none⟩) (Nat.le_refl _) _
        have hy5 : w5.heap[wr.heap.size]? = some (.cells #[.int .i8 y.kind, .string (bytesL y.text), .slice ya y.kids.length yc] 125 (0, 0)) := by
          rw [hw5]
          exact set3 (World.alloc_heap_new (wr.drewN (nq + 1)) _)
        have hs5 : w5.heap.size = wr.heap.size + 1 := by rw [hw5]; simp [World.setCell]
        obtain ⟨hc5, hf5⟩ := bcell hb5
        have d0 := (hc5 g (k * 2) hgw).trans hc0
        have d1 := (hc5 g (k * 2 + 1) hgw).trans hc1
        have d2 := (hf5 g (k * 2 + 1) hgw).trans hf1
        have e0 := cell_of_row _ _ 0 _ _ _ hy5
        have e1 := cell_of_row _ _ 1 _ _ _ hy5
        have e2 := cell_of_row _ _ 2 _ _ _ hy5
        simp only [List.getElem?_toArray, List.getElem?_cons_zero, List.getElem?_cons_succ] at e0 e1 e2
        have Hb5 := Lib.hid hb5
        have Hy5 := Lib.hid hy5
        have hwp : wrap64 ((r.pos : Int) + 1) = (r.pos : Int) + 1 := by unfold wrap64; simp only [maxLen] at hyc; have := hok.len; have := hok.cap; simp only [maxLen] at this; omega
        have hlow : ∀ b, ¬ (bad b ∧ b ≠ W.heap.size) → ¬ bad b ∨ b = W.heap.size := fun b hb => by
          by_cases hbb : bad b
          · exact .inr (Classical.byContradiction fun hn => hb ⟨hbb, hn⟩)
          · exact .inl hbb
        have hlt5 : ∀ b, R b ∨ ¬ (bad b ∧ b ≠ W.heap.size) → b < wr.heap.size := fun b hb => by
          rcases hb with hb | hb
          · exact (HS.out.R0 b hb).2
          · have h0 := (HS.out.R0 _ HS.out.RB)
            rcases hlow b hb with h' | rfl
            · have := HB.out b h'; omega
            · exact h0.2
        have st5 := (HS.out.keep hb5.size (fun b hb => hb5.block b (hlt5 b hb))).more (R' := fun b => R b ∨ (wr.heap.size ≤ b ∧ b < w5.heap.size)) (fun b hb => .inl hb) (fun b hb => by
          rcases hb with hb | hb
          · have := HS.out.R0 b hb; omega
          · have := HS.out.R0 _ HS.out.Rg; omega)
        have st6 := st5.bump Hpos.out
        have hnc : ((r.pos + 1 : Nat) : Int) = (r.pos : Int) + 1 := by omega
        rw [hnc, ← Hk.out] at st6
        have hJ6 := HJ.out _ _ ys wr _ HS.out.R0 HJr.out ((Turn.news hb5).trans (Turn.of (.inl HS.out.Rg) (grown_set w5 g (k * 2 + 1) (.int .i64 ((r.pos : Int) + 1)))))
        have hvy : VF y (.agg #[.int .i8 y.kind, .string (bytesL y.text), .slice ya y.kids.length yc]) := ⟨ya, yc, rfl, hyl, hyc, hyt⟩
        have hstep := remR_step (own := own) (rs := rs) (r := r) (y := y) none 0 Hy.out
        have hsp : SpY own (.node k0 s0 l0) (ys ++ [(k, y, .agg #[.int .i8 y.kind, .string (bytesL y.text), .slice ya y.kids.length yc])]) := by
          refine ⟨?_, fun x hx => ?_⟩
          · rw [HRem.out, hstep, Hk.out]
            exact ⟨_, by simp [dt]; rfl⟩
          · rcases List.mem_append.1 hx with hx | hx
            · exact HV.out x hx
            · simp at hx; subst hx; exact hvy
        obtain ⟨w6, hw6⟩ : ∃ w6, w6 = w5.setCell ⟨g, k * 2 + 1, none⟩ (.int .i64 ((r.pos : Int) + 1)) := ⟨_, rfl⟩
        rw [← hw6] at st6 hJ6
        have hs6 : w6.heap.size = wr.heap.size + 1 := by rw [hw6]; simp [World.setCell, hs5]
        obtain ⟨R1, hR1⟩ : ∃ R1, R1 = fun b => R b ∨ (wr.heap.size ≤ b ∧ b < w5.heap.size) := ⟨_, rfl⟩
        rw [← hR1] at st6 hJ6
        obtain ⟨fn, tmps, assign, body, hyd, hR⟩ := HY.out R1 ys _ w6 st6.R0 (by have := (HS.out.R0 _ HS.out.Rg); omega) hsp hJ6
        simp only [encY] at hyd
        rw [hw6] at hyd
        have HYR := Lib.hid hR
        have St6 := Lib.hid st6
        have Hsp := Lib.hid hsp
        have HR1 := Lib.hid hR1
        have Hw6 := Lib.hid hw6
        have Hlow := Lib.hid hlow
        clear hb5 hy5 hc5 hf5 hw5 n0 n1 n2 n3 b0 b1 b2 b3 b4 st5 st6 hJ6 hsp hR hR1 hw6 hlt5 hlow hstep hnc
        gi_wp2
        rw [← Hw6.out]
        refine HYR.out.mono ?_
        rintro e W3 (⟨rfl, hgx, hJ3, hk3⟩ | ⟨rfl, hJx3⟩)
        · have hk3' : ∀ b, R1 b ∨ ¬ (bad b ∧ b ≠ W.heap.size) → W3.heap[b]? = w6.heap[b]? := fun b hb => by
            rcases hb with hb | hb
            · exact hk3.2 b (.inl hb)
            · rcases Hlow.out b hb with h' | rfl
              · exact hk3.2 b (.inr (.inl h'))
              · exact hk3.2 _ (.inl St6.out.RB)
          have st7 := St6.out.keep hk3.1 hk3'
          have hyR : R1 wr.heap.size := by rw [HR1.out]; exact .inr ⟨Nat.le_refl _, Hb5.out.size |> fun _ => by rw [hs5]; omega⟩
          have hy3 : W3.heap[wr.heap.size]? = some (.cells #[.int .i8 y.kind, .string (bytesL y.text), .slice ya y.kids.length yc] 125 (0, 0)) := by
            rw [hk3' _ (.inl hyR), Hw6.out]
            exact (Below.heap_setCell _ _ _ _ (by show wr.heap.size ≠ g; omega)).trans Hy5.out
          have hkp3 : ∀ b, (¬ bad b ∨ b = Bx ∨ b = Bo) → b ≠ g → b < wr.heap.size → W3.heap[b]? = W.heap[b]? := fun b hb hne hlt => by
            rw [hk3.2 b (.inr hb), Hw6.out]
            exact ((Below.heap_setCell _ _ _ _ hne).trans (Hb5.out.block b hlt)).trans (HK.out b hb)
          have hg0 := (HS.out.R0 _ HS.out.Rg).1
          have hoW : Bo < W.heap.size := (Array.getElem?_eq_some_iff.1 HO.out).1
          have hxW : Bx < W.heap.size := (Array.getElem?_eq_some_iff.1 HX.out).1
          have ho3 : W3.heap[Bo]? = _ := (hkp3 Bo (.inr (.inr rfl)) (by omega) (by omega)).trans HO.out
          have f0 := cell_of_row _ _ 0 _ _ _ hy3
          have f1 := cell_of_row _ _ 1 _ _ _ hy3
          have f2 := cell_of_row _ _ 2 _ _ _ hy3
          have f3 := cell_of_row _ _ 0 _ _ _ ho3
          simp only [List.getElem?_toArray, List.getElem?_cons_zero, List.getElem?_cons_succ] at f0 f1 f2 f3
          obtain ⟨a', c', hif, hlc, hcm, hrl⟩ : ∃ a' c', (if own y.kind = true then Value.slice ya y.kids.length yc else .slice none 0 0) = .slice a' (ownL own y).length c' ∧ (ownL own y).length ≤ c' ∧ c' ≤ maxLen ∧ RdL wr (fun b => bad b ∧ b ≠ W.heap.size) (ownL own y) a' := by
            cases y with
            | node ky sy ly =>
              by_cases hoy : own ky = true
              · have e : ownL own (.node ky sy ly) = ly := if_pos hoy
                rw [e]
                exact ⟨ya, yc, if_pos hoy, hyl, hyc, Hyk.out⟩
              · have e : ownL own (.node ky sy ly) = [] := if_neg hoy
                rw [e]
                exact ⟨none, 0, if_neg hoy, by simp, by simp, by simp [RdL]⟩
          have hWw := fun w => HW.out y.kind (bytesL y.text) ya y.kids.length yc w
          rw [hif] at hWw
          have HWw := Lib.hid hWw
          have HJ3 := Lib.hid hJ3
          have Hk3 := Lib.hid hk3
          have Hk3' := Lib.hid hk3'
          have St7 := Lib.hid st7
          have Hkp3 := Lib.hid hkp3
          have Hrl := Lib.hid hrl
          have Hgx := Lib.hid hgx
          have HyR := Lib.hid hyR
          have Hy3 := Lib.hid hy3
          clear hWw hJ3 hk3 hk3' st7 hkp3 hrl hif hgx hyR hy3 ho3 hyd e0 e1 e2 d0 d1 d2 hc0 hc1 hf0 hf1 hy0 hy1 hy2
          gi_wp2_with (refine ⟨trivial, ?_⟩; gi_at_fn fo; refine (callsIn_wide.2 (HWw.out _)).mono ?_; rintro e w8 ⟨rfl, hb8⟩)
          have hlt1 : ∀ b, R1 b ∨ ¬ (bad b ∧ b ≠ W.heap.size) → b < W3.heap.size := fun b hb => by
            rcases hb with hb | hb
            · exact (St7.out.R0 b hb).2
            · rcases Hlow.out b hb with h' | rfl
              · have h1 := HB.out b h'
                have h2 := (HS.out.R0 _ HS.out.Rg)
                have h3 := Hk3.out.1
                omega
              · exact (St7.out.R0 _ St7.out.RB).2
          have st8 := St7.out.keep hb8.size (fun b hb => hb8.block b (hlt1 b hb))
          have hJ8 := HJ.out _ _ _ _ _ St7.out.R0 HJ3.out (Turn.below hb8)
          have hyin : y ∈ ({ r with pos := r.pos + 1 } : Row).full := List.mem_of_getElem? Hy.out
          have hrl8 : RdL w8 (fun b => bad b ∧ b ≠ W.heap.size) (ownL own y) a' := by
            refine RdL.keep (w := wr) (fun b hb hlt => ?_) _ _ Hrl.out
            rw [hb8.block b (hlt1 b (.inr hb)), Hk3'.out b (.inr hb), Hw6.out]
            refine (Below.heap_setCell _ _ _ _ (fun e => ?_)).trans (Hb5.out.block b hlt)
            have e' : b = g := e
            subst e'
            rcases Hlow.out b hb with h' | h'
            · have := HB.out b h'; omega
            · exact HS.out.gB h'
          have hclean : ∀ b, ¬ (bad b ∧ b ≠ W.heap.size) → ∃ cs ty, w8.heap[b]? = some (.cells cs ty (0, 0)) := fun b hb => by
            rcases Hlow.out b hb with h' | rfl
            · obtain ⟨cs, ty, hcs⟩ := HC.out b h' (HB.out b h')
              refine ⟨cs, ty, ?_⟩
              rw [hb8.block b (hlt1 b (.inr hb))]
              have := HB.out b h'
              exact (Hkp3.out b (.inl h') (by omega) (by omega)).trans hcs
            · exact st8.box
          have hnot := st8.notRow hyin (l := ownL own y) (szL_own own y) hrl8
          have hcells : ∀ j, j < k + 1 → ∃ qa qn qc, w8.cell? ⟨g, j * 2, none⟩ = some (.slice qa qn qc) ∧ NotRow a' (ownL own y).length qa qn ∧ ∀ b o, qa = some ⟨b, o, none⟩ → ∃ cs ty, w8.heap[b]? = some (.cells cs ty (0, 0)) := fun j hj => by
            have hl2 : (rs ++ [({ r with pos := r.pos + 1 } : Row)]).length = k + 1 := by rw [Hk.out]; simp
            have hj2 : j < (rs ++ [({ r with pos := r.pos + 1 } : Row)]).length := by omega
            have hcell := st8.row.cellAt (j * 2) (by omega)
            rw [rowsC_at _ j hj2] at hcell
            refine ⟨_, _, _, hcell, hnot j hj2, fun b o hqa => ?_⟩
            have hmem := List.getElem_mem hj2
            obtain ⟨q, hq⟩ : ∃ q, q = (rs ++ [({ r with pos := r.pos + 1 } : Row)])[j] := ⟨_, rfl⟩
            rw [← hq] at hmem hqa
            have hp : 0 < q.full.length := by
              have hsz : 0 < szL q.full := by
                have h1 := szL_mem hyin
                have h2 := szL_own own y
                rcases List.mem_append.1 hmem with hq' | hq'
                · have := (List.pairwise_append.1 st8.inner).2.2 q hq' _ (List.mem_singleton.2 rfl); omega
                · simp at hq'; subst hq'; omega
              cases hf : q.full with
              | nil => rw [hf] at hsz; simp [szL] at hsz
              | cons _ _ => simp
            obtain ⟨b', o', e1, hb', _⟩ := (st8.ok q hmem).rd.addr hp
            rw [hqa] at e1
            simp only [Option.some.injEq, Addr.mk.injEq, and_true] at e1
            obtain ⟨rfl, rfl⟩ := e1
            exact hclean b hb'
          have hfa : 0 < (ownL own y).length → ∀ b o, a' = some ⟨b, o, none⟩ → ∃ cs ty, w8.heap[b]? = some (.cells cs ty (0, 0)) := fun hp b o ha => by
            obtain ⟨b', o', e1, hb', _⟩ := hrl8.addr hp
            rw [ha] at e1
            simp only [Option.some.injEq, Addr.mk.injEq, and_true] at e1
            obtain ⟨rfl, rfl⟩ := e1
            exact hclean b hb'
          have hh := holds_any g (k + 1) cap a' (ownL own y).length c' w8 (by omega) (by omega) hcells hfa
          have Hh := Lib.hid hh
          have St8 := Lib.hid st8
          have HJ8 := Lib.hid hJ8
          have Hrl8 := Lib.hid hrl8
          have Hyin := Lib.hid hyin
          have Hhlt := Lib.hid hlt1
          clear hh st8 hJ8 hrl8 hyin hclean hnot hcells hfa hlt1
          refine ⟨trivial, (callsIn_wide.2 Hh.out).mono ?_⟩
          rintro e w9 ⟨rfl, hb9⟩
          obtain ⟨i0, hi, hz0, hz1, hz2⟩ := info_parts infoRow
          have st9 := St8.out.keep hb9.size (fun b hb => hb9.block b (Nat.lt_of_lt_of_le (Hhlt.out b hb) hb8.size))
          have hrow9 := st9.row
          have hl2 : (rs ++ [({ r with pos := r.pos + 1 } : Row)]).length = k + 1 := by rw [Hk.out]; simp
          rw [hl2] at hrow9
          have Hrow9 := Lib.hid hrow9
          have St9 := Lib.hid st9
          clear hrow9 st9 hl2
          gi_wp2_with (gi_at_builtin; refine wpListIn_append_own_at _ rfl _ _ 161 rfl W.heap.size 159 i0 _ 2 32 Tryz.underlying161 hi hz0 hz1 hz2 rfl (by decide) _ (k + 1) _ rfl (Hrow9.out.alloc _) ⟨w9.heap.size, 0, none⟩ 1 1 (rowC ⟨ownL own y, 0, a', c'⟩) rfl rfl ?_ ?_ ?_ ?_ ?_ ?_)
          · exact World.news_of_block (cs := (rowC ⟨ownL own y, 0, a', c'⟩).toArray) (t := 159) (fr := (0, 0)) (heap_alloc_new w9 _)
          · simp [rowC, Value.oneCell']
          · unfold maxLen; omega
          · omega
          · have := (HS.out.R0 _ HS.out.Rg); have := Hk3.out.1; have := hb8.size; have := hb9.size; simp; omega
          · intro v' w10 hown' hgrow _ hsame
            have hrr : ({ full := r.full, pos := r.pos + 1, a := some ⟨gr, or, none⟩, cap := r.cap } : Row) = { r with pos := r.pos + 1 } := by rw [← hra]
            rw [hrr] at hown'
            rw [← rowsC_snoc] at hown'
            obtain ⟨g', cap', rfl⟩ := ownsRow_succ hown'
            have hg' : g' < w10.heap.size := (hown'.lt g' rfl).2
            have hsz9 : w9.heap.size ≤ w10.heap.size := by have := hgrow.size; simp at this; omega
            have hold : ∀ b, b < w9.heap.size → b ≠ g → w10.heap[b]? = w9.heap[b]? := fun b hb hne =>
              (hgrow.block b (by simp; omega) (fun e => hne (by simpa [Value.ownBlock] using e))).trans (Below.heap_alloc _ _ _ hb)
            have hsame' : g' = g ∨ (w9.heap.size ≤ g' ∧ g' < w10.heap.size) := by
              rcases hsame with h | h
              · exact .inl (by simpa [Value.ownBlock] using h)
              · have : g' = w9.heap.size + 1 := by simpa [Value.ownBlock] using h
                exact .inr ⟨by omega, hg'⟩
            have hst10 := St9.out.push (w' := w10) (R' := fun b => R1 b ∨ (w9.heap.size ≤ b ∧ b < w10.heap.size)) Hyin.out (q := ⟨ownL own y, 0, a', c'⟩) (szL_own own y)
              ⟨Nat.zero_le _, hlc, hcm, RdL.keep (fun b hb _ => hb9.block b (Nat.lt_of_lt_of_le (Hhlt.out b (.inr hb)) hb8.size)) _ _ Hrl8.out⟩
              (fun hne => by
                have h1 := HGo.out _ (Hsp.out.1.subset (List.mem_map.2 ⟨_, List.mem_append_right _ (List.mem_singleton.2 rfl), rfl⟩)) Hgx.out hne
                rw [← Hk.out]; exact h1)
              hold (g' := g') (cap' := cap') hsame' (fun b hb => .inl hb) (fun b hb => by
                rcases hb with hb | hb
                · have := St9.out.R0 b hb; omega
                · have := St9.out.R0 _ St9.out.Rg; omega)
              (by
                rcases hsame' with rfl | h
                · exact .inl St9.out.Rg
                · exact .inr h)
              (by rw [← Hk.out]; exact hown')
            have hJ9 := HJ.out _ _ _ _ _ (fun b hb => ⟨(St8.out.R0 b hb).1, (St8.out.R0 b hb).2⟩) HJ8.out (Turn.below hb9)
            have hJ10 := HJ.out _ (fun b => R1 b ∨ (w9.heap.size ≤ b ∧ b < w10.heap.size)) _ _ w10 St9.out.R0 hJ9 ⟨hgrow.os, hgrow.tape, hgrow.output, hsz9, fun b hb hn => hold b hb (fun e => hn (e ▸ St9.out.Rg)), fun _ h => .inl h, fun _ h => h⟩
            have hkp10 : ∀ b, (¬ bad b ∨ b = Bx ∨ b = Bo) → w10.heap[b]? = W.heap[b]? := fun b hb => by
              have hbW : b < W.heap.size := by
                rcases hb with hb | rfl | rfl
                · exact HB.out b hb
                · exact hxW
                · exact hoW
              have h1 := Hk3.out.1
              have h2 := hb8.size
              have h3 := hb9.size
              rw [hold b (by omega) (by omega), hb9.block b (by omega), hb8.block b (by omega)]
              exact Hkp3.out b hb (by omega) (by omega)
            have hlr : (rs ++ [({ r with pos := r.pos + 1 } : Row)] ++ [(⟨ownL own y, 0, a', c'⟩ : Row)]).length = k + 1 + 1 := by rw [Hk.out]; simp
            have hstep := remR_step (own := own) (rs := rs) (r := r) (y := y) a' c' Hy.out
            have hinv : WInv own W (fun b => bad b ∧ b ≠ W.heap.size) (fun b => ¬ bad b ∨ b = Bx ∨ b = Bo) (.node k0 s0 l0) J (2 * (remR own 0 (rs ++ [({ r with pos := r.pos + 1 } : Row)] ++ [⟨ownL own y, 0, a', c'⟩])).length + (k + 1 + 1)) (.slice (some ⟨g', 0, none⟩) (k + 1 + 1) cap') w10 := by
              refine ⟨_, _, g', cap', _, by rw [hlr], hst10, hJ10, hkp10, ?_, Hsp.out.2, by rw [hlr]⟩
              rw [HRem.out, hstep, List.map_append, ← Hk.out]
              simp [dt]
            have Hinv := Lib.hid hinv
            have Hstep := Lib.hid hstep
            clear hinv hstep hlr hkp10 hJ10 hJ9 hst10 hsame' hold hsz9 hg' hrr hown' hgrow hsame
            gi_wp2
            go_roundw
            case rel => exact ⟨_, Hinv.out⟩
            case measure =>
              refine Nat.lt_of_le_of_lt (leastOf_le Hinv.out) ?_
              have hlen1 : (rs ++ [r]).length = k + 1 := by rw [Hk.out]; simp
              have hN := HN.out
              have hNN := HNN.out
              rw [hlen1] at hN hNN
              rw [← hN, hNN, Hstep.out, List.length_cons]
              omega
        · have HJx3 := Lib.hid hJx3
          clear hJx3 hyd
          gi_wp2
          refine bodyPost_ret (results_none rfl _ _ _) rfl ?_
          exact ⟨⟨_, rfl⟩, R1, fun b hb => (St6.out.R0 b hb).1, Or.inr ⟨ys, (k, y, .agg #[.int .i8 y.kind, .string (bytesL y.text), .slice ya y.kids.length yc]), Hsp.out, HJx3.out⟩⟩
end Go.Proofs.YtbddghcdibdloaaGreatDoor
