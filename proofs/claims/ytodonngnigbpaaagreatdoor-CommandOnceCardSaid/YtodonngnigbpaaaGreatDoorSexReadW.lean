/- What package sexpr's Read answers. -/
import Derived.Test.YtodonngnigbpaaaGreatDoorSexRd
import Derived.OwnWalk
import Derived.Lib.AppendStr
import Derived.Test.YtodonngnigbpaaaGreatDoorLexName
import Derived.Deep.RegionHeld3
import Derived.BigQuiet
import Derived.Deep.RegionLaw
import Derived.Maps.AppendAt
import Derived.RangeFuncBox
import Derived.Deep.AppendLies
import Derived.Test.YtodonngnigbpaaaGreatDoorLexNext
namespace Go.Proofs.YtodonngnigbpaaaGreatDoor
open Go.RowKit
/-- A row of trees, cell by cell. -/
def Els (w : World) (bad : Nat → Prop) : List Tree → List Value → Prop
  | [], xs => xs = []
  | t :: ts, xs => ∃ v0 v1 v2 r, xs = v0 :: v1 :: v2 :: r ∧ Rd w bad t (.agg #[v0, v1, v2]) ∧ Els w bad ts r
theorem Els.keep {w w' : World} {bad : Nat → Prop} (hk : ∀ b, ¬ bad b → b < w.heap.size → w'.heap[b]? = w.heap[b]?) : ∀ (ts : List Tree) (xs : List Value), Els w bad ts xs → Els w' bad ts xs
  | [], _, h => h
  | t :: ts, _, ⟨v0, v1, v2, r, e, ht, hr⟩ => ⟨v0, v1, v2, r, e, Rd.keep hk t _ ht, Els.keep hk ts r hr⟩
theorem Els.mono {w : World} {bad bad' : Nat → Prop} (hk : ∀ b, b < w.heap.size → bad' b → bad b) : ∀ (ts : List Tree) (xs : List Value), Els w bad ts xs → Els w bad' ts xs
  | [], _, h => h
  | t :: ts, _, ⟨v0, v1, v2, r, e, ht, hr⟩ => ⟨v0, v1, v2, r, e, Rd.mono hk t _ ht, Els.mono hk ts r hr⟩
theorem Els.snoc {w : World} {bad : Nat → Prop} : ∀ (ts : List Tree) (xs : List Value) (t : Tree) (v0 v1 v2 : Value), Els w bad ts xs → Rd w bad t (.agg #[v0, v1, v2]) → Els w bad (ts ++ [t]) (xs ++ [v0, v1, v2])
  | [], _, t, v0, v1, v2, h, ht => by subst h; exact ⟨v0, v1, v2, [], rfl, ht, rfl⟩
  | t' :: ts, _, t, v0, v1, v2, ⟨u0, u1, u2, r, e, ht', hr⟩, ht => by
    subst e
    exact ⟨u0, u1, u2, r ++ [v0, v1, v2], rfl, ht', Els.snoc ts r t v0 v1 v2 hr ht⟩
/-- A row that is read where it lies. -/
theorem Els.rdl {w : World} {bad bad' : Nat → Prop} {g : Nat} (hb : ∀ b, b < w.heap.size → bad' b → bad b) (hg : ¬ bad' g) (hf : ∀ j, w.frozen? ⟨g, j, none⟩ = false) : ∀ (ts : List Tree) (xs : List Value) (o : Nat),
    Els w bad ts xs → (∀ j u, xs[j]? = some u → w.cell? ⟨g, o + j, none⟩ = some u) → RdL w bad' ts (some ⟨g, o, none⟩)
  | [], _, _, _, _ => trivial
  | t :: ts, _, o, ⟨v0, v1, v2, r, e, ht, hr⟩, hc => by
    subst e
    refine ⟨g, o, v0, v1, v2, rfl, hg, hf o, by simpa using hc 0 v0 rfl, hc 1 v1 rfl, hc 2 v2 rfl, Rd.mono hb t _ ht, ?_⟩
    refine Els.rdl hb hg hf ts r (o + 3) hr (fun j u hu => ?_)
    have := hc (j + 3) u (by simpa using hu)
    rw [show o + (j + 3) = o + 3 + j by omega] at this
    exact this
/-- A row of trees that is being written: the slice v. -/
def OpenL (w : World) (n₀ : Nat) (K : Nat → Prop) (v : Value) (ts : List Tree) : Prop :=
  ∃ xs, w.ownsRow n₀ 35 3 v ts.length xs ∧ Els w (fun b => ¬ K b) ts xs
theorem OpenL.nil (w : World) (n₀ : Nat) (K : Nat → Prop) : OpenL w n₀ K (.slice none 0 0) [] := ⟨[], World.ownsRow_nil _ _ _ _, rfl⟩
theorem ownsRow_heap' {w w' : World} {base : Nat} {e : TypeId} {size : Nat} {v : Value} {n : Nat} {xs : List Value} (h : w.ownsRow base e size v n xs) (hk : ∀ g, v.ownBlock = some g → w'.heap[g]? = w.heap[g]?) : w'.ownsRow base e size v n xs := by
  refine ⟨h.1, ?_⟩
  rcases h.2 with hn | ⟨g, cap, cur, rfl, hb, hgg, rest⟩
  · exact .inl hn
  · exact .inr ⟨g, cap, cur, rfl, hb, (hk g rfl).trans hgg, rest⟩
theorem OpenL.keep {w w' : World} {n₀ : Nat} {K : Nat → Prop} {v : Value} {ts : List Tree} (h : OpenL w n₀ K v ts) (hk : ∀ b, K b ∨ v.ownBlock = some b → w'.heap[b]? = w.heap[b]?) : OpenL w' n₀ K v ts := by
  obtain ⟨xs, h1, h2⟩ := h
  exact ⟨xs, ownsRow_heap' h1 (fun g hg => hk g (.inr hg)), Els.keep (fun b hb _ => hk b (.inl (Classical.not_not.1 hb))) ts xs h2⟩
theorem OpenL.form {w : World} {n₀ : Nat} {K : Nat → Prop} {v : Value} {ts : List Tree} (h : OpenL w n₀ K v ts) : ∃ a cap, v = .slice a ts.length cap ∧ ts.length ≤ cap ∧ cap ≤ maxLen := by
  obtain ⟨xs, h1, _⟩ := h
  rcases h1.2 with ⟨rfl, h0⟩ | ⟨g, cap, cur, rfl, _, _, h3, h4, _⟩
  · exact ⟨none, 0, by rw [h0], by omega, by simp⟩
  · exact ⟨_, cap, rfl, h3, h4⟩
theorem OpenL.lt {w : World} {n₀ : Nat} {K : Nat → Prop} {v : Value} {ts : List Tree} (h : OpenL w n₀ K v ts) {g : Nat} (hg : v.ownBlock = some g) : n₀ ≤ g ∧ g < w.heap.size := by
  obtain ⟨xs, h1, _⟩ := h
  exact h1.lt g hg
theorem OpenL.cells {w : World} {n₀ : Nat} {K : Nat → Prop} {v : Value} {ts : List Tree} (h : OpenL w n₀ K v ts) {g : Nat} (hg : v.ownBlock = some g) : ∃ cs, w.heap[g]? = some (.cells cs 35 (0, 0)) := by
  obtain ⟨xs, h1, _⟩ := h
  rcases h1.2 with ⟨rfl, h0⟩ | ⟨g', cap, cur, rfl, _, h2, _⟩
  · simp [Value.ownBlock] at hg
  · simp [Value.ownBlock] at hg
    subst hg
    exact ⟨cur, h2⟩
/-- The row has ended: it is read where it lies. -/
theorem OpenL.closed {w : World} {n₀ : Nat} {K K' : Nat → Prop} {a : Option Addr} {n cap : Nat} {ts : List Tree} (h : OpenL w n₀ K (.slice a n cap) ts) (hK : ∀ b, K b → K' b) (hg : ∀ g, (Value.slice a n cap).ownBlock = some g → K' g) :
    RdL w (fun b => ¬ K' b) ts a := by
  obtain ⟨xs, h1, h2⟩ := h
  rcases h1.2 with ⟨hv, h0⟩ | ⟨g, cap', cur, hv, _, hh, _⟩
  · have : ts = [] := List.eq_nil_of_length_eq_zero h0
    rw [this]; exact trivial
  · simp only [Value.slice.injEq] at hv
    obtain ⟨rfl, _, _⟩ := hv
    have hadd : ∀ j, (⟨g, 0, none⟩ : Addr).add j = ⟨g, j, none⟩ := fun j => by unfold Addr.add; split <;> simp_all
    refine Els.rdl (fun b _ hb hk => hb (hK b hk)) (fun hn => hn (hg g rfl)) (fun j => frozen_of_row w g j cur _ hh) ts xs 0 h2 (fun j u hu => ?_)
    have := h1.cells (g := g) rfl j u hu
    rw [hadd] at this
    simpa using this
/-- The open lists, the innermost first, and their slices. -/
def StkM (w : World) (n₀ rb : Nat) (K : Nat → Prop) (cur : Array Value) : List (List Tree) → List Value → Prop
  | [], vs => vs = []
  | l :: r, vs => ∃ v vs', vs = v :: vs' ∧ cur[r.length]? = some v ∧ OpenL w n₀ K v l ∧ (∀ g, v.ownBlock = some g → g ≠ rb ∧ ¬ K g ∧ ∀ v' ∈ vs', v'.ownBlock ≠ some g) ∧ StkM w n₀ rb K cur r vs'
theorem StkM.keep {w w' : World} {n₀ rb : Nat} {K : Nat → Prop} {cur cur' : Array Value} : ∀ (st : List (List Tree)) (vs : List Value), (∀ b, K b ∨ (∃ v ∈ vs, v.ownBlock = some b) → w'.heap[b]? = w.heap[b]?) → (∀ i, i < st.length → cur'[i]? = cur[i]?) →
    StkM w n₀ rb K cur st vs → StkM w' n₀ rb K cur' st vs
  | [], _, _, _, h => h
  | l :: r, _, hk, hc, ⟨v, vs', e, h1, h2, h3, h4⟩ => by
    subst e
    exact ⟨v, vs', rfl, (hc _ (by simp)).trans h1, h2.keep (fun b hb => hk b (by rcases hb with hb | hb; exact .inl hb; exact .inr ⟨v, by simp, hb⟩)), h3,
      StkM.keep r vs' (fun b hb => hk b (by rcases hb with hb | ⟨v', hv', hb⟩; exact .inl hb; exact .inr ⟨v', by simp [hv'], hb⟩)) (fun i hi => hc i (by simp; omega)) h4⟩
theorem StkM.lt {w : World} {n₀ rb : Nat} {K : Nat → Prop} {cur : Array Value} : ∀ (st : List (List Tree)) (vs : List Value), StkM w n₀ rb K cur st vs → ∀ v ∈ vs, ∀ g, v.ownBlock = some g → n₀ ≤ g ∧ g < w.heap.size ∧ g ≠ rb ∧ ¬ K g
  | [], _, h => by rw [h]; simp
  | l :: r, _, ⟨v, vs', e, h1, h2, h3, h4⟩ => by
    subst e
    intro v' hv' g hg
    rcases List.mem_cons.1 hv' with rfl | hv'
    · exact ⟨(h2.lt hg).1, (h2.lt hg).2, (h3 g hg).1, (h3 g hg).2.1⟩
    · exact StkM.lt r vs' h4 v' hv' g hg
/-- What has been read of an expression. -/
inductive RS where
  | run (st : List (List Tree))
  | fin (t : Tree)
  | deep (n : Nat)
/-- The blocks K of what has been read. -/
structure KOk (w : World) (n₀ rb : Nat) (K : Nat → Prop) : Prop where
  low : ∀ b, K b → n₀ ≤ b ∧ b < w.heap.size
  rb : ¬ K rb
  cells : ∀ b, K b → ∃ cs, w.heap[b]? = some (.cells cs 35 (0, 0))
theorem KOk.keep {w w' : World} {n₀ rb : Nat} {K : Nat → Prop} (h : KOk w n₀ rb K) (hs : w.heap.size ≤ w'.heap.size) (hk : ∀ b, K b → w'.heap[b]? = w.heap[b]?) : KOk w' n₀ rb K :=
  ⟨fun b hb => ⟨(h.low b hb).1, Nat.lt_of_lt_of_le (h.low b hb).2 hs⟩, h.rb, fun b hb => by obtain ⟨cs, hc⟩ := h.cells b hb; exact ⟨cs, (hk b hb).trans hc⟩⟩
end Go.Proofs.YtodonngnigbpaaaGreatDoor
namespace Go.Proofs.YtodonngnigbpaaaGreatDoor
open Go.RowKit
def bytC (l : List UInt8) : List Value := l.map fun b => Value.int .u8 b.toNat
theorem infoB : (Tryz.prog.info? 5).map (fun i => (i.zero, i.size, i.bytes)) = some (some (.int .u8 0), 1, 1) := by kernel_rfl
/-- The writer in block wb has written l; the blocks P are others'. -/
def WT (w : World) (n₀ wb : Nat) (P : Nat → Prop) (l : List UInt8) : Prop :=
  ∃ v, w.heap[wb]? = some (.cells #[v] 61 (0, 0)) ∧ w.ownsRow n₀ 5 1 v l.length (bytC l) ∧ n₀ ≤ wb ∧
    (∀ b, P b → b < w.heap.size ∧ b ≠ wb ∧ v.ownBlock ≠ some b ∧ (n₀ ≤ b → ∃ cs, w.heap[b]? = some (.cells cs 35 (0, 0)))) ∧ (∀ b, b < n₀ → P b)
/-- The blocks P are as they were. -/
def Kp (P : Nat → Prop) (w w' : World) : Prop := w'.os = w.os ∧ w'.tape = w.tape ∧ w'.output = w.output ∧ w.heap.size ≤ w'.heap.size ∧ ∀ b, P b → w'.heap[b]? = w.heap[b]?
theorem Kp.refl (P : Nat → Prop) (w : World) : Kp P w w := ⟨rfl, rfl, rfl, Nat.le_refl _, fun _ _ => rfl⟩
theorem Kp.trans {P : Nat → Prop} {a b c : World} (h : Kp P a b) (h' : Kp P b c) : Kp P a c := ⟨h'.1.trans h.1, h'.2.1.trans h.2.1, h'.2.2.1.trans h.2.2.1, Nat.le_trans h.2.2.2.1 h'.2.2.2.1, fun k hk => (h'.2.2.2.2 k hk).trans (h.2.2.2.2 k hk)⟩
theorem Kp.mono {P Q : Nat → Prop} {a b : World} (h : Kp P a b) (hq : ∀ k, Q k → P k) : Kp Q a b := ⟨h.1, h.2.1, h.2.2.1, h.2.2.2.1, fun k hk => h.2.2.2.2 k (hq k hk)⟩
theorem Kp.below {P : Nat → Prop} {a b : World} {n : Nat} (h : Kp P a b) (hp : ∀ k, k < n → P k) : Below n a b := ⟨h.1, h.2.1, h.2.2.1, h.2.2.2.1, fun k hk => h.2.2.2.2 k (hp k hk)⟩
theorem kp_below {P : Nat → Prop} {a b : World} {n : Nat} (h : Below n a b) (hp : ∀ k, P k → k < n) : Kp P a b := ⟨h.os, h.tape, h.output, h.size, fun k hk => h.block k (hp k hk)⟩
theorem WT.wblt {w : World} {n₀ wb : Nat} {P : Nat → Prop} {l : List UInt8} (h : WT w n₀ wb P l) : wb < w.heap.size := by
  obtain ⟨v, h1, _⟩ := h
  exact (Array.getElem?_eq_some_iff.1 h1).1
/-- Only new blocks were made. -/
theorem WT.grow {w w' : World} {n₀ wb : Nat} {P : Nat → Prop} {l : List UInt8} (h : WT w n₀ wb P l) (hb : Below w.heap.size w w') : WT w' n₀ wb P l := by
  obtain ⟨v, h1, h2, h3, h4, h5⟩ := h
  refine ⟨v, (hb.block _ (Array.getElem?_eq_some_iff.1 h1).1).trans h1, ownsRow_heap' h2 (fun g hg => hb.block g (h2.lt g hg).2), h3, fun b hp => ?_, h5⟩
  obtain ⟨q1, q2, q3, q4⟩ := h4 b hp
  exact ⟨Nat.lt_of_lt_of_le q1 hb.size, q2, q3, fun hn => by obtain ⟨cs, hc⟩ := q4 hn; exact ⟨cs, (hb.block b q1).trans hc⟩⟩
/-- A box is made, which is no writer's. -/
theorem WT.box {w w' : World} {n₀ wb : Nat} {P : Nat → Prop} {l : List UInt8} (h : WT w n₀ wb P l) (hb : Below w.heap.size w w') {cs : Array Value} (hx : w'.heap[w.heap.size]? = some (.cells cs 35 (0, 0))) :
    WT w' n₀ wb (fun b => P b ∨ b = w.heap.size) l := by
  have hw := h.wblt
  obtain ⟨v, h1, h2, h3, h4, h5⟩ := h.grow hb
  obtain ⟨v', g1, g2, _⟩ := h
  have hv : v' = v := by
    have := (hb.block _ hw).symm.trans h1
    rw [g1] at this
    simpa using this
  subst hv
  refine ⟨v', h1, h2, h3, fun b hp => ?_, fun b hb' => .inl (h5 b hb')⟩
  rcases hp with hp | rfl
  · exact h4 b hp
  · exact ⟨(Array.getElem?_eq_some_iff.1 hx).1, by omega, fun e => by have := (g2.lt _ e).2; omega, fun _ => ⟨cs, hx⟩⟩
/-- Fewer blocks are others'. -/
theorem WT.less {w : World} {n₀ wb : Nat} {P Q : Nat → Prop} {l : List UInt8} (h : WT w n₀ wb P l) (hq : ∀ b, Q b → P b) (h0 : ∀ b, b < n₀ → Q b) : WT w n₀ wb Q l := by
  obtain ⟨v, h1, h2, h3, h4, h5⟩ := h
  exact ⟨v, h1, h2, h3, fun b hb => h4 b (hq b hb), h0⟩
theorem own_slice {w : World} {b k n : Nat} {e : TypeId} {v : Value} {xs : List Value} (h : w.ownsRow b e k v n xs) : ∃ a cap, v = .slice a n cap := by
  rcases h.2 with ⟨rfl, h0⟩ | ⟨g, cap, cur, rfl, _⟩
  · exact ⟨none, 0, by rw [h0]⟩
  · exact ⟨_, cap, rfl⟩
theorem rb_set' {w : World} {b : Nat} {u v : Value} {t : TypeId} (h : w.heap[b]? = some (.cells #[u] t (0, 0))) : (w.setCell ⟨b, 0, none⟩ v).heap[b]? = some (.cells #[v] t (0, 0)) := heap_setCell_same w b 0 #[u] t v h
theorem add_any (n₀ wb : Nat) (P : Nat → Prop) (l : List UInt8) (s : ByteArray) (w : World) (h : WT w n₀ wb P l) (hn : n₀ ≤ w.heap.size) (hl : l.length + s.size ≤ 1000000) :
    Calls Tryz.prog 116 #[.pointer (some ⟨wb, 0, none⟩), .string s] w fun e w' => e = .returned (.tuple #[]) ∧ WT w' n₀ wb P (l ++ s.data.toList) ∧ Kp P w w' := by
  have hw := h.wblt
  obtain ⟨v, h1, h2, h3, h4, h5⟩ := h
  have c0 := cell_of_row _ _ 0 _ _ _ h1
  have cf := frozen_of_row w wb 0 _ _ h1
  simp only [List.getElem?_toArray, List.getElem?_cons_zero] at c0
  have H1 := Lib.hid h1
  have H2 := Lib.hid h2
  have H4 := Lib.hid h4
  have H5 := Lib.hid h5
  have hwne : v.ownBlock ≠ some wb := fun e => by
    rcases h2.2 with ⟨rfl, _⟩ | ⟨g, cap, cur, rfl, _, hh, _⟩
    · simp [Value.ownBlock] at e
    · simp only [Value.ownBlock, Option.some.injEq] at e
      subst e
      rw [h1] at hh
      simp at hh
  have HW := Lib.hid hwne
  have hrb : some wb ≠ v.ownBlock := fun e => hwne e.symm
  clear h1 h2 h4 h5 hwne
  have HL : Hid (l.length + s.size ≤ maxLen) := by show _ ≤ _; simp only [maxLen]; omega
  have HL2 : Hid (l.length + s.size ≤ 140737488355328) := by show _ ≤ _; omega
  clear hl
  obtain ⟨i0, hi, hz0, hz1, hz2⟩ := info_parts infoB
  go_enter Tryz.func116, Tryz.ntmps116
  go_wp2_with (at_builtin; refine Go.Lib.wpList_append_own_string _ rfl (.tmp 8) (.tmp 9) 59 9 rfl n₀ 5 i0 Tryz.underlying59 Tryz.underlying9 hi hz0 hz1 hz2 v l.length (bytC l) rfl H2.out s rfl HL.out HL2.out hn ?_; intro v' w2 hown2 hgrow2 hnil; clear hnil; obtain ⟨a2, cap2, hv'⟩ := own_slice hown2; subst hv'; have hb2 : w2.heap[wb]? = w.heap[wb]? := hgrow2.block wb hw hrb; have d0 := (World.cell?_of_block (a := ⟨wb, 0, none⟩) hb2).trans c0; have df := (World.frozen?_of_block (a := ⟨wb, 0, none⟩) hb2).trans cf; have Hb2 := Lib.hid hb2; have Hown2 := Lib.hid hown2; have Hgrow2 := Lib.hid hgrow2; clear hb2 hown2 hgrow2 c0 cf)
  go_wp2
  go_end0
  obtain ⟨v', hv'⟩ : ∃ v', v' = Value.slice a2 (l.length + s.size) cap2 := ⟨_, rfl⟩
  have Hown3 : Hid (w2.ownsRow n₀ 5 1 v' (l.length + s.size) (bytC l ++ Go.Lib.strCells s)) := by rw [hv']; exact Hown2.out
  rw [← hv']
  have hw2 : w2.heap[wb]? = some (.cells #[v] 61 (0, 0)) := Hb2.out.trans H1.out
  have h9 : (w2.setCell ⟨wb, 0, none⟩ v').heap[wb]? = some (.cells #[v'] 61 (0, 0)) := rb_set' hw2
  have hvw : v'.ownBlock ≠ some wb := fun e => by
    rcases Hown3.out.2 with ⟨rfl, _⟩ | ⟨g, cap, cur, rfl, _, hh, _⟩
    · simp [Value.ownBlock] at e
    · simp only [Value.ownBlock, Option.some.injEq] at e
      subst e
      rw [hw2] at hh
      simp at hh
  have hk : ∀ b, P b → (w2.setCell ⟨wb, 0, none⟩ v').heap[b]? = w.heap[b]? := fun b hb => by
    obtain ⟨q1, q2, q3, q4⟩ := H4.out b hb
    exact (Below.heap_setCell _ _ _ _ q2).trans (Hgrow2.out.block b q1 (fun e => q3 e.symm))
  have hsz := Hgrow2.out.size
  refine ⟨rfl, ⟨v', h9, ?_, h3, fun b hb => ?_, H5.out⟩, ⟨Hgrow2.out.os, Hgrow2.out.tape, Hgrow2.out.output, by simpa [World.setCell] using hsz, hk⟩⟩
  · have e1 : (l ++ s.data.toList).length = l.length + s.size := by simp
    have e2 : bytC (l ++ s.data.toList) = bytC l ++ Go.Lib.strCells s := by simp [bytC, Go.Lib.strCells]
    rw [e1, e2]
    exact ownsRow_heap' Hown3.out (fun g hg => Below.heap_setCell _ _ _ _ (fun e => hvw (hg.trans (congrArg some e))))
  · obtain ⟨q1, q2, q3, q4⟩ := H4.out b hb
    refine ⟨by simp [World.setCell]; omega, q2, fun e => ?_, fun hn' => by obtain ⟨cs, hc⟩ := q4 hn'; exact ⟨cs, (hk b hb).trans hc⟩⟩
    rcases Hown3.out.2 with ⟨rfl, _⟩ | ⟨g, cap, cur, rfl, hg0, hh, _⟩
    · simp [Value.ownBlock] at e
    · simp only [Value.ownBlock, Option.some.injEq] at e
      subst e
      obtain ⟨cs, hc⟩ := q4 hg0
      rw [Hgrow2.out.block _ q1 (fun e => q3 e.symm), hc] at hh
      simp at hh
mutual
/-- What a tree is written as, where it may be. -/
def textT : Tree → List UInt8
  | .node k t l => if k = 0 then quoteL t else if k = 1 then t else if k = 2 then 58 :: t else 40 :: (textL true l ++ [41])
def textL : Bool → List Tree → List UInt8
  | _, [] => []
  | first, t :: r => (if first = true then [] else [32]) ++ textT t ++ textL false r
end
theorem long_any (n₀ wb : Nat) (P : Nat → Prop) (l : List UInt8) (b : Bool) (w : World) (h : WT w n₀ wb P l) (hb : decide (8192 < l.length) = b) :
    Calls Tryz.prog 27 #[.pointer (some ⟨wb, 0, none⟩)] w fun e w' => e = .returned (.bool b) ∧ w = w' := by
  have hw := h.wblt
  obtain ⟨v, h1, h2, h3, h4, h5⟩ := h
  obtain ⟨a, cap, rfl⟩ := own_slice h2
  have c0 := cell_of_row _ _ 0 _ _ _ h1
  simp only [List.getElem?_toArray, List.getElem?_cons_zero] at c0
  have HB : Hid (decide ((l.length : Int) > 8192) = b) := by show _ = _; rw [← hb]; congr 1; exact propext ⟨fun h => by omega, fun h => by omega⟩
  clear h1 h2 h3 h4 h5 hb
  go_enter Tryz.func27, Tryz.ntmps27
  go_wp2
  go_ret
  exact ⟨ret_bool (by have := HB.out; simpa using this), rfl⟩
def writersV : Value := .agg #[.func (.func 89) #[] #[], .func (.func 90) #[] #[], .func (.func 91) #[] #[], .func (.func 92) #[] #[]]
theorem writers_any (w : World) :
    Calls Tryz.prog 60 #[] w fun e w' => e = .returned (writersV) ∧ Below w.heap.size w w' := by
  go_enter Tryz.func60, Tryz.ntmps60
  go_wp2
  exact bodyPost_ret (v := writersV) (by simp [results, Tryz.results60, go_sem, writersV]) rfl ⟨rfl, (Below.refl _ _).alloc (Nat.le_refl _) _⟩
theorem writers_at_0 (w : World) : (Instr.index 87 writersV (.int .i8 0)).run Tryz.prog w = .ok (.func (.func 89) #[] #[]) w := by kernel_rfl
theorem writers_at_1 (w : World) : (Instr.index 87 writersV (.int .i8 1)).run Tryz.prog w = .ok (.func (.func 90) #[] #[]) w := by kernel_rfl
theorem writers_at_2 (w : World) : (Instr.index 87 writersV (.int .i8 2)).run Tryz.prog w = .ok (.func (.func 91) #[] #[]) w := by kernel_rfl
theorem writers_at_3 (w : World) : (Instr.index 87 writersV (.int .i8 3)).run Tryz.prog w = .ok (.func (.func 92) #[] #[]) w := by kernel_rfl
end Go.Proofs.YtodonngnigbpaaaGreatDoor
namespace Go.Proofs.YtodonngnigbpaaaGreatDoor
open Go.RowKit
theorem rb_set {w : World} {rb i : Nat} {cur : Array Value} {t : TypeId} {v : Value} (h : w.heap[rb]? = some (.cells cur t (0, 0))) : (w.setCell ⟨rb, i, none⟩ v).heap[rb]? = some (.cells (cur.setIfInBounds i v) t (0, 0)) := heap_setCell_same w rb i cur t v h
theorem below_rb {w : World} {n₀ rb i : Nat} {v : Value} {a : World} (h : Below n₀ a w) (hn : n₀ ≤ rb) : Below n₀ a (w.setCell ⟨rb, i, none⟩ v) := h.setCell (p := ⟨rb, i, none⟩) hn v
theorem OpenL.more {w : World} {n₀ : Nat} {K K' : Nat → Prop} {v : Value} {ts : List Tree} (h : OpenL w n₀ K v ts) (hk : ∀ b, K b → K' b) : OpenL w n₀ K' v ts := by
  obtain ⟨xs, h1, h2⟩ := h
  exact ⟨xs, h1, Els.mono (fun b _ hn hb => hn (hk b hb)) ts xs h2⟩
theorem StkM.more {w : World} {n₀ rb : Nat} {K : Nat → Prop} {cur : Array Value} {u : Value} : ∀ (st : List (List Tree)) (vs : List Value), (∀ v' ∈ vs, ∀ b, u.ownBlock = some b → v'.ownBlock ≠ some b) → StkM w n₀ rb K cur st vs →
    StkM w n₀ rb (fun b => K b ∨ u.ownBlock = some b) cur st vs
  | [], _, _, h => h
  | l :: r, _, hu, ⟨v, vs', e, h1, h2, h3, h4⟩ => by
    subst e
    refine ⟨v, vs', rfl, h1, h2.more (fun b hb => .inl hb), fun g hg => ⟨(h3 g hg).1, fun hk => ?_, (h3 g hg).2.2⟩, StkM.more r vs' (fun v' hv' => hu v' (by simp [hv'])) h4⟩
    rcases hk with hk | hk
    · exact (h3 g hg).2.1 hk
    · exact hu v (by simp) g hk hg
def pushS : RS → RS
  | .run st => if st.length = 60 then .deep 61 else .run ([] :: st)
  | .fin t => .fin t
  | .deep n => .deep (n + 1)
end Go.Proofs.YtodonngnigbpaaaGreatDoor
namespace Go.Proofs.YtodonngnigbpaaaGreatDoor
open Go.RowKit
/-- append to a row of one's own, as one step of a region that draws. -/
theorem step_append_own {P : Program} {ops : Array Oper} {o : Oper} {a : Act} {w : World} {K : Act → World → Prop} {Q : Exit → Act → World → Prop} {E : Prop}
    (hg : o.guard = none) (s x : Operand) (t : TypeId) (hop : o.op = Op.call { callee := Callee.builtin Builtin.append, args := #[s, x], argTypes := #[t, t] })
    (base : Nat) (e : TypeId) (i : TypeInfo) (z : Value) (size bytes : Nat) (ht : P.underlying t = some (.slice e)) (hi : P.info? e = some i) (hz : i.zero = some z)
    (hsize : i.size = size) (hby : i.bytes = bytes) (hzs : z.cells.size = size) (hsz : 0 < size)
    (v : Value) (n : Nat) (xs : List Value) (hs : a.eval s = v) (hown : w.ownsRow base e size v n xs)
    (ad : Addr) (m c : Nat) (news : List Value) (hx : a.eval x = .slice (some ad) m c) (hl : news.length = m * size) (hnews : ∀ j u, news[j]? = some u → w.cell? (ad.add j) = some u) (h1 : ∀ u ∈ news, u.oneCell' = true)
    (h63 : n + m ≤ maxLen) (hbytes : (n + m) * bytes ≤ 140737488355328) (hbase : base ≤ w.heap.size)
    (hK : ∀ v' w', w'.ownsRow base e size v' (n + m) (xs ++ news) → w.grownBy w' v.ownBlock → (v'.ownBlock = v.ownBlock ∨ v'.ownBlock = some w.heap.size) → K (a.put o.dst v') w') :
    if Region.wanted o (yielded ops a.tmps) = true then Oper.wp P o a w K Q else E := by
  have hw : Region.wanted o (yielded ops a.tmps) = true := by simp [Region.wanted, hg]
  rw [if_pos hw]
  obtain ⟨v', w', hrun, h2, h3, _, h5⟩ := run_append_own_at (P := P) w base t o.type e i z size bytes ht hi hz hsize hby hzs hsz v n xs hown ad m c news hl hnews h1 h63 hbytes hbase
  unfold Oper.wp
  simp [execOp, hop, resolve, invoke, builtin, hs, hx, hrun, Result.andThen]
  exact hK v' w' h2 h3 h5
theorem infoSx : (Tryz.prog.info? 35).map (fun i => (i.zero, i.size, i.bytes)) = some (some (.agg #[.int .i8 0, .string ⟨#[]⟩, .slice none 0 0]), 3, 48) := by kernel_rfl
def putS (st : List (List Tree)) (t : Tree) : RS :=
  match st with
  | [] => .fin t
  | l :: r => .run ((l ++ [t]) :: r)
theorem put_ne {w1 : World} {rb : Nat} {o : Obj} {a : Option Nat} {g2 : Nat} {v : Value} (h : v.ownBlock = a ∨ v.ownBlock = some (w1.alloc o).heap.size) (hrb : rb < w1.heap.size) (hob : some rb ≠ a) (hv : v.ownBlock = some g2 := by rfl) : ¬ g2 = rb := by
  intro e
  subst e
  rw [hv] at h
  rcases h with h | h
  · exact hob h
  · simp at h; omega
/-- What the walk is told of the row behind the append. -/
theorem put_facts {w1 w2 : World} {n₀ rb d g2 cap2 n : Nat} {xs : List Value} {u : Value} {o : Obj} {ob : Option Nat} (hown : w2.ownsRow n₀ 35 3 (.slice (some ⟨g2, 0, none⟩) (n + 1) cap2) (n + 1) (xs ++ [.int .i8 0, .string ⟨#[]⟩, .slice none 0 0])) (hx : xs.length = n * 3)
    (hgrow : (w1.alloc o).grownBy w2 ob) (hrb : rb < w1.heap.size) (hob : some rb ≠ ob) (hr : w1.cell? ⟨rb, d, none⟩ = some u) (hf : w1.frozen? ⟨rb, d, none⟩ = false) :
    w2.cell? ⟨g2, n * 3, none⟩ = some (.int .i8 0) ∧ w2.cell? ⟨g2, n * 3 + 1, none⟩ = some (.string ⟨#[]⟩) ∧ w2.cell? ⟨g2, n * 3 + 2, none⟩ = some (.slice none 0 0) ∧ (∀ i, w2.frozen? ⟨g2, i, none⟩ = false) ∧ w2.cell? ⟨rb, d, none⟩ = some u ∧ w2.frozen? ⟨rb, d, none⟩ = false := by
  have h0 := hown.cellAt (n * 3) (by omega)
  have h1 := hown.cellAt (n * 3 + 1) (by omega)
  have h2 := hown.cellAt (n * 3 + 2) (by omega)
  rw [List.getElem?_append_right (by omega), hx] at h0 h1 h2
  have hk : w2.heap[rb]? = w1.heap[rb]? := (hgrow.block rb (by simp; omega) hob).trans (Below.heap_alloc _ _ _ hrb)
  refine ⟨by simpa using h0, by rw [h1]; simp, by rw [h2]; simp, fun i => hown.frozenAt i, (World.cell?_of_block (a := ⟨rb, d, none⟩) hk).trans hr, (World.frozen?_of_block (a := ⟨rb, d, none⟩) hk).trans hf⟩
theorem put_row {w2 : World} {n₀ g2 cap2 n : Nat} {xs : List Value} {z0 z1 z2 k s sl : Value} (hown : w2.ownsRow n₀ 35 3 (.slice (some ⟨g2, 0, none⟩) (n + 1) cap2) (n + 1) (xs ++ [z0, z1, z2])) (hx : xs.length = n * 3) :
    (((w2.setCell ⟨g2, n * 3, none⟩ k).setCell ⟨g2, n * 3 + 1, none⟩ s).setCell ⟨g2, n * 3 + 2, none⟩ sl).ownsRow n₀ 35 3 (.slice (some ⟨g2, 0, none⟩) (n + 1) cap2) (n + 1) (xs ++ [k, s, sl]) := by
  have h1 := (hown.stored (n * 3) k).1
  have h2 := (h1.stored (n * 3 + 1) s).1
  have h3 := (h2.stored (n * 3 + 2) sl).1
  have e : (((xs ++ [z0, z1, z2]).set (n * 3) k).set (n * 3 + 1) s).set (n * 3 + 2) sl = xs ++ [k, s, sl] := by
    rw [← hx, List.set_append_right _ _ (Nat.le_refl _), List.set_append_right _ _ (by omega), List.set_append_right _ _ (by omega)]
    simp
  rw [e] at h3
  exact h3
end Go.Proofs.YtodonngnigbpaaaGreatDoor
namespace Go.Proofs.YtodonngnigbpaaaGreatDoor
open Go.RowKit
/-- What a token makes of what has been read. -/
def takeS (s : RS) (k : Nat) (t : List UInt8) : Option RS :=
  if k = 0 then some (pushS s) else
  if k = 1 then (match s with
    | .run [] => none
    | .run (l :: st) => some (putS st (.node 3 [] l))
    | .deep n => some (.deep (n - 1))
    | .fin _ => none) else
  match s with
  | .run st => some (putS st (.node ((k : Int) - 2) t []))
  | .deep n => some (.deep n)
  | .fin _ => none
/-- How great what has been read may be. -/
def OkS (N : Nat) : RS → Prop
  | .run st => st.length ≤ N ∧ ∀ l ∈ st, l.length ≤ N
  | .deep n => n ≤ N ∧ 1 ≤ n
  | .fin _ => False
theorem takeS_ok {N k : Nat} {t : List UInt8} {s s' : RS} (hok : OkS N s) (hs : takeS s k t = some s') : (OkS (N + 1) s' ∧ s' ≠ .run []) ∨ (∃ t, s' = .fin t) ∨ s' = .deep 0 := by
  have hput : ∀ st t, OkS N (.run st) → (OkS (N + 1) (putS st t) ∧ putS st t ≠ .run []) ∨ (∃ t', putS st t = .fin t') ∨ putS st t = .deep 0 := by
    intro st t h
    cases st with
    | nil => exact .inr (.inl ⟨t, rfl⟩)
    | cons l r =>
      refine .inl ⟨⟨by have := h.1; simp only [List.length_cons] at this ⊢; omega, fun l' hl => ?_⟩, by simp [putS]⟩
      rcases List.mem_cons.1 hl with rfl | hl
      · have := h.2 l (by simp); simp; omega
      · have := h.2 l' (by simp [hl]); omega
  unfold takeS at hs
  by_cases h0 : k = 0
  · rw [if_pos h0] at hs
    cases hs
    cases s with
    | fin t => exact hok.elim
    | deep n => exact .inl ⟨⟨by have := hok.1; omega, by omega⟩, by simp [pushS]⟩
    | run st =>
      simp only [pushS]
      split
      · exact .inl ⟨⟨by have := hok.1; omega, by omega⟩, by simp⟩
      · refine .inl ⟨⟨by have := hok.1; simp; omega, fun l' hl => ?_⟩, by simp⟩
        rcases List.mem_cons.1 hl with rfl | hl
        · simp
        · have := hok.2 l' hl; omega
  · rw [if_neg h0] at hs
    by_cases h1 : k = 1
    · rw [if_pos h1] at hs
      cases s with
      | fin t => exact hok.elim
      | deep n =>
        simp only [Option.some.injEq] at hs
        subst hs
        by_cases hn : n = 1
        · subst hn; exact .inr (.inr rfl)
        · exact .inl ⟨⟨by have := hok.1; omega, by have := hok.2; omega⟩, by simp⟩
      | run st =>
        cases st with
        | nil => cases hs
        | cons l r =>
          simp only [Option.some.injEq] at hs
          subst hs
          exact hput r _ ⟨by have := hok.1; simp only [List.length_cons] at this; omega, fun l' hl => hok.2 l' (by simp [hl])⟩
    · rw [if_neg h1] at hs
      cases s with
      | fin t => exact hok.elim
      | deep n =>
        simp only [Option.some.injEq] at hs
        subst hs
        exact .inl ⟨⟨by have := hok.1; omega, hok.2⟩, by simp⟩
      | run st =>
        simp only [Option.some.injEq] at hs
        subst hs
        exact hput st _ hok
theorem takeS_none {k : Nat} {t : List UInt8} {s : RS} {N : Nat} (hok : OkS N s) (hs : takeS s k t = none) : k = 1 ∧ s = .run [] := by
  unfold takeS at hs
  by_cases h0 : k = 0
  · rw [if_pos h0] at hs; cases hs
  · rw [if_neg h0] at hs
    by_cases h1 : k = 1
    · rw [if_pos h1] at hs
      cases s with
      | fin t => exact hok.elim
      | deep n => cases hs
      | run st =>
        cases st with
        | nil => exact ⟨h1, rfl⟩
        | cons l r => cases hs
    · rw [if_neg h1] at hs
      cases s with
      | fin t => exact hok.elim
      | deep n => cases hs
      | run st => cases hs
end Go.Proofs.YtodonngnigbpaaaGreatDoor
namespace Go.Proofs.YtodonngnigbpaaaGreatDoor
open Go.RowKit
def emptyT : Tree := .node 0 [] []
/-- An answer of Read. -/
structure RdR where
  t : Tree
  stop : Nat
  err : Nat
/-- What is read from byte p on, where s has been read. -/
def contR (L : List UInt8) : Nat → RS → Nat → RdR
  | _, .fin t, p => ⟨t, p, 0⟩
  | _, .deep 0, p => ⟨emptyT, p, 22⟩
  | 0, _, _ => ⟨emptyT, 0, 99⟩
  | f + 1, s, p =>
    if (nextL L p).err ≠ 0 then ⟨emptyT, (nextL L p).tok.pos, (nextL L p).err⟩ else
    if (nextL L p).ok = false then ⟨emptyT, L.length, 21⟩ else
    match takeS s (nextL L p).tok.kind (nextL L p).tok.text with
    | none => ⟨emptyT, (nextL L p).tok.pos, 20⟩
    | some s' => contR L f s' (nextL L p).tok.stop
def readL (L : List UInt8) (k : Nat) : RdR := contR L (L.length + 1 - k) (.run []) k
/-- A value that was made here: its rows are blocks of one's own. -/
def RdOut (B : Nat) (w : World) (t : Tree) (v : Value) : Prop := ∃ K : Nat → Prop, (∀ b, K b → B ≤ b ∧ b < w.heap.size) ∧ (∀ b, K b → ∃ cs, w.heap[b]? = some (.cells cs 35 (0, 0))) ∧ Rd w (fun b => ¬ K b) t v
theorem RdOut.empty (B : Nat) (w : World) : RdOut B w emptyT (.agg #[.int .i8 0, .string ⟨#[]⟩, .slice none 0 0]) := ⟨fun _ => False, fun _ h => h.elim, fun _ h => h.elim, none, 0, rfl, by simp, by simp, by simp, trivial⟩
def ReadPost (w : World) (X : RdR) (e : Ending) (w' : World) : Prop := ∃ v, e = .returned (.tuple #[v, .int .i64 X.stop, .int .i64 X.err]) ∧ RdOut w.heap.size w' X.t v ∧ Below w.heap.size w w'
def depS : RS → Nat
  | .run st => st.length
  | .deep n => n
  | .fin _ => 0
def isDeep : RS → Bool
  | .deep _ => true
  | _ => false
/-- Where the reader is: what is read from byte e on makes X. -/
def RI (L : List UInt8) (at_ : Int) (X : RdR) (r : RS) (e : Int) (f : Nat) : Prop :=
  contR L f r (clampN e L.length) = X ∧ L.length + 1 - clampN e L.length ≤ f ∧
  ((r = .run [] ∧ e = at_) ∨ (at_ < e ∧ e ≤ L.length ∧ ((OkS (clampN e L.length) r ∧ r ≠ .run []) ∨ (∃ t, r = .fin t) ∨ r = .deep 0)))
theorem contR_fin (L : List UInt8) (f : Nat) (t : Tree) (p : Nat) : contR L f (.fin t) p = ⟨t, p, 0⟩ := by cases f <;> rfl
theorem contR_deep (L : List UInt8) (f : Nat) (p : Nat) : contR L f (.deep 0) p = ⟨emptyT, p, 22⟩ := by cases f <;> rfl
theorem contR_go (L : List UInt8) (f : Nat) (r : RS) (p N : Nat) (h : OkS N r) : contR L (f + 1) r p = if (nextL L p).err ≠ 0 then ⟨emptyT, (nextL L p).tok.pos, (nextL L p).err⟩ else
    if (nextL L p).ok = false then ⟨emptyT, L.length, 21⟩ else
    match takeS r (nextL L p).tok.kind (nextL L p).tok.text with
    | none => ⟨emptyT, (nextL L p).tok.pos, 20⟩
    | some s' => contR L f s' (nextL L p).tok.stop := by
  cases r with
  | fin t => exact h.elim
  | run st => rfl
  | deep n =>
    obtain ⟨n, rfl⟩ : ∃ m, n = m + 1 := ⟨n - 1, by have := h.2; omega⟩
    rfl
theorem tokN_kind4 {l : List UInt8} {k m : Nat} {t : List UInt8} (h : tokN l = some (k, t, m)) : k ≤ 4 ∧ t.length ≤ 100 := by
  obtain ⟨c, r, _, h1, _, _, _, h2⟩ := tokN_some h
  exact ⟨kindN_le h1, h2⟩
theorem RI.step {L : List UInt8} {at_ : Int} {X : RdR} {r : RS} {e : Int} {f : Nat} (h : RI L at_ X r e f) (ha : 0 ≤ at_) :
    (∃ t, r = .fin t ∧ at_ < e ∧ X = ⟨t, e.toNat, 0⟩) ∨ (r = .deep 0 ∧ at_ < e ∧ X = ⟨emptyT, e.toNat, 22⟩) ∨
    (OkS (clampN e L.length) r ∧ (e = at_ ∨ (at_ < e ∧ 0 < depS r)) ∧
     ((∃ n, nextL L (clampN e L.length) = ⟨⟨0, [], n, 0⟩, false, 20⟩ ∧ X = ⟨emptyT, n, 20⟩) ∨ (nextL L (clampN e L.length) = ⟨⟨0, [], 0, 0⟩, false, 0⟩ ∧ X = ⟨emptyT, L.length, 21⟩) ∨
      ∃ k t n m, nextL L (clampN e L.length) = ⟨⟨k, t, n, m⟩, true, 0⟩ ∧ k ≤ 4 ∧ t.length ≤ 100 ∧ clampN e L.length < m ∧ m ≤ L.length ∧
        ((takeS r k t = none ∧ k = 1 ∧ r = .run [] ∧ X = ⟨emptyT, n, 20⟩) ∨ ∃ r' f', takeS r k t = some r' ∧ RI L at_ X r' m f'))) := by
  obtain ⟨h1, h2, h3⟩ := h
  have hcl : clampN e L.length ≤ L.length := clampN_le _ _
  have hterm : (∃ t, r = .fin t) → at_ < e → e ≤ L.length → (∃ t, r = .fin t ∧ at_ < e ∧ X = ⟨t, e.toNat, 0⟩) := by
    rintro ⟨t, rfl⟩ h4 h5
    refine ⟨t, rfl, h4, ?_⟩
    rw [← h1, contR_fin]
    have : clampN e L.length = e.toNat := by unfold clampN; split <;> (try split) <;> omega
    rw [this]
  have hterm2 : r = .deep 0 → at_ < e → e ≤ L.length → (r = .deep 0 ∧ at_ < e ∧ X = ⟨emptyT, e.toNat, 22⟩) := by
    rintro rfl h4 h5
    refine ⟨rfl, h4, ?_⟩
    rw [← h1, contR_deep]
    have : clampN e L.length = e.toNat := by unfold clampN; split <;> (try split) <;> omega
    rw [this]
  have hcase : (OkS (clampN e L.length) r ∧ (e = at_ ∨ (at_ < e ∧ 0 < depS r)) ∧ at_ ≤ e) ∨ (∃ t, r = .fin t ∧ at_ < e ∧ X = ⟨t, e.toNat, 0⟩) ∨ (r = .deep 0 ∧ at_ < e ∧ X = ⟨emptyT, e.toNat, 22⟩) := by
    rcases h3 with ⟨rfl, rfl⟩ | ⟨h4, h5, h6⟩
    · exact .inl ⟨⟨by simp, fun l hl => by cases hl⟩, .inl rfl, Int.le_refl _⟩
    · rcases h6 with ⟨h6, h7⟩ | h6 | h6
      · refine .inl ⟨h6, .inr ⟨h4, ?_⟩, by omega⟩
        cases r with
        | fin t => exact h6.elim
        | deep n => exact h6.2
        | run st =>
          cases st with
          | nil => exact absurd rfl h7
          | cons l r => simp [depS]
      · exact .inr (.inl (hterm h6 h4 h5))
      · exact .inr (.inr (hterm2 h6 h4 h5))
  rcases hcase with ⟨hok, hd, hle⟩ | h6 | h6
  · refine .inr (.inr ⟨hok, hd, ?_⟩)
    obtain ⟨f, rfl⟩ : ∃ g, f = g + 1 := ⟨f - 1, by omega⟩
    rw [contR_go L f r _ _ hok] at h1
    by_cases herr : (nextL L (clampN e L.length)).err ≠ 0
    · rw [if_pos herr] at h1
      obtain ⟨_, _, hx, _⟩ := nextL_err herr
      exact .inl ⟨skipA L (clampN e L.length), hx, by rw [← h1, hx]⟩
    · rw [if_neg herr] at h1
      cases hk : (nextL L (clampN e L.length)).ok with
      | false =>
        rw [hk, if_pos rfl] at h1
        exact .inr (.inl ⟨(nextL_end hk (Classical.not_not.1 herr)).2, h1.symm⟩)
      | true =>
        rw [hk, if_neg (by simp)] at h1
        obtain ⟨hs1, hs2, _⟩ := nextL_stop hcl hk
        obtain ⟨kd, t, m, htok, hx⟩ := nextL_ok hk
        rw [hx] at h1 hs1 hs2
        obtain ⟨hk4, ht⟩ := tokN_kind4 htok
        refine .inr (.inr ⟨kd, t, skipA L (clampN e L.length), skipA L (clampN e L.length) + m, hx, hk4, ht, hs1, hs2, ?_⟩)
        simp only at h1
        cases htk : takeS r kd t with
        | none =>
          rw [htk] at h1
          obtain ⟨q1, q2⟩ := takeS_none hok htk
          exact .inl ⟨rfl, q1, q2, h1.symm⟩
        | some r' =>
          rw [htk] at h1
          simp only at h1 hs1 hs2
          have hcm : clampN ((skipA L (clampN e L.length) + m : Nat) : Int) L.length = skipA L (clampN e L.length) + m := clampN_nat hs2
          have hce : e ≤ L.length → e = clampN e L.length := by intro hle2; unfold clampN; split <;> (try split) <;> omega
          have hne : e ≤ L.length := by
            apply Classical.byContradiction; intro hgt
            have : clampN e L.length = L.length := by unfold clampN; split <;> (try split) <;> omega
            omega
          have := hce hne
          refine .inr ⟨r', f, rfl, by rw [hcm]; exact h1, by rw [hcm]; omega, .inr ⟨by omega, by omega, ?_⟩⟩
          rw [hcm]
          have hok' : OkS (skipA L (clampN e L.length) + m - 1) r := by
            have hle3 : clampN e L.length ≤ skipA L (clampN e L.length) + m - 1 := by omega
            cases r with
            | fin t => exact hok
            | run st => exact ⟨Nat.le_trans hok.1 hle3, fun l hl => Nat.le_trans (hok.2 l hl) hle3⟩
            | deep n => exact ⟨Nat.le_trans hok.1 hle3, hok.2⟩
          have hq := takeS_ok hok' htk
          rw [show skipA L (clampN e L.length) + m - 1 + 1 = skipA L (clampN e L.length) + m by omega] at hq
          exact hq
  · exact .inl h6
  · exact .inr (.inl h6)
end Go.Proofs.YtodonngnigbpaaaGreatDoor
