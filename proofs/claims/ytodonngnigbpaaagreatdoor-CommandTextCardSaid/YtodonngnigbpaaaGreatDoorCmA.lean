/- Commands as plain data; what it is that a value reads as one; what a list is parsed as. -/
import Derived.Test.YtodonngnigbpaaaGreatDoorProg
import Derived.Test.YtodonngnigbpaaaGreatDoorAid
import Derived.Test.YtodonngnigbpaaaGreatDoorSexRd
import Derived.Test.YtodonngnigbpaaaGreatDoorNumText
import Derived.Test.YtodonngnigbpaaaGreatDoorSexHead
import Derived.Maps.AppendAt
import Derived.Laws.Append
namespace Go.Proofs.YtodonngnigbpaaaGreatDoor
open Go.RowKit
set_option linter.unusedVariables false
/-- The flat list of values lies at an address, in a block below B. -/
def At (w : World) (B : Nat) (L : List Value) (a : Option Addr) : Prop :=
  0 < L.length → ∃ g o : Nat, a = some ⟨g, o, none⟩ ∧ g < B ∧ ∀ (i : Nat) (v : Value), L[i]? = some v → w.cell? ⟨g, o + i, none⟩ = some v
theorem At.below {w w' : World} {B : Nat} {L : List Value} {a : Option Addr} (h : At w B L a) (hb : Below B w w') : At w' B L a := by
  intro h0
  obtain ⟨g, o, e, hg, hc⟩ := h h0
  exact ⟨g, o, e, hg, fun i v hv => (hb.cell (p := ⟨g, o + i, none⟩) hg).trans (hc i v hv)⟩
theorem At.more {w : World} {B B' : Nat} {L : List Value} {a : Option Addr} (h : At w B L a) (hB : B ≤ B') : At w B' L a := by
  intro h0
  obtain ⟨g, o, e, hg, hc⟩ := h h0
  exact ⟨g, o, e, by omega, hc⟩
theorem get_flat {α : Type} {f : α → List Value} {n : Nat} (hn : ∀ x, (f x).length = n) : ∀ (l : List α) (k j : Nat) (x : α), l[k]? = some x → j < n → (l.flatMap f)[k * n + j]? = (f x)[j]?
  | [], k, j, x, h, _ => by simp at h
  | y :: r, 0, j, x, h, hj => by
    simp at h
    subst h
    simp only [List.flatMap_cons, Nat.zero_mul, Nat.zero_add]
    exact List.getElem?_append_left (by rw [hn]; exact hj)
  | y :: r, k + 1, j, x, h, hj => by
    simp only [List.flatMap_cons]
    rw [List.getElem?_append_right (by rw [hn, Nat.succ_mul]; omega), hn]
    have e : (k + 1) * n + j - n = k * n + j := by rw [Nat.succ_mul]; omega
    rw [e]
    exact get_flat hn r k j x (by simpa using h) hj
theorem len_flat {α : Type} {f : α → List Value} {n : Nat} (hn : ∀ x, (f x).length = n) : ∀ (l : List α), (l.flatMap f).length = l.length * n
  | [] => by simp
  | y :: r => by simp only [List.flatMap_cons, List.length_append, hn, len_flat hn r, List.length_cons, Nat.succ_mul]; omega
theorem below_grown {A B : World} (h : A.grownBy B none) : Below A.heap.size A B := ⟨h.os, h.tape, h.output, h.size, fun i hi => h.block i hi (by simp)⟩
theorem app_empty {P : Program} {t ty e : TypeId} {i : TypeInfo} {z : Value} (ht : P.underlying t = some (.slice e)) (hi : P.info? e = some i) (c : Nat) (w : World) :
    (Builtin.append_ #[t, t] ty #[.slice none 0 0, .slice none 0 c]).run P w = .ok (.slice none 0 0) w := by
  simp [Builtin.append_, run_underlying ht, sizeOf, typeInfo, hi, Builtin.lenOf, run_firstCells_none]
theorem at_add {w : World} {L : List Value} {g o : Nat} (h : ∀ (i : Nat) (v : Value), L[i]? = some v → w.cell? ⟨g, o + i, none⟩ = some v) : ∀ j u, L[j]? = some u → w.cell? ((⟨g, o, none⟩ : Addr).add j) = some u := fun j u hu => by
  rw [Addr.add_lit]; exact h j u hu
/-- An expression as it lies in a row. -/
structure SexV where
  t : Tree
  a : Option Addr
  c : Nat
def sexC (s : SexV) : List Value := [.int .i8 s.t.kind, .string (bytesL s.t.text), .slice s.a s.t.kids.length s.c]
def sexV (s : SexV) : Value := .agg #[.int .i8 s.t.kind, .string (bytesL s.t.text), .slice s.a s.t.kids.length s.c]
theorem sexC_len (s : SexV) : (sexC s).length = 3 := rfl
theorem one_sex (l : List SexV) : ∀ u ∈ l.flatMap sexC, u.oneCell' = true := by
  intro u hu
  obtain ⟨x, _, h⟩ := List.mem_flatMap.1 hu
  simp [sexC] at h
  rcases h with rfl | rfl | rfl <;> rfl
theorem rdl_vals {w : World} {bad : Nat → Prop} : ∀ (l : List Tree) (a : Option Addr), RdL w bad l a → ∃ xs : List SexV, xs.map (·.t) = l ∧ At w w.heap.size (xs.flatMap sexC) a ∧ ∀ s ∈ xs, Rd w bad s.t (sexV s)
  | [], a, _ => ⟨[], rfl, fun h => absurd h (by simp), fun s h => by simp at h⟩
  | t :: l, a, h => by
    obtain ⟨g, o, v0, v1, v2, rfl, hb, fz, c0, c1, c2, ht, hl⟩ := h
    obtain ⟨xs, h1, h2, h3⟩ := rdl_vals l _ hl
    obtain ⟨ca, cc, hv, _, _, _, _⟩ := ht.parts
    simp only [Value.agg.injEq, Array.mk.injEq, List.cons.injEq, and_true] at hv
    obtain ⟨rfl, rfl, rfl⟩ := hv
    refine ⟨⟨t, ca, cc⟩ :: xs, by simp [h1], fun _ => ⟨g, o, rfl, World.block_lt_of_cell? w ⟨g, o, none⟩ c0, fun i v hi => ?_⟩, fun s hs => ?_⟩
    · simp only [List.flatMap_cons, sexC] at hi
      match i, hi with
      | 0, hi => simp at hi; subst hi; exact c0
      | 1, hi => simp at hi; subst hi; exact c1
      | 2, hi => simp at hi; subst hi; exact c2
      | i + 3, hi =>
        have hi : (xs.flatMap sexC)[i]? = some v := by simpa using hi
        have hpos : 0 < (xs.flatMap sexC).length := by
          rcases Nat.eq_zero_or_pos (xs.flatMap sexC).length with h0 | h0
          · rw [List.eq_nil_of_length_eq_zero h0] at hi; simp at hi
          · exact h0
        obtain ⟨g', o', e, _, hc⟩ := h2 hpos
        simp only [Option.some.injEq, Addr.mk.injEq, and_true] at e
        obtain ⟨rfl, rfl⟩ := e
        have := hc i v hi
        rwa [show o + 3 + i = o + (i + 3) by omega] at this
    · rcases List.mem_cons.1 hs with rfl | hs
      · exact ht
      · exact h3 s hs
theorem info_sex : (Tryz.prog.info? 35).map (fun i => (i.zero, i.size, i.bytes)) = some (some (.agg #[.int .i8 0, .string ⟨#[]⟩, .slice none 0 0]), 3, 48) := by kernel_rfl
theorem info_str : (Tryz.prog.info? 9).map (fun i => (i.zero, i.size, i.bytes)) = some (some (.string ⟨#[]⟩), 1, 16) := by kernel_rfl
theorem info_int : (Tryz.prog.info? 3).map (fun i => (i.zero, i.size, i.bytes)) = some (some (.int .i64 0), 1, 8) := by kernel_rfl
theorem info_par : (Tryz.prog.info? 44).map (fun i => (i.zero, i.size, i.bytes)) = some (some (.agg #[.string ⟨#[]⟩, .string ⟨#[]⟩]), 2, 32) := by kernel_rfl
/-- No row is too long to be copied. -/
def RowsT : Tree → Prop
  | .node _ _ l => l.length * 48 ≤ 140737488355328 ∧ ∀ t, t ∈ l → RowsT t
theorem RowsT.kids {t : Tree} (h : RowsT t) : t.kids.length * 48 ≤ 140737488355328 ∧ ∀ c ∈ t.kids, RowsT c := by
  cases t with
  | node k s l => unfold RowsT at h; exact h
/-- Blocks that lay before B, or that are no cells without a mark. -/
def newBad (B : Nat) (w : World) (b : Nat) : Prop := b < B ∨ ¬ ∃ cs ty, w.heap[b]? = some (.cells cs ty (0, 0))
def NewT (B : Nat) (w : World) (t : Tree) (v : Value) : Prop := Rd w (newBad B w) t v
theorem newBad_lt {B : Nat} {w : World} {b : Nat} (h : ¬ newBad B w b) : B ≤ b ∧ b < w.heap.size ∧ ∃ cs ty, w.heap[b]? = some (.cells cs ty (0, 0)) := by
  unfold newBad at h
  obtain ⟨h1, h2⟩ := not_or.1 h
  obtain ⟨cs, ty, hc⟩ := Classical.not_not.1 h2
  exact ⟨by omega, (Array.getElem?_eq_some_iff.1 hc).1, cs, ty, hc⟩
theorem newBad_keep {B : Nat} {w w' : World} (hk : ∀ b, B ≤ b → b < w.heap.size → w'.heap[b]? = w.heap[b]?) {b : Nat} (hb : newBad B w' b) : newBad B w b := by
  rcases hb with hb | hb
  · exact .inl hb
  · refine Classical.byContradiction fun hn => ?_
    obtain ⟨h2, h3, cs, ty, hc⟩ := newBad_lt hn
    exact hb ⟨cs, ty, (hk b h2 h3).trans hc⟩
theorem NewT.keep {B : Nat} {w w' : World} {t : Tree} {v : Value} (h : NewT B w t v) (hk : ∀ b, B ≤ b → b < w.heap.size → w'.heap[b]? = w.heap[b]?) : NewT B w' t v := by
  have h1 : Rd w' (newBad B w) t v := Rd.keep (fun b hb hlt => hk b (newBad_lt hb).1 hlt) t v h
  exact Rd.mono (fun b _ hb => newBad_keep hk hb) t v h1
theorem newL_keep {B : Nat} {w w' : World} {l : List Tree} {a : Option Addr} (h : RdL w (newBad B w) l a) (hk : ∀ b, B ≤ b → b < w.heap.size → w'.heap[b]? = w.heap[b]?) : RdL w' (newBad B w') l a := by
  have h1 : RdL w' (newBad B w) l a := RdL.keep (fun b hb hlt => hk b (newBad_lt hb).1 hlt) l a h
  exact RdL.mono (fun b _ hb => newBad_keep hk hb) l a h1
theorem NewT.more {B B' : Nat} {w : World} {t : Tree} {v : Value} (h : NewT B w t v) (hB : B' ≤ B) : NewT B' w t v :=
  Rd.mono (fun b _ hb => by rcases hb with hb | hb; exact .inl (by omega); exact .inr hb) t v h
theorem newL_more {B B' : Nat} {w : World} {l : List Tree} {a : Option Addr} (h : RdL w (newBad B w) l a) (hB : B' ≤ B) : RdL w (newBad B' w) l a :=
  RdL.mono (fun b _ hb => by rcases hb with hb | hb; exact .inl (by omega); exact .inr hb) l a h
/-- A tree, the rows of which lie in blocks without a mark. -/
def SxK (w : World) (t : Tree) (v : Value) : Prop := ∃ bad : Nat → Prop, (∀ b, ¬ bad b → b < w.heap.size) ∧ Rd w bad t v ∧ Clean w bad
theorem SxK.below {w w' : World} {t : Tree} {v : Value} (h : SxK w t v) (hb : Below w.heap.size w w') : SxK w' t v := by
  obtain ⟨bad, h1, h2, h3⟩ := h
  refine ⟨bad, fun b hb' => Nat.lt_of_lt_of_le (h1 b hb') hb.size, Rd.keep (fun b hb' _ => hb.block b (h1 b hb')) t v h2, fun b hb' _ => ?_⟩
  obtain ⟨cs, ty, hc⟩ := h3 b hb' (h1 b hb')
  exact ⟨cs, ty, (hb.block b (h1 b hb')).trans hc⟩
theorem NewT.sxk {B : Nat} {w : World} {t : Tree} {v : Value} (h : NewT B w t v) : SxK w t v :=
  ⟨newBad B w, fun b hb => (newBad_lt hb).2.1, h, fun b hb _ => (newBad_lt hb).2.2⟩
theorem NewT.sx {B : Nat} {w : World} {t : Tree} {v : Value} (h : NewT B w t v) : Sx w t v := Rd.sx h
/-- A row of expressions, put together. -/
theorem build_rdl {w : World} {bad : Nat → Prop} {M : Nat} {cs : Array Value} {ty : TypeId} (hM : w.heap[M]? = some (.cells cs ty (0, 0))) (hbad : ¬ bad M) : ∀ (ys : List SexV) (o : Nat), (∀ i v, (ys.flatMap sexC)[i]? = some v → w.cell? ⟨M, o + i, none⟩ = some v) →
    (∀ s ∈ ys, Rd w bad s.t (sexV s)) → RdL w bad (ys.map (·.t)) (some ⟨M, o, none⟩)
  | [], o, _, _ => trivial
  | s :: r, o, hc, hn => by
    have h0 := hc 0 (.int .i8 s.t.kind) rfl
    have h1 := hc 1 (.string (bytesL s.t.text)) rfl
    have h2 := hc 2 (.slice s.a s.t.kids.length s.c) rfl
    refine ⟨M, o, _, _, _, rfl, hbad, ?_, h0, h1, h2, hn s (by simp), ?_⟩
    · simp [World.frozen?, hM]
    · refine build_rdl hM hbad r (o + 3) (fun i v hi => ?_) (fun s hs => hn s (by simp [hs]))
      have := hc (i + 3) v (by simpa [sexC] using hi)
      rwa [show o + (i + 3) = o + 3 + i by omega] at this
/-- A row of one's own of expressions. -/
theorem own_rdl {w : World} {bad : Nat → Prop} {base n : Nat} {v : Value} {xs : List SexV} (h : w.ownsRow base 35 3 v n (xs.flatMap sexC)) (hn : n = xs.length) (hbad : ∀ g, base ≤ g → (∃ cs ty, w.heap[g]? = some (.cells cs ty (0, 0))) → ¬ bad g)
    (hx : ∀ s ∈ xs, Rd w bad s.t (sexV s)) : ∃ a c, v = .slice a xs.length c ∧ xs.length ≤ c ∧ c ≤ maxLen ∧ RdL w bad (xs.map (·.t)) a := by
  rcases h.2 with ⟨rfl, rfl⟩ | ⟨g, cap, cur, rfl, h1, h2, h3, h4, h5, h6⟩
  · have : xs = [] := List.eq_nil_of_length_eq_zero hn.symm
    subst this
    exact ⟨none, 0, rfl, by simp, by simp, trivial⟩
  · subst hn
    refine ⟨_, cap, rfl, h3, h4, build_rdl h2 (hbad g h1 ⟨_, _, h2⟩) xs 0 (fun i u hu => ?_) hx⟩
    rw [← h6, List.getElem?_take] at hu
    split at hu
    · have := cell_of_row w g (0 + i) _ _ _ h2
      rw [this, Nat.zero_add, ← Array.getElem?_toList]
      exact hu
    · cases hu
/-- The flat list lies in a block from lo on, below hi. -/
def AtI (w : World) (lo hi : Nat) (L : List Value) (a : Option Addr) : Prop :=
  0 < L.length → ∃ g o : Nat, a = some ⟨g, o, none⟩ ∧ lo ≤ g ∧ g < hi ∧ ∀ (i : Nat) (v : Value), L[i]? = some v → w.cell? ⟨g, o + i, none⟩ = some v
theorem AtI.keep {w w' : World} {lo hi : Nat} {L : List Value} {a : Option Addr} (h : AtI w lo hi L a) (hk : ∀ b, lo ≤ b → b < hi → w'.heap[b]? = w.heap[b]?) : AtI w' lo hi L a := by
  intro h0
  obtain ⟨g, o, e, h1, h2, hc⟩ := h h0
  exact ⟨g, o, e, h1, h2, fun i v hv => (World.cell?_of_block (a := ⟨g, o + i, none⟩) (hk g h1 h2)).trans (hc i v hv)⟩
theorem AtI.wide {w : World} {lo hi lo' hi' : Nat} {L : List Value} {a : Option Addr} (h : AtI w lo hi L a) (h1 : lo' ≤ lo) (h2 : hi ≤ hi') : AtI w lo' hi' L a := by
  intro h0
  obtain ⟨g, o, e, h3, h4, hc⟩ := h h0
  exact ⟨g, o, e, by omega, by omega, hc⟩
theorem AtI.at {w : World} {lo hi : Nat} {L : List Value} {a : Option Addr} (h : AtI w lo hi L a) : At w hi L a := by
  intro h0
  obtain ⟨g, o, e, h1, h2, hc⟩ := h h0
  exact ⟨g, o, e, h2, hc⟩
theorem own_at {w : World} {base size n : Nat} {E : TypeId} {v : Value} {L : List Value} (h : w.ownsRow base E size v n L) : ∃ a c, v = .slice a n c ∧ n ≤ c ∧ c ≤ maxLen ∧ AtI w base w.heap.size L a := by
  rcases h.2 with ⟨rfl, rfl⟩ | ⟨g, cap, cur, rfl, h1, h2, h3, h4, h5, h6⟩
  · refine ⟨none, 0, rfl, Nat.le_refl _, Nat.zero_le _, fun h0 => ?_⟩
    have := h.1
    omega
  · have hlt := (Array.getElem?_eq_some_iff.1 h2).1
    have hc : ∀ (i : Nat) (u : Value), L[i]? = some u → w.cell? ⟨g, i, none⟩ = some u := fun i u hu => by
      rw [← h6, List.getElem?_take] at hu
      split at hu
      · have := cell_of_row w g i _ _ _ h2
        rw [this, ← Array.getElem?_toList]
        exact hu
      · cases hu
    exact ⟨_, cap, rfl, h3, h4, fun _ => ⟨g, 0, rfl, h1, hlt, fun i v hv => by rw [Nat.zero_add]; exact hc i v hv⟩⟩
/-! ### Commands. -/
structure CmdA where
  kind : Int
  name : List UInt8
  n : Int
  l : List Int
  args : List (List UInt8)
  params : List (List UInt8 × List UInt8)
  res : List UInt8
  terms : List Tree
def cmd0 : CmdA := ⟨0, [], 0, [], [], [], [], []⟩
/-- A command as it lies in memory. -/
structure CmdV where
  c : CmdA
  la : Option Addr
  lc : Nat
  aa : Option Addr
  ac : Nat
  pa : Option Addr
  pc : Nat
  ta : Option Addr
  tc : Nat
def intC (n : Int) : List Value := [.int .i64 n]
def strC (s : List UInt8) : List Value := [.string (bytesL s)]
def parC (p : List UInt8 × List UInt8) : List Value := [.string (bytesL p.1), .string (bytesL p.2)]
theorem intC_len (s : Int) : (intC s).length = 1 := rfl
theorem strC_len (s : List UInt8) : (strC s).length = 1 := rfl
theorem parC_len (s : List UInt8 × List UInt8) : (parC s).length = 2 := rfl
theorem one_int (l : List Int) : ∀ u ∈ l.flatMap intC, u.oneCell' = true := by
  intro u hu
  obtain ⟨x, _, h⟩ := List.mem_flatMap.1 hu
  simp [intC] at h
  subst h; rfl
theorem one_str (l : List (List UInt8)) : ∀ u ∈ l.flatMap strC, u.oneCell' = true := by
  intro u hu
  obtain ⟨x, _, h⟩ := List.mem_flatMap.1 hu
  simp [strC] at h
  subst h; rfl
theorem one_par (l : List (List UInt8 × List UInt8)) : ∀ u ∈ l.flatMap parC, u.oneCell' = true := by
  intro u hu
  obtain ⟨x, _, h⟩ := List.mem_flatMap.1 hu
  simp [parC] at h
  rcases h with rfl | rfl <;> rfl
/-- The command reads as x; what it has lies in blocks from lo on; its terms in blocks that are not bad. -/
structure CmdR (w : World) (lo : Nat) (bad : Nat → Prop) (x : CmdV) : Prop where
  ll : x.c.l.length ≤ x.lc
  lm : x.lc ≤ maxLen
  lat : AtI w lo w.heap.size (x.c.l.flatMap intC) x.la
  al : x.c.args.length ≤ x.ac
  am : x.ac ≤ maxLen
  aat : AtI w lo w.heap.size (x.c.args.flatMap strC) x.aa
  pl : x.c.params.length ≤ x.pc
  pm : x.pc ≤ maxLen
  pat : AtI w lo w.heap.size (x.c.params.flatMap parC) x.pa
  tl : x.c.terms.length ≤ x.tc
  tm : x.tc ≤ maxLen
  tat : RdL w bad x.c.terms x.ta
/-- One that came in. -/
def CmdS (w : World) (x : CmdV) : Prop := CmdR w 0 (fun b => w.heap.size ≤ b) x
/-- One that was made, in new memory. -/
def CmdN (w : World) (B : Nat) (x : CmdV) : Prop := CmdR w B (newBad B w) x
theorem CmdS.below {w w' : World} {x : CmdV} (h : CmdS w x) (hb : Below w.heap.size w w') : CmdS w' x :=
  ⟨h.ll, h.lm, (h.lat.keep (fun b _ h2 => hb.block b h2)).wide (Nat.le_refl _) hb.size, h.al, h.am, (h.aat.keep (fun b _ h2 => hb.block b h2)).wide (Nat.le_refl _) hb.size,
    h.pl, h.pm, (h.pat.keep (fun b _ h2 => hb.block b h2)).wide (Nat.le_refl _) hb.size, h.tl, h.tm, SxL.below h.tat hb⟩
theorem CmdN.keep {w w' : World} {B : Nat} {x : CmdV} (h : CmdN w B x) (hs : w.heap.size ≤ w'.heap.size) (hk : ∀ b, B ≤ b → b < w.heap.size → w'.heap[b]? = w.heap[b]?) : CmdN w' B x :=
  ⟨h.ll, h.lm, (h.lat.keep hk).wide (Nat.le_refl _) hs, h.al, h.am, (h.aat.keep hk).wide (Nat.le_refl _) hs, h.pl, h.pm, (h.pat.keep hk).wide (Nat.le_refl _) hs, h.tl, h.tm, newL_keep h.tat hk⟩
theorem CmdN.more {w : World} {B B' : Nat} {x : CmdV} (h : CmdN w B x) (hB : B' ≤ B) : CmdN w B' x :=
  ⟨h.ll, h.lm, h.lat.wide hB (Nat.le_refl _), h.al, h.am, h.aat.wide hB (Nat.le_refl _), h.pl, h.pm, h.pat.wide hB (Nat.le_refl _), h.tl, h.tm, newL_more h.tat hB⟩
theorem CmdN.s {w : World} {B : Nat} {x : CmdV} (h : CmdN w B x) : CmdS w x :=
  ⟨h.ll, h.lm, h.lat.wide (Nat.zero_le _) (Nat.le_refl _), h.al, h.am, h.aat.wide (Nat.zero_le _) (Nat.le_refl _), h.pl, h.pm, h.pat.wide (Nat.zero_le _) (Nat.le_refl _), h.tl, h.tm, RdL.sx h.tat⟩
/-! ### What a list is parsed as. -/
def symM (y : Tree) : Option (List UInt8) := if y.kind = 0 then some y.text else none
def keyM (y : Tree) : Option (List UInt8) := if y.kind = 2 then some y.text else none
def numM (most : Int) (y : Tree) : Option Int := if y.kind = 1 ∧ parseE y.text = 0 ∧ parseV y.text ≤ most then some (parseV y.text) else none
def allM {α : Type} (f : Tree → Option α) : List Tree → Option (List α)
  | [] => some []
  | y :: r => match f y with
    | none => none
    | some a => match allM f r with
      | none => none
      | some l => some (a :: l)
theorem allM_snoc {α : Type} {f : Tree → Option α} : ∀ (l : List Tree) (y : Tree), allM f (l ++ [y]) = (match allM f l with | none => none | some acc => match f y with | none => none | some a => some (acc ++ [a]))
  | [], y => by simp only [List.nil_append, allM]
  | x :: r, y => by
    simp only [List.cons_append, allM]
    cases f x with
    | none => rfl
    | some a =>
      rw [allM_snoc r y]
      simp only
      cases allM f r with
      | none => rfl
      | some acc => cases f y <;> simp
theorem allM_none {α : Type} {f : Tree → Option α} {l : List Tree} {k : Nat} {y : Tree} (hk : l[k]? = some y) (hy : f y = none) : allM f l = none := by
  induction l generalizing k with
  | nil => simp at hk
  | cons x r ih =>
    cases k with
    | zero =>
      simp only [List.getElem?_cons_zero, Option.some.injEq] at hk
      subst hk
      simp only [allM, hy]
    | succ k =>
      simp only [List.getElem?_cons_succ] at hk
      simp only [allM, ih hk]
      split <;> rfl
theorem allM_len {α : Type} {f : Tree → Option α} : ∀ (l : List Tree) (acc : List α), allM f l = some acc → acc.length = l.length
  | [], acc, h => by simp only [allM, Option.some.injEq] at h; subst h; rfl
  | x :: r, acc, h => by
    simp only [allM] at h
    split at h
    · cases h
    · split at h
      · cases h
      · rename_i l hl
        simp only [Option.some.injEq] at h
        subst h
        simp [allM_len r l hl]
def eachM {α : Type} (least most : Nat) (f : Tree → Option α) (y : Tree) : Option (List α) := if y.kind = 3 ∧ least ≤ y.kids.length ∧ y.kids.length ≤ most then allM f y.kids else none
def parM (y : Tree) : Option (List UInt8 × List UInt8) := match eachM 2 2 symM y with
  | some [a, b] => some (a, b)
  | _ => none
def termM (y : Tree) : Option Tree := some y
theorem allM_term : ∀ l : List Tree, allM termM l = some l
  | [] => rfl
  | y :: r => by simp only [allM, termM, allM_term r]
abbrev PartM := CmdA → Tree → Option CmdA
def pName : PartM := fun c y => (symM y).map fun s => { c with name := s }
def pKey : PartM := fun c y => (keyM y).map fun s => { c with name := s }
def pRes : PartM := fun c y => (symM y).map fun s => { c with res := s }
def pZero : PartM := fun c y => (numM 0 y).map fun _ => c
def pMarks : PartM := fun c y => (numM 8 y).map fun n => { c with n := n }
def pConf : PartM := fun c y => (numM 1048576 y).map fun n => { c with n := n }
def pNums : PartM := fun c y => (eachM 0 64 (numM 1048576) y).map fun l => { c with l := l }
def pArgs : PartM := fun c y => (eachM 0 3 symM y).map fun l => { c with args := l }
def pPars : PartM := fun c y => (eachM 0 3 parM y).map fun l => { c with params := l }
def pOne : PartM := fun c y => some { c with terms := [y] }
def pTerms : PartM := fun c y => (eachM 1 16 termM y).map fun l => { c with terms := l }
def budgetL : List UInt8 := [98, 117, 100, 103, 101, 116]
def seedsL : List UInt8 := [115, 101, 101, 100, 115]
def pSet : PartM := fun c y => if c.name = budgetL then pConf c y else if c.name = seedsL then pNums c y else none
def takeP (c : CmdA) : List PartM → List Tree → Option CmdA
  | [], [] => some c
  | p :: ps, y :: ys => match p c y with
    | none => none
    | some c' => takeP c' ps ys
  | _, _ => none
def headsL : List (List UInt8) := [[115, 101, 116, 45, 108, 111, 103, 105, 99], [115, 101, 116, 45, 111, 112, 116, 105, 111, 110], [100, 101, 99, 108, 97, 114, 101, 45, 115, 111, 114, 116], [100, 101, 99, 108, 97, 114, 101, 45, 102, 117, 110], [100, 101, 102, 105, 110, 101, 45, 102, 117, 110], [97, 115, 115, 101, 114, 116], [112, 117, 115, 104], [112, 111, 112], [99, 104, 101, 99, 107, 45, 115, 97, 116], [103, 101, 116, 45, 109, 111, 100, 101, 108], [103, 101, 116, 45, 118, 97, 108, 117, 101], [103, 101, 116, 45, 112, 114, 111, 111, 102], [101, 120, 105, 116]]
def formsL : List (List PartM) := [[pName], [pKey, pSet], [pName, pZero], [pName, pArgs, pRes], [pName, pPars, pRes, pOne], [pOne], [pMarks], [pMarks], [], [], [pTerms], [], []]
/-- The place of a head. -/
def headN (s : List UInt8) : Nat := headsL.findIdx (fun x => decide (x = s))
def parse0 (t : Tree) : Option CmdA := if headN (headT t) < 13 then takeP { cmd0 with kind := (headN (headT t) : Int) } (formsL.getD (headN (headT t)) []) (t.kids.drop 1) else none
/-! ### A command's list. -/
def symT (s : List UInt8) : Tree := .node 0 s []
def numT (n : Int) : Tree := .node 1 (textV n) []
def rowT (l : List Tree) : Tree := .node 3 [] l
def pairT (p : List UInt8 × List UInt8) : Tree := rowT [symT p.1, symT p.2]
def setT (c : CmdA) : Tree := if c.name = seedsL then rowT (c.l.map numT) else numT c.n
def partsT (c : CmdA) : List Tree :=
  if c.kind = 0 then [symT c.name] else if c.kind = 1 then [.node 2 c.name [], setT c] else if c.kind = 2 then [symT c.name, numT 0] else
  if c.kind = 3 then [symT c.name, rowT (c.args.map symT), symT c.res] else if c.kind = 4 then [symT c.name, rowT (c.params.map pairT), symT c.res] ++ c.terms else
  if c.kind = 5 then c.terms else if c.kind = 6 ∨ c.kind = 7 then [numT c.n] else if c.kind = 10 then [rowT c.terms] else []
def listT (c : CmdA) : Tree := if 0 ≤ c.kind ∧ c.kind ≤ 12 then rowT (symT (headsL.getD c.kind.toNat []) :: partsT c) else .node 0 [] []
/-- What the package finds in memory. -/
structure GH (w : World) : Prop where
  g : Globs w
  lt : 0 < w.heap.size
  h : ∀ k s, headsL[k]? = some s → w.cell? ⟨0, k, none⟩ = some (.string (bytesL s))
theorem GH.below {w w' : World} (h : GH w) (hb : Below w.heap.size w w') : GH w' :=
  ⟨h.g.below hb, Nat.lt_of_lt_of_le h.lt hb.size, fun k s hk => (hb.cell (p := ⟨_, k, none⟩) h.lt).trans (h.h k s hk)⟩
end Go.Proofs.YtodonngnigbpaaaGreatDoor
