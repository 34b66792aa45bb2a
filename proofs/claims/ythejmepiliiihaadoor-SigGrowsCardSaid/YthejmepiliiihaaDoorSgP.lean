/- What package sig's anew leaves: rows, macros, a signature in new memory. -/
import Derived.Test.YthejmepiliiihaaDoorSgO
namespace Go.Proofs.YthejmepiliiihaaDoor
open Go.RowKit
set_option linter.unusedVariables false
/-- The flat list lies in a block from lo on, below hi. -/
def AtI (w : World) (lo hi : Nat) (L : List Value) (a : Option Addr) : Prop :=
  0 < L.length → ∃ g o : Nat, a = some ⟨g, o, none⟩ ∧ lo ≤ g ∧ g < hi ∧ ∀ (i : Nat) (v : Value), L[i]? = some v → w.cell? ⟨g, o + i, none⟩ = some v
theorem AtI.keep {w w' : World} {lo hi : Nat} {L : List Value} {a : Option Addr} (h : AtI w lo hi L a) (hk : ∀ b, lo ≤ b → b < hi → w'.heap[b]? = w.heap[b]?) : AtI w' lo hi L a := by
  intro h0
  obtain ⟨g, o, e, h1, h2, hc⟩ := h h0
  exact ⟨g, o, e, h1, h2, fun i v hv => (World.cell?_of_block (a := ⟨g, o + i, none⟩) (hk g h1 h2)).trans (hc i v hv)⟩
theorem AtI.wide {w : World} {lo hi lo' hi' : Nat} {L : List Value} {a : Option Addr} (h : AtI w lo hi L a) (h1 : lo' ≤ lo) (h2 : hi ≤ hi') : AtI w lo' hi' L a := by
  intro h0
  obtain ⟨g, o, e, h3, h4, hc⟩ := h h0
  exact ⟨g, o, e, by omega, by omega, hc⟩
theorem AtI.at {w : World} {lo hi : Nat} {L : List Value} {a : Option Addr} (h : AtI w lo hi L a) : At w hi L a := by
  intro h0
  obtain ⟨g, o, e, h1, h2, hc⟩ := h h0
  exact ⟨g, o, e, h2, hc⟩
theorem own_at {w : World} {base size n : Nat} {E : TypeId} {v : Value} {L : List Value} (h : w.ownsRow base E size v n L) : ∃ a c, v = .slice a n c ∧ n ≤ c ∧ c ≤ maxLen ∧ AtI w base w.heap.size L a ∧ (0 < n → ∃ g, a = some ⟨g, 0, none⟩ ∧ base ≤ g ∧ g < w.heap.size ∧ (∃ cs, w.heap[g]? = some (.cells cs E (0, 0))) ∧ ∀ (i : Nat) (u : Value), L[i]? = some u → w.cell? ⟨g, i, none⟩ = some u) := by
  rcases h.2 with ⟨rfl, rfl⟩ | ⟨g, cap, cur, rfl, h1, h2, h3, h4, h5, h6⟩
  · refine ⟨none, 0, rfl, Nat.le_refl _, Nat.zero_le _, fun h0 => ?_, fun h0 => absurd h0 (by omega)⟩
    have := h.1
    omega
  · have hlt := (Array.getElem?_eq_some_iff.1 h2).1
    have hc : ∀ (i : Nat) (u : Value), L[i]? = some u → w.cell? ⟨g, i, none⟩ = some u := fun i u hu => by
      rw [← h6, List.getElem?_take] at hu
      split at hu
      · have := cell_of_row w g i _ _ _ h2
        rw [this, ← Array.getElem?_toList]
        exact hu
      · cases hu
    exact ⟨_, cap, rfl, h3, h4, fun _ => ⟨g, 0, rfl, h1, hlt, fun i v hv => by rw [Nat.zero_add]; exact hc i v hv⟩, fun _ => ⟨g, rfl, h1, hlt, ⟨cur, h2⟩, hc⟩⟩
def Cells6 (w : World) (M j : Nat) (x : MacV) : Prop :=
  w.cell? ⟨M, j * 6, none⟩ = some (.string x.m.name) ∧ w.cell? ⟨M, j * 6 + 1, none⟩ = some (.slice x.pa x.m.params.length x.pc) ∧ w.cell? ⟨M, j * 6 + 2, none⟩ = some (.int .i64 x.m.res) ∧
    w.cell? ⟨M, j * 6 + 3, none⟩ = some (.int .i8 x.m.body.kind) ∧ w.cell? ⟨M, j * 6 + 4, none⟩ = some (.string (bytesL x.m.body.text)) ∧ w.cell? ⟨M, j * 6 + 5, none⟩ = some (.slice x.ba x.m.body.kids.length x.bc)
structure MacNew (w : World) (lo : Nat) (x : MacV) : Prop where
  pl : x.m.params.length ≤ x.pc
  pm : x.pc ≤ maxLen
  pat : AtI w lo w.heap.size (x.m.params.flatMap parC) x.pa
  body : NewT lo w x.m.body (bodyV x)
structure AnewS (w : World) (x : SigV) (sa : Option Addr) (sc : Nat) (fa : Option Addr) (fc : Nat) (M mc k : Nat) (wr : World) : Prop where
  below : Below w.heap.size w wr
  box : wr.heap[w.heap.size]? = some (.cells #[.slice sa x.sorts.length sc, .slice fa x.funs.length fc, .slice (some ⟨M, 0, none⟩) x.macs.length mc] 26 (0, 0))
  res : wr.heap[w.heap.size + 1]? = some (.cells #[.slice none 0 0, .slice none 0 0, .slice none 0 0] 26 (0, 0))
  far : w.heap.size + 2 ≤ M
  clean : ∃ cs, wr.heap[M]? = some (.cells cs 50 (0, 0))
  sat : AtI wr (w.heap.size + 2) M (x.sorts.flatMap strC) sa
  fat : AtI wr (w.heap.size + 2) M (x.funs.flatMap funC) fa
  row : ∀ j y, x.macs[j]? = some y → ∃ z : MacV, z.m = y.m ∧ Cells6 wr M j z ∧ (j < k → MacNew wr (M + 1) z) ∧ (k ≤ j → z = y)
/-- A round: the k-th is new. -/
theorem AnewS.next {w wr w1 w3 W : World} {x : SigV} {sa fa ra : Option Addr} {sc fc M mc k rc : Nat} {y : MacV} {s : SexV} {u0 u1 u2 : Value} (h : AnewS w x sa sc fa fc M mc k wr) (hy : x.macs[k]? = some y)
    (hb1 : Below wr.heap.size wr w1) (h1 : y.m.params.length ≤ rc) (h2 : rc ≤ maxLen) (h3 : AtI w1 wr.heap.size w1.heap.size (y.m.params.flatMap parC) ra)
    (hb3 : Below (w1.setCell ⟨M, k * 6 + 1, none⟩ (.slice ra y.m.params.length rc)).heap.size (w1.setCell ⟨M, k * 6 + 1, none⟩ (.slice ra y.m.params.length rc)) w3) (hs : s.t = y.m.body) (hn : NewT w1.heap.size w3 y.m.body (sexV s))
    (hW : W = ((w3.setCell ⟨M, k * 6 + 3, none⟩ (.int .i8 s.t.kind)).setCell ⟨M, k * 6 + 3 + 1, none⟩ (.string (bytesL s.t.text))).setCell ⟨M, k * 6 + 3 + 2, none⟩ (.slice s.a s.t.kids.length s.c)) :
    AnewS w x sa sc fa fc M mc (k + 1) W := by
  have hMlt : M < wr.heap.size := by obtain ⟨cs, hcs⟩ := h.clean; exact (Array.getElem?_eq_some_iff.1 hcs).1
  have hf := h.far
  have hs1 := hb1.size
  have hsz2 : (w1.setCell ⟨M, k * 6 + 1, none⟩ (.slice ra y.m.params.length rc)).heap.size = w1.heap.size := by simp [World.setCell]
  have hs3 := hb3.size
  rw [hsz2] at hs3 hb3
  have hothW : ∀ b, b ≠ M → W.heap[b]? = w3.heap[b]? := fun b hb' => by
    rw [hW]
    exact ((Below.heap_setCell _ _ _ b hb').trans (Below.heap_setCell _ _ _ b hb')).trans (Below.heap_setCell _ _ _ b hb')
  have hszW : W.heap.size = w3.heap.size := by rw [hW]; simp [World.setCell]
  have h31 : ∀ b, b < w1.heap.size → b ≠ M → w3.heap[b]? = w1.heap[b]? := fun b hb hne => (hb3.block b hb).trans (Below.heap_setCell _ _ _ b hne)
  have hold : ∀ b, b < wr.heap.size → b ≠ M → W.heap[b]? = wr.heap[b]? := fun b hb hne => (hothW b hne).trans ((h31 b (by omega) hne).trans (hb1.block b hb))
  have hcl1 : ∃ cs, w1.heap[M]? = some (.cells cs 50 (0, 0)) := by obtain ⟨cs, hcs⟩ := h.clean; exact ⟨cs, (hb1.block M hMlt).trans hcs⟩
  have hcl2 := clean_set hcl1 ⟨M, k * 6 + 1, none⟩ (.slice ra y.m.params.length rc)
  have hcl3 : ∃ cs, w3.heap[M]? = some (.cells cs 50 (0, 0)) := by obtain ⟨cs, hcs⟩ := hcl2; exact ⟨cs, (hb3.block M (by omega)).trans hcs⟩
  have hcl : ∃ cs, W.heap[M]? = some (.cells cs 50 (0, 0)) := by rw [hW]; exact clean_set (clean_set (clean_set hcl3 _ _) _ _) _ _
  have hcW : ∀ p, p ≠ k * 6 + 1 → p ≠ k * 6 + 3 → p ≠ k * 6 + 3 + 1 → p ≠ k * 6 + 3 + 2 → W.cell? ⟨M, p, none⟩ = wr.cell? ⟨M, p, none⟩ := fun p n0 n1 n2 n3 => by
    have e1 : w3.cell? ⟨M, p, none⟩ = w1.cell? ⟨M, p, none⟩ := (hb3.cell (p := ⟨M, p, none⟩) (by show M < _; omega)).trans (cso (by simp <;> omega))
    rw [hW, cso (by simp <;> omega), cso (by simp <;> omega), cso (by simp <;> omega), e1]
    exact hb1.cell (p := ⟨M, p, none⟩) hMlt
  obtain ⟨z0, e0, ⟨c0, c1, c2, c3, c4, c5⟩, _, _⟩ := h.row k y hy
  have d1 : w3.cell? ⟨M, k * 6 + 1, none⟩ = some (.slice ra y.m.params.length rc) := (hb3.cell (p := ⟨M, k * 6 + 1, none⟩) (by show M < _; omega)).trans (css ((hb1.cell (p := ⟨M, k * 6 + 1, none⟩) hMlt).trans c1))
  have d3 : w3.cell? ⟨M, k * 6 + 3, none⟩ = some (.int .i8 z0.m.body.kind) := ((hb3.cell (p := ⟨M, k * 6 + 3, none⟩) (by show M < _; omega)).trans (cso (by simp))).trans ((hb1.cell (p := ⟨M, k * 6 + 3, none⟩) hMlt).trans c3)
  have d4 : w3.cell? ⟨M, k * 6 + 3 + 1, none⟩ = some (.string (bytesL z0.m.body.text)) := ((hb3.cell (p := ⟨M, k * 6 + 3 + 1, none⟩) (by show M < _; omega)).trans (cso (by simp))).trans ((hb1.cell (p := ⟨M, k * 6 + 3 + 1, none⟩) hMlt).trans c4)
  have d5 : w3.cell? ⟨M, k * 6 + 3 + 2, none⟩ = some (.slice z0.ba z0.m.body.kids.length z0.bc) := ((hb3.cell (p := ⟨M, k * 6 + 3 + 2, none⟩) (by show M < _; omega)).trans (cso (by simp))).trans ((hb1.cell (p := ⟨M, k * 6 + 3 + 2, none⟩) hMlt).trans c5)
  have g0 : W.cell? ⟨M, k * 6, none⟩ = some (.string y.m.name) := by rw [hcW _ (by omega) (by omega) (by omega) (by omega), c0, e0]
  have g2 : W.cell? ⟨M, k * 6 + 2, none⟩ = some (.int .i64 y.m.res) := by rw [hcW _ (by omega) (by omega) (by omega) (by omega), c2, e0]
  have g1 : W.cell? ⟨M, k * 6 + 1, none⟩ = some (.slice ra y.m.params.length rc) := by
    rw [hW, cso (by simp), cso (by simp), cso (by simp)]; exact d1
  have g3 : W.cell? ⟨M, k * 6 + 3, none⟩ = some (.int .i8 y.m.body.kind) := by
    rw [hW, ← hs, cso (by simp), cso (by simp)]; exact css d3
  have g4 : W.cell? ⟨M, k * 6 + 4, none⟩ = some (.string (bytesL y.m.body.text)) := by
    rw [hW, ← hs, cso (by simp)]; exact css (u := .string (bytesL z0.m.body.text)) (by rw [cso (by simp)]; exact d4)
  have g5 : W.cell? ⟨M, k * 6 + 5, none⟩ = some (.slice s.a y.m.body.kids.length s.c) := by
    rw [hW, ← hs]; exact css (u := .slice z0.ba z0.m.body.kids.length z0.bc) (by rw [cso (by simp), cso (by simp)]; exact d5)
  have hbl : Below w.heap.size w W := by
    rw [hW]
    have hb2 : Below w.heap.size w (w1.setCell ⟨M, k * 6 + 1, none⟩ (.slice ra y.m.params.length rc)) := (h.below.trans (hb1.mono h.below.size)).setCell (p := ⟨M, k * 6 + 1, none⟩) (by simp; omega) _
    have hbb := hb2.trans (hb3.mono (by have := h.below.size; omega))
    exact ((hbb.setCell (p := ⟨M, k * 6 + 3, none⟩) (by simp; omega) _).setCell (p := ⟨M, k * 6 + 3 + 1, none⟩) (by simp; omega) _).setCell (p := ⟨M, k * 6 + 3 + 2, none⟩) (by simp; omega) _
  have hbs := h.below.size
  refine ⟨hbl, ?_, ?_, hf, hcl, h.sat.keep (fun b k1 k2 => hold b (by omega) (by omega)), h.fat.keep (fun b k1 k2 => hold b (by omega) (by omega)), ?_⟩
  · exact (hold _ (Array.getElem?_eq_some_iff.1 h.box).1 (by omega)).trans h.box
  · exact (hold _ (Array.getElem?_eq_some_iff.1 h.res).1 (by omega)).trans h.res
  · intro j d hd
    by_cases hjk : j = k
    · subst hjk
      rw [hy] at hd
      cases hd
      refine ⟨⟨y.m, ra, rc, s.a, s.c⟩, rfl, ⟨g0, g1, g2, g3, g4, g5⟩, fun _ => ⟨h1, h2, ?_, ?_⟩, fun h => by omega⟩
      · exact (h3.keep (fun b k1 k2 => (hothW b (by omega)).trans (h31 b k2 (by omega)))).wide (by omega) (by omega)
      · have hv : bodyV ⟨y.m, ra, rc, s.a, s.c⟩ = sexV s := by simp [bodyV, sexV, hs]
        rw [hv]
        exact (hn.more (by omega)).keep (fun b k1 k2 => hothW b (by omega))
    · obtain ⟨z, e, ⟨q0, q1, q2, q3, q4, q5⟩, n1, n2⟩ := h.row j d hd
      refine ⟨z, e, ⟨?_, ?_, ?_, ?_, ?_, ?_⟩, fun hj => ?_, fun hj => n2 (by omega)⟩
      · rw [hcW _ (by omega) (by omega) (by omega) (by omega)]; exact q0
      · rw [hcW _ (by omega) (by omega) (by omega) (by omega)]; exact q1
      · rw [hcW _ (by omega) (by omega) (by omega) (by omega)]; exact q2
      · rw [hcW _ (by omega) (by omega) (by omega) (by omega)]; exact q3
      · rw [hcW _ (by omega) (by omega) (by omega) (by omega)]; exact q4
      · rw [hcW _ (by omega) (by omega) (by omega) (by omega)]; exact q5
      · have nn := n1 (by omega)
        exact ⟨nn.pl, nn.pm, (nn.pat.keep (fun b k1 k2 => hold b k2 (by omega))).wide (Nat.le_refl _) (by omega), nn.body.keep (fun b k1 k2 => hold b k2 (by omega))⟩
theorem list_choose {α β : Type} : ∀ (l : List α) (P : Nat → α → β → Prop), (∀ j y, l[j]? = some y → ∃ z, P j y z) → ∃ l' : List β, l'.length = l.length ∧ ∀ j y, l[j]? = some y → ∃ z, l'[j]? = some z ∧ P j y z
  | [], P, _ => ⟨[], rfl, fun j y h => by simp at h⟩
  | a :: r, P, h => by
    obtain ⟨z, hz⟩ := h 0 a rfl
    obtain ⟨l', hl, hp⟩ := list_choose r (fun j => P (j + 1)) (fun j y hj => h (j + 1) y (by simpa using hj))
    refine ⟨z :: l', by simp [hl], fun j y hj => ?_⟩
    cases j with
    | zero => simp at hj; subst hj; exact ⟨z, rfl, hz⟩
    | succ j => simpa using hp j y (by simpa using hj)
theorem flat_at {α : Type} {w : World} {f : α → List Value} {n M : Nat} (hn : ∀ x, (f x).length = n) : ∀ (l : List α) (o : Nat), (∀ j y, l[j]? = some y → ∀ (r : Nat) (u : Value), (f y)[r]? = some u → w.cell? ⟨M, o + j * n + r, none⟩ = some u) → ∀ (i : Nat) (u : Value), (l.flatMap f)[i]? = some u → w.cell? ⟨M, o + i, none⟩ = some u
  | [], _, _, i, u, h => by simp at h
  | a :: r, o, h, i, u, hu => by
    simp only [List.flatMap_cons] at hu
    by_cases hi : i < n
    · rw [List.getElem?_append_left (by rw [hn]; exact hi)] at hu
      have := h 0 a rfl i u hu
      simpa using this
    · rw [List.getElem?_append_right (by rw [hn]; omega), hn] at hu
      have := flat_at hn r (o + n) (fun j y hj q v hv => by
        have := h (j + 1) y (by simpa using hj) q v hv
        rw [Nat.succ_mul, show o + (j * n + n) + q = o + n + j * n + q by omega] at this
        exact this) (i - n) u hu
      rwa [show o + n + (i - n) = o + i by omega] at this
end Go.Proofs.YthejmepiliiihaaDoor
