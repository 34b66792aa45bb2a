/- Package command's writer: names, numerals, rows of what is written. -/
import Derived.Test.YtodonngnigbpaaaGreatDoorCmA
import Derived.Deep.RegionHeld3
import Derived.BigQuiet
import Derived.Lib.LazyBuf
import Derived.Test.YtodonngnigbpaaaGreatDoorSexWith
import Derived.Laws.Rows
namespace Go.Proofs.YtodonngnigbpaaaGreatDoor
open Go.RowKit
set_option linter.unusedVariables false
theorem below_grown_at {A B : World} {n : Nat} (hn : n ≤ A.heap.size) (h : A.grownBy B (some n)) : Below n A B := ⟨h.os, h.tape, h.output, h.size, fun i hi => h.block i (by omega) (by simp; omega)⟩
def RowPost (w : World) (E size n : Nat) (L : List Value) (e : Ending) (w' : World) : Prop := ∃ v, e = .returned v ∧ w'.ownsRow w.heap.size E size v n L ∧ Below w.heap.size w w'
set_option maxRecDepth 100000 in
set_option maxHeartbeats 2000000 in
theorem row_sex (l : List SexV) (a : Option Addr) (c : Nat) (w : World) (hA : At w w.heap.size (l.flatMap sexC) a) (hc : l.length ≤ c) (hl : l.length * 48 ≤ 140737488355328) (h63 : l.length ≤ maxLen) (ha : ∀ ad, a = some ad → True) :
    Calls Tryz.prog 54 #[.slice a l.length c] w (RowPost w 35 3 l.length (l.flatMap sexC)) := by
  obtain ⟨i0, hi, hz0, hz1, hz2⟩ := info_parts info_sex
  have hown0 : (w.alloc (.cells #[] 35)).ownsRow w.heap.size 35 3 (.slice (some ⟨w.heap.size, 0, none⟩) 0 0) 0 [] := World.ownsRow_lit (base := w.heap.size) (e := 35) (size := 3) w #[] 0 (Nat.le_refl _) (by simp [maxLen]) rfl
  have hb0 : Below w.heap.size w (w.alloc (.cells #[] 35)) := (Below.refl _ _).alloc (Nat.le_refl _) _
  have HB0 := Lib.hid hb0
  have hnl := fun (W : World) => Lib.run_eql_slice_nil (P := Tryz.prog) W 26 35 a l.length c 0 0 Tryz.underlying26
  cases a with
  | none =>
    have h0 : l.length = 0 := by
      rcases Nat.eq_zero_or_pos l.length with h | h
      · exact h
      · obtain ⟨g, o, e, _⟩ := hA (by rw [len_flat sexC_len]; omega)
        cases e
    obtain rfl : l = [] := List.eq_nil_of_length_eq_zero h0
    simp only [Option.isNone_none, List.length_nil] at hnl
    go_enter Tryz.func54, Tryz.ntmps54
    go_wp2
    go_ret
    exact ⟨_, rfl, World.ownsRow_nil _ _ _ _, Below.refl _ _⟩
  | some ad =>
    have hcell : ∀ j u, (l.flatMap sexC)[j]? = some u → w.cell? (ad.add j) = some u := fun j u hu => by
      obtain ⟨g, o, e, hg, hcell⟩ := hA (by have := (List.getElem?_eq_some_iff.1 hu).1; omega)
      cases e
      exact at_add hcell j u hu
    have HC : Hid (∀ j u, (l.flatMap sexC)[j]? = some u → (w.alloc (.cells #[] 35)).cell? (ad.add j) = some u) := fun j u hu => by
      have h1 := hcell j u hu
      exact (hb0.cell (World.block_lt_of_cell? w _ h1)).trans h1
    have HO := Lib.hid hown0
    simp only [Option.isNone_some] at hnl
    clear hcell hA hown0 hb0
    go_enter Tryz.func54, Tryz.ntmps54
    go_wp2_with (at_builtin; refine wpList_append_own_at _ rfl _ _ 26 rfl w.heap.size 35 i0 _ 3 48 Tryz.underlying26 hi hz0 hz1 hz2 rfl (by decide) _ 0 [] rfl HO.out ad l.length c (l.flatMap sexC) rfl (len_flat sexC_len l) HC.out (one_sex l) (by omega) (by omega) (by simp) ?_; intro v' w1 hown' hgrow hnil hloc; clear hnil hloc)
    go_ret
    exact ⟨v', rfl, by simpa using hown', HB0.out.trans (below_grown_at (by simp) hgrow)⟩
theorem own_form' {W : World} {base : Nat} {e : TypeId} {size k : Nat} {v : Value} {xs : List Value} (h : W.ownsRow base e size v k xs) : ∃ A c, v = .slice A k c ∧ k ≤ c ∧ c ≤ maxLen := by
  rcases h.2 with ⟨rfl, rfl⟩ | ⟨g', cap, cur, rfl, hb, _, h1, h2, _⟩
  · exact ⟨_, _, rfl, Nat.le_refl _, Nat.zero_le _⟩
  · exact ⟨_, _, rfl, h1, h2⟩
theorem cso {w : World} {a b : Addr} {v : Value} (h : a ≠ b) : (w.setCell a v).cell? b = w.cell? b := World.cell?_setCell_other w a b v h
theorem css {w : World} {a : Addr} {v u : Value} (h : w.cell? a = some u) : (w.setCell a v).cell? a = some v := World.cell?_setCell_same w a v h
/-- The expression s lies at place j of the row in block M. -/
def Cells3 (w : World) (M o j : Nat) (s : SexV) : Prop :=
  w.cell? ⟨M, o + j * 3, none⟩ = some (.int .i8 s.t.kind) ∧ w.cell? ⟨M, o + j * 3 + 1, none⟩ = some (.string (bytesL s.t.text)) ∧ w.cell? ⟨M, o + j * 3 + 2, none⟩ = some (.slice s.a s.t.kids.length s.c)
theorem Cells3.heap {w w' : World} {M o j : Nat} {s : SexV} (h : Cells3 w M o j s) (hk : w'.heap[M]? = w.heap[M]?) : Cells3 w' M o j s :=
  ⟨(World.cell?_of_block (a := ⟨M, o + j * 3, none⟩) hk).trans h.1, (World.cell?_of_block (a := ⟨M, o + j * 3 + 1, none⟩) hk).trans h.2.1, (World.cell?_of_block (a := ⟨M, o + j * 3 + 2, none⟩) hk).trans h.2.2⟩
theorem clean_set {w : World} {M : Nat} {ty : TypeId} (h : ∃ cs, w.heap[M]? = some (.cells cs ty (0, 0))) (a : Addr) (v : Value) : ∃ cs, (w.setCell a v).heap[M]? = some (.cells cs ty (0, 0)) := by
  obtain ⟨cs, h⟩ := h
  by_cases e : M = a.block
  · subst e
    exact ⟨_, by simp only [World.setCell, Array.getElem?_modify, h, if_true, Option.map_some]; rfl⟩
  · exact ⟨cs, (Below.heap_setCell _ _ _ _ e).trans h⟩
theorem build_new2 {B M : Nat} {w : World} {ty : TypeId} (hB : B ≤ M) (hM : ∃ cs, w.heap[M]? = some (.cells cs ty (0, 0))) : ∀ (l : List Tree) (o : Nat), (∀ j t, l[j]? = some t → ∃ s : SexV, s.t = t ∧ Cells3 w M o j s ∧ NewT B w t (sexV s)) →
    RdL w (newBad B w) l (some ⟨M, o, none⟩)
  | [], _, _ => trivial
  | t :: r, o, h => by
    obtain ⟨s, rfl, ⟨c0, c1, c2⟩, hn⟩ := h 0 t rfl
    simp only [Nat.zero_mul, Nat.add_zero] at c0 c1 c2
    refine ⟨M, o, _, _, _, rfl, ?_, ?_, c0, c1, c2, hn, build_new2 hB hM r (o + 3) (fun j t' hj => ?_)⟩
    · obtain ⟨cs, hc⟩ := hM
      rintro (h | h)
      · omega
      · exact h ⟨cs, ty, hc⟩
    · obtain ⟨cs, hc⟩ := hM
      simp [World.frozen?, hc]
    · obtain ⟨s', e, ⟨d0, d1, d2⟩, hn'⟩ := h (j + 1) t' (by simpa using hj)
      have eo : o + (j + 1) * 3 = o + 3 + j * 3 := by omega
      rw [eo] at d0 d1 d2
      exact ⟨s', e, ⟨d0, d1, d2⟩, hn'⟩
/-- Between two rounds: k expressions are new, the others as they were. -/
structure BodyS (w : World) (t : Tree) (xs : List SexV) (M cap k : Nat) (wr : World) : Prop where
  below : Below w.heap.size w wr
  box : wr.heap[w.heap.size]? = some (.cells #[.int .i8 t.kind, .string (bytesL t.text), .slice (some ⟨M, 0, none⟩) t.kids.length cap] 35 (0, 0))
  res : wr.heap[w.heap.size + 1]? = some (.cells #[.int .i8 0, .string ⟨#[]⟩, .slice none 0 0] 35 (0, 0))
  far : w.heap.size + 2 ≤ M
  clean : ∃ cs, wr.heap[M]? = some (.cells cs 35 (0, 0))
  row : ∀ j c, t.kids[j]? = some c → ∃ s : SexV, s.t = c ∧ Cells3 wr M 0 j s ∧ (j < k → NewT (M + 1) wr c (sexV s)) ∧ (k ≤ j → xs[j]? = some s)
/-- A round: the k-th is new. -/
theorem BodyS.next {w wr w2 : World} {t c : Tree} {xs : List SexV} {M cap k : Nat} {s : SexV} {u0 u1 u2 : Value} (h : BodyS w t xs M cap k wr) (hc : t.kids[k]? = some c) (hs : s.t = c) (hb : Below wr.heap.size wr w2) (hn : NewT wr.heap.size w2 c (sexV s))
    (h0 : w2.cell? ⟨M, 0 + k * 3, none⟩ = some u0) (h1 : w2.cell? ⟨M, 0 + k * 3 + 1, none⟩ = some u1) (h2 : w2.cell? ⟨M, 0 + k * 3 + 2, none⟩ = some u2) :
    BodyS w t xs M cap (k + 1) (((w2.setCell ⟨M, 0 + k * 3, none⟩ (.int .i8 s.t.kind)).setCell ⟨M, 0 + k * 3 + 1, none⟩ (.string (bytesL s.t.text))).setCell ⟨M, 0 + k * 3 + 2, none⟩ (.slice s.a s.t.kids.length s.c)) := by
  have hMlt : M < wr.heap.size := by obtain ⟨cs, hcs⟩ := h.clean; exact (Array.getElem?_eq_some_iff.1 hcs).1
  have hf := h.far
  obtain ⟨W, hW⟩ : ∃ W, W = (((w2.setCell ⟨M, 0 + k * 3, none⟩ (.int .i8 s.t.kind)).setCell ⟨M, 0 + k * 3 + 1, none⟩ (.string (bytesL s.t.text))).setCell ⟨M, 0 + k * 3 + 2, none⟩ (.slice s.a s.t.kids.length s.c)) := ⟨_, rfl⟩
  rw [← hW]
  have hoth : ∀ b, b ≠ M → W.heap[b]? = w2.heap[b]? := fun b hb' => by
    rw [hW]
    exact ((Below.heap_setCell _ _ _ b hb').trans (Below.heap_setCell _ _ _ b hb')).trans (Below.heap_setCell _ _ _ b hb')
  have hsz : W.heap.size = w2.heap.size := by rw [hW]; simp [World.setCell]
  have hwb : Below w.heap.size w w2 := h.below.trans (hb.mono h.below.size)
  have hclean : ∃ cs, W.heap[M]? = some (.cells cs 35 (0, 0)) := by
    obtain ⟨cs, hcs⟩ := h.clean
    rw [hW]
    exact clean_set (clean_set (clean_set ⟨cs, (hb.block M hMlt).trans hcs⟩ _ _) _ _) _ _
  have hc3 : Cells3 W M 0 k s := by
    rw [hW]
    refine ⟨?_, ?_, ?_⟩
    · rw [cso (by simp <;> omega), cso (by simp)]
      exact css h0
    · rw [cso (by simp)]
      exact css (u := u1) (by rw [cso (by simp)]; exact h1)
    · exact css (u := u2) (by rw [cso (by simp), cso (by simp)]; exact h2)
  have hfar : ∀ p, p < k * 3 ∨ k * 3 + 3 ≤ p → W.cell? ⟨M, p, none⟩ = w2.cell? ⟨M, p, none⟩ := fun p hp => by
    rw [hW, cso (by simp <;> omega), cso (by simp <;> omega), cso (by simp <;> omega)]
  refine ⟨?_, ?_, ?_, hf, hclean, ?_⟩
  · rw [hW]
    exact ((hwb.setCell (p := ⟨M, 0 + k * 3, none⟩) (by simp; omega) _).setCell (p := ⟨M, 0 + k * 3 + 1, none⟩) (by simp; omega) _).setCell (p := ⟨M, 0 + k * 3 + 2, none⟩) (by simp; omega) _
  · exact ((hoth _ (by omega)).trans (hb.block _ (by omega))).trans h.box
  · exact ((hoth _ (by omega)).trans (hb.block _ (by omega))).trans h.res
  · intro j d hd
    by_cases hjk : j = k
    · subst hjk
      rw [hc] at hd
      cases hd
      exact ⟨s, hs, hc3, fun _ => (hn.more (by omega)).keep (fun b h1 h2 => hoth b (by omega)), fun h => by omega⟩
    · obtain ⟨s', e, q, q1, q2⟩ := h.row j d hd
      have q' := q.heap (hb.block M hMlt)
      refine ⟨s', e, ⟨?_, ?_, ?_⟩, fun hj => ?_, fun hj => q2 (by omega)⟩
      · rw [hfar _ (by omega)]; exact q'.1
      · rw [hfar _ (by omega)]; exact q'.2.1
      · rw [hfar _ (by omega)]; exact q'.2.2
      · exact (q1 (by omega)).keep (fun b h1 h2 => (hoth b (by omega)).trans (hb.block b h2))
def BodyPost (w : World) (t : Tree) (e : Ending) (w' : World) : Prop := ∃ s : SexV, s.t = t ∧ e = .returned (sexV s) ∧ s.t.kids.length ≤ s.c ∧ s.c ≤ maxLen ∧ NewT w.heap.size w' t (sexV s) ∧ Below w.heap.size w w'
set_option maxRecDepth 100000 in
set_option maxHeartbeats 4000000 in
theorem anew_n : ∀ (n : Nat) (t : Tree) (v : Value) (w : World), szT t ≤ n → Sx w t v → RowsT t → Calls Tryz.prog 23 #[v] w (BodyPost w t) := by
  intro n
  induction n with
  | zero => intro t v w hn; rw [szT_kids] at hn; omega
  | succ n ih =>
    intro t v w hn hr hrt
    obtain ⟨hlen, hkrt⟩ := hrt.kids
    obtain ⟨a, cap, rfl, hl, hc, hs, hk⟩ := hr.parts
    obtain ⟨xs, hxs, hat, hxr⟩ := rdl_vals t.kids a hk
    have hxl : xs.length = t.kids.length := by rw [← hxs, List.length_map]
    have HROW : Hid (∀ W, Below w.heap.size w W → Calls Tryz.prog 54 #[.slice a t.kids.length cap] W (RowPost W 35 3 t.kids.length (xs.flatMap sexC))) := fun W hW => by
      have := row_sex xs a cap W ((hat.below hW).more hW.size) (by rw [hxl]; exact hl) (by rw [hxl]; exact hlen) (by rw [hxl]; omega) (fun _ _ => trivial)
      rwa [hxl] at this
    have HIH : Hid (∀ c ∈ t.kids, ∀ (v : Value) (W : World), Sx W c v → Calls Tryz.prog 23 #[v] W (BodyPost W c)) := fun c hcm v W h1 => ih c v W (by have := szL_mem hcm; rw [szT_kids] at hn; omega) h1 (hkrt c hcm)
    have HXR : Hid (∀ s ∈ xs, Sx w s.t (sexV s)) := fun s hs => hxr s hs
    have HXS := Lib.hid hxs
    have HXL := Lib.hid hxl
    have hkm : t.kids.length ≤ 9223372036854775807 := by simp only [maxLen] at hc; omega
    obtain ⟨W0, hW0⟩ : ∃ W0, W0 = (w.alloc (.cells #[.int .i8 t.kind, .string (bytesL t.text), .slice a t.kids.length cap] 35)).alloc (.cells #[.int .i8 0, .string ⟨#[]⟩, .slice none 0 0] 35) := ⟨_, rfl⟩
    have hB0 : Below w.heap.size w W0 := by rw [hW0]; exact ((Below.refl _ _).alloc (Nat.le_refl _) _).alloc (by simp) _
    have hX0 : W0.heap[w.heap.size]? = some (.cells #[.int .i8 t.kind, .string (bytesL t.text), .slice a t.kids.length cap] 35 (0, 0)) := by rw [hW0]; exact (Below.heap_alloc _ _ _ (by simp)).trans (heap_alloc_new w _)
    have hY0 : W0.heap[w.heap.size + 1]? = some (.cells #[.int .i8 0, .string ⟨#[]⟩, .slice none 0 0] 35 (0, 0)) := by
      rw [hW0]
      have := heap_alloc_new (w.alloc (.cells #[.int .i8 t.kind, .string (bytesL t.text), .slice a t.kids.length cap] 35)) (.cells #[.int .i8 0, .string ⟨#[]⟩, .slice none 0 0] 35)
      rwa [World.size_alloc] at this
    have hsz0 : W0.heap.size = w.heap.size + 2 := by rw [hW0]; simp
    have x2 := cell_of_row _ _ 2 _ _ _ hX0
    simp only [List.getElem?_toArray, List.getElem?_cons_zero, List.getElem?_cons_succ] at x2
    have HB0 := Lib.hid hB0
    have HX0 := Lib.hid hX0
    have HY0 := Lib.hid hY0
    clear hr hrt hkrt hk hat hxr hxs hxl hX0 hY0 hB0 ih hn hlen
    go_enter Tryz.func23, Tryz.ntmps23
    go_wp2_with (go_at_call 54; rw [← hW0]; refine (HROW.out _ HB0.out).mono ?_; rintro e w1 ⟨v1, rfl, hown, hb1⟩; have y2 := (hb1.cell (p := ⟨w.heap.size, 2, none⟩) (by show w.heap.size < W0.heap.size; omega)).trans x2; have z2 : w1.frozen? ⟨w.heap.size, 2, none⟩ = false := (by simp [World.frozen?, (hb1.block w.heap.size (by omega)).trans HX0.out]); obtain ⟨ra, rc, rfl, hrc, hrm⟩ := own_form' hown; have HOWN := Lib.hid hown; clear hown)
    have HXb : Hid (Below w.heap.size w (w1.setCell ⟨w.heap.size, 2, none⟩ (.slice ra t.kids.length rc))) := (HB0.out.trans (hb1.mono (by omega))).setCell (by simp) _
    have hX1 : (w1.setCell ⟨w.heap.size, 2, none⟩ (.slice ra t.kids.length rc)).heap[w.heap.size]? = some (.cells #[.int .i8 t.kind, .string (bytesL t.text), .slice ra t.kids.length rc] 35 (0, 0)) := by
      have := (hb1.block w.heap.size (by omega)).trans HX0.out
      simp [World.setCell, Array.getElem?_modify, this]
    have hY1 : (w1.setCell ⟨w.heap.size, 2, none⟩ (.slice ra t.kids.length rc)).heap[w.heap.size + 1]? = some (.cells #[.int .i8 0, .string ⟨#[]⟩, .slice none 0 0] 35 (0, 0)) :=
      (Below.heap_setCell _ _ _ _ (by simp)).trans ((hb1.block (w.heap.size + 1) (by omega)).trans HY0.out)
    have hs1 : (w1.setCell ⟨w.heap.size, 2, none⟩ (.slice ra t.kids.length rc)).heap.size = w1.heap.size := by simp [World.setCell]
    obtain ⟨W1, hW1⟩ : ∃ W1, W1 = w1.setCell ⟨w.heap.size, 2, none⟩ (.slice ra t.kids.length rc) := ⟨_, rfl⟩
    have hoth : ∀ b, b ≠ w.heap.size → W1.heap[b]? = w1.heap[b]? := fun b hb => by rw [hW1]; exact Below.heap_setCell _ _ _ b hb
    rw [← hW1] at HXb hX1 hY1 hs1 ⊢
    have hW0s : W0.heap.size ≤ w1.heap.size := hb1.size
    rcases HOWN.out.2 with ⟨he, h0⟩ | ⟨M, cc, cur, he, hM, h1, hMc, h2, h3, h4⟩
    · -- nothing is in it
      clear he
      have HX1 := Lib.hid hX1
      have HY1 := Lib.hid hY1
      clear hX1 hY1 hW1 hb1 y2 z2 x2 hoth
      go_loopw [12] (fun i wr => i = .int .i64 0 ∧ wr = W1) (fun i _ => 0)
      case atStart => exact ⟨rfl, rfl⟩
      case round =>
        obtain ⟨rfl, rfl⟩ := hrel
        have x0 := cell_of_row _ _ 0 _ _ _ HX1.out
        have x1 := cell_of_row _ _ 1 _ _ _ HX1.out
        have x2 := cell_of_row _ _ 2 _ _ _ HX1.out
        have y0 := cell_of_row _ _ 0 _ _ _ HY1.out
        have y1 := cell_of_row _ _ 1 _ _ _ HY1.out
        have y2 := cell_of_row _ _ 2 _ _ _ HY1.out
        have z : ∀ i, wr.frozen? ⟨w.heap.size + 1, i, none⟩ = false := fun i => by simp [World.frozen?, HY1.out]
        simp only [List.getElem?_toArray, List.getElem?_cons_zero, List.getElem?_cons_succ] at x0 x1 x2 y0 y1 y2
        have hlt : ¬ ((0 : Int) < (t.kids.length : Int)) := by omega
        have H0 := Lib.hid h0
        clear h0
        go_wp2
        have h0 := H0.out
        have hbf := ((HXb.out.setCell (p := ⟨w.heap.size + 1, 0, none⟩) (by simp) (.int .i8 t.kind)).setCell (p := ⟨w.heap.size + 1, 1, none⟩) (by simp) (.string (bytesL t.text))).setCell (p := ⟨w.heap.size + 1, 2, none⟩) (by simp) (.slice ra t.kids.length rc)
        have hc := set3 (v0 := .int .i8 t.kind) (v1 := .string (bytesL t.text)) (v2 := .slice ra t.kids.length rc) HY1.out
        have c0 := cell_of_row _ _ 0 _ _ _ hc
        have c1 := cell_of_row _ _ 1 _ _ _ hc
        have c2 := cell_of_row _ _ 2 _ _ _ hc
        simp only [List.getElem?_toArray, List.getElem?_cons_zero, List.getElem?_cons_succ] at c0 c1 c2
        generalize ((wr.setCell ⟨w.heap.size + 1, 0, none⟩ (.int .i8 t.kind)).setCell ⟨w.heap.size + 1, 1, none⟩ (.string (bytesL t.text))).setCell ⟨w.heap.size + 1, 2, none⟩ (.slice ra t.kids.length rc) = Wf at c0 c1 c2 hc hbf ⊢
        refine bodyPost_ret (v := sexV ⟨t, ra, rc⟩) (by simp [results, Tryz.results23, go_sem, sexV, c0, c1, c2]) rfl ?_
        refine ⟨⟨t, ra, rc⟩, rfl, rfl, hrc, hrm, ?_, hbf⟩
        have hnil : t.kids = [] := List.eq_nil_of_length_eq_zero h0
        cases t with
        | node k s l =>
          obtain rfl : l = [] := hnil
          exact ⟨ra, rc, rfl, hrc, hrm, hs, trivial⟩
    · -- a new row
      cases he
      have hMs : M < w1.heap.size := (Array.getElem?_eq_some_iff.1 h1).1
      have HS1 : Hid (BodyS w t xs M rc 0 W1) := by
        have hMne : M ≠ w.heap.size := by omega
        refine ⟨HXb.out, hX1, hY1, by omega, ⟨cur, (hoth M hMne).trans h1⟩, fun j c hj => ?_⟩
        have hjl : j < t.kids.length := (List.getElem?_eq_some_iff.1 hj).1
        obtain ⟨s, hs'⟩ : ∃ s, xs[j]? = some s := ⟨_, List.getElem?_eq_getElem (by rw [HXL.out]; exact hjl)⟩
        have hst : s.t = c := by
          have := congrArg (fun q : List Tree => q[j]?) HXS.out
          simp only [List.getElem?_map, hs', hj, Option.map_some, Option.some.injEq] at this
          exact this
        have hcell : ∀ (i : Nat) (u : Value), i < 3 → (sexC s)[i]? = some u → W1.cell? ⟨M, 0 + j * 3 + i, none⟩ = some u := fun i u hi hu => by
          have e1 := (get_flat sexC_len xs j i s hs' hi).trans hu
          rw [← h4, List.getElem?_take] at e1
          split at e1
          · have hh : W1.heap[M]? = some (.cells cur 35 (0, 0)) := (hoth M (by omega)).trans h1
            have := cell_of_row _ _ (0 + j * 3 + i) _ _ _ hh
            rw [this, Nat.zero_add, ← Array.getElem?_toList]
            exact e1
          · cases e1
        exact ⟨s, hst, ⟨hcell 0 _ (by omega) rfl, hcell 1 _ (by omega) rfl, hcell 2 _ (by omega) rfl⟩, fun h => by omega, fun _ => hs'⟩
      clear hX1 hY1 hW1 hb1 y2 z2 x2 hoth h1 h3 h4 HOWN
      have hlen0 : w.heap.size + 2 ≤ M := HS1.out.far
      go_loopw [12] (fun i wr => ∃ k : Nat, k ≤ t.kids.length ∧ i = .int .i64 k ∧ Hid (BodyS w t xs M rc k wr)) (fun i _ => t.kids.length - (intOf i).toNat)
      case atStart => exact ⟨0, Nat.zero_le _, rfl, HS1⟩
      case round =>
        obtain ⟨k, hkl, rfl, HS⟩ := hrel
        have x0 := cell_of_row _ _ 0 _ _ _ HS.out.box
        have x1 := cell_of_row _ _ 1 _ _ _ HS.out.box
        have x2 := cell_of_row _ _ 2 _ _ _ HS.out.box
        simp only [List.getElem?_toArray, List.getElem?_cons_zero, List.getElem?_cons_succ] at x0 x1 x2
        have hz := (Array.getElem?_eq_some_iff.1 HS.out.box).1
        have hMw : M < wr.heap.size := by obtain ⟨cs, hcs⟩ := HS.out.clean; exact (Array.getElem?_eq_some_iff.1 hcs).1
        by_cases hlt : k < t.kids.length
        · obtain ⟨c, hcc⟩ : ∃ c, t.kids[k]? = some c := ⟨_, List.getElem?_eq_getElem hlt⟩
          obtain ⟨s, rfl, hc3, _, hxk⟩ := HS.out.row k c hcc
          have hxk := hxk (Nat.le_refl _)
          obtain ⟨q0, q1, q2⟩ := hc3
          simp only [Nat.zero_add] at q0 q1 q2
          have hsx : Sx wr s.t (sexV s) := (HXR.out s (List.mem_of_getElem? hxk)).below HS.out.below
          obtain ⟨W2, hW2⟩ : ∃ W2, W2 = wr.alloc (.cells #[.int .i8 s.t.kind, .string (bytesL s.t.text), .slice s.a s.t.kids.length s.c] 35) := ⟨_, rfl⟩
          have hB2 : Below wr.heap.size wr W2 := by rw [hW2]; exact (Below.refl _ _).alloc (Nat.le_refl _) _
          have hP2 : W2.heap[wr.heap.size]? = some (.cells #[.int .i8 s.t.kind, .string (bytesL s.t.text), .slice s.a s.t.kids.length s.c] 35 (0, 0)) := by rw [hW2]; exact heap_alloc_new wr _
          have hszW : W2.heap.size = wr.heap.size + 1 := by rw [hW2]; simp
          have HC : Hid (∀ V, Below wr.heap.size wr V → Calls Tryz.prog 23 #[.agg #[.int .i8 s.t.kind, .string (bytesL s.t.text), .slice s.a s.t.kids.length s.c]] V (BodyPost V s.t)) := fun V hV => HIH.out s.t (List.mem_of_getElem? hcc) _ V (hsx.below hV)
          have HSK : Hid (∀ V, Below W2.heap.size W2 V → V.cell? ⟨w.heap.size, 2, none⟩ = some (.slice (some ⟨M, 0, none⟩) t.kids.length rc) ∧ V.cell? ⟨wr.heap.size, 0, none⟩ = some (.int .i8 s.t.kind) ∧ V.cell? ⟨wr.heap.size, 1, none⟩ = some (.string (bytesL s.t.text)) ∧ V.cell? ⟨wr.heap.size, 2, none⟩ = some (.slice s.a s.t.kids.length s.c) ∧
              V.cell? ⟨M, k * 3, none⟩ = some (.int .i8 s.t.kind) ∧ V.cell? ⟨M, k * 3 + 1, none⟩ = some (.string (bytesL s.t.text)) ∧ V.cell? ⟨M, k * 3 + 2, none⟩ = some (.slice s.a s.t.kids.length s.c) ∧ V.frozen? ⟨M, k * 3, none⟩ = false ∧ V.frozen? ⟨M, k * 3 + 1, none⟩ = false ∧ V.frozen? ⟨M, k * 3 + 2, none⟩ = false) := fun V hV => by
            have hVb : Below wr.heap.size wr V := hB2.trans (hV.mono hB2.size)
            have hp := (hV.block wr.heap.size (by omega)).trans hP2
            have p0 := cell_of_row _ _ 0 _ _ _ hp
            have p1 := cell_of_row _ _ 1 _ _ _ hp
            have p2 := cell_of_row _ _ 2 _ _ _ hp
            simp only [List.getElem?_toArray, List.getElem?_cons_zero, List.getElem?_cons_succ] at p0 p1 p2
            have hfz : ∀ i, V.frozen? ⟨M, i, none⟩ = false := fun i => by obtain ⟨cs, hcs⟩ := HS.out.clean; simp [World.frozen?, (hVb.block M hMw).trans hcs]
            exact ⟨(hVb.cell (p := ⟨w.heap.size, 2, none⟩) hz).trans x2, p0, p1, p2, (hVb.cell (p := ⟨M, k * 3, none⟩) hMw).trans q0, (hVb.cell (p := ⟨M, k * 3 + 1, none⟩) hMw).trans q1, (hVb.cell (p := ⟨M, k * 3 + 2, none⟩) hMw).trans q2, hfz _, hfz _, hfz _⟩
          have HB2 := Lib.hid hB2
          have HCC := Lib.hid hcc
          have hkrc : k < rc := by omega
          clear hB2 hP2 hxk hsx hcc
          go_wp2
          rw [← hW2]
          clear hW2 x0 x1 x2 q0 q1 q2
          obtain ⟨x2, p0, p1, p2, q0, q1, q2, f0, f1, f2⟩ := HSK.out _ (Below.refl _ _)
          have hzW : w.heap.size < W2.heap.size := by omega
          go_region_with (first | (go_at_call 23; refine (HC.out _ (by first | exact HB2.out.drew | exact HB2.out)).mono ?_; rintro e w6 ⟨s6, hs6, rfl, hc6, hm6, hn6, hb6⟩; have hB6 : Below W2.heap.size W2 w6 := (Below.refl _ W2).drew.trans (hb6.mono (Nat.le_refl _)); unfold sexV; have HN6 := Lib.hid hn6; clear hn6; obtain ⟨x2', p0', p1', p2', q0', q1', q2', f0', f1', f2'⟩ := HSK.out _ hB6))
          all_goals
            have hbw6 : Below wr.heap.size wr w6 := HB2.out.trans (hB6.mono HB2.out.size)
            have HSn := HS.out.next (s := s6) HCC.out hs6 hbw6 (HN6.out.more (by show wr.heap.size ≤ W2.heap.size; omega)) (by rw [Nat.zero_add]; exact q0') (by rw [Nat.zero_add]; exact q1') (by rw [Nat.zero_add]; exact q2')
            simp only [Nat.zero_add, hs6] at HSn
            have HSn := Lib.hid HSn
            clear HN6 hbw6 hB6 hb6 x2' p0' p1' p2' q0' q1' q2' f0' f1' f2' x2 p0 p1 p2 q0 q1 q2 f0 f1 f2
            go_wp2_with fail
            go_roundw
            case rel => exact ⟨k + 1, by omega, by go_num, HSn⟩
            case measure => simp [intOf]; omega
        · obtain rfl : k = t.kids.length := by omega
          have HY1 : Hid (wr.heap[w.heap.size + 1]? = some (.cells #[.int .i8 0, .string ⟨#[]⟩, .slice none 0 0] 35 (0, 0))) := HS.out.res
          have y0 := cell_of_row _ _ 0 _ _ _ HY1.out
          have y1 := cell_of_row _ _ 1 _ _ _ HY1.out
          have y2 := cell_of_row _ _ 2 _ _ _ HY1.out
          have z : ∀ i, wr.frozen? ⟨w.heap.size + 1, i, none⟩ = false := fun i => by simp [World.frozen?, HY1.out]
          simp only [List.getElem?_toArray, List.getElem?_cons_zero, List.getElem?_cons_succ] at y0 y1 y2
          go_wp2
          have hc := set3 (v0 := .int .i8 t.kind) (v1 := .string (bytesL t.text)) (v2 := .slice (some ⟨M, 0, none⟩) t.kids.length rc) HY1.out
          have hbf := ((HS.out.below.setCell (p := ⟨w.heap.size + 1, 0, none⟩) (by simp) (.int .i8 t.kind)).setCell (p := ⟨w.heap.size + 1, 1, none⟩) (by simp) (.string (bytesL t.text))).setCell (p := ⟨w.heap.size + 1, 2, none⟩) (by simp) (.slice (some ⟨M, 0, none⟩) t.kids.length rc)
          have hof : ∀ b, b ≠ w.heap.size + 1 → (((wr.setCell ⟨w.heap.size + 1, 0, none⟩ (.int .i8 t.kind)).setCell ⟨w.heap.size + 1, 1, none⟩ (.string (bytesL t.text))).setCell ⟨w.heap.size + 1, 2, none⟩ (.slice (some ⟨M, 0, none⟩) t.kids.length rc)).heap[b]? = wr.heap[b]? := fun b hb =>
            ((Below.heap_setCell _ _ _ b hb).trans (Below.heap_setCell _ _ _ b hb)).trans (Below.heap_setCell _ _ _ b hb)
          have c0 := cell_of_row _ _ 0 _ _ _ hc
          have c1 := cell_of_row _ _ 1 _ _ _ hc
          have c2 := cell_of_row _ _ 2 _ _ _ hc
          simp only [List.getElem?_toArray, List.getElem?_cons_zero, List.getElem?_cons_succ] at c0 c1 c2
          generalize ((wr.setCell ⟨w.heap.size + 1, 0, none⟩ (.int .i8 t.kind)).setCell ⟨w.heap.size + 1, 1, none⟩ (.string (bytesL t.text))).setCell ⟨w.heap.size + 1, 2, none⟩ (.slice (some ⟨M, 0, none⟩) t.kids.length rc) = Wf at c0 c1 c2 hc hbf hof ⊢
          refine bodyPost_ret (v := sexV ⟨t, some ⟨M, 0, none⟩, rc⟩) (by simp [results, Tryz.results23, go_sem, sexV, c0, c1, c2]) rfl ?_
          refine ⟨⟨t, some ⟨M, 0, none⟩, rc⟩, rfl, rfl, hrc, hrm, ?_, hbf⟩
          have hMf : ∃ cs, Wf.heap[M]? = some (.cells cs 35 (0, 0)) := by obtain ⟨cs, hcs⟩ := HS.out.clean; exact ⟨cs, (hof M (by omega)).trans hcs⟩
          have hrow := build_new2 (B := w.heap.size) (by omega) hMf t.kids 0 (fun j c hj => by
            obtain ⟨s, e, q, q1, _⟩ := HS.out.row j c hj
            have hjl : j < t.kids.length := (List.getElem?_eq_some_iff.1 hj).1
            exact ⟨s, e, q.heap (hof M (by omega)), ((q1 hjl).keep (fun b h1 h2 => hof b (by omega))).more (by omega)⟩)
          cases t with
          | node kd tx l => exact ⟨some ⟨M, 0, none⟩, rc, rfl, hrc, hrm, hs, hrow⟩
theorem anew_any (t : Tree) (v : Value) (w : World) (hr : Sx w t v) (hrt : RowsT t) : Calls Tryz.prog 23 #[v] w (BodyPost w t) := anew_n _ t v w (Nat.le_refl _) hr hrt
end Go.Proofs.YtodonngnigbpaaaGreatDoor
namespace Go.Proofs.YtodonngnigbpaaaGreatDoor
open Go.RowKit
set_option linter.unusedVariables false
/-- It reads as t, in blocks that are not in H. -/
def SxS (H : Nat → Prop) (w : World) (t : Tree) (v : Value) : Prop := Rd w (fun b => H b ∨ w.heap.size ≤ b) t v
def SxLS (H : Nat → Prop) (w : World) (l : List Tree) (a : Option Addr) : Prop := RdL w (fun b => H b ∨ w.heap.size ≤ b) l a
theorem SxS.to {H K : Nat → Prop} {w w' : World} {t : Tree} {v : Value} (h : SxS H w t v) (hs : w.heap.size ≤ w'.heap.size) (hk : ∀ b, b < w.heap.size → ¬ H b → w'.heap[b]? = w.heap[b]?) (hK : ∀ b, K b → H b ∨ w.heap.size ≤ b) : SxS K w' t v := by
  have h1 : Rd w' (fun b => H b ∨ w.heap.size ≤ b) t v := Rd.keep (fun b hb hlt => hk b hlt (fun hh => hb (.inl hh))) t v h
  exact Rd.mono (fun b _ hb => by rcases hb with hb | hb; exact hK b hb; exact .inr (by omega)) t v h1
theorem SxLS.to {H K : Nat → Prop} {w w' : World} {t : List Tree} {v : Option Addr} (h : SxLS H w t v) (hs : w.heap.size ≤ w'.heap.size) (hk : ∀ b, b < w.heap.size → ¬ H b → w'.heap[b]? = w.heap[b]?) (hK : ∀ b, K b → H b ∨ w.heap.size ≤ b) : SxLS K w' t v := by
  have h1 : RdL w' (fun b => H b ∨ w.heap.size ≤ b) t v := RdL.keep (fun b hb hlt => hk b hlt (fun hh => hb (.inl hh))) t v h
  exact RdL.mono (fun b _ hb => by rcases hb with hb | hb; exact hK b hb; exact .inr (by omega)) t v h1
theorem SxS.below {H : Nat → Prop} {w w' : World} {t : Tree} {v : Value} (h : SxS H w t v) (hb : Below w.heap.size w w') : SxS H w' t v := h.to hb.size (fun b hlt _ => hb.block b hlt) (fun b hb => .inl hb)
theorem SxLS.below {H : Nat → Prop} {w w' : World} {t : List Tree} {v : Option Addr} (h : SxLS H w t v) (hb : Below w.heap.size w w') : SxLS H w' t v := h.to hb.size (fun b hlt _ => hb.block b hlt) (fun b hb => .inl hb)
theorem SxS.sx {H : Nat → Prop} {w : World} {t : Tree} {v : Value} (h : SxS H w t v) : Sx w t v := Rd.sx h
theorem SxLS.sx {H : Nat → Prop} {w : World} {t : List Tree} {v : Option Addr} (h : SxLS H w t v) : SxL w t v := RdL.sx h
/-- Those that lie within what was there. -/
def In (w : World) (H : Nat → Prop) : Prop := ∀ b, H b → b < w.heap.size
/-- It answers the expression t, in memory that is read as it. -/
def SxPost (H : Nat → Prop) (w : World) (t : Tree) (e : Ending) (w' : World) : Prop := ∃ s : SexV, s.t = t ∧ e = .returned (sexV s) ∧ SxS H w' t (sexV s) ∧ Below w.heap.size w w'
theorem sx_leaf {H : Nat → Prop} {w : World} {k : Int} {s : List UInt8} (hs : s.length ≤ maxLen) : SxS H w (.node k s []) (.agg #[.int .i8 k, .string (bytesL s), .slice none 0 0]) := ⟨none, 0, rfl, by simp, by simp, hs, trivial⟩
/-- The result, stored. -/
theorem sx_store {w w1 : World} {H H' : Nat → Prop} {t : Tree} {s : SexV} {b : Nat} {u0 u1 u2 : Value} (hb : Below w.heap.size w w1) (hx : w1.heap[b]? = some (.cells #[u0, u1, u2] 35 (0, 0))) (hbw : w.heap.size ≤ b) (hs : SxS H' w1 t (sexV s)) (hH : H' b) (hHH : ∀ b, H b → H' b) :
    (((w1.setCell ⟨b, 0, none⟩ (.int .i8 s.t.kind)).setCell ⟨b, 1, none⟩ (.string (bytesL s.t.text))).setCell ⟨b, 2, none⟩ (.slice s.a s.t.kids.length s.c)).heap[b]? = some (.cells #[.int .i8 s.t.kind, .string (bytesL s.t.text), .slice s.a s.t.kids.length s.c] 35 (0, 0)) ∧
    SxS H (((w1.setCell ⟨b, 0, none⟩ (.int .i8 s.t.kind)).setCell ⟨b, 1, none⟩ (.string (bytesL s.t.text))).setCell ⟨b, 2, none⟩ (.slice s.a s.t.kids.length s.c)) t (sexV s) ∧
    Below w.heap.size w (((w1.setCell ⟨b, 0, none⟩ (.int .i8 s.t.kind)).setCell ⟨b, 1, none⟩ (.string (bytesL s.t.text))).setCell ⟨b, 2, none⟩ (.slice s.a s.t.kids.length s.c)) := by
  refine ⟨set3 hx, ?_, ((hb.setCell (p := ⟨b, 0, none⟩) hbw _).setCell (p := ⟨b, 1, none⟩) hbw _).setCell (p := ⟨b, 2, none⟩) hbw _⟩
  refine hs.to (by simp [World.setCell]) (fun g hg hn => ?_) (fun g hg => .inl (hHH g hg))
  have hne : g ≠ b := fun e => hn (by rw [e]; exact hH)
  exact ((Below.heap_setCell _ _ _ g hne).trans (Below.heap_setCell _ _ _ g hne)).trans (Below.heap_setCell _ _ _ g hne)
theorem cells3b {W : World} {b : Nat} {v0 v1 v2 : Value} {ty : TypeId} (h : W.heap[b]? = some (.cells #[v0, v1, v2] ty (0, 0))) : W.cell? ⟨b, 0, none⟩ = some v0 ∧ W.cell? ⟨b, 1, none⟩ = some v1 ∧ W.cell? ⟨b, 2, none⟩ = some v2 ∧ (∀ i, W.frozen? ⟨b, i, none⟩ = false) ∧ b < W.heap.size :=
  ⟨cell_of_row _ _ 0 _ _ _ h, cell_of_row _ _ 1 _ _ _ h, cell_of_row _ _ 2 _ _ _ h, fun i => by simp [World.frozen?, h], (Array.getElem?_eq_some_iff.1 h).1⟩
def zSx : Obj := .cells #[.int .i8 0, .string ⟨#[]⟩, .slice none 0 0] 35
theorem sexSize3 : (Tryz.prog.info? 35).map (·.size) = some 3 := by kernel_rfl
set_option maxRecDepth 100000 in
theorem symbol_any (H : Nat → Prop) (s : List UInt8) (w : World) (hs : s.length ≤ maxLen) : Calls Tryz.prog 29 #[.string (bytesL s)] w (SxPost H w (symT s)) := by
  have HS := Lib.hid hs
  clear hs
  go_enter Tryz.func29, Tryz.ntmps29
  go_wp2
  refine bodyPost_ret (results_cell_row rfl _ _ (w.heap.size) _ _ _ _ rfl (heap_alloc_new w _) Tryz.underlying35 rfl sexSize3) rfl ?_
  exact ⟨⟨symT s, none, 0⟩, rfl, rfl, sx_leaf HS.out, (((Below.refl _ _).alloc (Nat.le_refl _) _))⟩
set_option maxRecDepth 100000 in
theorem row_any (H : Nat → Prop) (l : List Tree) (a : Option Addr) (c : Nat) (w : World) (hl : l.length ≤ c) (hc : c ≤ maxLen) (hA : SxLS H w l a) : Calls Tryz.prog 35 #[.slice a l.length c] w (SxPost H w (rowT l)) := by
  have HA := Lib.hid hA
  have HL := Lib.hid hl
  have HC := Lib.hid hc
  have HB : Hid (Below w.heap.size w (w.alloc (.cells #[.int .i8 3, .string ⟨#[]⟩, .slice a l.length c] 35))) := (Below.refl _ _).alloc (Nat.le_refl _) _
  clear hA hl hc
  go_enter Tryz.func35, Tryz.ntmps35
  go_wp2
  refine bodyPost_ret (results_cell_row rfl _ _ (w.heap.size) _ _ _ _ rfl (heap_alloc_new w _) Tryz.underlying35 rfl sexSize3) rfl ?_
  exact ⟨⟨rowT l, a, c⟩, rfl, rfl, ⟨a, c, rfl, HL.out, HC.out, by simp, SxLS.below HA.out HB.out⟩, HB.out⟩
set_option maxRecDepth 100000 in
theorem numeral_c (H : Nat → Prop) (n : Int) (w : World) (hn : I64 n) : Calls Tryz.prog 31 #[.int .i64 n] w (SxPost H w (numT n)) := by
  have HC := Lib.hid (fun (W : World) => NText_any n W hn)
  have HL : Hid ((textV n).length ≤ maxLen) := by
    show _ ≤ _
    by_cases h : mayB n = true
    · have := textV_size h; simp only [maxLen]; omega
    · unfold textV; rw [if_neg h]; simp
  have HB0 : Hid (Below w.heap.size w (w.alloc zSx)) := (Below.refl _ _).alloc (Nat.le_refl _) _
  go_enter Tryz.func31, Tryz.ntmps31
  go_wp2_with (go_at_call 62; refine (HC.out _).mono ?_; rintro e w1 ⟨rfl, hb1⟩; have hx := (hb1.block _ (by simp)).trans (heap_alloc_new w zSx); obtain ⟨c0, c1, c2, fz, hz⟩ := cells3b hx)
  obtain ⟨h1, h2, h3⟩ := sx_store (H := H) (H' := fun b => H b ∨ b = w.heap.size) (t := numT n) (s := ⟨numT n, none, 0⟩) (HB0.out.trans (hb1.mono HB0.out.size)) hx (Nat.le_refl _) (sx_leaf HL.out) (.inr rfl) (fun b hb => .inl hb)
  refine bodyPost_ret (results_cell_row rfl _ _ (w.heap.size) _ _ _ _ rfl (h1) Tryz.underlying35 rfl sexSize3) rfl ?_
  exact ⟨⟨numT n, none, 0⟩, rfl, rfl, h2, h3⟩
end Go.Proofs.YtodonngnigbpaaaGreatDoor
