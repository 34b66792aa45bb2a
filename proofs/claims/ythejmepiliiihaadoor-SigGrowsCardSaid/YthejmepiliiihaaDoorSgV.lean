/- Package sig's add. -/
import Derived.Test.YthejmepiliiihaaDoorSgL
import Derived.Test.YthejmepiliiihaaDoorSgQ
import Derived.Test.YthejmepiliiihaaDoorSgR
namespace Go.Proofs.YthejmepiliiihaaDoor
open Go.RowKit
set_option linter.unusedVariables false
/-- Block q holds slices alone. -/
def Slices (w : World) (q : Nat) : Prop := ∀ i u, w.cell? ⟨q, i, none⟩ = some u → ∃ a n c, u = .slice a n c
mutual
theorem Rd.off {w : World} {bad : Nat → Prop} {q : Nat} (hq : Slices w q) : ∀ (t : Tree) (v : Value), Rd w bad t v → Rd w (fun b => bad b ∨ b = q) t v
  | .node k s l, v, h => by
    obtain ⟨a, cap, e, h1, h2, h3, h4⟩ := h
    exact ⟨a, cap, e, h1, h2, h3, RdL.off hq l a h4⟩
theorem RdL.off {w : World} {bad : Nat → Prop} {q : Nat} (hq : Slices w q) : ∀ (l : List Tree) (a : Option Addr), RdL w bad l a → RdL w (fun b => bad b ∨ b = q) l a
  | [], _, _ => trivial
  | t :: l, a, h => by
    obtain ⟨g, o, v0, v1, v2, e, hb, fz, c0, c1, c2, ht, hl⟩ := h
    refine ⟨g, o, v0, v1, v2, e, ?_, fz, c0, c1, c2, Rd.off hq t _ ht, RdL.off hq l _ hl⟩
    rintro (h | rfl)
    · exact hb h
    · obtain ⟨a', n', c', hs⟩ := hq o v0 c0
      obtain ⟨_, _, hv, _⟩ := ht.parts
      simp only [Value.agg.injEq, Array.mk.injEq, List.cons.injEq, and_true] at hv
      rw [hv.1] at hs
      cases hs
end
theorem At.off {w W : World} {L : List Value} {a : Option Addr} {q : Nat} (h : At w w.heap.size L a) (hq : Slices w q) (hof : ∀ c, c ≠ q → W.heap[c]? = w.heap[c]?) (hs : W.heap.size = w.heap.size) (h0 : ∀ u, L[0]? = some u → ∀ a n c, ¬ u = .slice a n c) : At W W.heap.size L a := by
  intro hp
  obtain ⟨g, o, e, hg, hc⟩ := h hp
  have hne : g ≠ q := by
    rintro rfl
    have h1 : L[0]? = some L[0] := List.getElem?_eq_getElem hp
    obtain ⟨a', n', c', hs'⟩ := hq _ _ (hc 0 _ h1)
    exact h0 _ h1 _ _ _ hs'
  exact ⟨g, o, e, by omega, fun i v hv => (World.cell?_of_block (a := ⟨g, o + i, none⟩) (hof g hne)).trans (hc i v hv)⟩
theorem head_flat {α : Type} {f : α → List Value} (hf : ∀ x, ∃ s r, f x = .string s :: r) (l : List α) : ∀ u, (l.flatMap f)[0]? = some u → ∀ a n c, ¬ u = .slice a n c := by
  intro u hu
  cases l with
  | nil => simp at hu
  | cons x r =>
    obtain ⟨s, r', e⟩ := hf x
    simp only [List.flatMap_cons, e] at hu
    simp at hu
    subst hu
    intro a n c h
    cases h
theorem sig_off {w W : World} {y : SigV} {q : Nat} (hR : SigR w y) (hK : SigK w y) (hq : Slices w q) (hof : ∀ c, c ≠ q → W.heap[c]? = w.heap[c]?) (hs : W.heap.size = w.heap.size) : SigR W y ∧ SigK W y := by
  have hrd : ∀ (bad : Nat → Prop) (t : Tree) (v : Value), Rd w bad t v → Rd W (fun b => bad b ∨ b = q) t v := fun bad t v h => Rd.keep (fun b hb _ => hof b (fun e => hb (.inr e))) t v (Rd.off hq t v h)
  refine ⟨⟨hR.sl, hR.sm, hR.sat.off hq hof hs (head_flat (fun x => ⟨_, _, rfl⟩) _), hR.sok, hR.fl, hR.fm, hR.fat.off hq hof hs (head_flat (fun x => ⟨_, _, rfl⟩) _), hR.fok, hR.ml, hR.mm, hR.mat.off hq hof hs (head_flat (fun x => ⟨_, _, rfl⟩) _), fun m hm => ?_⟩, fun m hm => ?_⟩
  · have ho := hR.mok m hm
    refine ⟨ho.name, ho.plen, ho.pcap, ho.pat.off hq hof hs (head_flat (fun x => ⟨_, _, rfl⟩) _), ho.pok, ho.res, ?_⟩
    exact Rd.mono (fun b hb hh => by omega) _ _ (hrd _ _ _ ho.body)
  · obtain ⟨bad, h1, h2, h3⟩ := hK m hm
    refine ⟨fun b => bad b ∨ b = q, fun b hb => by have := h1 b (fun h => hb (.inl h)); omega, hrd _ _ _ h2, fun b hb hlt => ?_⟩
    obtain ⟨cs, ty, hc⟩ := h3 b (fun h => hb (.inl h)) (by omega)
    exact ⟨cs, ty, (hof b (fun e => hb (.inr e))).trans hc⟩
theorem slices_zero {w : World} {q : Nat} {ty : TypeId} (h : w.heap[q]? = some (.cells #[.slice none 0 0, .slice none 0 0, .slice none 0 0] ty (0, 0))) : Slices w q := by
  intro i u hu
  rw [cell_of_row w q i _ _ _ h] at hu
  match i, hu with
  | 0, hu => simp at hu; exact ⟨_, _, _, hu.symm⟩
  | 1, hu => simp at hu; exact ⟨_, _, _, hu.symm⟩
  | 2, hu => simp at hu; exact ⟨_, _, _, hu.symm⟩
  | i + 3, hu => simp at hu
/-- What joined answers: the signature o, its bodies in blocks without a mark where KK holds. -/
def JoinP (KK : Prop) (o : SigA) (V : World) (e : Ending) (w' : World) : Prop := ∃ z : SigV, e = .returned (.agg #[.slice z.sa z.sorts.length z.sc, .slice z.fa z.funs.length z.fc, .slice z.ma z.macs.length z.mc]) ∧ z.a = o ∧ SigR w' z ∧ (KK → SigK w' z) ∧ Below V.heap.size V w'
/-- What add answers. -/
def AddPost (w : World) (x : SigV) (k : Nm) (KK : Prop) (o : SigA) (e : Ending) (w' : World) : Prop :=
  ∃ (z : SigV) (r : Int), e = .returned (.tuple #[.agg #[.slice z.sa z.sorts.length z.sc, .slice z.fa z.funs.length z.fc, .slice z.ma z.macs.length z.mc], .int .i64 r]) ∧ Below w.heap.size w w' ∧
    (r = 0 → z.a = o ∧ SigR w' z ∧ SigK w' z ∧ mayA x.a = true ∧ freeA (memB k (namesA x.a)) k.1 k.2 = 0 ∧ restA o = true ∧ fitsA o.sorts.length o.funs.length o.macros.length = true) ∧
    (SigK w x → mayA x.a = true → ¬ freeA (memB k (namesA x.a)) k.1 k.2 = 0 → r = freeA (memB k (namesA x.a)) k.1 k.2) ∧
    (SigK w x → KK → mayA x.a = true → freeA (memB k (namesA x.a)) k.1 k.2 = 0 → restA o = true → fitsA o.sorts.length o.funs.length o.macros.length = true → r = 0)
theorem macB_few {n : Nat} {m : MacA} (h : macB n m = true) : m.params.length ≤ 3 := by
  unfold macB at h
  simp only [Bool.and_eq_true, decide_eq_true_eq] at h
  exact h.1
theorem few_of {z : SigV} {o : SigA} (ha : z.a = o) (hr : restA o = true) (hf : fitsA o.sorts.length o.funs.length o.macros.length = true) (ht : ∀ m ∈ o.macros, RowsT m.body) : FewV z := by
  subst ha
  have hle := fitsA_le hf
  have hm : z.a.macros.length = z.macs.length := by simp [SigV.a]
  unfold restA at hr
  rw [Bool.and_eq_true, List.all_eq_true, List.all_eq_true] at hr
  have hmem : ∀ y ∈ z.macs, y.m ∈ z.a.macros := fun y hy => List.mem_map.2 ⟨y, hy, rfl⟩
  exact ⟨by have := hle.1; simp [SigV.a] at this; omega, by have := hle.2.1; simp [SigV.a] at this; omega, by have := hle.2.2; omega, fun y hy => by have := macB_few (hr.2 _ (hmem y hy)); omega, fun y hy => ht _ (hmem y hy)⟩
theorem freeA_cases (t : Bool) (s : ByteArray) (b : Bool) : freeA t s b = 0 ∨ freeA t s b = 31 ∨ freeA t s b = 32 := by
  unfold freeA
  split
  · split
    · exact .inr (.inr rfl)
    · exact .inl rfl
  · exact .inr (.inl rfl)
theorem may_few {x : SigV} (h : mayA x.a = true) : x.sorts.length ≤ 4 ∧ x.funs.length ≤ 12 ∧ x.macs.length ≤ 12 := by
  unfold mayA at h
  rw [Bool.and_eq_true] at h
  have := fitsA_le h.1
  simpa [SigV.a] using this
set_option maxRecDepth 100000 in
set_option maxHeartbeats 2000000 in
theorem add_any (x : SigV) (ta ua va : Option Addr) (tl tc ul uc vl vc : Nat) (s : ByteArray) (b : Bool) (KK : Prop) (o : SigA) (w : World) (hG : GS w) (hR : SigR w x) (hs : s.size ≤ maxLen)
    (ho : mayA x.a = true → o.sorts.length ≤ 100) (ht : ∀ m ∈ o.macros, RowsT m.body)
    (HJ : mayA x.a = true → ∀ V, Below w.heap.size w V → Calls Tryd.prog 29 #[.agg #[.slice x.sa x.sorts.length x.sc, .slice x.fa x.funs.length x.fc, .slice x.ma x.macs.length x.mc], .agg #[.slice ta tl tc, .slice ua ul uc, .slice va vl vc]] V (JoinP (SigK w x ∧ KK) o V)) :
    Calls Tryd.prog 17 #[.agg #[.slice x.sa x.sorts.length x.sc, .slice x.fa x.funs.length x.fc, .slice x.ma x.macs.length x.mc], .agg #[.slice ta tl tc, .slice ua ul uc, .slice va vl vc], .agg #[.string s, .bool b]] w (AddPost w x (s, b) KK o) := by
  obtain ⟨W0, hW0⟩ : ∃ W0, W0 = (((w.alloc (.cells #[.slice x.sa x.sorts.length x.sc, .slice x.fa x.funs.length x.fc, .slice x.ma x.macs.length x.mc] 26)).alloc (.cells #[.slice ta tl tc, .slice ua ul uc, .slice va vl vc] 26)).alloc (.cells #[.string s, .bool b] 55)).alloc (.cells #[.slice none 0 0, .slice none 0 0, .slice none 0 0] 26) := ⟨_, rfl⟩
  have hB0 : Below w.heap.size w W0 := by rw [hW0]; exact ((((Below.refl _ _).alloc (Nat.le_refl _) _).alloc (by simp) _).alloc (by simp; omega) _).alloc (by simp; omega) _
  have hX0 : W0.heap[w.heap.size]? = some (.cells #[.slice x.sa x.sorts.length x.sc, .slice x.fa x.funs.length x.fc, .slice x.ma x.macs.length x.mc] 26 (0, 0)) := by rw [hW0]; exact (((Below.heap_alloc _ _ _ (by simp <;> omega)).trans (Below.heap_alloc _ _ _ (by simp <;> omega))).trans (Below.heap_alloc _ _ _ (by simp))).trans (heap_alloc_new w _)
  have hM0 : W0.heap[w.heap.size + 1]? = some (.cells #[.slice ta tl tc, .slice ua ul uc, .slice va vl vc] 26 (0, 0)) := by
    rw [hW0]
    have := heap_alloc_new (w.alloc (.cells #[.slice x.sa x.sorts.length x.sc, .slice x.fa x.funs.length x.fc, .slice x.ma x.macs.length x.mc] 26)) (.cells #[.slice ta tl tc, .slice ua ul uc, .slice va vl vc] 26)
    rw [World.size_alloc] at this
    exact ((Below.heap_alloc _ _ _ (by simp <;> omega)).trans (Below.heap_alloc _ _ _ (by simp))).trans this
  have hN0 : W0.heap[w.heap.size + 1 + 1]? = some (.cells #[.string s, .bool b] 55 (0, 0)) := by
    rw [hW0]
    have := heap_alloc_new ((w.alloc (.cells #[.slice x.sa x.sorts.length x.sc, .slice x.fa x.funs.length x.fc, .slice x.ma x.macs.length x.mc] 26)).alloc (.cells #[.slice ta tl tc, .slice ua ul uc, .slice va vl vc] 26)) (.cells #[.string s, .bool b] 55)
    simp only [World.size_alloc] at this
    exact (Below.heap_alloc _ _ _ (by simp)).trans this
  have hY0 : W0.heap[w.heap.size + 1 + 1 + 1]? = some (.cells #[.slice none 0 0, .slice none 0 0, .slice none 0 0] 26 (0, 0)) := by
    rw [hW0]
    have := heap_alloc_new (((w.alloc (.cells #[.slice x.sa x.sorts.length x.sc, .slice x.fa x.funs.length x.fc, .slice x.ma x.macs.length x.mc] 26)).alloc (.cells #[.slice ta tl tc, .slice ua ul uc, .slice va vl vc] 26)).alloc (.cells #[.string s, .bool b] 55)) (.cells #[.slice none 0 0, .slice none 0 0, .slice none 0 0] 26)
    simpa only [World.size_alloc] using this
  have hsz0 : W0.heap.size = w.heap.size + 4 := by rw [hW0]; simp
  have HSK : Hid (∀ V, Below W0.heap.size W0 V → V.cell? ⟨w.heap.size, 0, none⟩ = some (.slice x.sa x.sorts.length x.sc) ∧ V.cell? ⟨w.heap.size, 1, none⟩ = some (.slice x.fa x.funs.length x.fc) ∧ V.cell? ⟨w.heap.size, 2, none⟩ = some (.slice x.ma x.macs.length x.mc) ∧
      V.cell? ⟨w.heap.size + 1, 0, none⟩ = some (.slice ta tl tc) ∧ V.cell? ⟨w.heap.size + 1, 1, none⟩ = some (.slice ua ul uc) ∧ V.cell? ⟨w.heap.size + 1, 2, none⟩ = some (.slice va vl vc) ∧ V.cell? ⟨w.heap.size + 1 + 1, 0, none⟩ = some (.string s) ∧ V.cell? ⟨w.heap.size + 1 + 1, 1, none⟩ = some (.bool b) ∧
      V.cell? ⟨w.heap.size + 1 + 1 + 1, 0, none⟩ = some (.slice none 0 0) ∧ V.cell? ⟨w.heap.size + 1 + 1 + 1, 1, none⟩ = some (.slice none 0 0) ∧ V.cell? ⟨w.heap.size + 1 + 1 + 1, 2, none⟩ = some (.slice none 0 0) ∧ (∀ i, V.frozen? ⟨w.heap.size + 1 + 1 + 1, i, none⟩ = false) ∧ w.heap.size + 1 + 1 + 1 < V.heap.size) := fun V hV => by
    have e0 := (hV.block _ (by omega)).trans hX0
    have e1 := (hV.block _ (by omega)).trans hM0
    have e2 := (hV.block _ (by omega)).trans hN0
    have e3 := (hV.block _ (by omega)).trans hY0
    have a0 := cell_of_row _ _ 0 _ _ _ e0
    have a1 := cell_of_row _ _ 1 _ _ _ e0
    have a2 := cell_of_row _ _ 2 _ _ _ e0
    have b0 := cell_of_row _ _ 0 _ _ _ e1
    have b1 := cell_of_row _ _ 1 _ _ _ e1
    have b2 := cell_of_row _ _ 2 _ _ _ e1
    have c0 := cell_of_row _ _ 0 _ _ _ e2
    have c1 := cell_of_row _ _ 1 _ _ _ e2
    have d0 := cell_of_row _ _ 0 _ _ _ e3
    have d1 := cell_of_row _ _ 1 _ _ _ e3
    have d2 := cell_of_row _ _ 2 _ _ _ e3
    simp only [List.getElem?_toArray, List.getElem?_cons_zero, List.getElem?_cons_succ] at a0 a1 a2 b0 b1 b2 c0 c1 d0 d1 d2
    exact ⟨a0, a1, a2, b0, b1, b2, c0, c1, d0, d1, d2, fun i => by simp [World.frozen?, e3], (Array.getElem?_eq_some_iff.1 e3).1⟩
  have HY0 : Hid (∀ V, Below W0.heap.size W0 V → V.heap[w.heap.size + 1 + 1 + 1]? = some (.cells #[.slice none 0 0, .slice none 0 0, .slice none 0 0] 26 (0, 0))) := fun V hV => (hV.block _ (by omega)).trans hY0
  have HSR : Hid (∀ V, Below W0.heap.size W0 V → V.cell? ⟨w.heap.size + 1 + 1 + 1, 0, none⟩ = some (.slice none 0 0) ∧ V.cell? ⟨w.heap.size + 1 + 1 + 1, 1, none⟩ = some (.slice none 0 0) ∧ V.cell? ⟨w.heap.size + 1 + 1 + 1, 2, none⟩ = some (.slice none 0 0) ∧ (∀ i, V.frozen? ⟨w.heap.size + 1 + 1 + 1, i, none⟩ = false) ∧ w.heap.size + 1 + 1 + 1 < V.heap.size) := fun V hV => by
    obtain ⟨a0, a1, a2, b0, b1, b2, c0, c1, d0, d1, d2, df, dz⟩ := HSK.out V hV
    exact ⟨d0, d1, d2, df, dz⟩
  have HMay : Hid (∀ V, Below w.heap.size w V → Calls Tryd.prog 20 #[.agg #[.slice x.sa x.sorts.length x.sc, .slice x.fa x.funs.length x.fc, .slice x.ma x.macs.length x.mc]] V (MayPost V x)) := fun V hV => may_any x V (hG.below hV) (hR.below hV)
  have HFree : Hid (mayA x.a = true → ∀ V, Below w.heap.size w V → Calls Tryd.prog 14 #[.agg #[.slice x.sa x.sorts.length x.sc, .slice x.fa x.funs.length x.fc, .slice x.ma x.macs.length x.mc], .string s, .bool b] V fun e w' => e = .returned (.int .i64 (freeA (memB (s, b) (namesA x.a)) s b)) ∧ Below V.heap.size V w') := fun hm V hV => by
    have := may_few hm
    exact Free_any x s b _ V (hG.below hV) (hR.below hV) hs (by rw [names_len]; simp [SigV.a]; omega) rfl
  have HG := Lib.hid hG
  have HJo := Lib.hid HJ
  have HO := Lib.hid ho
  have HT := Lib.hid ht
  have HB0 := Lib.hid hB0
  obtain ⟨fr, hfr⟩ : ∃ fr, freeA (memB (s, b) (namesA x.a)) s b = fr := ⟨_, rfl⟩
  have HFR := Lib.hid hfr
  rw [hfr] at HFree
  obtain ⟨a0, a1, a2, b0, b1, b2, c0, c1, d0, d1, d2, df, dz⟩ := HSK.out _ (Below.refl _ _)
  clear hfr hG hR ho ht HJ hB0 hX0 hM0 hN0 hY0 hs
  go_enter Tryd.func17, Tryd.ntmps17
  go_wp2_with (go_at_call 20; rw [← hW0]; clear hW0; refine (HMay.out _ HB0.out).mono ?_; rintro e w1 ⟨r, rfl, hr1, hr2, hb1⟩; have hr1 := Lib.hid hr1; have hr2 := Lib.hid hr2; clear a0 a1 a2 b0 b1 b2 c0 c1 d0 d1 d2 df dz; obtain ⟨a0, a1, a2, b0, b1, b2, c0, c1, d0, d1, d2, df, dz⟩ := HSK.out _ hb1; cases r)
  · have hno : SigK w x → mayA x.a = false := fun hk => by
      have := hr2.out (hk.below HB0.out)
      first | exact this.symm | exact this
    have hzc := HY0.out _ hb1
    have hc := set3 (v0 := .slice none 0 0) (v1 := .slice none 0 0) (v2 := .slice none 0 0) hzc
    have hbf := (((HB0.out.trans (hb1.mono HB0.out.size)).setCell (p := ⟨w.heap.size + 1 + 1 + 1, 0, none⟩) (by simp; omega) (.slice none 0 0)).setCell (p := ⟨w.heap.size + 1 + 1 + 1, 1, none⟩) (by simp; omega) (.slice none 0 0)).setCell (p := ⟨w.heap.size + 1 + 1 + 1, 2, none⟩) (by simp; omega) (.slice none 0 0)
    have hof : ∀ c, c ≠ w.heap.size + 1 + 1 + 1 → (((w1.setCell ⟨w.heap.size + 1 + 1 + 1, 0, none⟩ (.slice none 0 0)).setCell ⟨w.heap.size + 1 + 1 + 1, 1, none⟩ (.slice none 0 0)).setCell ⟨w.heap.size + 1 + 1 + 1, 2, none⟩ (.slice none 0 0)).heap[c]? = w1.heap[c]? := fun c hc => three_oth hc
    have hsf : (((w1.setCell ⟨w.heap.size + 1 + 1 + 1, 0, none⟩ (.slice none 0 0)).setCell ⟨w.heap.size + 1 + 1 + 1, 1, none⟩ (.slice none 0 0)).setCell ⟨w.heap.size + 1 + 1 + 1, 2, none⟩ (.slice none 0 0)).heap.size = w1.heap.size := by simp [World.setCell]
    have k0 := cell_of_row _ _ 0 _ _ _ hc
    have k1 := cell_of_row _ _ 1 _ _ _ hc
    have k2 := cell_of_row _ _ 2 _ _ _ hc
    simp only [List.getElem?_toArray, List.getElem?_cons_zero, List.getElem?_cons_succ] at k0 k1 k2
    generalize (((w1.setCell ⟨w.heap.size + 1 + 1 + 1, 0, none⟩ (.slice none 0 0)).setCell ⟨w.heap.size + 1 + 1 + 1, 1, none⟩ (.slice none 0 0)).setCell ⟨w.heap.size + 1 + 1 + 1, 2, none⟩ (.slice none 0 0)) = Wf at k0 k1 k2 hc hbf hof hsf ⊢
    refine bodyPost_ret (v := .tuple #[.agg #[.slice none 0 0, .slice none 0 0, .slice none 0 0], .int .i64 (2)]) (by simp [results, Tryd.results17, go_sem, k0, k1, k2]) rfl ?_
    exact ⟨emptyV, 2, rfl, hbf, fun h => absurd h (by decide), fun hk hm => (by rw [hno hk] at hm; cases hm), fun hk _ hm => (by rw [hno hk] at hm; cases hm)⟩
  · have hm := hr1.out (by simp)
    have HM := Lib.hid hm
    have hbw1 : Below w.heap.size w w1 := HB0.out.trans (hb1.mono HB0.out.size)
    clear hm hr1 hr2
    refine (HFree.out HM.out _ hbw1).mono ?_
    rintro e w2 ⟨rfl, hb2⟩
    have hB2 : Below W0.heap.size W0 w2 := hb1.trans (hb2.mono hb1.size)
    have hbw2 : Below w.heap.size w w2 := HB0.out.trans (hB2.mono HB0.out.size)
    clear a0 a1 a2 b0 b1 b2 c0 c1 d0 d1 d2 df dz
    obtain ⟨a0, a1, a2, b0, b1, b2, c0, c1, d0, d1, d2, df, dz⟩ := HSK.out _ hB2
    have JOIN : Hid (Calls Tryd.prog 29 #[.agg #[.slice x.sa x.sorts.length x.sc, .slice x.fa x.funs.length x.fc, .slice x.ma x.macs.length x.mc], .agg #[.slice ta tl tc, .slice ua ul uc, .slice va vl vc]] w2 (JoinP (SigK w x ∧ KK) o w2)) := HJo.out HM.out w2 hbw2
    by_cases hz : fr = 0
    · have hne := ne_false hz
      have HZ := Lib.hid hz
      clear hz
      go_wp2_with (go_at_call 29; refine JOIN.out.mono ?_; rintro e w3 ⟨z, rfl, hza, hzR, hzK, hb3⟩; have hB3 : Below W0.heap.size W0 w3 := hB2.trans (hb3.mono hB2.size); have HZA := Lib.hid hza; have HZR := Lib.hid hzR; have HZK := Lib.hid hzK; clear hza hzR hzK; clear a0 a1 a2 b0 b1 b2 c0 c1 d0 d1 d2 df dz; obtain ⟨d0, d1, d2, df, dz⟩ := HSR.out _ hB3)
      have hW4 : Below w3.heap.size w3 (w3.alloc (.cells #[.slice z.sa z.sorts.length z.sc, .slice z.fa z.funs.length z.fc, .slice z.ma z.macs.length z.mc] 26)) := (Below.refl _ _).alloc (Nat.le_refl _) _
      have hbw4 : Below w.heap.size w (w3.alloc (.cells #[.slice z.sa z.sorts.length z.sc, .slice z.fa z.funs.length z.fc, .slice z.ma z.macs.length z.mc] 26)) := (HB0.out.trans (hB3.mono HB0.out.size)).trans (hW4.mono (Nat.le_trans HB0.out.size hB3.size))
      have hP4 : (w3.alloc (.cells #[.slice z.sa z.sorts.length z.sc, .slice z.fa z.funs.length z.fc, .slice z.ma z.macs.length z.mc] 26)).heap[w3.heap.size]? = some (.cells #[.slice z.sa z.sorts.length z.sc, .slice z.fa z.funs.length z.fc, .slice z.ma z.macs.length z.mc] 26 (0, 0)) := heap_alloc_new w3 _
      have hs4 : (w3.alloc (.cells #[.slice z.sa z.sorts.length z.sc, .slice z.fa z.funs.length z.fc, .slice z.ma z.macs.length z.mc] 26)).heap.size = w3.heap.size + 1 := by simp
      have hzs : z.sorts.length = o.sorts.length := congrArg (fun q : SigA => q.sorts.length) HZA.out
      have HRest : Hid (∀ V, Below (w3.alloc (.cells #[.slice z.sa z.sorts.length z.sc, .slice z.fa z.funs.length z.fc, .slice z.ma z.macs.length z.mc] 26)).heap.size (w3.alloc (.cells #[.slice z.sa z.sorts.length z.sc, .slice z.fa z.funs.length z.fc, .slice z.ma z.macs.length z.mc] 26)) V → Calls Tryd.prog 30 #[.agg #[.slice z.sa z.sorts.length z.sc, .slice z.fa z.funs.length z.fc, .slice z.ma z.macs.length z.mc]] V (RestPost V z)) := fun V hV => mayRest_any z V (HG.out.below (hbw4.trans (hV.mono hbw4.size))) ((HZR.out.below hW4).below hV) (by rw [hzs]; exact HO.out HM.out)
      clear hzs
      refine (HRest.out _ (Below.refl _ _)).mono ?_
      rintro e w5 ⟨r5, rfl, h5a, h5b, hb5⟩
      have hn3 := hB3.size
      have hn5 := hb5.size
      have hB5 : Below W0.heap.size W0 w5 := (hB3.trans (hW4.mono hn3)).trans (hb5.mono (by omega))
      clear d0 d1 d2 df dz
      obtain ⟨d0, d1, d2, df, dz⟩ := HSR.out _ hB5
      have hP5 : w5.heap[w3.heap.size]? = some (.cells #[.slice z.sa z.sorts.length z.sc, .slice z.fa z.funs.length z.fc, .slice z.ma z.macs.length z.mc] 26 (0, 0)) := (hb5.block _ (by omega)).trans hP4
      have p0 := cell_of_row _ _ 0 _ _ _ hP5
      have p1 := cell_of_row _ _ 1 _ _ _ hP5
      have p2 := cell_of_row _ _ 2 _ _ _ hP5
      simp only [List.getElem?_toArray, List.getElem?_cons_zero, List.getElem?_cons_succ] at p0 p1 p2
      have hw5 : Below w3.heap.size w3 w5 := hW4.trans (hb5.mono (by omega))
      have h35 : w3.heap.size < w5.heap.size := by omega
      have H5 := Lib.hid (And.intro h5a h5b)
      have HKZ : Hid (SigK w x ∧ KK → SigK (w3.alloc (.cells #[.slice z.sa z.sorts.length z.sc, .slice z.fa z.funs.length z.fc, .slice z.ma z.macs.length z.mc] 26)) z) := fun hk => (HZK.out hk).below hW4
      have HP5 := Lib.hid hP5
      have HW5 := Lib.hid hw5
      clear h5a h5b hP4 hs4 hP5 hn5 hb5 hw5 hbw4
      cases r5 with
      | false =>
        have hno : SigK w x → KK → restA o = false := fun hk hk2 => by
          have := H5.out.2 (HKZ.out ⟨hk, hk2⟩)
          rw [HZA.out] at this
          first | exact this.symm | exact this
        go_wp2_with fail
        have hzc := HY0.out _ hB5
        have hc := set3 (v0 := .slice none 0 0) (v1 := .slice none 0 0) (v2 := .slice none 0 0) hzc
        have hbf := (((HB0.out.trans (hB5.mono HB0.out.size)).setCell (p := ⟨w.heap.size + 1 + 1 + 1, 0, none⟩) (by simp; omega) (.slice none 0 0)).setCell (p := ⟨w.heap.size + 1 + 1 + 1, 1, none⟩) (by simp; omega) (.slice none 0 0)).setCell (p := ⟨w.heap.size + 1 + 1 + 1, 2, none⟩) (by simp; omega) (.slice none 0 0)
        have hof : ∀ c, c ≠ w.heap.size + 1 + 1 + 1 → (((w5.setCell ⟨w.heap.size + 1 + 1 + 1, 0, none⟩ (.slice none 0 0)).setCell ⟨w.heap.size + 1 + 1 + 1, 1, none⟩ (.slice none 0 0)).setCell ⟨w.heap.size + 1 + 1 + 1, 2, none⟩ (.slice none 0 0)).heap[c]? = w5.heap[c]? := fun c hc => three_oth hc
        have hsf : (((w5.setCell ⟨w.heap.size + 1 + 1 + 1, 0, none⟩ (.slice none 0 0)).setCell ⟨w.heap.size + 1 + 1 + 1, 1, none⟩ (.slice none 0 0)).setCell ⟨w.heap.size + 1 + 1 + 1, 2, none⟩ (.slice none 0 0)).heap.size = w5.heap.size := by simp [World.setCell]
        have k0 := cell_of_row _ _ 0 _ _ _ hc
        have k1 := cell_of_row _ _ 1 _ _ _ hc
        have k2 := cell_of_row _ _ 2 _ _ _ hc
        simp only [List.getElem?_toArray, List.getElem?_cons_zero, List.getElem?_cons_succ] at k0 k1 k2
        generalize (((w5.setCell ⟨w.heap.size + 1 + 1 + 1, 0, none⟩ (.slice none 0 0)).setCell ⟨w.heap.size + 1 + 1 + 1, 1, none⟩ (.slice none 0 0)).setCell ⟨w.heap.size + 1 + 1 + 1, 2, none⟩ (.slice none 0 0)) = Wf at k0 k1 k2 hc hbf hof hsf ⊢
        refine bodyPost_ret (v := .tuple #[.agg #[.slice none 0 0, .slice none 0 0, .slice none 0 0], .int .i64 (2)]) (by simp [results, Tryd.results17, go_sem, k0, k1, k2]) rfl ?_
        exact ⟨emptyV, 2, rfl, hbf, fun h => absurd h (by decide), fun _ _ hf => absurd (HFR.out.trans HZ.out) hf, fun hk hk2 _ _ hr => (by rw [hno hk hk2] at hr; cases hr)⟩
      | true =>
        have hrest : restA o = true := by rw [← HZA.out]; exact H5.out.1 (by simp)
        have HREST := Lib.hid hrest
        have hfe : fitsA z.sorts.length z.funs.length z.macs.length = fitsA o.sorts.length o.funs.length o.macros.length := by rw [← HZA.out]; simp [SigV.a]
        clear hrest
        cases hf : fitsA z.sorts.length z.funs.length z.macs.length with
        | false =>
          have HFit : Hid (∀ V, Calls Tryd.prog 31 #[.agg #[.slice z.sa z.sorts.length z.sc, .slice z.fa z.funs.length z.fc, .slice z.ma z.macs.length z.mc]] V fun e w' => e = .returned (.bool false) ∧ Below V.heap.size V w') := fun V => sigfits_any z false V hf
          have hno : fitsA o.sorts.length o.funs.length o.macros.length = false := hfe.symm.trans hf
          have HNO := Lib.hid hno
          clear hf hfe hno
          go_wp2_with (go_at_call 31; refine (HFit.out _).mono ?_; rintro e w6 ⟨rfl, hb6⟩; have hB6 : Below W0.heap.size W0 w6 := hB5.trans (hb6.mono hB5.size); clear d0 d1 d2 df dz; obtain ⟨d0, d1, d2, df, dz⟩ := HSR.out _ hB6)
          have hzc := HY0.out _ hB6
          have hc := set3 (v0 := .slice none 0 0) (v1 := .slice none 0 0) (v2 := .slice none 0 0) hzc
          have hbf := (((HB0.out.trans (hB6.mono HB0.out.size)).setCell (p := ⟨w.heap.size + 1 + 1 + 1, 0, none⟩) (by simp; omega) (.slice none 0 0)).setCell (p := ⟨w.heap.size + 1 + 1 + 1, 1, none⟩) (by simp; omega) (.slice none 0 0)).setCell (p := ⟨w.heap.size + 1 + 1 + 1, 2, none⟩) (by simp; omega) (.slice none 0 0)
          have hof : ∀ c, c ≠ w.heap.size + 1 + 1 + 1 → (((w6.setCell ⟨w.heap.size + 1 + 1 + 1, 0, none⟩ (.slice none 0 0)).setCell ⟨w.heap.size + 1 + 1 + 1, 1, none⟩ (.slice none 0 0)).setCell ⟨w.heap.size + 1 + 1 + 1, 2, none⟩ (.slice none 0 0)).heap[c]? = w6.heap[c]? := fun c hc => three_oth hc
          have hsf : (((w6.setCell ⟨w.heap.size + 1 + 1 + 1, 0, none⟩ (.slice none 0 0)).setCell ⟨w.heap.size + 1 + 1 + 1, 1, none⟩ (.slice none 0 0)).setCell ⟨w.heap.size + 1 + 1 + 1, 2, none⟩ (.slice none 0 0)).heap.size = w6.heap.size := by simp [World.setCell]
          have k0 := cell_of_row _ _ 0 _ _ _ hc
          have k1 := cell_of_row _ _ 1 _ _ _ hc
          have k2 := cell_of_row _ _ 2 _ _ _ hc
          simp only [List.getElem?_toArray, List.getElem?_cons_zero, List.getElem?_cons_succ] at k0 k1 k2
          generalize (((w6.setCell ⟨w.heap.size + 1 + 1 + 1, 0, none⟩ (.slice none 0 0)).setCell ⟨w.heap.size + 1 + 1 + 1, 1, none⟩ (.slice none 0 0)).setCell ⟨w.heap.size + 1 + 1 + 1, 2, none⟩ (.slice none 0 0)) = Wf at k0 k1 k2 hc hbf hof hsf ⊢
          refine bodyPost_ret (v := .tuple #[.agg #[.slice none 0 0, .slice none 0 0, .slice none 0 0], .int .i64 (40)]) (by simp [results, Tryd.results17, go_sem, k0, k1, k2]) rfl ?_
          exact ⟨emptyV, 40, rfl, hbf, fun h => absurd h (by decide), fun _ _ hf => absurd (HFR.out.trans HZ.out) hf, fun _ _ _ _ _ hr => (by rw [HNO.out] at hr; cases hr)⟩
        | true =>
          have HFit : Hid (∀ V, Calls Tryd.prog 31 #[.agg #[.slice z.sa z.sorts.length z.sc, .slice z.fa z.funs.length z.fc, .slice z.ma z.macs.length z.mc]] V fun e w' => e = .returned (.bool true) ∧ Below V.heap.size V w') := fun V => sigfits_any z true V hf
          have hfo : fitsA o.sorts.length o.funs.length o.macros.length = true := hfe.symm.trans hf
          have hfew := few_of HZA.out HREST.out hfo HT.out
          have HAn : Hid (∀ V, Below w3.heap.size w3 V → Calls Tryd.prog 23 #[.agg #[.slice z.sa z.sorts.length z.sc, .slice z.fa z.funs.length z.fc, .slice z.ma z.macs.length z.mc]] V (SigPost V z.a)) := fun V hV => anew_any z V (HZR.out.below hV) hfew
          have HFO := Lib.hid hfo
          clear hf hfe hfo hfew
          go_wp2_with (first | (go_at_call 31; refine (HFit.out _).mono ?_; rintro e w6 ⟨rfl, hb6⟩; have hB6 : Below W0.heap.size W0 w6 := hB5.trans (hb6.mono hB5.size); clear d0 d1 d2 df dz; obtain ⟨d0, d1, d2, df, dz⟩ := HSR.out _ hB6; have q0 := (hb6.cell (p := ⟨w3.heap.size, 0, none⟩) h35).trans p0; have q1 := (hb6.cell (p := ⟨w3.heap.size, 1, none⟩) h35).trans p1; have q2 := (hb6.cell (p := ⟨w3.heap.size, 2, none⟩) h35).trans p2; clear p0 p1 p2) | (go_at_call 23; refine (HAn.out _ (HW5.out.trans (hb6.mono HW5.out.size))).mono ?_; rintro e w7 ⟨y, rfl, hya, hyR, hyK, hb7⟩; have hB7 : Below W0.heap.size W0 w7 := hB6.trans (hb7.mono hB6.size); have HYA := Lib.hid (And.intro hya (And.intro hyR hyK)); clear hya hyR hyK; clear d0 d1 d2 df dz q0 q1 q2; obtain ⟨d0, d1, d2, df, dz⟩ := HSR.out _ hB7))
          have hzc := HY0.out _ hB7
          have hc := set3 (v0 := .slice y.sa y.sorts.length y.sc) (v1 := .slice y.fa y.funs.length y.fc) (v2 := .slice y.ma y.macs.length y.mc) hzc
          have hbf := (((HB0.out.trans (hB7.mono HB0.out.size)).setCell (p := ⟨w.heap.size + 1 + 1 + 1, 0, none⟩) (by simp; omega) (.slice y.sa y.sorts.length y.sc)).setCell (p := ⟨w.heap.size + 1 + 1 + 1, 1, none⟩) (by simp; omega) (.slice y.fa y.funs.length y.fc)).setCell (p := ⟨w.heap.size + 1 + 1 + 1, 2, none⟩) (by simp; omega) (.slice y.ma y.macs.length y.mc)
          have hof : ∀ c, c ≠ w.heap.size + 1 + 1 + 1 → (((w7.setCell ⟨w.heap.size + 1 + 1 + 1, 0, none⟩ (.slice y.sa y.sorts.length y.sc)).setCell ⟨w.heap.size + 1 + 1 + 1, 1, none⟩ (.slice y.fa y.funs.length y.fc)).setCell ⟨w.heap.size + 1 + 1 + 1, 2, none⟩ (.slice y.ma y.macs.length y.mc)).heap[c]? = w7.heap[c]? := fun c hc => three_oth hc
          have hsf : (((w7.setCell ⟨w.heap.size + 1 + 1 + 1, 0, none⟩ (.slice y.sa y.sorts.length y.sc)).setCell ⟨w.heap.size + 1 + 1 + 1, 1, none⟩ (.slice y.fa y.funs.length y.fc)).setCell ⟨w.heap.size + 1 + 1 + 1, 2, none⟩ (.slice y.ma y.macs.length y.mc)).heap.size = w7.heap.size := by simp [World.setCell]
          have k0 := cell_of_row _ _ 0 _ _ _ hc
          have k1 := cell_of_row _ _ 1 _ _ _ hc
          have k2 := cell_of_row _ _ 2 _ _ _ hc
          simp only [List.getElem?_toArray, List.getElem?_cons_zero, List.getElem?_cons_succ] at k0 k1 k2
          generalize (((w7.setCell ⟨w.heap.size + 1 + 1 + 1, 0, none⟩ (.slice y.sa y.sorts.length y.sc)).setCell ⟨w.heap.size + 1 + 1 + 1, 1, none⟩ (.slice y.fa y.funs.length y.fc)).setCell ⟨w.heap.size + 1 + 1 + 1, 2, none⟩ (.slice y.ma y.macs.length y.mc)) = Wf at k0 k1 k2 hc hbf hof hsf ⊢
          refine bodyPost_ret (v := .tuple #[.agg #[.slice y.sa y.sorts.length y.sc, .slice y.fa y.funs.length y.fc, .slice y.ma y.macs.length y.mc], .int .i64 (0)]) (by simp [results, Tryd.results17, go_sem, k0, k1, k2]) rfl ?_
          have hyo := sig_off HYA.out.2.1 HYA.out.2.2 (slices_zero hzc) hof hsf
          exact ⟨y, 0, rfl, hbf, fun _ => ⟨HYA.out.1.trans HZA.out, hyo.1, hyo.2, HM.out, HFR.out.trans HZ.out, HREST.out, HFO.out⟩, fun _ _ hf => absurd (HFR.out.trans HZ.out) hf, fun _ _ _ _ _ _ => rfl⟩
    · have hne := ne_true hz
      have HZ := Lib.hid hz
      clear hz
      go_wp2_with (go_at_call 29; refine JOIN.out.mono ?_; rintro e w3 ⟨z, rfl, hza, hzR, hzK, hb3⟩; have hB3 : Below W0.heap.size W0 w3 := hB2.trans (hb3.mono hB2.size); clear hza hzR hzK; clear a0 a1 a2 b0 b1 b2 c0 c1 d0 d1 d2 df dz; obtain ⟨d0, d1, d2, df, dz⟩ := HSR.out _ hB3)
      have hzc := HY0.out _ hB3
      have hc := set3 (v0 := .slice none 0 0) (v1 := .slice none 0 0) (v2 := .slice none 0 0) hzc
      have hn3 := hB3.size
      have hbf := ((((HB0.out.trans (hB3.mono HB0.out.size)).setCell (p := ⟨w.heap.size + 1 + 1 + 1, 0, none⟩) (by simp; omega) (.slice none 0 0)).setCell (p := ⟨w.heap.size + 1 + 1 + 1, 1, none⟩) (by simp; omega) (.slice none 0 0)).setCell (p := ⟨w.heap.size + 1 + 1 + 1, 2, none⟩) (by simp; omega) (.slice none 0 0)).alloc (by simp [World.setCell]; omega) (.cells #[.slice z.sa z.sorts.length z.sc, .slice z.fa z.funs.length z.fc, .slice z.ma z.macs.length z.mc] 26)
      have hc : ((((w3.setCell ⟨w.heap.size + 1 + 1 + 1, 0, none⟩ (.slice none 0 0)).setCell ⟨w.heap.size + 1 + 1 + 1, 1, none⟩ (.slice none 0 0)).setCell ⟨w.heap.size + 1 + 1 + 1, 2, none⟩ (.slice none 0 0)).alloc (.cells #[.slice z.sa z.sorts.length z.sc, .slice z.fa z.funs.length z.fc, .slice z.ma z.macs.length z.mc] 26)).heap[w.heap.size + 1 + 1 + 1]? = _ := (Below.heap_alloc _ _ _ (by simp [World.setCell]; omega)).trans hc
      have k0 := cell_of_row _ _ 0 _ _ _ hc
      have k1 := cell_of_row _ _ 1 _ _ _ hc
      have k2 := cell_of_row _ _ 2 _ _ _ hc
      simp only [List.getElem?_toArray, List.getElem?_cons_zero, List.getElem?_cons_succ] at k0 k1 k2
      generalize (((w3.setCell ⟨w.heap.size + 1 + 1 + 1, 0, none⟩ (.slice none 0 0)).setCell ⟨w.heap.size + 1 + 1 + 1, 1, none⟩ (.slice none 0 0)).setCell ⟨w.heap.size + 1 + 1 + 1, 2, none⟩ (.slice none 0 0)).alloc (.cells #[.slice z.sa z.sorts.length z.sc, .slice z.fa z.funs.length z.fc, .slice z.ma z.macs.length z.mc] 26) = Wf at k0 k1 k2 hc hbf ⊢
      refine bodyPost_ret (v := .tuple #[.agg #[.slice none 0 0, .slice none 0 0, .slice none 0 0], .int .i64 (fr)]) (by simp [results, Tryd.results17, go_sem, k0, k1, k2]) rfl ?_
      exact ⟨emptyV, fr, rfl, hbf, fun h => absurd h HZ.out, fun _ _ _ => HFR.out.symm, fun _ _ _ h => absurd (HFR.out.symm.trans h) HZ.out⟩
end Go.Proofs.YthejmepiliiihaaDoor
