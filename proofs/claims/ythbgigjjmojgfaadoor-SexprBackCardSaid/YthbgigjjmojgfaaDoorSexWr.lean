/- The writer of package sexpr. -/
import Derived.Test.YthbgigjjmojgfaaDoorSexRs
import Derived.Lib.AppendStr
import Derived.Test.YthbgigjjmojgfaaDoorLexFacts4
namespace Go.Proofs.YthbgigjjmojgfaaDoor
open Go.RowKit
def bytC (l : List UInt8) : List Value := l.map fun b => Value.int .u8 b.toNat
theorem infoB : (Tryd.prog.info? 5).map (fun i => (i.zero, i.size, i.bytes)) = some (some (.int .u8 0), 1, 1) := by kernel_rfl
/-- The writer in block wb has written l; the blocks P are others'. -/
def WT (w : World) (n₀ wb : Nat) (P : Nat → Prop) (l : List UInt8) : Prop :=
  ∃ v, w.heap[wb]? = some (.cells #[v] 53 (0, 0)) ∧ w.ownsRow n₀ 5 1 v l.length (bytC l) ∧ n₀ ≤ wb ∧
    (∀ b, P b → b < w.heap.size ∧ b ≠ wb ∧ v.ownBlock ≠ some b ∧ (n₀ ≤ b → ∃ cs, w.heap[b]? = some (.cells cs 26 (0, 0)))) ∧ (∀ b, b < n₀ → P b)
/-- The blocks P are as they were. -/
def Kp (P : Nat → Prop) (w w' : World) : Prop := w'.os = w.os ∧ w'.tape = w.tape ∧ w'.output = w.output ∧ w.heap.size ≤ w'.heap.size ∧ ∀ b, P b → w'.heap[b]? = w.heap[b]?
theorem Kp.refl (P : Nat → Prop) (w : World) : Kp P w w := ⟨rfl, rfl, rfl, Nat.le_refl _, fun _ _ => rfl⟩
theorem Kp.trans {P : Nat → Prop} {a b c : World} (h : Kp P a b) (h' : Kp P b c) : Kp P a c := ⟨h'.1.trans h.1, h'.2.1.trans h.2.1, h'.2.2.1.trans h.2.2.1, Nat.le_trans h.2.2.2.1 h'.2.2.2.1, fun k hk => (h'.2.2.2.2 k hk).trans (h.2.2.2.2 k hk)⟩
theorem Kp.mono {P Q : Nat → Prop} {a b : World} (h : Kp P a b) (hq : ∀ k, Q k → P k) : Kp Q a b := ⟨h.1, h.2.1, h.2.2.1, h.2.2.2.1, fun k hk => h.2.2.2.2 k (hq k hk)⟩
theorem Kp.below {P : Nat → Prop} {a b : World} {n : Nat} (h : Kp P a b) (hp : ∀ k, k < n → P k) : Below n a b := ⟨h.1, h.2.1, h.2.2.1, h.2.2.2.1, fun k hk => h.2.2.2.2 k (hp k hk)⟩
theorem kp_below {P : Nat → Prop} {a b : World} {n : Nat} (h : Below n a b) (hp : ∀ k, P k → k < n) : Kp P a b := ⟨h.os, h.tape, h.output, h.size, fun k hk => h.block k (hp k hk)⟩
theorem WT.wblt {w : World} {n₀ wb : Nat} {P : Nat → Prop} {l : List UInt8} (h : WT w n₀ wb P l) : wb < w.heap.size := by
  obtain ⟨v, h1, _⟩ := h
  exact (Array.getElem?_eq_some_iff.1 h1).1
/-- Only new blocks were made. -/
theorem WT.grow {w w' : World} {n₀ wb : Nat} {P : Nat → Prop} {l : List UInt8} (h : WT w n₀ wb P l) (hb : Below w.heap.size w w') : WT w' n₀ wb P l := by
  obtain ⟨v, h1, h2, h3, h4, h5⟩ := h
  refine ⟨v, (hb.block _ (Array.getElem?_eq_some_iff.1 h1).1).trans h1, ownsRow_heap' h2 (fun g hg => hb.block g (h2.lt g hg).2), h3, fun b hp => ?_, h5⟩
  obtain ⟨q1, q2, q3, q4⟩ := h4 b hp
  exact ⟨Nat.lt_of_lt_of_le q1 hb.size, q2, q3, fun hn => by obtain ⟨cs, hc⟩ := q4 hn; exact ⟨cs, (hb.block b q1).trans hc⟩⟩
/-- A box is made, which is no writer's. -/
theorem WT.box {w w' : World} {n₀ wb : Nat} {P : Nat → Prop} {l : List UInt8} (h : WT w n₀ wb P l) (hb : Below w.heap.size w w') {cs : Array Value} (hx : w'.heap[w.heap.size]? = some (.cells cs 26 (0, 0))) :
    WT w' n₀ wb (fun b => P b ∨ b = w.heap.size) l := by
  have hw := h.wblt
  obtain ⟨v, h1, h2, h3, h4, h5⟩ := h.grow hb
  obtain ⟨v', g1, g2, _⟩ := h
  have hv : v' = v := by
    have := (hb.block _ hw).symm.trans h1
    rw [g1] at this
    simpa using this
  subst hv
  refine ⟨v', h1, h2, h3, fun b hp => ?_, fun b hb' => .inl (h5 b hb')⟩
  rcases hp with hp | rfl
  · exact h4 b hp
  · exact ⟨(Array.getElem?_eq_some_iff.1 hx).1, by omega, fun e => by have := (g2.lt _ e).2; omega, fun _ => ⟨cs, hx⟩⟩
/-- Fewer blocks are others'. -/
theorem WT.less {w : World} {n₀ wb : Nat} {P Q : Nat → Prop} {l : List UInt8} (h : WT w n₀ wb P l) (hq : ∀ b, Q b → P b) (h0 : ∀ b, b < n₀ → Q b) : WT w n₀ wb Q l := by
  obtain ⟨v, h1, h2, h3, h4, h5⟩ := h
  exact ⟨v, h1, h2, h3, fun b hb => h4 b (hq b hb), h0⟩
theorem own_slice {w : World} {b k n : Nat} {e : TypeId} {v : Value} {xs : List Value} (h : w.ownsRow b e k v n xs) : ∃ a cap, v = .slice a n cap := by
  rcases h.2 with ⟨rfl, h0⟩ | ⟨g, cap, cur, rfl, _⟩
  · exact ⟨none, 0, by rw [h0]⟩
  · exact ⟨_, cap, rfl⟩
theorem rb_set' {w : World} {b : Nat} {u v : Value} {t : TypeId} (h : w.heap[b]? = some (.cells #[u] t (0, 0))) : (w.setCell ⟨b, 0, none⟩ v).heap[b]? = some (.cells #[v] t (0, 0)) := heap_setCell_same w b 0 #[u] t v h
theorem add_any (n₀ wb : Nat) (P : Nat → Prop) (l : List UInt8) (s : ByteArray) (w : World) (h : WT w n₀ wb P l) (hn : n₀ ≤ w.heap.size) (hl : l.length + s.size ≤ 1000000) :
    Calls Tryd.prog 78 #[.pointer (some ⟨wb, 0, none⟩), .string s] w fun e w' => e = .returned (.tuple #[]) ∧ WT w' n₀ wb P (l ++ s.data.toList) ∧ Kp P w w' := by
  have hw := h.wblt
  obtain ⟨v, h1, h2, h3, h4, h5⟩ := h
  have c0 := cell_of_row _ _ 0 _ _ _ h1
  have cf := frozen_of_row w wb 0 _ _ h1
  simp only [List.getElem?_toArray, List.getElem?_cons_zero] at c0
  have H1 := Lib.hid h1
  have H2 := Lib.hid h2
  have H4 := Lib.hid h4
  have H5 := Lib.hid h5
  have hwne : v.ownBlock ≠ some wb := fun e => by
    rcases h2.2 with ⟨rfl, _⟩ | ⟨g, cap, cur, rfl, _, hh, _⟩
    · simp [Value.ownBlock] at e
    · simp only [Value.ownBlock, Option.some.injEq] at e
      subst e
      rw [h1] at hh
      simp at hh
  have HW := Lib.hid hwne
  have hrb : some wb ≠ v.ownBlock := fun e => hwne e.symm
  clear h1 h2 h4 h5 hwne
  have HL : Hid (l.length + s.size ≤ maxLen) := by show _ ≤ _; simp only [maxLen]; omega
  have HL2 : Hid (l.length + s.size ≤ 140737488355328) := by show _ ≤ _; omega
  clear hl
  obtain ⟨i0, hi, hz0, hz1, hz2⟩ := info_parts infoB
  go_enter Tryd.func78, Tryd.ntmps78
  go_wp2_with (at_builtin; refine Go.Lib.wpList_append_own_string _ rfl (.tmp 8) (.tmp 9) 51 9 rfl n₀ 5 i0 Tryd.underlying51 Tryd.underlying9 hi hz0 hz1 hz2 v l.length (bytC l) rfl H2.out s rfl HL.out HL2.out hn ?_; intro v' w2 hown2 hgrow2 hnil; clear hnil; obtain ⟨a2, cap2, hv'⟩ := own_slice hown2; subst hv'; have hb2 : w2.heap[wb]? = w.heap[wb]? := hgrow2.block wb hw hrb; have d0 := (World.cell?_of_block (a := ⟨wb, 0, none⟩) hb2).trans c0; have df := (World.frozen?_of_block (a := ⟨wb, 0, none⟩) hb2).trans cf; have Hb2 := Lib.hid hb2; have Hown2 := Lib.hid hown2; have Hgrow2 := Lib.hid hgrow2; clear hb2 hown2 hgrow2 c0 cf)
  go_wp2
  go_end0
  obtain ⟨v', hv'⟩ : ∃ v', v' = Value.slice a2 (l.length + s.size) cap2 := ⟨_, rfl⟩
  have Hown3 : Hid (w2.ownsRow n₀ 5 1 v' (l.length + s.size) (bytC l ++ Go.Lib.strCells s)) := by rw [hv']; exact Hown2.out
  rw [← hv']
  have hw2 : w2.heap[wb]? = some (.cells #[v] 53 (0, 0)) := Hb2.out.trans H1.out
  have h9 : (w2.setCell ⟨wb, 0, none⟩ v').heap[wb]? = some (.cells #[v'] 53 (0, 0)) := rb_set' hw2
  have hvw : v'.ownBlock ≠ some wb := fun e => by
    rcases Hown3.out.2 with ⟨rfl, _⟩ | ⟨g, cap, cur, rfl, _, hh, _⟩
    · simp [Value.ownBlock] at e
    · simp only [Value.ownBlock, Option.some.injEq] at e
      subst e
      rw [hw2] at hh
      simp at hh
  have hk : ∀ b, P b → (w2.setCell ⟨wb, 0, none⟩ v').heap[b]? = w.heap[b]? := fun b hb => by
    obtain ⟨q1, q2, q3, q4⟩ := H4.out b hb
    exact (Below.heap_setCell _ _ _ _ q2).trans (Hgrow2.out.block b q1 (fun e => q3 e.symm))
  have hsz := Hgrow2.out.size
  refine ⟨rfl, ⟨v', h9, ?_, h3, fun b hb => ?_, H5.out⟩, ⟨Hgrow2.out.os, Hgrow2.out.tape, Hgrow2.out.output, by simpa [World.setCell] using hsz, hk⟩⟩
  · have e1 : (l ++ s.data.toList).length = l.length + s.size := by simp
    have e2 : bytC (l ++ s.data.toList) = bytC l ++ Go.Lib.strCells s := by simp [bytC, Go.Lib.strCells]
    rw [e1, e2]
    exact ownsRow_heap' Hown3.out (fun g hg => Below.heap_setCell _ _ _ _ (fun e => hvw (hg.trans (congrArg some e))))
  · obtain ⟨q1, q2, q3, q4⟩ := H4.out b hb
    refine ⟨by simp [World.setCell]; omega, q2, fun e => ?_, fun hn' => by obtain ⟨cs, hc⟩ := q4 hn'; exact ⟨cs, (hk b hb).trans hc⟩⟩
    rcases Hown3.out.2 with ⟨rfl, _⟩ | ⟨g, cap, cur, rfl, hg0, hh, _⟩
    · simp [Value.ownBlock] at e
    · simp only [Value.ownBlock, Option.some.injEq] at e
      subst e
      obtain ⟨cs, hc⟩ := q4 hg0
      rw [Hgrow2.out.block _ q1 (fun e => q3 e.symm), hc] at hh
      simp at hh
mutual
/-- What a tree is written as, where it may be. -/
def textT : Tree → List UInt8
  | .node k t l => if k = 0 then quoteL t else if k = 1 then t else if k = 2 then 58 :: t else 40 :: (textL true l ++ [41])
def textL : Bool → List Tree → List UInt8
  | _, [] => []
  | first, t :: r => (if first = true then [] else [32]) ++ textT t ++ textL false r
end
theorem long_any (n₀ wb : Nat) (P : Nat → Prop) (l : List UInt8) (b : Bool) (w : World) (h : WT w n₀ wb P l) (hb : decide (8192 < l.length) = b) :
    Calls Tryd.prog 31 #[.pointer (some ⟨wb, 0, none⟩)] w fun e w' => e = .returned (.bool b) ∧ w = w' := by
  have hw := h.wblt
  obtain ⟨v, h1, h2, h3, h4, h5⟩ := h
  obtain ⟨a, cap, rfl⟩ := own_slice h2
  have c0 := cell_of_row _ _ 0 _ _ _ h1
  simp only [List.getElem?_toArray, List.getElem?_cons_zero] at c0
  have HB : Hid (decide ((l.length : Int) > 8192) = b) := by show _ = _; rw [← hb]; congr 1; exact propext ⟨fun h => by omega, fun h => by omega⟩
  clear h1 h2 h3 h4 h5 hb
  go_enter Tryd.func31, Tryd.ntmps31
  go_wp2
  go_ret
  exact ⟨ret_bool (by have := HB.out; simpa using this), rfl⟩
def writersV : Value := .agg #[.func (.func 62) #[] #[], .func (.func 63) #[] #[], .func (.func 64) #[] #[], .func (.func 65) #[] #[]]
theorem writers_any (w : World) :
    Calls Tryd.prog 46 #[] w fun e w' => e = .returned (writersV) ∧ Below w.heap.size w w' := by
  go_enter Tryd.func46, Tryd.ntmps46
  go_wp2
  exact bodyPost_ret (v := writersV) (by simp [results, Tryd.results46, go_sem, writersV]) rfl ⟨rfl, (Below.refl _ _).alloc (Nat.le_refl _) _⟩
theorem writers_at_0 (w : World) : (Instr.index 74 writersV (.int .i8 0)).run Tryd.prog w = .ok (.func (.func 62) #[] #[]) w := by kernel_rfl
theorem writers_at_1 (w : World) : (Instr.index 74 writersV (.int .i8 1)).run Tryd.prog w = .ok (.func (.func 63) #[] #[]) w := by kernel_rfl
theorem writers_at_2 (w : World) : (Instr.index 74 writersV (.int .i8 2)).run Tryd.prog w = .ok (.func (.func 64) #[] #[]) w := by kernel_rfl
theorem writers_at_3 (w : World) : (Instr.index 74 writersV (.int .i8 3)).run Tryd.prog w = .ok (.func (.func 65) #[] #[]) w := by kernel_rfl
end Go.Proofs.YthbgigjjmojgfaaDoor
