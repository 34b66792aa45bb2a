/- The method put of package sexpr's reader. -/
import Derived.Test.YthbgigjjmojgfaaDoorSexTake
import Derived.Deep.RegionLaw
import Derived.Maps.AppendAt
import Derived.RangeFuncBox
import Derived.Deep.AppendLies
namespace Go.Proofs.YthbgigjjmojgfaaDoor
open Go.RowKit
/-- append to a row of one's own, as one step of a region that draws. -/
theorem step_append_own {P : Program} {ops : Array Oper} {o : Oper} {a : Act} {w : World} {K : Act → World → Prop} {Q : Exit → Act → World → Prop} {E : Prop}
    (hg : o.guard = none) (s x : Operand) (t : TypeId) (hop : o.op = Op.call { callee := Callee.builtin Builtin.append, args := #[s, x], argTypes := #[t, t] })
    (base : Nat) (e : TypeId) (i : TypeInfo) (z : Value) (size bytes : Nat) (ht : P.underlying t = some (.slice e)) (hi : P.info? e = some i) (hz : i.zero = some z)
    (hsize : i.size = size) (hby : i.bytes = bytes) (hzs : z.cells.size = size) (hsz : 0 < size)
    (v : Value) (n : Nat) (xs : List Value) (hs : a.eval s = v) (hown : w.ownsRow base e size v n xs)
    (ad : Addr) (m c : Nat) (news : List Value) (hx : a.eval x = .slice (some ad) m c) (hl : news.length = m * size) (hnews : ∀ j u, news[j]? = some u → w.cell? (ad.add j) = some u) (h1 : ∀ u ∈ news, u.oneCell' = true)
    (h63 : n + m ≤ maxLen) (hbytes : (n + m) * bytes ≤ 140737488355328) (hbase : base ≤ w.heap.size)
    (hK : ∀ v' w', w'.ownsRow base e size v' (n + m) (xs ++ news) → w.grownBy w' v.ownBlock → (v'.ownBlock = v.ownBlock ∨ v'.ownBlock = some w.heap.size) → K (a.put o.dst v') w') :
    if Region.wanted o (yielded ops a.tmps) = true then Oper.wp P o a w K Q else E := by
  have hw : Region.wanted o (yielded ops a.tmps) = true := by simp [Region.wanted, hg]
  rw [if_pos hw]
  obtain ⟨v', w', hrun, h2, h3, _, h5⟩ := run_append_own_at (P := P) w base t o.type e i z size bytes ht hi hz hsize hby hzs hsz v n xs hown ad m c news hl hnews h1 h63 hbytes hbase
  unfold Oper.wp
  simp [execOp, hop, resolve, invoke, builtin, hs, hx, hrun, Result.andThen]
  exact hK v' w' h2 h3 h5
theorem infoSx : (Tryd.prog.info? 26).map (fun i => (i.zero, i.size, i.bytes)) = some (some (.agg #[.int .i8 0, .string ⟨#[]⟩, .slice none 0 0]), 3, 48) := by kernel_rfl
def putS (st : List (List Tree)) (t : Tree) : RS :=
  match st with
  | [] => .fin t
  | l :: r => .run ((l ++ [t]) :: r)
theorem put_deep (n₀ rb n : Nat) (k : Int) (s : ByteArray) (a : Option Addr) (m c : Nat) (w : World) (h : RM w n₀ rb (.deep n)) :
    Calls Tryd.prog 42 #[.pointer (some ⟨rb, 0, none⟩), .agg #[.int .i8 k, .string s, .slice a m c]] w fun e w' => e = .returned (.tuple #[]) ∧ RM w' n₀ rb (.deep n) ∧ Below w.heap.size w w' := by
  have HR := Lib.hid h
  obtain ⟨cur, hr⟩ := h
  obtain ⟨c60, c61, cf⟩ := hr.facts
  have hlt : rb < w.heap.size := hr.rblt
  clear hr
  go_enter Tryd.func42, Tryd.ntmps42
  go_wp2
  go_end0
  have hb : Below w.heap.size w (w.alloc (.cells #[.int .i8 k, .string s, .slice a m c] 26)) := (Below.refl _ _).alloc (Nat.le_refl _) _
  exact ⟨rfl, HR.out.keep hb, hb⟩
theorem put_nil (n₀ rb M : Nat) (t : Tree) (v : Value) (w : World) (h : RXb M w n₀ rb [] t v) :
    Calls Tryd.prog 42 #[.pointer (some ⟨rb, 0, none⟩), v] w fun e w' => e = .returned (.tuple #[]) ∧ RM w' n₀ rb (.fin t) ∧ Below n₀ w w' ∧ ∀ b, M ≤ b → b < w.heap.size → w'.heap[b]? = w.heap[b]? := by
  obtain ⟨K, cur, vs, hr, hrd, _, _, hrM⟩ := h
  have HrM := Lib.hid hrM
  clear hrM
  obtain ⟨a, cap, rfl, hl, hc, hs, hk⟩ := hrd.parts
  obtain ⟨c60, c61, cf⟩ := hr.toRBase.facts
  have hlt : rb < w.heap.size := hr.toRBase.rblt
  have hsz := hr.size
  have c62 : w.cell? ⟨rb, 62, none⟩ = _ := (cell_of_row w rb 62 cur _ _ hr.heap).trans (Array.getElem?_eq_getElem (by omega))
  have c63 : w.cell? ⟨rb, 63, none⟩ = _ := (cell_of_row w rb 63 cur _ _ hr.heap).trans (Array.getElem?_eq_getElem (by omega))
  have c64 : w.cell? ⟨rb, 64, none⟩ = _ := (cell_of_row w rb 64 cur _ _ hr.heap).trans (Array.getElem?_eq_getElem (by omega))
  have HR := Lib.hid hr
  have HRd := Lib.hid hrd
  have Hsz := Lib.hid hsz
  simp only [List.length_nil] at c60
  have c60' : w.cell? ⟨rb, 60, none⟩ = some (.int .i64 0) := c60
  obtain ⟨u62, hu62⟩ : ∃ u, u = cur[62] := ⟨_, rfl⟩
  obtain ⟨u63, hu63⟩ : ∃ u, u = cur[63] := ⟨_, rfl⟩
  obtain ⟨u64, hu64⟩ : ∃ u, u = cur[64] := ⟨_, rfl⟩
  rw [← hu62] at c62
  rw [← hu63] at c63
  rw [← hu64] at c64
  clear hr hrd c60 hu62 hu63 hu64 hsz hl hc hs hk
  go_enter Tryd.func42, Tryd.ntmps42
  go_wp2
  go_end0
  have hn := HR.out.n0
  obtain ⟨w3, hw3⟩ : ∃ w3, w3 = (((w.setCell ⟨rb, 62, none⟩ (.int .i8 t.kind)).setCell ⟨rb, 63, none⟩ (.string (bytesL t.text))).setCell ⟨rb, 64, none⟩ (.slice a t.kids.length cap)).alloc (.cells #[.int .i8 t.kind, .string (bytesL t.text), .slice a t.kids.length cap] 26) := ⟨_, rfl⟩
  have hh : w3.heap[rb]? = some (.cells (((cur.setIfInBounds 62 (.int .i8 t.kind)).setIfInBounds 63 (.string (bytesL t.text))).setIfInBounds 64 (.slice a t.kids.length cap)) 45 (0, 0)) := by
    rw [hw3]
    exact (Below.heap_alloc _ _ _ (by simp [World.setCell]; omega)).trans (rb_set (i := 64) (v := .slice a t.kids.length cap) (rb_set (i := 63) (v := .string (bytesL t.text)) (rb_set (i := 62) (v := .int .i8 t.kind) HR.out.heap)))
  have hk : ∀ b, b < w.heap.size → b ≠ rb → w3.heap[b]? = w.heap[b]? := fun b hlt' hne => by
    rw [hw3]
    exact (Below.heap_alloc _ _ _ (by simp [World.setCell]; omega)).trans (((Below.heap_setCell _ _ _ _ hne).trans (Below.heap_setCell _ _ _ _ hne)).trans (Below.heap_setCell _ _ _ _ hne))
  have hs3 : w.heap.size ≤ w3.heap.size := by rw [hw3]; simp [World.setCell]
  have hbel : Below n₀ w w3 := by
    rw [hw3]
    exact (below_rb (below_rb (below_rb (Below.refl _ _) hn) hn) hn).alloc (by simp [World.setCell]; omega) _
  rw [← hw3]
  have hz := Hsz.out
  refine ⟨rfl, ⟨K, _, .int .i8 t.kind, .string (bytesL t.text), .slice a t.kids.length cap, ⟨hh, by simp [hz], ?_, ?_, hn⟩, HR.out.k.keep hs3 (fun b hb => hk b (HR.out.k.low b hb).2 (fun e => HR.out.k.rb (e ▸ hb))), ?_, ?_, ?_, ?_⟩, hbel, fun b h1 h2 => hk b h2 (by have := HrM.out; omega)⟩
  · rw [Array.getElem?_setIfInBounds_ne (by omega), Array.getElem?_setIfInBounds_ne (by omega), Array.getElem?_setIfInBounds_ne (by omega)]; exact HR.out.dep
  · rw [Array.getElem?_setIfInBounds_ne (by omega), Array.getElem?_setIfInBounds_ne (by omega), Array.getElem?_setIfInBounds_ne (by omega)]; exact HR.out.deep
  · rw [Array.getElem?_setIfInBounds_ne (by omega), Array.getElem?_setIfInBounds_ne (by omega), Array.getElem?_setIfInBounds_self_of_lt (by omega)]
  · rw [Array.getElem?_setIfInBounds_ne (by omega), Array.getElem?_setIfInBounds_self_of_lt (by simp; omega)]
  · rw [Array.getElem?_setIfInBounds_self_of_lt (by simp; omega)]
  · exact Rd.keep (fun b hb hlt' => hk b hlt' (fun e => hb (e ▸ HR.out.k.rb))) t _ HRd.out
theorem put_ne {w1 : World} {rb : Nat} {o : Obj} {a : Option Nat} {g2 : Nat} {v : Value} (h : v.ownBlock = a ∨ v.ownBlock = some (w1.alloc o).heap.size) (hrb : rb < w1.heap.size) (hob : some rb ≠ a) (hv : v.ownBlock = some g2 := by rfl) : ¬ g2 = rb := by
  intro e
  subst e
  rw [hv] at h
  rcases h with h | h
  · exact hob h
  · simp at h; omega
/-- What the walk is told of the row behind the append. -/
theorem put_facts {w1 w2 : World} {n₀ rb d g2 cap2 n : Nat} {xs : List Value} {u : Value} {o : Obj} {ob : Option Nat} (hown : w2.ownsRow n₀ 26 3 (.slice (some ⟨g2, 0, none⟩) (n + 1) cap2) (n + 1) (xs ++ [.int .i8 0, .string ⟨#[]⟩, .slice none 0 0])) (hx : xs.length = n * 3)
    (hgrow : (w1.alloc o).grownBy w2 ob) (hrb : rb < w1.heap.size) (hob : some rb ≠ ob) (hr : w1.cell? ⟨rb, d, none⟩ = some u) (hf : w1.frozen? ⟨rb, d, none⟩ = false) :
    w2.cell? ⟨g2, n * 3, none⟩ = some (.int .i8 0) ∧ w2.cell? ⟨g2, n * 3 + 1, none⟩ = some (.string ⟨#[]⟩) ∧ w2.cell? ⟨g2, n * 3 + 2, none⟩ = some (.slice none 0 0) ∧ (∀ i, w2.frozen? ⟨g2, i, none⟩ = false) ∧ w2.cell? ⟨rb, d, none⟩ = some u ∧ w2.frozen? ⟨rb, d, none⟩ = false := by
  have h0 := hown.cellAt (n * 3) (by omega)
  have h1 := hown.cellAt (n * 3 + 1) (by omega)
  have h2 := hown.cellAt (n * 3 + 2) (by omega)
  rw [List.getElem?_append_right (by omega), hx] at h0 h1 h2
  have hk : w2.heap[rb]? = w1.heap[rb]? := (hgrow.block rb (by simp; omega) hob).trans (Below.heap_alloc _ _ _ hrb)
  refine ⟨by simpa using h0, by rw [h1]; simp, by rw [h2]; simp, fun i => hown.frozenAt i, (World.cell?_of_block (a := ⟨rb, d, none⟩) hk).trans hr, (World.frozen?_of_block (a := ⟨rb, d, none⟩) hk).trans hf⟩
theorem put_row {w2 : World} {n₀ g2 cap2 n : Nat} {xs : List Value} {z0 z1 z2 k s sl : Value} (hown : w2.ownsRow n₀ 26 3 (.slice (some ⟨g2, 0, none⟩) (n + 1) cap2) (n + 1) (xs ++ [z0, z1, z2])) (hx : xs.length = n * 3) :
    (((w2.setCell ⟨g2, n * 3, none⟩ k).setCell ⟨g2, n * 3 + 1, none⟩ s).setCell ⟨g2, n * 3 + 2, none⟩ sl).ownsRow n₀ 26 3 (.slice (some ⟨g2, 0, none⟩) (n + 1) cap2) (n + 1) (xs ++ [k, s, sl]) := by
  have h1 := (hown.stored (n * 3) k).1
  have h2 := (h1.stored (n * 3 + 1) s).1
  have h3 := (h2.stored (n * 3 + 2) sl).1
  have e : (((xs ++ [z0, z1, z2]).set (n * 3) k).set (n * 3 + 1) s).set (n * 3 + 2) sl = xs ++ [k, s, sl] := by
    rw [← hx, List.set_append_right _ _ (Nat.le_refl _), List.set_append_right _ _ (by omega), List.set_append_right _ _ (by omega)]
    simp
  rw [e] at h3
  exact h3
theorem put_fin {w w1 w2 wz : World} {n₀ rb g2 cap2 : Nat} {K : Nat → Prop} {l : List Tree} {st : List (List Tree)} {t : Tree} {cur : Array Value} {vs vs' : List Value} {xs : List Value} {ov k s sl : Value}
    (HR : RRun w n₀ rb K (l :: st) cur vs) (HRd : Rd w (fun b => ¬ K b) t (.agg #[k, s, sl])) (Hels : Els w (fun b => ¬ K b) l xs) (Hst : StkM w n₀ rb K cur st vs')
    (Hg : ∀ g, ov.ownBlock = some g → g ≠ rb ∧ ¬ K g ∧ ∀ v' ∈ vs', v'.ownBlock ≠ some g) (Hb1 : Below w.heap.size w w1) {o : Obj} (hgrow : (w1.alloc o).grownBy w2 ov.ownBlock)
    (hsame : ov.ownBlock = some g2 ∨ g2 = w1.heap.size + 1) (hg2 : ¬ g2 = rb)
    (hA : wz.ownsRow n₀ 26 3 (.slice (some ⟨g2, 0, none⟩) (l.length + 1) cap2) (l.length + 1) (xs ++ [k, s, sl]))
    (hB : w2.heap[rb]? = some (.cells cur 45 (0, 0)) → wz.heap[rb]? = some (.cells (cur.setIfInBounds st.length (.slice (some ⟨g2, 0, none⟩) (l.length + 1) cap2)) 45 (0, 0)))
    (hC : ∀ b, b ≠ rb → b ≠ g2 → wz.heap[b]? = w2.heap[b]?) (ho : wz.os = w2.os) (ht : wz.tape = w2.tape) (hu : wz.output = w2.output) (hs : wz.heap.size = w2.heap.size) (hn : n₀ ≤ w.heap.size) (hog : ∀ g, ov.ownBlock = some g → n₀ ≤ g) :
    RM wz n₀ rb (.run ((l ++ [t]) :: st)) ∧ Below n₀ w wz ∧ ∀ b, b < w.heap.size → b ≠ rb → some b ≠ ov.ownBlock → wz.heap[b]? = w.heap[b]? := by
  have hrb := HR.toRBase.rblt
  have hs1 := Hb1.size
  have hs2 := hgrow.size
  simp only [World.size_alloc] at hs2
  have hsz := HR.size
  have hfew := HR.few
  simp only [List.length_cons] at hfew
  have hold : ∀ b, b < w.heap.size → some b ≠ ov.ownBlock → w2.heap[b]? = w.heap[b]? := fun b hb hne => by
    rw [hgrow.block b (by simp; omega) hne, Below.heap_alloc _ _ _ (by omega), Hb1.block b hb]
  have hrbo : some rb ≠ ov.ownBlock := fun e => (Hg rb e.symm).1 rfl
  have hkeep : ∀ b, b < w.heap.size → b ≠ rb → some b ≠ ov.ownBlock → wz.heap[b]? = w.heap[b]? := fun b hb h1 h2 => by
    rw [hC b h1 (fun e => by
      subst e
      rcases hsame with h | h
      · exact h2 h.symm
      · omega)]
    exact hold b hb h2
  have hKo : ∀ b, K b → some b ≠ ov.ownBlock := fun b hb e => (Hg b e.symm).2.1 hb
  have hKk : ∀ b, K b → wz.heap[b]? = w.heap[b]? := fun b hb => hkeep b (HR.k.low b hb).2 (fun e => HR.k.rb (e ▸ hb)) (hKo b hb)
  have hsw : w.heap.size ≤ wz.heap.size := by omega
  refine ⟨⟨K, _, .slice (some ⟨g2, 0, none⟩) (l.length + 1) cap2 :: vs', ⟨⟨hB ((hold rb hrb hrbo).trans HR.heap), by simp [hsz], ?_, ?_, HR.n0⟩, by simp; omega, HR.k.keep hsw hKk, .slice (some ⟨g2, 0, none⟩) (l.length + 1) cap2, vs', rfl, ?_, ?_, ?_, ?_⟩⟩, ?_, hkeep⟩
  · rw [Array.getElem?_setIfInBounds_ne (by omega)]; have := HR.dep; simpa using this
  · rw [Array.getElem?_setIfInBounds_ne (by omega)]; exact HR.deep
  · rw [Array.getElem?_setIfInBounds_self_of_lt (by omega)]
  · refine ⟨xs ++ [k, s, sl], by simpa using hA, Els.snoc l xs t k s sl (Els.keep (fun b hb _ => hKk b (Classical.not_not.1 hb)) l xs Hels) (Rd.keep (fun b hb _ => hKk b (Classical.not_not.1 hb)) t _ HRd)⟩
  · intro g hgg
    simp only [Value.ownBlock, Option.some.injEq] at hgg
    subst hgg
    refine ⟨hg2, ?_, fun v' hv' e => ?_⟩
    · rcases hsame with h | h
      · exact (Hg _ h).2.1
      · intro hk; have := (HR.k.low _ hk).2; omega
    · rcases hsame with h | h
      · exact (Hg _ h).2.2 v' hv' e
      · have := (StkM.lt st vs' Hst v' hv' _ e).2.1; omega
  · refine StkM.keep st vs' (fun b hb => ?_) (fun i hi => by rw [Array.getElem?_setIfInBounds_ne (by omega)]) Hst
    rcases hb with hb | ⟨v', hv', hb⟩
    · exact hKk b hb
    · have h1 := StkM.lt st vs' Hst v' hv' b hb
      exact hkeep b h1.2.1 h1.2.2.1 (fun e => (Hg b e.symm).2.2 v' hv' hb)
  · have hg2n : n₀ ≤ g2 := by
      rcases hsame with h | h
      · exact hog g2 h
      · omega
    refine ⟨ho.trans (hgrow.os.trans Hb1.os), ht.trans (hgrow.tape.trans Hb1.tape), hu.trans (hgrow.output.trans Hb1.output), hsw, fun b hb => hkeep b (by omega) (by have := HR.n0; omega) (fun e => ?_)⟩
    have := hog b e.symm
    omega
set_option maxHeartbeats 2000000 in
theorem put_cons (n₀ rb M : Nat) (l : List Tree) (st : List (List Tree)) (t : Tree) (v : Value) (w : World) (h : RXb M w n₀ rb (l :: st) t v) (hll : l.length ≤ 1000000) :
    Calls Tryd.prog 42 #[.pointer (some ⟨rb, 0, none⟩), v] w fun e w' => e = .returned (.tuple #[]) ∧ RM w' n₀ rb (.run ((l ++ [t]) :: st)) ∧ Below n₀ w w' ∧ ∀ b, M ≤ b → b < w.heap.size → w'.heap[b]? = w.heap[b]? := by
  obtain ⟨K, cur, vs, hr, hrd, _, hvM, hrM⟩ := h
  obtain ⟨a, cap, rfl, hl, hc, hs, hk⟩ := hrd.parts
  obtain ⟨c60, c61, cf⟩ := hr.toRBase.facts
  have hlt : rb < w.heap.size := hr.toRBase.rblt
  obtain ⟨v, vs', hvs, hcv, hop, hg, hst⟩ := hr.stk
  obtain ⟨xs, hrow, hels⟩ := hop
  obtain ⟨la, lcap, rfl, hlc, hcm⟩ := OpenL.form ⟨xs, hrow, hels⟩
  have HvM : Hid (∀ b, M ≤ b → b ≠ rb ∧ some b ≠ (Value.slice la l.length lcap).ownBlock) := fun b hb => ⟨by omega, fun e => by have := hvM _ (by rw [hvs]; simp) b e.symm; omega⟩
  clear hvM hrM
  have hcell : w.cell? ⟨rb, st.length, none⟩ = some (.slice la l.length lcap) := (cell_of_row w rb st.length cur _ _ hr.heap).trans hcv
  have hfew := hr.few
  simp only [List.length_cons] at hfew c60
  obtain ⟨d, hdd⟩ : ∃ d, d = st.length := ⟨_, rfl⟩
  rw [← hdd] at c60 hcell hfew hcv
  have Hdd := Lib.hid hdd
  have HR := Lib.hid hr
  have HRd := Lib.hid hrd
  have Hrow := Lib.hid hrow
  have Hels := Lib.hid hels
  have Hg := Lib.hid hg
  have Hst := Lib.hid hst
  have Hcv := Lib.hid hcv
  have Hvs := Lib.hid hvs
  have Hl := Lib.hid (And.intro hl (And.intro hc hs))
  have hn0 : n₀ ≤ rb := hr.n0
  have e1 := eq_false (x := (d : Int) + 1) (y := 0) (by omega)
  clear hr hrd hrow hels hg hst hcv hvs hl hc hs hk hdd
  go_enter Tryd.func42, Tryd.ntmps42
  go_wp2
  go_quiet (fail)
  go_wp2
  obtain ⟨i0, hi, hz0, hz1, hz2⟩ := info_parts infoSx
  obtain ⟨w1, hw1⟩ : ∃ w1, w1 = (w.alloc (.cells #[.int .i8 t.kind, .string (bytesL t.text), .slice a t.kids.length cap] 26)).drewN nq := ⟨_, rfl⟩
  rw [← hw1]
  have hb1 : Below w.heap.size w w1 := by
    rw [hw1]
    have h := (Below.refl w.heap.size w).alloc (Nat.le_refl _) (.cells #[.int .i8 t.kind, .string (bytesL t.text), .slice a t.kids.length cap] 26)
    exact ⟨h.os, h.tape, h.output, h.size, h.block⟩
  have hx1 : w1.heap[w.heap.size]? = some (.cells #[.int .i8 t.kind, .string (bytesL t.text), .slice a t.kids.length cap] 26 (0, 0)) := by rw [hw1]; exact heap_alloc_new w _
  have hs1 : w1.heap.size = w.heap.size + 1 := by rw [hw1]; simp
  have hrow1 := ownsRow_heap' Hrow.out (w' := w1) (fun g hgb => hb1.block g (Hrow.out.lt g hgb).2)
  have Hrow1 := Lib.hid hrow1
  obtain ⟨z, hz⟩ : ∃ z, z = w.heap.size := ⟨_, rfl⟩
  rw [← hz] at hx1
  have x0 := cell_of_row _ _ 0 _ _ _ hx1
  have x1 := cell_of_row _ _ 1 _ _ _ hx1
  have x2 := cell_of_row _ _ 2 _ _ _ hx1
  simp only [List.getElem?_toArray, List.getElem?_cons_zero, List.getElem?_cons_succ] at x0 x1 x2
  have r1 := (hb1.cell (p := ⟨rb, d, none⟩) hlt).trans hcell
  have rf1 : w1.frozen? ⟨rb, d, none⟩ = false := (hb1.frozen (p := ⟨rb, d, none⟩) hlt).trans (cf d)
  rw [← hz]
  have Hb1 := Lib.hid hb1
  have Hx1 := Lib.hid hx1
  have Hs1 := Lib.hid hs1
  have Hz := Lib.hid hz
  have hzl : z < w1.heap.size := by omega
  have hrl : rb < w1.heap.size := by omega
  have hn1 : n₀ ≤ w1.heap.size := by omega
  clear hb1 hx1 hs1 hrow1 hw1 hcell c60 c61 e1 hz
  have hil : (l.length : Int) < (l.length : Int) + 1 := by omega
  have hob : some rb ≠ (Value.slice la l.length lcap).ownBlock := fun e => (Hg.out rb e.symm).1 rfl
  have Hxl := Lib.hid Hrow1.out.1
  go_region_law (refine step_append_own rfl (.tmp 16) (.tmp 19) 24 rfl n₀ 26 i0 _ 3 48 Tryd.underlying24 hi hz0 hz1 hz2 rfl (by decide) _ l.length xs rfl (Hrow1.out.alloc _) ⟨w1.heap.size, 0, none⟩ 1 1 [.int .i8 0, .string ⟨#[]⟩, .slice none 0 0] rfl rfl (World.news_of_block (cs := #[.int .i8 0, .string ⟨#[]⟩, .slice none 0 0]) (t := 26) (fr := (0, 0)) (heap_alloc_new w1 _)) (by simp [Value.oneCell']) (by unfold maxLen; omega) (by omega) (by simp; omega) ?_; intro v' w2 hown2 hgrow2 hsame2; obtain ⟨g2, cap2, rfl⟩ := ownsRow_succ hown2; have P := put_facts (n := l.length) (w1 := w1.drew) hown2 Hxl.out hgrow2 hrl hob r1 rf1; obtain ⟨p0, p1, p2, p3, p4, p5⟩ := P; have hg2 : ¬ g2 = rb := put_ne hsame2 hrl hob; have hg2' : ¬ rb = g2 := fun e => hg2 e.symm; have Hown2 := Lib.hid hown2; have Hgrow2 := Lib.hid hgrow2; have Hsame2 := Lib.hid hsame2; clear hown2 hgrow2 hsame2)
  all_goals
    go_wp2
    go_end0
    have hd2 := Hdd.out
    have hsm : (Value.slice la l.length lcap).ownBlock = some g2 ∨ g2 = w1.heap.size + 1 := by
      rcases Hsame2.out with h | h
      · exact .inl (h.symm.trans rfl)
      · exact .inr (by simpa [Value.ownBlock] using h)
    have hgr : (w1.alloc (.cells #[.int .i8 0, .string ⟨#[]⟩, .slice none 0 0] 26)).grownBy w2 (Value.slice la l.length lcap).ownBlock := ⟨Hgrow2.out.os, Hgrow2.out.tape, Hgrow2.out.output, by have := Hgrow2.out.size; simpa using this, fun k hk hne => (Hgrow2.out.block k (by simpa using hk) hne)⟩
    refine ⟨rfl, ?_⟩
    have HF : ∀ wz, RM wz n₀ rb (.run ((l ++ [t]) :: st)) ∧ Below n₀ w wz ∧ (∀ b, b < w.heap.size → b ≠ rb → some b ≠ (Value.slice la l.length lcap).ownBlock → wz.heap[b]? = w.heap[b]?) → RM wz n₀ rb (.run ((l ++ [t]) :: st)) ∧ Below n₀ w wz ∧ ∀ b, M ≤ b → b < w.heap.size → wz.heap[b]? = w.heap[b]? := fun wz h => ⟨h.1, h.2.1, fun b h1 h2 => h.2.2 b h2 (HvM.out b h1).1 (HvM.out b h1).2⟩
    refine HF _ ?_
    first
    | exact put_fin HR.out HRd.out Hels.out Hst.out Hg.out (by rw [Hz.out] at *; exact Hb1.out) hgr hsm hg2 (ownsRow_heap' (put_row Hown2.out Hxl.out) (fun g e => by cases e; exact Below.heap_setCell _ _ _ _ hg2))
        (fun h => by rw [← hd2]; exact rb_set (((Below.heap_setCell _ _ _ _ hg2').trans ((Below.heap_setCell _ _ _ _ hg2').trans (Below.heap_setCell _ _ _ _ hg2'))).trans h))
        (fun b h1 h2 => (Below.heap_setCell _ _ _ _ h1).trans ((Below.heap_setCell _ _ _ _ h2).trans ((Below.heap_setCell _ _ _ _ h2).trans (Below.heap_setCell _ _ _ _ h2)))) rfl rfl rfl (by simp [World.setCell]) (by omega) (fun g e => (Hrow1.out.lt g e).1)
    | exact put_fin HR.out HRd.out Hels.out Hst.out Hg.out (by rw [Hz.out] at *; exact Hb1.out) hgr hsm hg2 (put_row (ownsRow_heap' Hown2.out (fun g e => by cases e; exact Below.heap_setCell _ _ _ _ hg2)) Hxl.out)
        (fun h => by
          rw [← hd2]
          exact (Below.heap_setCell _ _ _ _ hg2').trans ((Below.heap_setCell _ _ _ _ hg2').trans ((Below.heap_setCell _ _ _ _ hg2').trans (rb_set h))))
        (fun b h1 h2 => (Below.heap_setCell _ _ _ _ h2).trans ((Below.heap_setCell _ _ _ _ h2).trans ((Below.heap_setCell _ _ _ _ h2).trans (Below.heap_setCell _ _ _ _ h1)))) rfl rfl rfl (by simp [World.setCell]) (by omega) (fun g e => (Hrow1.out.lt g e).1)
end Go.Proofs.YthbgigjjmojgfaaDoor
