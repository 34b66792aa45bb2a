/- Atoms: slices.Backward over a table's nodes. -/
import Derived.Test.YtaiabpbcipnjaaaDoorAtF
import Derived.RangeFuncNested
import Derived.RangeFuncWrites
import Derived.RangeFuncLeaves
import Derived.Shelf.Abstract
import Derived.OwnWalkIn
import Derived.TacticsInMore
import Derived.LoopNIn
import Derived.LoopIn
namespace Go.Proofs.YtaiabpbcipnjaaaDoor.Tm
open Go.RowKit Go.Shelf
set_option linter.unusedVariables false
attribute [local go_sem] Oper.semAt_some
/-- The places from N - 1 down to m. -/
def downN (N m : Nat) : List Nat := ((List.range N).drop m).reverse
theorem downN_step {N m : Nat} (h : m < N) : downN N m = downN N (m + 1) ++ [m] := by
  unfold downN
  rw [List.drop_eq_getElem_cons (by simpa using h), List.reverse_cons, List.getElem_range]
theorem downN_all (N : Nat) : downN N N = [] := by unfold downN; rw [List.drop_of_length_le (by simp)]; rfl
theorem downN_len (N m : Nat) : (downN N m).length = N - m := by unfold downN; simp
theorem downN_pre {N m k : Nat} (h : m ≤ k) : downN N k <+: downN N m := by
  unfold downN
  rw [List.reverse_prefix]
  have : (List.range N).drop k = ((List.range N).drop m).drop (k - m) := by rw [List.drop_drop]; congr 1; omega
  rw [this]
  exact List.drop_suffix _ _
abbrev KS (N : Nat) := { k : Nat // k < N }
def nodeV (n : NodeA) : Value := .agg #[.int .i8 n.op, .int .i8 n.len, .int .i64 n.a0, .int .i64 n.a1, .int .i64 n.a2, .int .i64 n.sort, .int .i64 n.fn, .int .i64 n.num]
def encB (l : List NodeA) (y : KS l.length) : Array Value := #[.int .i64 (y.1 : Nat), nodeV (nodA l (y.1 : Nat))]
theorem NV_nodA (l : List NodeA) (k : Nat) {n : NodeA} (h : l[k]? = some n) : nodA l (k : Nat) = n := nodA_at h
/-- What a round keeps for the iterator: its box, and the table's block. -/
def KeepB (Bs g : Nat) (A B : World) : Prop := A.heap.size ≤ B.heap.size ∧ B.heap[Bs]? = A.heap[Bs]? ∧ B.heap[g]? = A.heap[g]?
theorem KeepB.trans {Bs g : Nat} {A B C : World} (h : KeepB Bs g A B) (k : KeepB Bs g B C) : KeepB Bs g A C := ⟨Nat.le_trans h.1 k.1, k.2.1.trans h.2.1, k.2.2.trans h.2.2⟩
/-- Between two rounds of the iterator's loop: the places below m are left. -/
structure BwS (W : World) (N Bs g : Nat) (J : List (KS N) → World → Prop) (m : Nat) (wr : World) : Prop where
  big : W.heap.size ≤ wr.heap.size
  bs : wr.heap[Bs]? = W.heap[Bs]?
  tb : wr.heap[g]? = W.heap[g]?
  j : ∃ pre : List (KS N), pre.map (·.1) = downN N m ∧ J pre wr
def BwP (W : World) (N Bs g : Nat) (J : List (KS N) → World → Prop) (v : Int) (wr : World) : Prop :=
  (v = -1 ∧ BwS W N Bs g J 0 wr) ∨ ∃ j : Nat, v = (j : Int) ∧ j < N ∧ BwS W N Bs g J (j + 1) wr
theorem BwP.prev {W : World} {N Bs g : Nat} {J : List (KS N) → World → Prop} {j : Nat} {wr : World} (hj : j < N) (h : BwS W N Bs g J j wr) : BwP W N Bs g J ((j : Int) - 1) wr := by
  by_cases h0 : j = 0
  · subst h0
    exact .inl ⟨by omega, h⟩
  · exact .inr ⟨j - 1, by omega, by omega, by rw [show j - 1 + 1 = j by omega]; exact h⟩
set_option maxRecDepth 100000 in
set_option maxHeartbeats 4000000 in
theorem back1_in (d : Nat) (hd : 1 ≤ d) (y0 Bs g o c : Nat) (l : List NodeA) (W : World) (hl : l.length ≤ 3000) (hl1 : 1 ≤ l.length) (J Jx : List (KS l.length) → World → Prop)
    (hY : ∀ pre y W1, J pre W1 → pre.length < l.length → YieldAt Fence.wide (d - 1) Tryd.prog y0 (encB l y) W1 fun e W' =>
      (e = .returned (.bool true) ∧ J (pre ++ [y]) W' ∧ KeepB Bs g W1 W') ∨ (e = .returned (.bool false) ∧ Jx (pre ++ [y]) W'))
    (hB : W.heap[Bs]? = some (.cells #[.slice (some ⟨g, o, none⟩) l.length c] 22 (0, 0))) (hT : TabR W l (some ⟨g, o, none⟩) c) (hgW : g < W.heap.size) (h0 : J [] W) :
    CallsIn Fence.wide d Tryd.prog 42 #[.func (.yield y0) #[] #[], .pointer (some ⟨Bs, 0, none⟩)] W fun e W' => (∃ v, e = .returned v) ∧
      ((∃ ys : List (KS l.length), ys.map (·.1) = downN l.length 0 ∧ J ys W') ∨ (∃ pre : List (KS l.length), pre.map (·.1) <+: downN l.length 0 ∧ Jx pre W')) := by
  have HD0 : Hid (BwP W l.length Bs g J ((l.length : Int) - 1) W) := by
    have hs : BwS W l.length Bs g J l.length W := ⟨Nat.le_refl _, rfl, rfl, [], by rw [downN_all]; rfl, h0⟩
    exact .inr ⟨l.length - 1, by omega, by omega, by rw [show l.length - 1 + 1 = l.length by omega]; exact hs⟩
  have b0 : W.cell? ⟨Bs, 0, none⟩ = some (.slice (some ⟨g, o, none⟩) l.length c) := (cell_of_row _ _ 0 _ _ _ hB).trans rfl
  have bz := (Array.getElem?_eq_some_iff.1 hB).1
  have hcap := hT.le
  have HB : Hid (∀ wr : World, wr.heap[Bs]? = W.heap[Bs]? → wr.cell? ⟨Bs, 0, none⟩ = some (.slice (some ⟨g, o, none⟩) l.length c) ∧ Bs < wr.heap.size) := fun wr h => by
    have h2 := h.trans hB
    exact ⟨(cell_of_row _ _ 0 _ _ _ h2).trans rfl, (Array.getElem?_eq_some_iff.1 h2).1⟩
  have HTn : Hid (∀ (wr : World) (k : Nat) (n : NodeA), wr.heap[g]? = W.heap[g]? → l[k]? = some n → wr.cell? ⟨g, o + k * 8, none⟩ = some (.int .i8 n.op) ∧ wr.cell? ⟨g, o + k * 8 + 1, none⟩ = some (.int .i8 n.len) ∧ wr.cell? ⟨g, o + k * 8 + 2, none⟩ = some (.int .i64 n.a0) ∧ wr.cell? ⟨g, o + k * 8 + 3, none⟩ = some (.int .i64 n.a1) ∧ wr.cell? ⟨g, o + k * 8 + 4, none⟩ = some (.int .i64 n.a2) ∧ wr.cell? ⟨g, o + k * 8 + 5, none⟩ = some (.int .i64 n.sort) ∧ wr.cell? ⟨g, o + k * 8 + 6, none⟩ = some (.int .i64 n.fn) ∧ wr.cell? ⟨g, o + k * 8 + 7, none⟩ = some (.int .i64 n.num)) := fun wr k n h hn => by
    obtain ⟨g', o', e, hg, q0, q1, q2, q3, q4, q5, q6, q7⟩ := hT.node hn
    cases e
    have e : ∀ i, wr.cell? ⟨g, i, none⟩ = W.cell? ⟨g, i, none⟩ := fun i => World.cell?_of_block (a := ⟨g, i, none⟩) h
    exact ⟨(e _).trans q0, (e _).trans q1, (e _).trans q2, (e _).trans q3, (e _).trans q4, (e _).trans q5, (e _).trans q6, (e _).trans q7⟩
  have HY := Lib.hid hY
  have hwr : IntKind.i64.wrap ((l.length : Int) - 1) = (l.length : Int) - 1 := by rw [IntKind.wrap_i64]; omega
  clear hB h0 hY hT
  refine callsIn_of_wp Tryd.func42 rfl trivial ?_ rfl
  simp only [Tryd.ntmps42, List.size_toArray, List.length_cons, List.length_nil, Nat.reduceAdd, Nat.reduceSub, Array.replicate_succ, Array.replicate_zero, List.push_toArray, List.append_toArray, List.nil_append, List.cons_append]
  gi_wp2
  clear b0 bz hwr
  gi_loopw [3] (fun i wr => ∃ v : Int, i = .int .i64 v ∧ Hid (BwP W l.length Bs g J v wr)) (fun i _ => (intOf i + 1).toNat)
  case atStart => exact ⟨_, rfl, HD0⟩
  case round =>
    clear HD0
    obtain ⟨v, rfl, HD⟩ := hrel
    rcases HD.out with ⟨rfl, hS⟩ | ⟨j, rfl, hj, hS⟩
    · obtain ⟨ys, hys, hjy⟩ := hS.j
      have HJ := Lib.hid (And.intro hys hjy)
      clear HD hS hys hjy
      gi_wp2
      go_end0
      exact ⟨⟨_, rfl⟩, .inl ⟨ys, HJ.out.1, HJ.out.2⟩⟩
    · obtain ⟨n, hn⟩ : ∃ n, l[j]? = some n := ⟨_, List.getElem?_eq_getElem hj⟩
      obtain ⟨b0, bz⟩ := HB.out wr hS.bs
      obtain ⟨q0, q1, q2, q3, q4, q5, q6, q7⟩ := HTn.out wr j n hS.tb hn
      have gz : g < wr.heap.size := Nat.lt_of_lt_of_le hgW hS.big
      have hji : (j : Int) < (l.length : Int) := by omega
      have hj0 : (0 : Int) ≤ (j : Int) := by omega
      obtain ⟨pre, hpre, hjp⟩ := hS.j
      have hplen : pre.length < l.length := by
        have h1 := congrArg List.length hpre
        rw [List.length_map, downN_len] at h1
        omega
      obtain ⟨fn, tmps, assign, body, hyl, hRn⟩ := HY.out pre ⟨j, hj⟩ wr hjp hplen
      simp only [encB, nodeV] at hyl
      rw [nodA_at hn] at hyl
      have HRn := Lib.hid hRn
      have HPre : Hid ((pre ++ [(⟨j, hj⟩ : KS l.length)]).map (·.1) = downN l.length j) := by
        show _ = _
        rw [List.map_append, hpre, downN_step hj]
        rfl
      have HS := Lib.hid hS
      clear hRn hpre hjp hn hS HD
      gi_wp2
      refine HRn.out.mono ?_
      rintro e W3 (⟨rfl, hJ3, hk3⟩ | ⟨rfl, hJx3⟩)
      · have HD3 : Hid (BwP W l.length Bs g J ((j : Int) - 1) W3) := BwP.prev hj ⟨Nat.le_trans HS.out.big hk3.1, hk3.2.1.trans HS.out.bs, hk3.2.2.trans HS.out.tb, _, HPre.out, hJ3⟩
        clear hJ3 hk3 hyl q0 q1 q2 q3 q4 q5 q6 q7 b0 bz gz
        gi_wp2
        go_roundw
        case rel => exact ⟨(j : Int) - 1, by go_num, HD3⟩
        case measure => simp [intOf]
      · have HJx3 := Lib.hid hJx3
        clear hJx3 hyl q0 q1 q2 q3 q4 q5 q6 q7 b0 bz gz
        gi_wp2
        refine bodyPost_ret (results_none rfl _ _ _) rfl ?_
        refine ⟨⟨_, rfl⟩, .inr ⟨_, ?_, HJx3.out⟩⟩
        rw [HPre.out]
        exact downN_pre (by omega)
theorem back_stops (d : Nat) (hd : 1 ≤ d) (Bs g o c : Nat) (l : List NodeA) (W0 : World) (hl : l.length ≤ 3000) (hl1 : 1 ≤ l.length)
    (hB : W0.heap[Bs]? = some (.cells #[.slice (some ⟨g, o, none⟩) l.length c] 22 (0, 0))) (hT : TabR W0 l (some ⟨g, o, none⟩) c) (hg : g < W0.heap.size) :
    SeqStopsK Fence.wide d Tryd.prog 42 #[.pointer (some ⟨Bs, 0, none⟩)] (encB l) (KeepB Bs g) (fun ys => ys.map (·.1) = downN l.length 0) (fun pre => pre.map (·.1) <+: downN l.length 0) l.length W0 := fun y0 J Jx W hWW _ _ hY h0 =>
  back1_in d hd y0 Bs g o c l W hl hl1 J Jx hY ((hWW.block Bs (Array.getElem?_eq_some_iff.1 hB).1).trans hB) (hT.below hWW) (Nat.lt_of_lt_of_le hg hWW.size) h0
end Go.Proofs.YtaiabpbcipnjaaaDoor.Tm
