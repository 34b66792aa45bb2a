/- Whether a name is free; the iterator over a signature's names. -/
import Derived.Test.YtbddghcdibdloaaGreatDoorSgE
namespace Go.Proofs.YtbddghcdibdloaaGreatDoor
open Go.RowKit Go.Shelf
open Go.Maps (Keyed)
set_option linter.unusedVariables false
attribute [local go_sem] Oper.semAt_some
theorem kl_key (y : Nm) : WideAt.IsKeyLit (kl y) := trivial
theorem kl_inj {y z : Nm} (hy : y.1.size ≤ maxLen) (hz : z.1.size ≤ maxLen) (h : kl y = kl z) : y = z := by
  have h1 := key_is y.1 y.2 hy
  have h2 := key_is z.1 z.2 hz
  rw [show kl (y.1, y.2) = kl y from rfl, h] at h1
  have := lawKn.inj h1 h2
  obtain ⟨a, b⟩ := y
  obtain ⟨c, d⟩ := z
  simp only [Value.agg.injEq, Array.mk.injEq, List.cons.injEq, Value.string.injEq, Value.bool.injEq, and_true] at this
  exact Prod.ext this.1 this.2
/-- Block b is the set of the names xs. -/
def SetM (w : World) (b : Nat) (xs : List Nm) : Prop := w.ownsMap (H := Unit) Tryz.prog 118 unitElem b xs.length (Maps.setOf (.agg []) (xs.map kl))
def memB (z : Nm) (xs : List Nm) : Bool := xs.any (fun y => decide (y = z))
theorem memB_iff {z : Nm} {xs : List Nm} : memB z xs = true ↔ z ∈ xs := by
  unfold memB
  rw [List.any_eq_true]
  constructor
  · rintro ⟨y, hy, h⟩
    rw [decide_eq_true_eq] at h
    exact h ▸ hy
  · intro h
    exact ⟨z, h, by simp⟩
theorem has_is {xs : List Nm} (hxs : ∀ y ∈ xs, y.1.size ≤ maxLen) (z : Nm) (hz : z.1.size ≤ maxLen) : Maps.has (Maps.setOf (H := Unit) (.agg []) (xs.map kl)) (kl z) = memB z xs := by
  rw [Maps.has_setOf _ _ _ (fun x hx => by obtain ⟨y, _, rfl⟩ := List.mem_map.1 hx; exact kl_key y)]
  by_cases h : z ∈ xs
  · rw [memB_iff.2 h, List.any_eq_true]
    exact ⟨kl z, List.mem_map.2 ⟨z, h, rfl⟩, WideAt.sameKey_self (kl_key z)⟩
  · rw [Bool.eq_false_iff.2 (fun e => h (memB_iff.1 e)), List.any_eq_false]
    intro x hx hs
    obtain ⟨y, hy, rfl⟩ := List.mem_map.1 hx
    have := kl_inj (hxs y hy) hz (WideAt.sameKey_eq hs)
    exact h (this ▸ hy)
/-- The error that keeps a name from being declared. -/
def freeA (there : Bool) (s : ByteArray) (b : Bool) : Int := if mayNm s = true then (if (there || coreK s b) = true then 32 else 0) else 31
theorem underNm : Tryz.prog.underlying 113 = some (.map 118 120) := by rw [Tryz.underlying113]
theorem zeroE (w : World) : (zeroValue 120).run Tryz.prog w = .ok (.agg #[]) w := by kernel_rfl
set_option maxRecDepth 100000 in
theorem free_any (b : Nat) (xs : List Nm) (s : ByteArray) (bb : Bool) (r : Int) (w : World) (hG : GS w) (hs : s.size ≤ maxLen) (hM : SetM w b xs) (hxs : ∀ y ∈ xs, y.1.size ≤ maxLen) (hr : freeA (memB (s, bb) xs) s bb = r) :
    Calls Tryz.prog 63 #[.map (some b), .agg #[.string s, .bool bb]] w fun e w' => e = .returned (.int .i64 r) ∧ Below w.heap.size w w' := by
  have hown : (w.alloc (.cells #[.string s, .bool bb] 118)).ownsMap (H := Unit) Tryz.prog 118 unitElem b xs.length (Maps.setOf (.agg []) (xs.map kl)) := World.ownsMap.alloc hM _
  have hhas := has_is hxs (s, bb) hs
  have HK := Lib.hid (key_is s bb hs)
  have HB0 : Hid (Below w.heap.size w (w.alloc (.cells #[.string s, .bool bb] 118))) := (Below.refl _ _).alloc (Nat.le_refl _) _
  have HG := Lib.hid hG
  clear hG hM hxs
  unfold freeA at hr
  generalize memB (s, bb) xs = th at hhas hr
  have HN : ∀ q, mayNm s = q → Hid (∀ W, GS W → Calls Tryz.prog 73 #[.string s] W fun e w' => e = .returned (.bool q) ∧ Below W.heap.size W w') := fun q hq W h => mayName_is s q W h.g hs hq
  have HC : ∀ q, coreK s bb = q → Hid (∀ W, GS W → Calls Tryz.prog 74 #[.agg #[.string s, .bool bb]] W fun e w' => e = .returned (.bool q) ∧ Below W.heap.size W w') := fun q hq W h => core_any s bb q W h hq
  cases hn : mayNm s with
  | false =>
    rw [hn, if_neg (by decide)] at hr
    subst hr
    have HN := HN _ hn
    clear HC hn
    have HO := Lib.hid hown
    have HH := Lib.hid hhas
    clear hown hhas
    go_enter Tryz.func63, Tryz.ntmps63
    go_wp2_with (first | (at_lookup; refine wpList_lookup_own_unit _ rfl _ _ 113 rfl 118 120 lawKn underNm (zeroE _) b xs.length _ rfl HO.out _ _ rfl HK.out ?_; rw [HH.out]) | (go_at_call 73; refine (HN.out _ (HG.out.below (by first | exact HB0.out | exact HB0.out.alloc (by simp) _))).mono ?_; rintro e w1 ⟨rfl, hb1⟩))
    go_ret
    exact ⟨rfl, (HB0.out.alloc (by simp) _).trans (hb1.mono (by simp; omega))⟩
  | true =>
    rw [hn, if_pos rfl] at hr
    have HN := HN _ hn
    clear hn
    have HO := Lib.hid hown
    have HH := Lib.hid hhas
    clear hown hhas
    cases th with
    | true =>
      rw [Bool.true_or, if_pos rfl] at hr
      subst hr
      go_enter Tryz.func63, Tryz.ntmps63
      go_wp2_with (first | (at_lookup; refine wpList_lookup_own_unit _ rfl _ _ 113 rfl 118 120 lawKn underNm (zeroE _) b xs.length _ rfl HO.out _ _ rfl HK.out ?_; rw [HH.out]) | (go_at_call 73; refine (HN.out _ (HG.out.below (by first | exact HB0.out | exact HB0.out.alloc (by simp) _))).mono ?_; rintro e w1 ⟨rfl, hb1⟩))
      go_ret
      exact ⟨rfl, (HB0.out.alloc (by simp) _).trans (hb1.mono (by simp; omega))⟩
    | false =>
      rw [Bool.false_or] at hr
      have HC := HC _ rfl
      cases hq : coreK s bb with
      | true =>
        rw [hq] at hr HC
        rw [if_pos rfl] at hr
        subst hr
        clear hq
        go_enter Tryz.func63, Tryz.ntmps63
        go_wp2_with (first | (at_lookup; refine wpList_lookup_own_unit _ rfl _ _ 113 rfl 118 120 lawKn underNm (zeroE _) b xs.length _ rfl HO.out _ _ rfl HK.out ?_; rw [HH.out]) | (go_at_call 73; refine (HN.out _ (HG.out.below (by first | exact HB0.out | exact HB0.out.alloc (by simp) _))).mono ?_; rintro e w1 ⟨rfl, hb1⟩; obtain ⟨hc1, hf1⟩ := bcell hb1) | (go_at_call 74; refine (HC.out _ ((HG.out.below (by first | exact HB0.out | exact HB0.out.alloc (by simp) _)).below hb1)).mono ?_; rintro e w2 ⟨rfl, hb2⟩))
        go_ret
        exact ⟨rfl, ((HB0.out.alloc (by simp) _).trans (hb1.mono (by simp; omega))).trans (hb2.mono (by have := hb1.size; simp at this; omega))⟩
      | false =>
        rw [hq] at hr HC
        rw [if_neg (by decide)] at hr
        subst hr
        clear hq
        go_enter Tryz.func63, Tryz.ntmps63
        go_wp2_with (first | (at_lookup; refine wpList_lookup_own_unit _ rfl _ _ 113 rfl 118 120 lawKn underNm (zeroE _) b xs.length _ rfl HO.out _ _ rfl HK.out ?_; rw [HH.out]) | (go_at_call 73; refine (HN.out _ (HG.out.below (by first | exact HB0.out | exact HB0.out.alloc (by simp) _))).mono ?_; rintro e w1 ⟨rfl, hb1⟩; obtain ⟨hc1, hf1⟩ := bcell hb1) | (go_at_call 74; refine (HC.out _ ((HG.out.below (by first | exact HB0.out | exact HB0.out.alloc (by simp) _)).below hb1)).mono ?_; rintro e w2 ⟨rfl, hb2⟩))
        go_ret
        exact ⟨rfl, ((HB0.out.alloc (by simp) _).trans (hb1.mono (by simp; omega))).trans (hb2.mono (by have := hb1.size; simp at this; omega))⟩
/-- The names of a signature, as they stand in it. -/
def namesA (x : SigA) : List Nm := x.sorts.map (fun s => (s, true)) ++ (x.funs.map (fun f => (f.name, false)) ++ x.macros.map (fun m => (m.name, false)))
theorem declared_any (x : SigV) (w : World) :
    Calls Tryz.prog 62 #[.agg #[.slice x.sa x.sorts.length x.sc, .slice x.fa x.funs.length x.fc, .slice x.ma x.macs.length x.mc]] w fun e w' => e = .returned (.func (.func 72) #[] #[.pointer (some ⟨w.heap.size, 0, none⟩)]) ∧ w.alloc (.cells #[.slice x.sa x.sorts.length x.sc, .slice x.fa x.funs.length x.fc, .slice x.ma x.macs.length x.mc] 34) = w' := by
  go_enter Tryz.func62, Tryz.ntmps62
  go_wp2
  go_ret
  exact ⟨rfl, rfl⟩
/-- What lay when the call began lies on. -/
def Stay (w W : World) : Prop := w.heap.size ≤ W.heap.size ∧ ∀ b, b < w.heap.size → W.heap[b]? = w.heap[b]?
theorem Stay.of {w W : World} (h : Below w.heap.size w W) : Stay w W := ⟨h.size, fun b hb => h.block b hb⟩
theorem Stay.trans {w A B : World} (h : Stay w A) (hs : A.heap.size ≤ B.heap.size) (k : ∀ b, b < w.heap.size → B.heap[b]? = A.heap[b]?) : Stay w B := ⟨Nat.le_trans h.1 hs, fun b hb => (k b hb).trans (h.2 b hb)⟩
theorem At.stay {w W : World} {L : List Value} {a : Option Addr} (h : At w w.heap.size L a) (hs : Stay w W) : At W w.heap.size L a := by
  intro h0
  obtain ⟨g, o, e, hg, hc⟩ := h h0
  exact ⟨g, o, e, hg, fun i v hv => (World.cell?_of_block (a := ⟨g, o + i, none⟩) (hs.2 g hg)).trans (hc i v hv)⟩
/-- What a round keeps for the iterator: what lay when the caller began, and the signature's box. -/
def KeepN (n₀ Bn : Nat) (A B : World) : Prop := A.heap.size ≤ B.heap.size ∧ ∀ b, (b < n₀ ∨ b = Bn) → B.heap[b]? = A.heap[b]?
theorem KeepN.trans {n₀ Bn : Nat} {A B C : World} (h : KeepN n₀ Bn A B) (k : KeepN n₀ Bn B C) : KeepN n₀ Bn A C := ⟨Nat.le_trans h.1 k.1, fun b hb => (k.2 b hb).trans (h.2 b hb)⟩
def encN (y : NmS) : Array Value := #[.agg #[.string y.1.1, .bool y.1.2]]
end Go.Proofs.YtbddghcdibdloaaGreatDoor
