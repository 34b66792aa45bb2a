/- Rows of a function as plain data; a map from their arguments to their places. -/
import Derived.Test.YtfhcmhlbidjjgaaDoorSgE
import Derived.Maps.Ext
import Derived.Carry
namespace Go.Proofs.YtfhcmhlbidjjgaaDoor
open Go.RowKit
open Go.Maps (Keyed)
set_option linter.unusedVariables false
structure RowA where
  a0 : Int
  a1 : Int
  a2 : Int
  val : Int
deriving DecidableEq
structure FrOk (r : RowA) : Prop where
  a0 : I64 r.a0
  a1 : I64 r.a1
  a2 : I64 r.a2
  val : I64 r.val
def frC (r : RowA) : List Value := [.int .i64 r.a0, .int .i64 r.a1, .int .i64 r.a2, .int .i64 r.val]
theorem frC_len (r : RowA) : (frC r).length = 4 := rfl
abbrev Tup := Int × Int × Int
def RowA.key (r : RowA) : Tup := (r.a0, r.a1, r.a2)
def TupOk (t : Tup) : Prop := I64 t.1 ∧ I64 t.2.1 ∧ I64 t.2.2
theorem FrOk.key {r : RowA} (h : FrOk r) : TupOk r.key := ⟨h.a0, h.a1, h.a2⟩
theorem rowTu : (57 : TypeId) < Tryd.prog.types.size := of_decide_eq_true (by kernel_rfl)
theorem keyTu4 : Tryd.prog.keyTypeAt 4 57 = true := by kernel_rfl
theorem lawTu0 : WideMaps.KeyLaw Tryd.prog 57 := deep_law_laid laidOut (m := 4) (by omega) rowTu keyTu4 (by rw [Tryd.underlying57])
theorem lawTu : Keyed Tryd.prog 57 := .of_law lawTu0
theorem keyTu : Tryd.prog.keyType 57 = true := by kernel_rfl
theorem cellsTu : Tryd.prog.cellsOf 57 = 3 := by kernel_rfl
theorem cellsIn : Tryd.prog.cellsOf 3 = 1 := by kernel_rfl
theorem three_leV : (2 : Nat) < Tryd.prog.types.size := of_decide_eq_true (by kernel_rfl)
theorem sizeTyV : ∃ m, Tryd.prog.types.size = m + 3 := ⟨_, (Nat.sub_add_cancel three_leV).symm⟩
theorem wf64 {x : Int} (h : I64 x) : (Lit.int .i64 x).wf = true := by
  obtain ⟨h1, h2⟩ := h
  simp [Lit.wf, IntKind.min, IntKind.max, IntKind.signed, IntKind.bits]
  omega
def kt (t : Tup) : Lit := .string (keyBytes [.int .i64 t.1, .int .i64 t.2.1, .int .i64 t.2.2])
theorem lit64 (m : Nat) (x : Int) (h : I64 x) : Tryd.prog.keyLits (m + 1) 3 [.int .i64 x] = some [.int .i64 x] := by
  unfold Program.keyLits
  rw [Tryd.underlying3]
  simp [wf64 h]
theorem litTu (m : Nat) (a b c : Int) (ha : I64 a) (hb : I64 b) (hc : I64 c) : Tryd.prog.keyLits (m + 2) 57 [.int .i64 a, .int .i64 b, .int .i64 c] = some [.int .i64 a, .int .i64 b, .int .i64 c] := by
  unfold Program.keyLits
  rw [Tryd.underlying57]
  have hr : List.range 3 = [0, 1, 2] := rfl
  simp only [cellsIn, hr, List.length_cons, List.length_nil, List.mapM_cons, List.mapM_nil, List.drop_zero, List.take_succ_cons, List.take_zero, List.drop_succ_cons, Nat.mul_one, lit64 m a ha, lit64 m b hb, lit64 m c hc]
  simp [cellsTu]
theorem kt_is (t : Tup) (h : TupOk t) : keyOf Tryd.prog 57 (.agg #[.int .i64 t.1, .int .i64 t.2.1, .int .i64 t.2.2]) = some (kt t) := by
  obtain ⟨m, hm⟩ := sizeTyV
  unfold keyOf
  rw [Tryd.underlying57]
  have hf : (.agg #[.int .i64 t.1, .int .i64 t.2.1, .int .i64 t.2.2] : Value).formed Tryd.prog 57 = true := by
    unfold Value.formed
    rw [Tryd.underlying57, cellsTu]
    rfl
  have hc : (.agg #[.int .i64 t.1, .int .i64 t.2.1, .int .i64 t.2.2] : Value).cells.toList = [.int .i64 t.1, .int .i64 t.2.1, .int .i64 t.2.2] := rfl
  simp only [keyTu, hf, Bool.true_and, if_true, hc]
  rw [hm, litTu (m + 2) _ _ _ h.1 h.2.1 h.2.2]
  rfl
theorem kt_inj {x y : Tup} (hx : TupOk x) (hy : TupOk y) (h : kt x = kt y) : x = y := by
  have h1 := kt_is x hx
  have h2 := kt_is y hy
  rw [h] at h1
  have := lawTu0.inj h1 h2
  obtain ⟨a, b, c⟩ := x
  obtain ⟨d, e, f⟩ := y
  simp only [Value.agg.injEq, Array.mk.injEq, List.cons.injEq, Value.int.injEq, and_true, true_and] at this
  simp_all
theorem zeroI (w : World) : (zeroValue 3).run Tryd.prog w = .ok (.int .i64 0) w := by kernel_rfl
theorem underPl : Tryd.prog.underlying 64 = some (.map 57 3) := by rw [Tryd.underlying64]
theorem make_pl (n : Int) (w : World) : (Instr.makeMap 64 (some (.int .i64 n))).run Tryd.prog w = .ok (.map (some w.heap.size)) (w.alloc (.map #[] 0)) := by
  simp [Instr.makeMap, run_underlying underPl]
  rfl
/-- Block b is the map from the rows' arguments to their places. -/
def MapP (w : World) (b : Nat) (l : List RowA) : Prop :=
  ∃ D : DataW Unit, w.ownsMap (H := Unit) Tryd.prog 57 (plainElem Tryd.prog 3) b l.length D ∧ (∀ y, TupOk y → Maps.has D (kt y) = decide (y ∈ l.map RowA.key)) ∧ (∀ (k : Nat) r, l[k]? = some r → ∀ z : DataW Unit, D.atKey (kt r.key) z = .lit (.int .i64 k)) ∧ Maps.size D = l.length
theorem MapP.below {w w' : World} {b : Nat} {l : List RowA} (h : MapP w b l) (hb : Below w.heap.size w w') : MapP w' b l := by
  obtain ⟨D, h1, h2, h3, h4⟩ := h
  exact ⟨D, h1.kept (⟨hb.os, hb.tape, hb.output, hb.size, fun i hi _ => hb.block i hi⟩ : w.grownBy w' none) (by simp), h2, h3, h4⟩
theorem kt_key (y : Tup) : WideAt.IsKeyLit (kt y) := trivial
theorem MapP.put {w : World} {b : Nat} {l : List RowA} {y : RowA} {D : DataW Unit} (hl : ∀ n ∈ l, FrOk n) (hy : FrOk y) (hno : y.key ∉ l.map RowA.key)
    (h2 : ∀ y, TupOk y → Maps.has D (kt y) = decide (y ∈ l.map RowA.key)) (h3 : ∀ (k : Nat) r, l[k]? = some r → ∀ z : DataW Unit, D.atKey (kt r.key) z = .lit (.int .i64 k)) (h4 : Maps.size D = l.length) (hm : Maps.IsMap D) (ht : Maps.Tidy D)
    (h : w.ownsMap (H := Unit) Tryd.prog 57 (plainElem Tryd.prog 3) b (l.length + 1) (D.put (kt y.key) (.lit (.int .i64 l.length)))) : MapP w b (l ++ [y]) := by
  refine ⟨_, by rw [List.length_append]; exact h, fun z hz => ?_, fun k z hk zz => ?_, ?_⟩
  · by_cases hzy : z = y.key
    · subst hzy
      rw [Maps.has_put_same hm (kt_key _)]; simp
    · rw [Maps.has_put_other (fun e => hzy (kt_inj hz hy.key e)), h2 z hz]
      simp only [List.map_append, List.map_cons, List.map_nil, List.mem_append, List.mem_singleton, hzy, or_false]
  · by_cases hkl : k < l.length
    · rw [List.getElem?_append_left hkl] at hk
      have hzm : z ∈ l := List.mem_of_getElem? hk
      rw [Maps.atKey_put_other (fun e => hno ((kt_inj (hl z hzm).key hy.key e) ▸ List.mem_map.2 ⟨z, hzm, rfl⟩)), h3 k z hk]
    · have hlt := (List.getElem?_eq_some_iff.1 hk).1
      simp at hlt
      obtain rfl : k = l.length := by omega
      rw [List.getElem?_append_right (Nat.le_refl _)] at hk
      simp at hk
      subst hk
      rw [Maps.atKey_put_same hm (kt_key _)]
  · rw [Maps.size_put ht, h2 y.key hy.key, decide_eq_false hno, h4]
    simp
/-- What a lookup answers. -/
theorem MapP.look_yes {w : World} {b : Nat} {l : List RowA} (h : MapP w b l) {k : Nat} {r : RowA} (hk : l[k]? = some r) (hr : FrOk r) :
    (Instr.lookup 64 (.map (some b)) (.agg #[.int .i64 r.a0, .int .i64 r.a1, .int .i64 r.a2]) true).run Tryd.prog w = .ok (.tuple #[.int .i64 k, .bool true]) w := by
  obtain ⟨D, h1, h2, h3, h4⟩ := h
  obtain ⟨v, ps, hrun, hv⟩ := h1.look_ok lawTu underPl (zeroI w) (plainElem_int Tryd.underlying3 (a := 0) (by decide)) (kt_is r.key hr.key)
  rw [h3 k r hk] at hv
  obtain ⟨c, rfl, hc, _⟩ := plainElem_int_inv Tryd.underlying3 hv
  simp only [Prod.mk.injEq, DataW.lit.injEq, Lit.int.injEq, true_and] at hc
  have hh := h2 r.key hr.key
  rw [decide_eq_true (List.mem_map.2 ⟨r, List.mem_of_getElem? hk, rfl⟩)] at hh
  rw [hh, ← hc.1] at hrun
  exact hrun
theorem MapP.look_no {w : World} {b : Nat} {l : List RowA} (h : MapP w b l) {t : Tup} (ht : TupOk t) (hno : t ∉ l.map RowA.key) :
    ∃ c : Int, (Instr.lookup 64 (.map (some b)) (.agg #[.int .i64 t.1, .int .i64 t.2.1, .int .i64 t.2.2]) true).run Tryd.prog w = .ok (.tuple #[.int .i64 c, .bool false]) w := by
  obtain ⟨D, h1, h2, h3, h4⟩ := h
  obtain ⟨v, ps, hrun, hv⟩ := h1.look_ok lawTu underPl (zeroI w) (plainElem_int Tryd.underlying3 (a := 0) (by decide)) (kt_is t ht)
  obtain ⟨c, rfl, hc, _⟩ := plainElem_int_inv Tryd.underlying3 hv
  have hh := h2 t ht
  rw [decide_eq_false hno] at hh
  rw [hh] at hrun
  exact ⟨c, hrun⟩
theorem MapP.len {w : World} {b : Nat} {l : List RowA} (h : MapP w b l) (ty : TypeId) : (Builtin.len_ #[64] ty #[.map (some b)]).run Tryd.prog w = .ok (.int .i64 l.length) w := by
  obtain ⟨D, h1, _, _, h4⟩ := h
  have := h1.len underPl ty
  rw [this, h4]
end Go.Proofs.YtfhcmhlbidjjgaaDoor
