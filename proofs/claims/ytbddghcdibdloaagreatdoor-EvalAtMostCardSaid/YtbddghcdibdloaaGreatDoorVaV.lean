/- Package value's values (of a world without sorts of its own): valuesOf, has; of a function of one Int: fit. -/
import Derived.Test.YtbddghcdibdloaaGreatDoorSgE
import Derived.Maps.Ext
import Derived.Carry
import Derived.Test.YtbddghcdibdloaaGreatDoorSgI
import Derived.Test.YtbddghcdibdloaaGreatDoorNumMay
import Derived.Deep.RegionHeld3
import Derived.BigQuiet
namespace Go.Proofs.YtbddghcdibdloaaGreatDoor
open Go.RowKit
open Go.Maps (Keyed)
set_option linter.unusedVariables false
structure RowA where
  a0 : Int
  a1 : Int
  a2 : Int
  val : Int
deriving DecidableEq
structure FrOk (r : RowA) : Prop where
  a0 : I64 r.a0
  a1 : I64 r.a1
  a2 : I64 r.a2
  val : I64 r.val
def frC (r : RowA) : List Value := [.int .i64 r.a0, .int .i64 r.a1, .int .i64 r.a2, .int .i64 r.val]
theorem frC_len (r : RowA) : (frC r).length = 4 := rfl
abbrev Tup := Int × Int × Int
def RowA.key (r : RowA) : Tup := (r.a0, r.a1, r.a2)
def TupOk (t : Tup) : Prop := I64 t.1 ∧ I64 t.2.1 ∧ I64 t.2.2
theorem FrOk.key {r : RowA} (h : FrOk r) : TupOk r.key := ⟨h.a0, h.a1, h.a2⟩
theorem rowTu : (101 : TypeId) < Tryz.prog.types.size := of_decide_eq_true (by kernel_rfl)
theorem keyTu4 : Tryz.prog.keyTypeAt 4 101 = true := by kernel_rfl
theorem lawTu0 : WideMaps.KeyLaw Tryz.prog 101 := deep_law_laid laidOut (m := 4) (by omega) rowTu keyTu4 (by rw [Tryz.underlying101])
theorem lawTu : Keyed Tryz.prog 101 := .of_law lawTu0
theorem keyTu : Tryz.prog.keyType 101 = true := by kernel_rfl
theorem cellsTu : Tryz.prog.cellsOf 101 = 3 := by kernel_rfl
theorem cellsIn : Tryz.prog.cellsOf 3 = 1 := by kernel_rfl
theorem three_leV : (2 : Nat) < Tryz.prog.types.size := of_decide_eq_true (by kernel_rfl)
theorem sizeTyV : ∃ m, Tryz.prog.types.size = m + 3 := ⟨_, (Nat.sub_add_cancel three_leV).symm⟩
theorem wf64 {x : Int} (h : I64 x) : (Lit.int .i64 x).wf = true := by
  obtain ⟨h1, h2⟩ := h
  simp [Lit.wf, IntKind.min, IntKind.max, IntKind.signed, IntKind.bits]
  omega
def kt (t : Tup) : Lit := .string (keyBytes [.int .i64 t.1, .int .i64 t.2.1, .int .i64 t.2.2])
theorem lit64 (m : Nat) (x : Int) (h : I64 x) : Tryz.prog.keyLits (m + 1) 3 [.int .i64 x] = some [.int .i64 x] := by
  unfold Program.keyLits
  rw [Tryz.underlying3]
  simp [wf64 h]
theorem litTu (m : Nat) (a b c : Int) (ha : I64 a) (hb : I64 b) (hc : I64 c) : Tryz.prog.keyLits (m + 2) 101 [.int .i64 a, .int .i64 b, .int .i64 c] = some [.int .i64 a, .int .i64 b, .int .i64 c] := by
  unfold Program.keyLits
  rw [Tryz.underlying101]
  have hr : List.range 3 = [0, 1, 2] := rfl
  simp only [cellsIn, hr, List.length_cons, List.length_nil, List.mapM_cons, List.mapM_nil, List.drop_zero, List.take_succ_cons, List.take_zero, List.drop_succ_cons, Nat.mul_one, lit64 m a ha, lit64 m b hb, lit64 m c hc]
  simp [cellsTu]
theorem kt_is (t : Tup) (h : TupOk t) : keyOf Tryz.prog 101 (.agg #[.int .i64 t.1, .int .i64 t.2.1, .int .i64 t.2.2]) = some (kt t) := by
  obtain ⟨m, hm⟩ := sizeTyV
  unfold keyOf
  rw [Tryz.underlying101]
  have hf : (.agg #[.int .i64 t.1, .int .i64 t.2.1, .int .i64 t.2.2] : Value).formed Tryz.prog 101 = true := by
    unfold Value.formed
    rw [Tryz.underlying101, cellsTu]
    rfl
  have hc : (.agg #[.int .i64 t.1, .int .i64 t.2.1, .int .i64 t.2.2] : Value).cells.toList = [.int .i64 t.1, .int .i64 t.2.1, .int .i64 t.2.2] := rfl
  simp only [keyTu, hf, Bool.true_and, if_true, hc]
  rw [hm, litTu (m + 2) _ _ _ h.1 h.2.1 h.2.2]
  rfl
theorem kt_inj {x y : Tup} (hx : TupOk x) (hy : TupOk y) (h : kt x = kt y) : x = y := by
  have h1 := kt_is x hx
  have h2 := kt_is y hy
  rw [h] at h1
  have := lawTu0.inj h1 h2
  obtain ⟨a, b, c⟩ := x
  obtain ⟨d, e, f⟩ := y
  simp only [Value.agg.injEq, Array.mk.injEq, List.cons.injEq, Value.int.injEq, and_true, true_and] at this
  simp_all
theorem zeroI (w : World) : (zeroValue 3).run Tryz.prog w = .ok (.int .i64 0) w := by kernel_rfl
theorem underPl : Tryz.prog.underlying 89 = some (.map 101 3) := by rw [Tryz.underlying89]
theorem make_pl (n : Int) (w : World) : (Instr.makeMap 89 (some (.int .i64 n))).run Tryz.prog w = .ok (.map (some w.heap.size)) (w.alloc (.map #[] 0)) := by
  simp [Instr.makeMap, run_underlying underPl]
  rfl
/-- Block b is the map from the rows' arguments to their places. -/
def MapP (w : World) (b : Nat) (l : List RowA) : Prop :=
  ∃ D : DataW Unit, w.ownsMap (H := Unit) Tryz.prog 101 (plainElem Tryz.prog 3) b l.length D ∧ (∀ y, TupOk y → Maps.has D (kt y) = decide (y ∈ l.map RowA.key)) ∧ (∀ (k : Nat) r, l[k]? = some r → ∀ z : DataW Unit, D.atKey (kt r.key) z = .lit (.int .i64 k)) ∧ Maps.size D = l.length
theorem MapP.below {w w' : World} {b : Nat} {l : List RowA} (h : MapP w b l) (hb : Below w.heap.size w w') : MapP w' b l := by
  obtain ⟨D, h1, h2, h3, h4⟩ := h
  exact ⟨D, h1.kept (⟨hb.os, hb.tape, hb.output, hb.size, fun i hi _ => hb.block i hi⟩ : w.grownBy w' none) (by simp), h2, h3, h4⟩
theorem kt_key (y : Tup) : WideAt.IsKeyLit (kt y) := trivial
theorem MapP.put {w : World} {b : Nat} {l : List RowA} {y : RowA} {D : DataW Unit} (hl : ∀ n ∈ l, FrOk n) (hy : FrOk y) (hno : y.key ∉ l.map RowA.key)
    (h2 : ∀ y, TupOk y → Maps.has D (kt y) = decide (y ∈ l.map RowA.key)) (h3 : ∀ (k : Nat) r, l[k]? = some r → ∀ z : DataW Unit, D.atKey (kt r.key) z = .lit (.int .i64 k)) (h4 : Maps.size D = l.length) (hm : Maps.IsMap D) (ht : Maps.Tidy D)
    (h : w.ownsMap (H := Unit) Tryz.prog 101 (plainElem Tryz.prog 3) b (l.length + 1) (D.put (kt y.key) (.lit (.int .i64 l.length)))) : MapP w b (l ++ [y]) := by
  refine ⟨_, by rw [List.length_append]; exact h, fun z hz => ?_, fun k z hk zz => ?_, ?_⟩
  · by_cases hzy : z = y.key
    · subst hzy
      rw [Maps.has_put_same hm (kt_key _)]; simp
    · rw [Maps.has_put_other (fun e => hzy (kt_inj hz hy.key e)), h2 z hz]
      simp only [List.map_append, List.map_cons, List.map_nil, List.mem_append, List.mem_singleton, hzy, or_false]
  · by_cases hkl : k < l.length
    · rw [List.getElem?_append_left hkl] at hk
      have hzm : z ∈ l := List.mem_of_getElem? hk
      rw [Maps.atKey_put_other (fun e => hno ((kt_inj (hl z hzm).key hy.key e) ▸ List.mem_map.2 ⟨z, hzm, rfl⟩)), h3 k z hk]
    · have hlt := (List.getElem?_eq_some_iff.1 hk).1
      simp at hlt
      obtain rfl : k = l.length := by omega
      rw [List.getElem?_append_right (Nat.le_refl _)] at hk
      simp at hk
      subst hk
      rw [Maps.atKey_put_same hm (kt_key _)]
  · rw [Maps.size_put ht, h2 y.key hy.key, decide_eq_false hno, h4]
    simp
/-- What a lookup answers. -/
theorem MapP.look_yes {w : World} {b : Nat} {l : List RowA} (h : MapP w b l) {k : Nat} {r : RowA} (hk : l[k]? = some r) (hr : FrOk r) :
    (Instr.lookup 89 (.map (some b)) (.agg #[.int .i64 r.a0, .int .i64 r.a1, .int .i64 r.a2]) true).run Tryz.prog w = .ok (.tuple #[.int .i64 k, .bool true]) w := by
  obtain ⟨D, h1, h2, h3, h4⟩ := h
  obtain ⟨v, ps, hrun, hv⟩ := h1.look_ok lawTu underPl (zeroI w) (plainElem_int Tryz.underlying3 (a := 0) (by decide)) (kt_is r.key hr.key)
  rw [h3 k r hk] at hv
  obtain ⟨c, rfl, hc, _⟩ := plainElem_int_inv Tryz.underlying3 hv
  simp only [Prod.mk.injEq, DataW.lit.injEq, Lit.int.injEq, true_and] at hc
  have hh := h2 r.key hr.key
  rw [decide_eq_true (List.mem_map.2 ⟨r, List.mem_of_getElem? hk, rfl⟩)] at hh
  rw [hh, ← hc.1] at hrun
  exact hrun
theorem MapP.look_no {w : World} {b : Nat} {l : List RowA} (h : MapP w b l) {t : Tup} (ht : TupOk t) (hno : t ∉ l.map RowA.key) :
    ∃ c : Int, (Instr.lookup 89 (.map (some b)) (.agg #[.int .i64 t.1, .int .i64 t.2.1, .int .i64 t.2.2]) true).run Tryz.prog w = .ok (.tuple #[.int .i64 c, .bool false]) w := by
  obtain ⟨D, h1, h2, h3, h4⟩ := h
  obtain ⟨v, ps, hrun, hv⟩ := h1.look_ok lawTu underPl (zeroI w) (plainElem_int Tryz.underlying3 (a := 0) (by decide)) (kt_is t ht)
  obtain ⟨c, rfl, hc, _⟩ := plainElem_int_inv Tryz.underlying3 hv
  have hh := h2 t ht
  rw [decide_eq_false hno] at hh
  rw [hh] at hrun
  exact ⟨c, hrun⟩
theorem MapP.len {w : World} {b : Nat} {l : List RowA} (h : MapP w b l) (ty : TypeId) : (Builtin.len_ #[89] ty #[.map (some b)]).run Tryz.prog w = .ok (.int .i64 l.length) w := by
  obtain ⟨D, h1, _, _, h4⟩ := h
  have := h1.len underPl ty
  rw [this, h4]
end Go.Proofs.YtbddghcdibdloaaGreatDoor
namespace Go.Proofs.YtbddghcdibdloaaGreatDoor
open Go.RowKit
set_option linter.unusedVariables false
def PlPost (w : World) (l : List RowA) (e : Ending) (w' : World) : Prop := Below w.heap.size w w' ∧ ∃ b, w.heap.size ≤ b ∧ e = .returned (.map (some b)) ∧ MapP w' b l
/-- No two rows have the same arguments. -/
def Uniq (l : List RowA) : Prop := ∀ (k : Nat) r, l[k]? = some r → r.key ∉ (l.take k).map RowA.key
set_option maxRecDepth 100000 in
set_option maxHeartbeats 2000000 in
theorem places_any (l : List RowA) (a : Option Addr) (c : Nat) (w : World) (hA : At w w.heap.size (l.flatMap frC) a) (hl : l.length ≤ 1000) (hc : l.length ≤ c) (hok : ∀ r ∈ l, FrOk r) (hu : Uniq l) :
    Calls Tryz.prog 48 #[.slice a l.length c] w (PlPost w l) := by
  have hmm := make_pl
  obtain ⟨b, hb⟩ : ∃ b, b = w.heap.size := ⟨_, rfl⟩
  have HMp : Hid (MapP (w.alloc (.map #[] 0)) b []) := ⟨.map [], by rw [hb]; exact World.ownsMap_made (H := Unit) w Tryz.prog 101 (plainElem Tryz.prog 3), fun y _ => rfl, fun k y hk => by simp at hk, rfl⟩
  have HA := Lib.hid hA
  have HOk := Lib.hid hok
  have HU := Lib.hid hu
  have HQ := Lib.hid hb
  clear hA hok hu
  go_enter Tryz.func48, Tryz.ntmps48
  go_wp2
  rw [← hb]
  clear hb
  go_loopw [11] (fun i wr => ∃ k : Nat, k ≤ l.length ∧ i = .int .i64 k ∧ Hid (Below b w wr) ∧ Hid (MapP wr b (l.take k))) (fun i _ => l.length - (intOf i).toNat)
  case atStart => exact ⟨0, Nat.zero_le _, rfl, by rw [HQ.out]; exact (Below.refl _ _).alloc (Nat.le_refl _) _, HMp⟩
  case round =>
    obtain ⟨k, hkl, rfl, HW, HMI⟩ := hrel
    by_cases hlt : k < l.length
    · obtain ⟨y, hy⟩ : ∃ y, l[k]? = some y := ⟨_, List.getElem?_eq_getElem hlt⟩
      have HWw : Hid (Below w.heap.size w wr) := by rw [← HQ.out]; exact HW.out
      obtain ⟨g, o, rfl, hg, hcell⟩ := (HA.out.below HWw.out) (by rw [len_flat frC_len]; omega)
      have q0 := hcell _ _ ((get_flat frC_len l k 0 y hy (by omega)).trans rfl)
      have q1 := hcell _ _ ((get_flat frC_len l k 1 y hy (by omega)).trans rfl)
      have q2 := hcell _ _ ((get_flat frC_len l k 2 y hy (by omega)).trans rfl)
      have q3 := hcell _ _ ((get_flat frC_len l k 3 y hy (by omega)).trans rfl)
      simp only [Nat.add_zero, ← Nat.add_assoc] at q0 q1 q2 q3
      have hyo : FrOk y := HOk.out y (List.mem_of_getElem? hy)
      obtain ⟨D, hown, hhas, hat, hsz⟩ := HMI.out
      have hbw : b < wr.heap.size := hown.lt
      have HO : Hid ((wr.alloc (.cells #[.int .i64 y.a0, .int .i64 y.a1, .int .i64 y.a2, .int .i64 y.val] 93)).ownsMap (H := Unit) Tryz.prog 101 (plainElem Tryz.prog 3) b (l.take k).length D) := hown.alloc _
      have HK : Hid (keyOf Tryz.prog 101 (.agg #[.int .i64 y.a0, .int .i64 y.a1, .int .i64 y.a2]) = some (kt y.key)) := kt_is y.key hyo.key
      have HY := Lib.hid (And.intro hy (And.intro hyo (And.intro hhas (And.intro hat (And.intro hsz (And.intro hown.isMap (hown.tidy lawTu)))))))
      have hlen : (l.take k).length = k := by rw [List.length_take]; omega
      have HL := Lib.hid hlen
      have HW64 : Hid ((Lit.int .i64 k).wf = true) := wf64 ⟨by omega, by omega⟩
      clear hown hhas hat hy hyo hcell hsz hlen
      go_wp2_with (at_mapUpdate; refine wpList_mapUpdate_own _ rfl _ _ _ 89 rfl 101 3 lawTu underPl _ b (l.take k).length D rfl HO.out (by rw [HL.out]; simp only [maxLen]; omega) _ _ _ rfl rfl HK.out _ [] (plainElem_int Tryz.underlying3 HW64.out) ?_; intro w4 hown4 hgrow4)
      go_roundw
      case rel =>
        obtain ⟨hy, hyo, hhas, hat, hsz, hmap, hti⟩ := HY.out
        refine ⟨k + 1, by omega, by go_num, ?_, ?_⟩
        · exact (HW.out.alloc (by omega) _).grown hgrow4 (by simp; omega) (fun j e => by cases e; exact Nat.le_refl _)
        · rw [take_snoc hy]
          refine MapP.put (fun n hn => HOk.out n (List.mem_of_mem_take hn)) hyo (HU.out k y hy) hhas hat hsz hmap hti ?_
          rw [HL.out] at hown4 ⊢
          exact hown4
      case measure => simp [intOf]; omega
    · obtain rfl : k = l.length := by omega
      have HMl : Hid (MapP wr b l) := by have := HMI.out; rw [List.take_length] at this; exact this
      go_wp2
      go_ret
      exact ⟨by rw [← HQ.out]; exact HW.out, b, by rw [HQ.out]; exact Nat.le_refl _, rfl, HMl.out⟩
end Go.Proofs.YtbddghcdibdloaaGreatDoor
namespace Go.Proofs.YtbddghcdibdloaaGreatDoor
open Go.RowKit
set_option linter.unusedVariables false
theorem i64_mayV {x : Int} (h : mayB x = true) : I64 x := by rw [mayB_true] at h; exact ⟨by omega, by omega⟩
theorem NMay_yes (v : Int) (w : World) (hv : mayB v = true) :
    Calls Tryz.prog 7 #[.int .i64 v] w fun e w' => e = .returned (.bool true) ∧ Below w.heap.size w w' := by
  refine (Tm.May_any v w (i64_mayV hv)).mono ?_
  rintro e w' ⟨rfl, h⟩
  exact ⟨by rw [hv], h⟩
theorem below_any (n : Int) (w : World) :
    Calls Tryz.prog 47 #[.int .i64 n] w fun e w' => e = .returned (.func (.func 57) #[] #[.pointer (some ⟨w.heap.size, 0, none⟩)]) ∧ w.alloc (.cells #[.int .i64 n] 3) = w' := by
  go_enter Tryz.func47, Tryz.ntmps47
  go_wp2
  go_ret
  exact ⟨rfl, rfl⟩
/-- The closures of Bool and Int lie in block B. -/
def LV (w : World) (B : Nat) : Prop := B < w.heap.size ∧ w.cell? ⟨B, 1, none⟩ = some (.func (.func 7) #[] #[])
theorem LV.below {w w' : World} {B : Nat} (h : LV w B) (hb : Below w.heap.size w w') : LV w' B :=
  ⟨Nat.lt_of_lt_of_le h.1 hb.size, (hb.cell (p := ⟨B, 1, none⟩) h.1).trans h.2⟩
def VOPost (w : World) (e : Ending) (w' : World) : Prop := ∃ B, w.heap.size ≤ B ∧ e = .returned (.slice (some ⟨B, 0, none⟩) 2 2) ∧ LV w' B ∧ Below w.heap.size w w'
theorem valuesOf_none (sa fa : Option Addr) (sc fn fc : Nat) (w : World) :
    Calls Tryz.prog 40 #[.agg #[.slice sa 0 sc, .slice fa fn fc]] w (VOPost w) := by
  go_enter Tryz.func40, Tryz.ntmps40
  go_wp2_with (go_at_call 47; refine (below_any _ _).mono ?_; rintro e w' ⟨rfl, rfl⟩)
  obtain ⟨W2, hW2⟩ : ∃ W2, W2 = (((w.alloc (.cells #[.slice sa 0 sc, .slice fa fn fc] 51)).alloc (.cells #[.int .i64 2] 3)).alloc (.cells #[.func (.func 57) #[] #[.pointer (some ⟨w.heap.size + 1, 0, none⟩)], .func (.func 7) #[] #[]] 24)) := ⟨_, rfl⟩
  have hB2 : Below w.heap.size w W2 := by rw [hW2]; exact (((Below.refl _ _).alloc (Nat.le_refl _) _).alloc (by simp) _).alloc (by simp; omega) _
  have hL : LV W2 (w.heap.size + 1 + 1) := by
    have e0 : W2.heap[w.heap.size + 1 + 1]? = some (.cells #[.func (.func 57) #[] #[.pointer (some ⟨w.heap.size + 1, 0, none⟩)], .func (.func 7) #[] #[]] 24 (0, 0)) := by
      rw [hW2]
      have := heap_alloc_new ((w.alloc (.cells #[.slice sa 0 sc, .slice fa fn fc] 51)).alloc (.cells #[.int .i64 2] 3)) (.cells #[.func (.func 57) #[] #[.pointer (some ⟨w.heap.size + 1, 0, none⟩)], .func (.func 7) #[] #[]] 24)
      simpa only [World.size_alloc] using this
    have a1 := cell_of_row _ _ 1 _ _ _ e0
    simp only [List.getElem?_toArray, List.getElem?_cons_zero, List.getElem?_cons_succ] at a1
    exact ⟨(Array.getElem?_eq_some_iff.1 e0).1, a1⟩
  rw [← hW2]
  have HB2 := Lib.hid hB2
  have HL := Lib.hid hL
  clear hW2 hB2 hL
  go_loopw [3, 11] (fun v i wr => v = .slice (some ⟨w.heap.size + 1 + 1, 0, none⟩) 2 2 ∧ i = .int .i64 0 ∧ W2 = wr) (fun _ _ _ => 0)
  case atStart => exact ⟨rfl, rfl, rfl⟩
  case round =>
    obtain ⟨rfl, rfl, rfl⟩ := hrel
    go_wp2
    go_ret
    exact ⟨_, by omega, rfl, HL.out, HB2.out⟩
theorem has_int (B : Nat) (v : Int) (w : World) (hL : LV w B) (hv : mayB v = true) :
    Calls Tryz.prog 49 #[.slice (some ⟨B, 0, none⟩) 2 2, .int .i64 1, .int .i64 v] w fun e w' => e = .returned (.bool true) ∧ Below w.heap.size w w' := by
  obtain ⟨hlt, c1⟩ := hL
  have HM := Lib.hid hv
  clear hv
  go_enter Tryz.func49, Tryz.ntmps49
  go_wp2_with (go_at_call 7; refine (NMay_yes v _ HM.out).mono ?_; rintro e w' ⟨rfl, hb1⟩)
  go_ret
  exact ⟨rfl, hb1⟩
end Go.Proofs.YtbddghcdibdloaaGreatDoor
