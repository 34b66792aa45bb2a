/- Package offset's Le. -/
import Derived.Test.YtinogambkfihpaaDoorOfE
import Derived.Deep.RegionHeld3
namespace Go.Proofs.YtinogambkfihpaaDoor.Tm
open Go.RowKit
set_option linter.unusedVariables false
/-- What Put answers: a table, a place, an error. -/
def putF (l : List NodeA) (N : NodeA) (most : Int) : List NodeA × Int × Int :=
  if mayT l = true ∧ standsB N l.length = true then (if N ∈ l then (l, fndN l N, 0) else if most ≤ l.length then ([], 0, 40) else (l ++ [N], l.length, 0)) else ([], 0, 2)
def TabOut (w : World) (r : List NodeA × Int × Int) (e : Ending) (w' : World) : Prop :=
  ∃ a c, e = .returned (.tuple #[.agg #[.slice a r.1.length c], .int .i64 r.2.1, .int .i64 r.2.2]) ∧ TabR w' r.1 a c ∧ Below w.heap.size w w'
theorem tab_nil (w : World) : TabR w [] none 0 := ⟨Nat.le_refl _, Nat.zero_le _, fun h => absurd h (by simp), fun _ h => by simp at h⟩
theorem PutF_any (l : List NodeA) (a : Option Addr) (c : Nat) (N : NodeA) (most : Int) (r : List NodeA × Int × Int) (w : World) (hG : GT w) (hA : TabR w l a c) (hn : NodeOk N) (hmo : I64 most) (hl : l.length ≤ 900) (hr : putF l N most = r) :
    Calls Tryd.prog 16 #[.agg #[.slice a l.length c], .agg #[.int .i8 N.op, .int .i8 N.len, .int .i64 N.a0, .int .i64 N.a1, .int .i64 N.a2, .int .i64 N.sort, .int .i64 N.fn, .int .i64 N.num], .int .i64 most] w (TabOut w r) := by
  refine (Put_any l a c N most w hG hA hn hmo hl).mono ?_
  rintro e w' ⟨hb, ⟨h, he⟩ | ⟨h1, h2, h3, a', c', he, hT⟩ | ⟨h1, h2, h3, h4, he⟩ | ⟨h1, h2, h3, h4, L, a', c', hL, he, hT⟩⟩
  · obtain rfl : ([], 0, 2) = r := by rw [← hr]; exact (if_neg h).symm
    exact ⟨none, 0, he, tab_nil _, hb⟩
  · obtain rfl : (l, (fndN l N : Int), 0) = r := by rw [← hr]; unfold putF; rw [if_pos ⟨h1, h2⟩, if_pos h3]
    exact ⟨a', c', he, hT, hb⟩
  · obtain rfl : ([], 0, 40) = r := by rw [← hr]; unfold putF; rw [if_pos ⟨h1, h2⟩, if_neg h3, if_pos h4]
    exact ⟨none, 0, he, tab_nil _, hb⟩
  · obtain rfl : (l ++ [N], (l.length : Int), 0) = r := by rw [← hr]; unfold putF; rw [if_pos ⟨h1, h2⟩, if_neg h3, if_neg (by omega)]
    subst hL
    exact ⟨a', c', he, hT, hb⟩
/-- A table's row is no box of a slice: a store there leaves it. -/
theorem TabR.box {w : World} {l : List NodeA} {a x : Option Addr} {c b n m : Nat} {ty : TypeId} (h : TabR w l a c) (hb : w.heap[b]? = some (.cells #[.slice x n m] ty (0, 0))) (v : Value) : TabR (w.setCell ⟨b, 0, none⟩ v) l a c := by
  refine ⟨h.le, h.cap, ?_, h.ok⟩
  cases l with
  | nil => exact fun h0 => absurd h0 (by simp)
  | cons y r =>
    obtain ⟨g, o, rfl, hg, q0, _⟩ := h.node (k := 0) (n := y) rfl
    have hne : g ≠ b := fun e => by
      subst e
      rw [cell_of_row _ _ _ _ _ _ hb] at q0
      cases o with
      | zero => simp at q0
      | succ o => simp at q0
    have hs : (w.setCell ⟨b, 0, none⟩ v).heap.size = w.heap.size := by simp
    rw [hs]
    exact h.tat.heap (fun g' o' e => by cases e; exact Below.heap_setCell _ _ _ _ hne)
/-- The node of a base and an offset. -/
def nodeP (l : List NodeA) (base : Nat) (n : Int) : NodeA := if base = 1 then ⟨10, 0, 0, 0, 0, 1, 0, n⟩ else if n = 0 then l.getD base trueN else ⟨11, 1, base, 0, 0, 1, 0, n⟩
/-- What put answers. -/
def putP (l : List NodeA) (base n most : Int) : List NodeA × Int × Int :=
  if (ofP l base).2.2 = 0 then (if (ofP l base).1 = base then (if mayB n = true then putF l (nodeP l base.toNat n) most else ([], 0, 10)) else ([], 0, 2)) else ([], 0, (ofP l base).2.2)
theorem ofP_in {l : List NodeA} {id : Int} (h : (ofP l id).2.2 = 0) : 0 ≤ id ∧ id < l.length := by
  unfold ofP at h
  split at h
  · cases h
  · omega
theorem i8_of {x : Int} (h : -128 ≤ x ∧ x ≤ 127) : I8 x := h
theorem i64_of {x : Int} (h : -9223372036854775808 ≤ x ∧ x ≤ 9223372036854775807) : I64 x := h
theorem nodeP_ok {l : List NodeA} {base : Nat} {n : Int} (hl : l.length ≤ 1000) (hb : base < l.length) (hn : I64 n) (ho : ∀ x ∈ l, NodeOk x) : NodeOk (nodeP l base n) := by
  have h0 : I8 0 := i8_of (by omega)
  have h1 : I8 1 := i8_of (by omega)
  have h10 : I8 10 := i8_of (by omega)
  have h11 : I8 11 := i8_of (by omega)
  have z1 : I64 1 := i64_of (by omega)
  have zb : I64 base := i64_of (by omega)
  unfold nodeP
  split
  · exact ⟨h10, h0, zero_i64, zero_i64, zero_i64, z1, zero_i64, hn⟩
  · split
    · rw [List.getD_eq_getElem?_getD, List.getElem?_eq_getElem hb]
      exact ho _ (List.getElem_mem hb)
    · exact ⟨h11, h1, zb, zero_i64, zero_i64, z1, zero_i64, hn⟩
end Go.Proofs.YtinogambkfihpaaDoor.Tm
namespace Go.Proofs.YtinogambkfihpaaDoor.Tm
open Go.RowKit
set_option linter.unusedVariables false
def addS (l : List NodeA) (id n : Int) : Int × Int := stepA ((OfP l id).2.1, (OfP l id).2.2) n
/-- What Add answers. -/
def addP (l : List NodeA) (id n most : Int) : List NodeA × Int × Int :=
  if (addS l id n).2 = 0 then putP l (OfP l id).1 (addS l id n).1 most else ([], 0, (addS l id n).2)
theorem ofP_lt (l : List NodeA) (id : Int) (hl : l.length ≤ 1000) (hok : okFrom [] l = true) : I64 (ofP l id).1 := by
  have hr : ∀ (f k : Nat) (s : Int × Int), k ≤ 1000 → (rootP l f k s).1 ≤ 1000 := by
    intro f
    induction f with
    | zero => intro k s h; exact h
    | succ f ih =>
      intro k s h
      unfold rootP
      cases hn : l[k]? with
      | none => exact h
      | some n =>
        simp only
        by_cases h0 : n.op = 10
        · rw [if_pos h0]; show 1 ≤ 1000; omega
        rw [if_neg h0]
        by_cases h1 : n.op = 11
        · rw [if_pos h1]
          have := stands_add (ok_at hok hn).1 h1
          exact ih _ _ (by omega)
        · rw [if_neg h1]; exact h
  unfold ofP
  by_cases h : id < 0 ∨ l.length ≤ id
  · rw [if_pos h]; exact zero_i64
  rw [if_neg h]
  cases l[id.toNat]? with
  | none => exact zero_i64
  | some n =>
    simp only
    by_cases h0 : n.sort = 1
    · rw [if_pos h0]
      by_cases h1 : (rootA l id.toNat).2.2 = 0
      · rw [if_pos h1]
        have := hr (id.toNat + 1) id.toNat (0, 0) (by omega)
        show I64 ((rootA l id.toNat).1 : Nat)
        unfold rootA at *
        exact i64_of ⟨by omega, by omega⟩
      · rw [if_neg h1]; exact zero_i64
    · rw [if_neg h0]; exact zero_i64
end Go.Proofs.YtinogambkfihpaaDoor.Tm
namespace Go.Proofs.YtinogambkfihpaaDoor.Tm
open Go.RowKit
set_option linter.unusedVariables false
/-- What Le answers. -/
def leP (l : List NodeA) (a b c most : Int) : List NodeA × Int × Bool × Int :=
  if (diffP l a b c).2.2.2 = 0 then ((putF l (compN (diffP l a b c).1 (diffP l a b c).2.1 (diffP l a b c).2.2.1) most).1, (putF l (compN (diffP l a b c).1 (diffP l a b c).2.1 (diffP l a b c).2.2.1) most).2.1, !decide ((diffP l a b c).1 = (diffP l a b c).2.1) && decide ((putF l (compN (diffP l a b c).1 (diffP l a b c).2.1 (diffP l a b c).2.2.1) most).2.2 = 0), (putF l (compN (diffP l a b c).1 (diffP l a b c).2.1 (diffP l a b c).2.2.1) most).2.2) else ([], 0, false, (diffP l a b c).2.2.2)
def LeOut (w : World) (r : List NodeA × Int × Bool × Int) (e : Ending) (w' : World) : Prop :=
  ∃ a c, e = .returned (.tuple #[.agg #[.slice a r.1.length c], .int .i64 r.2.1, .bool r.2.2.1, .int .i64 r.2.2.2]) ∧ TabR w' r.1 a c ∧ Below w.heap.size w w'
theorem compN_ok {x y d : Int} (hx : I64 x) (hy : I64 y) (hd : I64 d) : NodeOk (compN x y d) := by
  have h0 : I8 0 := i8_of (by omega)
  have h1 : I8 1 := i8_of (by omega)
  have h2 : I8 2 := i8_of (by omega)
  have h12 : I8 12 := i8_of (by omega)
  unfold compN
  split
  · split
    · exact ⟨h0, h0, zero_i64, zero_i64, zero_i64, zero_i64, zero_i64, zero_i64⟩
    · exact ⟨h1, h1, zero_i64, zero_i64, zero_i64, zero_i64, zero_i64, zero_i64⟩
  · exact ⟨h12, h2, hx, hy, zero_i64, zero_i64, zero_i64, hd⟩
theorem diffP_may {l : List NodeA} {a b c : Int} (h : (diffP l a b c).2.2.2 = 0) : (OfP l a).2.2 = 0 ∧ (diffS l a b c).2 = 0 ∧ (ofP l b).2.2 = 0 := by
  have h1 : (OfP l a).2.2 = 0 := by
    by_cases h1 : (OfP l a).2.2 = 0
    · exact h1
    · unfold diffP at h; rw [if_neg h1] at h; exact h
  have h2 : (diffS l a b c).2 = 0 := by
    by_cases h2 : (diffS l a b c).2 = 0
    · exact h2
    · unfold diffP at h; rw [if_pos h1, if_neg h2] at h; exact h
  refine ⟨h1, h2, ?_⟩
  by_cases h3 : (ofP l b).2.2 = 0
  · exact h3
  · unfold diffS at h2
    rw [stepS_err (s := (c, (ofP l b).2.2)) h3, stepA_err (s := (c, (ofP l b).2.2)) h3] at h2
    exact h2
theorem diffP_i64 {l : List NodeA} {a b c : Int} (hl : l.length ≤ 1000) (hc : I64 c) (h : (diffP l a b c).2.2.2 = 0) : I64 (diffP l a b c).1 ∧ I64 (diffP l a b c).2.1 ∧ I64 (diffP l a b c).2.2.1 := by
  obtain ⟨h1, h2, h3⟩ := diffP_may h
  have hm := OfP_may h1
  unfold diffP
  rw [if_pos h1, if_pos h2]
  refine ⟨?_, ofP_lt l b hl (mayT_ok hm).2, ?_⟩
  · rw [OfP_eq hm]; exact ofP_lt l a hl (mayT_ok hm).2
  · exact stepA_i64 (stepS_i64 hc)
theorem box3 {w : World} {b : Nat} {v : Value} {T : TypeId} (h : w.heap[b]? = some (.cells #[v] T (0, 0))) : w.cell? ⟨b, 0, none⟩ = some v ∧ w.frozen? ⟨b, 0, none⟩ = false ∧ b < w.heap.size :=
  ⟨(cell_of_row _ _ 0 _ _ _ h).trans rfl, by simp [World.frozen?, h], (Array.getElem?_eq_some_iff.1 h).1⟩
theorem lt_alloc (w : World) (o : Obj) : w.heap.size < (w.alloc o).heap.size := by simp
theorem zTab_at (w : World) : (w.alloc (.cells #[.slice none 0 0] 33)).heap[w.heap.size]? = some (.cells #[.slice none 0 0] 33 (0, 0)) := heap_alloc_new w _
theorem own3 {w w' : World} (h : Below (w.alloc (.cells #[.slice none 0 0] 33)).drew.heap.size (w.alloc (.cells #[.slice none 0 0] 33)).drew w') : w'.heap[w.heap.size]? = some (.cells #[.slice none 0 0] 33 (0, 0)) := by
  have e0 : (w.alloc (.cells #[.slice none 0 0] 33)).drew.heap[w.heap.size]? = some (.cells #[.slice none 0 0] 33 (0, 0)) := heap_alloc_new w _
  exact (h.block _ (Array.getElem?_eq_some_iff.1 e0).1).trans e0
/-- What the box of Le's own table has come to, wherever it was made. -/
structure LeX (W0 X : World) (B R : Nat) (L : List NodeA) (a : Option Addr) (c : Nat) : Prop where
  below : Below W0.heap.size W0 X
  tab : TabR X L a c
  own : X.cell? ⟨B, 0, none⟩ = some (.slice a L.length c)
  lt : B < X.heap.size
  res : X.heap[R]? = some (.cells #[.slice none 0 0] 33 (0, 0))
theorem le_alloc {W0 w : World} {R : Nat} {L : List NodeA} {a : Option Addr} {c : Nat} (hT : TabR w L a c) (hb : Below W0.heap.size W0 w) (hr : w.heap[R]? = some (.cells #[.slice none 0 0] 33 (0, 0))) : LeX W0 (w.alloc (.cells #[.slice a L.length c] 33)) w.heap.size R L a c :=
  ⟨hb.alloc hb.size _, hT.below ((Below.refl _ w).alloc (Nat.le_refl _) _), (cell_of_row _ _ 0 _ _ _ (heap_alloc_new w (.cells #[.slice a L.length c] 33))).trans rfl, by simp, (Below.heap_alloc _ _ _ (Array.getElem?_eq_some_iff.1 hr).1).trans hr⟩
theorem le_set {W0 w : World} {R B : Nat} {L : List NodeA} {a : Option Addr} {c : Nat} (hT : TabR w L a c) (hb : Below W0.heap.size W0 w) (hr : w.heap[R]? = some (.cells #[.slice none 0 0] 33 (0, 0))) (hk : w.heap[B]? = some (.cells #[.slice none 0 0] 33 (0, 0))) (hB : W0.heap.size ≤ B) (hR : R < W0.heap.size) : LeX W0 (w.setCell ⟨B, 0, none⟩ (.slice a L.length c)) B R L a c :=
  ⟨hb.setCell (p := ⟨B, 0, none⟩) hB _, hT.box hk _, (cell_of_row _ _ 0 _ _ _ (heap_setCell_same w B 0 _ _ (.slice a L.length c) hk)).trans rfl, by simpa using (Array.getElem?_eq_some_iff.1 hk).1, (Below.heap_setCell _ _ _ _ (by show R ≠ B; omega)).trans hr⟩
set_option maxRecDepth 100000 in
set_option maxHeartbeats 4000000 in
theorem Le_any (l : List NodeA) (ad : Option Addr) (cp : Nat) (a b c most : Int) (r : List NodeA × Int × Bool × Int) (w : World) (hG : GT w) (hA : TabR w l ad cp) (hl : l.length ≤ 900) (ha : I64 a) (hb : I64 b) (hc : I64 c) (hmo : I64 most) (hr : leP l a b c most = r) :
    Calls Tryd.prog 8 #[.agg #[.slice ad l.length cp], .int .i64 a, .int .i64 b, .int .i64 c, .int .i64 most] w (LeOut w r) := by
  obtain ⟨W0, hW0⟩ : ∃ W0, W0 = (w.alloc (.cells #[.slice ad l.length cp] 33)).alloc (.cells #[.slice none 0 0] 33) := ⟨_, rfl⟩
  have HB0 : Hid (Below w.heap.size w W0) := by show Below _ _ _; rw [hW0]; exact ((Below.refl _ w).alloc (Nat.le_refl _) _).alloc (by simp) _
  have hX0 : W0.heap[w.heap.size]? = some (.cells #[.slice ad l.length cp] 33 (0, 0)) := by rw [hW0]; exact (Below.heap_alloc _ _ _ (by simp)).trans (heap_alloc_new w _)
  have hY0 : W0.heap[w.heap.size + 1]? = some (.cells #[.slice none 0 0] 33 (0, 0)) := by
    have := heap_alloc_new (w.alloc (.cells #[.slice ad l.length cp] 33)) (.cells #[.slice none 0 0] 33)
    rw [World.size_alloc] at this
    rw [hW0]; exact this
  have hR0 : w.heap.size + 1 < W0.heap.size := (Array.getElem?_eq_some_iff.1 hY0).1
  have HSK : Hid (∀ V, Below W0.heap.size W0 V → V.cell? ⟨w.heap.size, 0, none⟩ = some (.slice ad l.length cp) ∧ V.cell? ⟨w.heap.size + 1, 0, none⟩ = some (.slice none 0 0) ∧ (∀ i, V.frozen? ⟨w.heap.size + 1, i, none⟩ = false) ∧ w.heap.size < V.heap.size ∧ w.heap.size + 1 < V.heap.size) := fun V hV => by
    have e0 := (hV.block _ (Array.getElem?_eq_some_iff.1 hX0).1).trans hX0
    have e1 := (hV.block _ (Array.getElem?_eq_some_iff.1 hY0).1).trans hY0
    exact ⟨(cell_of_row _ _ 0 _ _ _ e0).trans rfl, (cell_of_row _ _ 0 _ _ _ e1).trans rfl, fun i => by simp [World.frozen?, e1], (Array.getElem?_eq_some_iff.1 e0).1, (Array.getElem?_eq_some_iff.1 e1).1⟩
  have HSR : Hid (∀ V, Below W0.heap.size W0 V → V.heap[w.heap.size + 1]? = some (.cells #[.slice none 0 0] 33 (0, 0))) := fun V hV => (hV.block _ (Array.getElem?_eq_some_iff.1 hY0).1).trans hY0
  obtain ⟨d, hd⟩ : ∃ d, diffP l a b c = d := ⟨_, rfl⟩
  have HD : Hid (Calls Tryd.prog 14 #[.agg #[.slice ad l.length cp], .int .i64 a, .int .i64 b, .int .i64 c] W0 fun e w' => e = .returned (.tuple #[.int .i64 d.1, .int .i64 d.2.1, .int .i64 d.2.2.1, .int .i64 d.2.2.2]) ∧ Below W0.heap.size W0 w') := Diff_any l ad cp a b c d W0 (hG.below HB0.out) (hA.below HB0.out) (by omega) ha hb hc hd
  by_cases he : d.2.2.2 = 0
  rotate_left
  · obtain rfl : ([], 0, false, d.2.2.2) = r := by rw [← hr]; unfold leP; rw [hd, if_neg he]
    obtain ⟨d0, d1, d2, d3⟩ := d
    simp only at HD
    have e0 := ne_t he
    simp only at e0
    clear hr he hA hG hd hX0 hY0
    go_enter Tryd.func8, Tryd.ntmps8
    go_wp2_with (first | (go_at_call 14; rw [← hW0]; clear hW0; refine HD.out.mono ?_; rintro e w1 ⟨rfl, hb1⟩; have HB1 := Lib.hid hb1; clear hb1; obtain ⟨t0, y0, yf, tz, yz⟩ := HSK.out _ HB1.out))
    have k0 : (w1.setCell ⟨w.heap.size + 1, 0, none⟩ (.slice none 0 0)).cell? ⟨w.heap.size + 1, 0, none⟩ = some (.slice none 0 0) := World.cell?_setCell_same' _ _ _ (by rw [y0]; rfl)
    refine bodyPost_ret (v := .tuple #[.agg #[.slice none 0 0], .int .i64 0, .bool false, .int .i64 d3]) (by simp [results, Tryd.results8, go_sem, k0]) rfl ⟨none, 0, rfl, tab_nil _, ?_⟩
    exact (HB0.out.trans (HB1.out.mono HB0.out.size)).setCell (p := ⟨w.heap.size + 1, 0, none⟩) (by simp) _
  obtain ⟨i0, i1, i2⟩ := diffP_i64 (a := a) (b := b) (c := c) (l := l) (by omega) hc (by rw [hd]; exact he)
  rw [hd] at i0 i1 i2
  obtain ⟨N, hN⟩ : ∃ N, compN d.1 d.2.1 d.2.2.1 = N := ⟨_, rfl⟩
  have hNo : NodeOk N := by rw [← hN]; exact compN_ok i0 i1 i2
  obtain ⟨q, hq⟩ : ∃ q, putF l N most = q := ⟨_, rfl⟩
  have hr2 : (q.1, q.2.1, !decide (d.1 = d.2.1) && decide (q.2.2 = 0), q.2.2) = r := by rw [← hr]; unfold leP; rw [hd, if_pos he, hN, hq]
  have HCm : Hid (∀ V, Below W0.heap.size W0 V → Calls Tryd.prog 17 #[.int .i64 d.1, .int .i64 d.2.1, .int .i64 d.2.2.1] V fun e w' => e = .returned (.agg #[.int .i8 N.op, .int .i8 N.len, .int .i64 N.a0, .int .i64 N.a1, .int .i64 N.a2, .int .i64 N.sort, .int .i64 N.fn, .int .i64 N.num]) ∧ Below W0.heap.size W0 w' ∧ Below V.heap.size V w') := fun V hV => (comp_any _ _ _ N V hN).mono fun e w' ⟨h1, h2⟩ => ⟨h1, hV.trans (h2.mono hV.size), h2⟩
  have HPt : Hid (∀ V, Below W0.heap.size W0 V → Calls Tryd.prog 16 #[.agg #[.slice ad l.length cp], .agg #[.int .i8 N.op, .int .i8 N.len, .int .i64 N.a0, .int .i64 N.a1, .int .i64 N.a2, .int .i64 N.sort, .int .i64 N.fn, .int .i64 N.num], .int .i64 most] V fun e w' => ∃ a c, e = .returned (.tuple #[.agg #[.slice a q.1.length c], .int .i64 q.2.1, .int .i64 q.2.2]) ∧ TabR w' q.1 a c ∧ Below W0.heap.size W0 w' ∧ Below V.heap.size V w') := fun V hV => (PutF_any l ad cp _ most q V (hG.below (HB0.out.trans (hV.mono HB0.out.size))) (hA.below (HB0.out.trans (hV.mono HB0.out.size))) hNo hmo hl hq).mono fun e w' ⟨a', c', h1, h2, h3⟩ => ⟨a', c', h1, h2, hV.trans (h3.mono hV.size), h3⟩
  obtain ⟨d0, d1, d2, d3⟩ := d
  obtain rfl : d3 = 0 := he
  obtain ⟨q0, q1, q2⟩ := q
  subst hr2
  simp only at HD HCm HPt
  clear hr hA hG hd hX0 hY0 hN hNo hq i0 i1 i2
  have HQ : Hid (∀ V (ob : Obj), Below W0.heap.size W0 V → (V.alloc ob).cell? ⟨w.heap.size, 0, none⟩ = some (.slice ad l.length cp)) := fun V ob hV => (HSK.out _ (hV.alloc hV.size ob)).1
  have HQ2 : Hid (∀ V B (v : Value), Below W0.heap.size W0 V → W0.heap.size ≤ B → (V.setCell ⟨B, 0, none⟩ v).cell? ⟨w.heap.size, 0, none⟩ = some (.slice ad l.length cp)) := fun V B v hV hB => (HSK.out _ (hV.setCell (p := ⟨B, 0, none⟩) hB v)).1
  go_enter Tryd.func8, Tryd.ntmps8
  go_wp2_with (first | (go_at_call 14; rw [← hW0]; clear hW0; refine HD.out.mono ?_; rintro e w1 ⟨rfl, hb1⟩; have HB1 := Lib.hid hb1; clear hb1; obtain ⟨t0, y0, yf, tz, yz⟩ := HSK.out _ HB1.out))
  clear y0 yf yz
  go_region_held3 (fun W => W.cell? ⟨w.heap.size, 0, none⟩ = some (.slice ad l.length cp)) (first | exact t0 | exact HQ.out _ _ HB1.out | exact HQ.out _ _ HB2.out | exact HQ.out _ _ HB3.out | exact HQ2.out _ _ _ HB3.out HB1.out.size | exact HQ2.out _ _ _ HB3.out HB2.out.size | go_keep) (first
    | (go_at_call 17; with_reducible refine (HCm.out w1.drew HB1.out.drew).mono ?_; rintro e w2 ⟨rfl, hb2, hv2⟩; have HB2 := Lib.hid hb2; clear hb2 hv2 t0; have t0 := (HSK.out _ HB2.out).1)
    | (go_at_call 16; have KH1 := KH.out; with_reducible refine (HPt.out w2 HB2.out).mono ?_; rintro e w3 ⟨a3, c3, rfl, hT3, hb3, hv3⟩; have HT3 := Lib.hid hT3; have HB3 := Lib.hid hb3; have kh := (hv3.block w1.heap.size (Array.getElem?_eq_some_iff.1 KH1).1).trans KH1; clear KH KH1; have KH := Lib.hid kh; obtain ⟨k0, kf, kz⟩ := box3 kh; clear hT3 hb3 hv3 t0 kh; have t0 := (HSK.out _ HB3.out).1)
    | (go_at_call 16; with_reducible refine (HPt.out w2 HB2.out).mono ?_; rintro e w3 ⟨a3, c3, rfl, hT3, hb3, hv3⟩; have HT3 := Lib.hid hT3; have HB3 := Lib.hid hb3; clear hT3 hb3 hv3 t0; have t0 := (HSK.out _ HB3.out).1)
    | (go_at_call 16; with_reducible refine (HPt.out (w2.alloc (.cells #[.slice none 0 0] 33)) (HB2.out.alloc HB2.out.size _)).mono ?_; rintro e w3 ⟨a3, c3, rfl, hT3, hb3, hv3⟩; have HT3 := Lib.hid hT3; have HB3 := Lib.hid hb3; have kh := (hv3.block w2.heap.size (lt_alloc w2 _)).trans (zTab_at w2); have KH := Lib.hid kh; obtain ⟨k0, kf, kz⟩ := box3 kh; clear hT3 hb3 hv3 t0 kh; have t0 := (HSK.out _ HB3.out).1)
    | (go_at_call 17; with_reducible refine (HCm.out (w1.alloc (.cells #[.slice none 0 0] 33)).drew (HB1.out.alloc HB1.out.size _).drew).mono ?_; rintro e w2 ⟨rfl, hb2, hv2⟩; have HB2 := Lib.hid hb2; have kh := own3 hv2; have KH := Lib.hid kh; clear hb2 hv2 t0 kh; have t0 := (HSK.out _ HB2.out).1))
  all_goals
    clear t0
    try clear k0 kf kz
    first
    | (have hX := le_set HT3.out HB3.out (HSR.out _ HB3.out) KH.out HB2.out.size hR0
       generalize w3.setCell ⟨w2.heap.size, 0, none⟩ (.slice a3 q0.length c3) = X at hX ⊢)
    | (have hX := le_set HT3.out HB3.out (HSR.out _ HB3.out) KH.out HB1.out.size hR0
       generalize w3.setCell ⟨w1.heap.size, 0, none⟩ (.slice a3 q0.length c3) = X at hX ⊢)
    | (have hX := le_alloc HT3.out HB3.out (HSR.out _ HB3.out)
       generalize w3.alloc (.cells #[.slice a3 q0.length c3] 33) = X at hX ⊢)
    have HX := Lib.hid hX
    have x0 := hX.own
    have xz := hX.lt
    obtain ⟨t0, y0, yf, tz, yz⟩ := HSK.out _ hX.below
    clear hX
    by_cases hxy : d0 = d1
    · have e0 := ne_f hxy
      have HF : Hid ((!decide (d0 = d1) && decide (q2 = 0)) = false) := by show _ = _; rw [decide_eq_true hxy]; rfl
      clear hxy
      go_wp2_with fail
      have k0 : (X.setCell ⟨w.heap.size + 1, 0, none⟩ (.slice a3 q0.length c3)).cell? ⟨w.heap.size + 1, 0, none⟩ = some (.slice a3 q0.length c3) := World.cell?_setCell_same' _ _ _ (by rw [y0]; rfl)
      refine bodyPost_ret (v := .tuple #[.agg #[.slice a3 q0.length c3], .int .i64 q1, .bool false, .int .i64 q2]) (by simp [results, Tryd.results8, go_sem, k0]) rfl ⟨a3, c3, by rw [HF.out], HX.out.tab.box HX.out.res _, ?_⟩
      exact (HB0.out.trans (HX.out.below.mono HB0.out.size)).setCell (p := ⟨w.heap.size + 1, 0, none⟩) (by simp) _
    · have e0 := ne_t hxy
      by_cases hq2 : q2 = 0
      · have e1 := eq_t hq2
        have HF : Hid ((!decide (d0 = d1) && decide (q2 = 0)) = true) := by show _ = _; rw [decide_eq_false hxy, decide_eq_true hq2]; rfl
        clear hxy hq2
        go_wp2_with fail
        have k0 : (X.setCell ⟨w.heap.size + 1, 0, none⟩ (.slice a3 q0.length c3)).cell? ⟨w.heap.size + 1, 0, none⟩ = some (.slice a3 q0.length c3) := World.cell?_setCell_same' _ _ _ (by rw [y0]; rfl)
        refine bodyPost_ret (v := .tuple #[.agg #[.slice a3 q0.length c3], .int .i64 q1, .bool true, .int .i64 q2]) (by simp [results, Tryd.results8, go_sem, k0]) rfl ⟨a3, c3, by rw [HF.out], HX.out.tab.box HX.out.res _, ?_⟩
        exact (HB0.out.trans (HX.out.below.mono HB0.out.size)).setCell (p := ⟨w.heap.size + 1, 0, none⟩) (by simp) _
      · have e1 := eq_f hq2
        have HF : Hid ((!decide (d0 = d1) && decide (q2 = 0)) = false) := by show _ = _; rw [decide_eq_false hxy, decide_eq_false hq2]; rfl
        clear hxy hq2
        go_wp2_with fail
        have k0 : (X.setCell ⟨w.heap.size + 1, 0, none⟩ (.slice a3 q0.length c3)).cell? ⟨w.heap.size + 1, 0, none⟩ = some (.slice a3 q0.length c3) := World.cell?_setCell_same' _ _ _ (by rw [y0]; rfl)
        refine bodyPost_ret (v := .tuple #[.agg #[.slice a3 q0.length c3], .int .i64 q1, .bool false, .int .i64 q2]) (by simp [results, Tryd.results8, go_sem, k0]) rfl ⟨a3, c3, by rw [HF.out], HX.out.tab.box HX.out.res _, ?_⟩
        exact (HB0.out.trans (HX.out.below.mono HB0.out.size)).setCell (p := ⟨w.heap.size + 1, 0, none⟩) (by simp) _
end Go.Proofs.YtinogambkfihpaaDoor.Tm
