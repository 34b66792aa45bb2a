/- rup.Core: its closure tells; what the rounds keep; a row of one's own turned about. -/
import Derived.Test.YtggighikemhnfaaDoorZRcC
import Derived.Test.YtggighikemhnfaaDoorZRbK
import Derived.Test.YtggighikemhnfaaDoorShf
import Derived.Sort.OwnSortedInts
import Derived.Lib.RowBridge
namespace Go.Proofs.YtggighikemhnfaaDoor.Tm
open Go.RowKit
set_option linter.unusedVariables false
section
open Go.Sort Go.Lib Go.Shelf
theorem row_put {w : World} {base g cap q : Nat} {cur : Array Value} {xs ys rest : List Int} (os : Array Obj) (hb : w.heap[g]? = some (.cells cur 3 (0, 0))) (hbase : base ≤ g) (h1 : xs.length ≤ cap) (h2 : cap ≤ maxLen) (h3 : cur.size = cap * 1) (hl : (ys ++ rest).length = xs.length) :
    RowO (grow (putRow (Value.int .i64) (Sort.ahead w q) g 0 (ys ++ rest).toArray) os) base ys (.slice (some ⟨g, 0, none⟩) ys.length cap) ∧ w.grownBy (grow (putRow (Value.int .i64) (Sort.ahead w q) g 0 (ys ++ rest).toArray) os) (some g) := by
  rw [List.length_append] at hl
  refine ⟨⟨by simp, .inr ⟨g, cap, _, rfl, hbase, heap_sortedI _ hb, by omega, h2, by simp [putCells, h3], ?_⟩⟩, grownBy_sortedI _⟩
  have h := take_putCellsI cur (ys ++ rest) (by rw [List.length_append, h3]; omega)
  have h4 := congrArg (List.take ys.length) h
  rw [List.take_take, List.length_append, Nat.min_eq_left (by omega), List.map_append, List.take_left' (by simp)] at h4
  rw [Nat.mul_one]
  exact h4
theorem below_grownby {w w' : World} {base g : Nat} (hg : w.grownBy w' (some g)) (hbase : base ≤ g) (hb : base ≤ w.heap.size) : Below base w w' :=
  ⟨hg.os, hg.tape, hg.output, hg.size, fun k hk => hg.block k (by omega) (fun e => by cases e; omega)⟩
theorem holds_own {w : World} {g cap : Nat} {cur : Array Value} {xs : List Int} (hb : w.heap[g]? = some (.cells cur 3 (0, 0))) (ht : cur.toList.take (xs.length * 1) = xs.map (Value.int .i64)) : Holds (Value.int .i64) w g 0 xs.toArray := by
  rw [Nat.mul_one] at ht
  exact holds_of_blockI hb ht
theorem reverse_any (xs : List Int) (v : Value) (base : Nat) (w : World) (hown : RowO w base xs v) (hbase : base ≤ w.heap.size) :
    Calls Tryd.prog 56 #[v] w fun e w' => e = .returned (.tuple #[]) ∧ RowO w' base xs.reverse v ∧ Below base w w' := by
  rcases hown.2 with ⟨rfl, h0⟩ | ⟨g, cap, cur, rfl, h1, h2, h3, h4, h5, h6⟩
  · have hx : xs = [] := List.eq_nil_of_length_eq_zero h0
    subst hx
    refine (Tryd.slices_Reverse_int_empty none 0 w).mono ?_
    rintro e w' ⟨rfl, rfl⟩
    exact ⟨rfl, hown, Below.refl _ _⟩
  · refine (Tryd.slices_Reverse_int g 0 cap xs w (holds_own (cap := cap) h2 h6) (len_fits h3 h4)).mono ?_
    rintro e w' ⟨rfl, q, rfl⟩
    obtain ⟨r1, r2⟩ := row_put (w := w) (base := base) (q := q) (xs := xs) (ys := xs.reverse) (rest := []) #[] h2 h1 h3 h4 h5 (by simp)
    rw [grow_empty, List.append_nil] at r1 r2
    rw [List.length_reverse] at r1
    exact ⟨rfl, r1, below_grownby r2 h1 hbase⟩
end
/-- What the rounds of Core keep, beside the memory. -/
structure CoP (cls : List (List Int)) (c : List Int) (n : Nat) (Q : List Nat) : Prop where
  le : n + Q.length ≤ cls.length
  fol : Fol (cls.take n ++ sel cls Q) c
  min : ∀ k, k < n → ¬ Fol (cls.take k ++ sel cls Q) c
  mem : ∀ x ∈ Q, x < cls.length
  eq : coreF cls c cls.length [] = coreF cls c n Q.reverse
theorem mem_sel_rev {cls : List (List Int)} {Q : List Nat} {d : List Int} : d ∈ sel cls Q.reverse ↔ d ∈ sel cls Q := by
  unfold sel
  rw [List.filterMap_reverse, List.mem_reverse]
theorem sel_app {cls : List (List Int)} {Q : List Nat} {n : Nat} {d : List Int} (h : cls[n]? = some d) : sel cls (Q ++ [n]) = sel cls Q ++ [d] := by
  unfold sel
  rw [List.filterMap_append]
  simp [h]
theorem take_sub {cls : List (List Int)} {i j : Nat} (h : i ≤ j) {K : List (List Int)} : ∀ d ∈ cls.take i ++ K, d ∈ cls.take j ++ K := fun d hd => by
  rcases List.mem_append.1 hd with h1 | h1
  · refine List.mem_append_left _ ?_
    rw [show j = i + (j - i) by omega, List.take_add]
    exact List.mem_append_left _ h1
  · exact List.mem_append_right _ h1
theorem fol_rev {cls : List (List Int)} {c : List Int} {A : List (List Int)} {Q : List Nat} : Fol (A ++ sel cls Q.reverse) c ↔ Fol (A ++ sel cls Q) c :=
  ⟨fun h => h.mono (fun d hd => by rw [List.mem_append, mem_sel_rev] at hd; exact List.mem_append.2 hd), fun h => h.mono (fun d hd => by rw [List.mem_append, mem_sel_rev]; exact List.mem_append.1 hd)⟩
theorem CoP.start {cls : List (List Int)} {c : List Int} {n : Nat} (hn : n ≤ cls.length) (hF : Fol (cls.take n ++ sel cls []) c) (hm : ∀ k, k < n → ¬ Fol (cls.take k ++ sel cls []) c) : CoP cls c n [] :=
  ⟨by simpa using hn, hF, hm, fun x hx => (by cases hx), core_skip _ hn hF⟩
theorem CoP.turn {cls : List (List Int)} {c : List Int} {n : Nat} {Q : List Nat} (h : CoP cls c (n + 1) Q) : Fol (cls.take n ++ sel cls (Q ++ [n])) c := by
  obtain ⟨d, hd⟩ : ∃ d, cls[n]? = some d := ⟨_, List.getElem?_eq_getElem (by have := h.le; omega)⟩
  refine h.fol.mono (fun x hx => ?_)
  rw [sel_app hd, List.mem_append, List.mem_append]
  rw [List.take_add_one, hd, List.mem_append, List.mem_append] at hx
  rcases hx with (hx | hx) | hx
  · exact .inl hx
  · exact .inr (.inr (by simpa using hx))
  · exact .inr (.inl hx)
theorem CoP.next {cls : List (List Int)} {c : List Int} {n m : Nat} {Q : List Nat} (h : CoP cls c (n + 1) Q) (hm : m ≤ n) (hF : Fol (cls.take m ++ sel cls (Q ++ [n])) c) (hb : ∀ k, k < m → ¬ Fol (cls.take k ++ sel cls (Q ++ [n])) c) : CoP cls c m (Q ++ [n]) := by
  refine ⟨by have := h.le; simp; omega, hF, hb, fun x hx => (List.mem_append.1 hx).elim (h.mem x) (fun h1 => by rw [List.mem_singleton.1 h1]; have := h.le; omega), ?_⟩
  rw [h.eq, core_keep (fun h2 => h.min n (by omega) (fol_rev.1 h2)), List.reverse_append]
  refine core_skip (m := m) n hm (fol_rev (Q := Q ++ [n]) |>.2 hF |> fun h3 => ?_)
  rw [List.reverse_append] at h3
  exact h3
theorem CoP.done {cls : List (List Int)} {c : List Int} {Q : List Nat} (h : CoP cls c 0 Q) : coreF cls c cls.length [] = Q.reverse := by
  rw [h.eq]
  unfold coreF
  rfl
/-- What Core answers. -/
def CoreP (cls : List (List Int)) (c : List Int) (P : List Nat) : Prop := (¬ Fol cls c ∧ P = []) ∨ (Fol cls c ∧ P = coreF cls c cls.length [])
theorem CoreP.same {cls : List (List Int)} {c : List Int} {P Q : List Nat} (h : CoreP cls c P) (k : CoreP cls c Q) : P = Q := by
  rcases h with ⟨h1, rfl⟩ | ⟨h1, rfl⟩ <;> rcases k with ⟨k1, rfl⟩ | ⟨k1, rfl⟩
  · rfl
  · exact absurd k1 h1
  · exact absurd h1 k1
  · rfl
theorem own_of {w w' : World} {b s n : Nat} {E : TypeId} {v : Value} {L : List Value} (h : w.ownsRow b E s v n L) (hk : ∀ g, v.ownBlock = some g → w'.heap[g]? = w.heap[g]?) : w'.ownsRow b E s v n L := by
  refine ⟨h.1, ?_⟩
  rcases h.2 with hn | ⟨g, cap, cur, rfl, hb, hg, rest⟩
  · exact .inl hn
  · exact .inr ⟨g, cap, cur, rfl, hb, (hk g rfl).trans hg, rest⟩
structure CoS (W5 : World) (B6 : Nat) (Q : List Nat) (ks : List RowD) (ka : Option Addr) (kc : Nat) (pv : Value) (V : World) : Prop where
  os : V.os = W5.os
  tape : V.tape = W5.tape
  output : V.output = W5.output
  size : W5.heap.size ≤ V.heap.size
  block : ∀ k, k < W5.heap.size → k ≠ B6 → V.heap[k]? = W5.heap[k]?
  b6 : V.heap[B6]? = some (.cells #[.slice ka ks.length kc] 22 (0, 0))
  kept : RowsO V W5.heap.size ks (.slice ka ks.length kc)
  pl : RowO V W5.heap.size (Q.map (fun i : Nat => (i : Int))) pv
section
variable {W5 V U u : World} {B6 kc kc' ml : Nat} {Q Q' : List Nat} {ks : List RowD} {y : RowD} {ka ka' : Option Addr} {pv pv' : Value}
theorem CoS.below (h : CoS W5 B6 Q ks ka kc pv V) (hb : Below V.heap.size V U) : CoS W5 B6 Q ks ka kc pv U :=
  ⟨hb.os.trans h.os, hb.tape.trans h.tape, hb.output.trans h.output, Nat.le_trans h.size hb.size, fun k h1 h2 => (hb.block k (Nat.lt_of_lt_of_le h1 h.size)).trans (h.block k h1 h2), (hb.block _ (Array.getElem?_eq_some_iff.1 h.b6).1).trans h.b6, own_of h.kept (fun g hg => hb.block g (own_lt h.kept hg).2), own_of h.pl (fun g hg => hb.block g (own_lt h.pl hg).2)⟩
theorem CoS.place (h0 : CoS W5 B6 Q ks ka kc pv V) (hB : B6 < W5.heap.size) (hU : Below V.heap.size V U) (hg : U.grownBy u pv.ownBlock) (hown : RowO u W5.heap.size (Q'.map (fun i : Nat => (i : Int))) pv') : CoS W5 B6 Q' ks ka kc pv' u := by
  have h := h0.below hU
  have hb : Below W5.heap.size U u := (Below.refl _ U).grown hg h.size (fun k e => (own_lt h.pl e).1)
  refine ⟨hb.os.trans h.os, hb.tape.trans h.tape, hb.output.trans h.output, Nat.le_trans h.size hb.size, fun k h1 h2 => (hb.block k h1).trans (h.block k h1 h2), (hb.block _ hB).trans h.b6, own_of h.kept (fun g hg2 => hg.block g (own_lt h.kept hg2).2 (fun e => ?_)), hown⟩
  rcases own_ne h.kept h.pl (by decide) with h2 | h2
  · rw [h2] at hg2; cases hg2
  · first | exact h2 (hg2.trans e.symm) | exact h2 (hg2.trans e)
theorem CoS.keep (h0 : CoS W5 B6 Q ks ka kc pv V) (hB : B6 < W5.heap.size) (hU : Below V.heap.size V U) (hg : U.grownBy u (Value.slice ka ks.length kc).ownBlock) (hown : RowsO u W5.heap.size (ks ++ [y]) (.slice ka' ml kc')) (hml : (ks ++ [y]).length = ml) : CoS W5 B6 Q (ks ++ [y]) ka' kc' pv (u.setCell ⟨B6, 0, none⟩ (.slice ka' ml kc')) := by
  have h := h0.below hU
  have hb : Below W5.heap.size U u := (Below.refl _ U).grown hg h.size (fun k e => (own_lt h.kept e).1)
  have h6 : u.heap[B6]? = some (.cells #[.slice ka ks.length kc] 22 (0, 0)) := (hb.block _ hB).trans h.b6
  subst hml
  refine ⟨hb.os.trans h.os, hb.tape.trans h.tape, hb.output.trans h.output, by have := hb.size; have := h.size; simp [World.setCell]; omega, fun k h1 h2 => (Below.heap_setCell _ _ _ _ h2).trans ((hb.block k h1).trans (h.block k h1 h2)), setOne h6, own_of hown (fun g hg2 => Below.heap_setCell _ _ _ _ (by have := (own_lt hown hg2).1; show g ≠ B6; omega)), own_of h.pl (fun g hg2 => (Below.heap_setCell _ _ _ _ (by have := (own_lt h.pl hg2).1; show g ≠ B6; omega)).trans (hg.block g (own_lt h.pl hg2).2 (fun e => ?_)))⟩
  rcases own_ne h.pl h.kept (by decide) with h2 | h2
  · rw [h2] at hg2; cases hg2
  · first | exact h2 (hg2.trans e.symm) | exact h2 (hg2.trans e)
end
/-- Numbers that lie where no slice is abide what is done to a slice's box. -/
theorem IntsR.off {V W : World} {xs : List Int} {a a' : Option Addr} {c b n' c' : Nat} {t : TypeId} {fz : Nat × Nat} (h : IntsR V xs a c) (hb : V.heap[b]? = some (.cells #[.slice a' n' c'] t fz)) (hs : V.heap.size ≤ W.heap.size) (hk : ∀ k, k < V.heap.size → k ≠ b → W.heap[k]? = V.heap[k]?) : IntsR W xs a c := by
  refine ⟨h.le, h.cap, fun h0 => ?_, h.ok⟩
  obtain ⟨g, q, e, hg, hc⟩ := h.tat h0
  refine ⟨g, q, e, Nat.lt_of_lt_of_le hg hs, fun i v hv => ?_⟩
  have hci := hc i v hv
  have hne : g ≠ b := fun e2 => by
    subst e2
    obtain ⟨x, _, rfl⟩ := List.mem_map.1 (List.mem_of_getElem? hv)
    rw [World.cell?] at hci
    simp [hb] at hci
    cases List.mem_singleton.1 (List.mem_of_getElem? hci)
  exact (World.cell?_of_block (a := ⟨g, q + i, none⟩) (hk g hg hne)).trans hci
theorem core_tells (N B6 B7 : Nat) (rs : List RowD) (a : Option Addr) (c : Nat) (ks : List RowD) (ka : Option Addr) (kc : Nat) (xs gs : List Int) (ga : Option Addr) (gc : Nat) (cls : List (List Int)) (Q : List Nat) (n : Nat) (V : World) (hcl : rs.map (·.xs) = cls) (hQ : ks.map (·.xs) = sel cls Q) (hG : GC V) (hR : RowsR V rs a c) (hK : RowsR V ks ka kc) (hA : IntsR V gs ga gc) (hgs : xs.map negM = gs)
    (c0 : V.cell? ⟨N, 0, none⟩ = some (.slice a rs.length c)) (c6 : V.cell? ⟨B6, 0, none⟩ = some (.slice ka ks.length kc)) (c7 : V.cell? ⟨B7, 0, none⟩ = some (.slice ga gs.length gc)) (hn : n ≤ rs.length) (hl : rs.length + ks.length ≤ 1000) (hx : ∀ y ∈ rs ++ ks, y.xs.length ≤ 100) (hxl : xs.length ≤ 1000) (p : Nat → Bool) (hp : ∀ k, p k = true ↔ Fol (cls.take k ++ sel cls Q) xs) :
    TellsP 53 #[.pointer (some ⟨N, 0, none⟩), .pointer (some ⟨B6, 0, none⟩), .pointer (some ⟨B7, 0, none⟩)] p n V := fun W hW k hk => by
  have z0 := World.block_lt_of_cell? V _ c0
  have z6 := World.block_lt_of_cell? V _ c6
  have z7 := World.block_lt_of_cell? V _ c7
  refine (Core1_any N B6 B7 rs a c ks ka kc xs gs ga gc k W (hG.below hW) (hR.below hW) (hK.below hW) (hA.below hW) hgs ((hW.cell (p := ⟨N, 0, none⟩) z0).trans c0) ((hW.cell (p := ⟨B6, 0, none⟩) z6).trans c6) ((hW.cell (p := ⟨B7, 0, none⟩) z7).trans c7) (by omega) hl hx hxl).mono ?_
  rintro e w' ⟨⟨q, rfl, hq⟩, hb⟩
  rw [List.map_append, List.map_take, hcl, hQ] at hq
  have e : q = p k := by
    rw [Bool.eq_iff_iff, hq, hp]
  exact ⟨by rw [e], hb⟩
theorem core_least (N B6 B7 : Nat) (rs : List RowD) (a : Option Addr) (c : Nat) (ks : List RowD) (ka : Option Addr) (kc : Nat) (xs gs : List Int) (ga : Option Addr) (gc : Nat) (cls : List (List Int)) (Q : List Nat) (n : Nat) (V : World) (hcl : rs.map (·.xs) = cls) (hQ : ks.map (·.xs) = sel cls Q) (hG : GC V) (hR : RowsR V rs a c) (hK : RowsR V ks ka kc) (hA : IntsR V gs ga gc) (hgs : xs.map negM = gs)
    (c0 : V.cell? ⟨N, 0, none⟩ = some (.slice a rs.length c)) (c6 : V.cell? ⟨B6, 0, none⟩ = some (.slice ka ks.length kc)) (c7 : V.cell? ⟨B7, 0, none⟩ = some (.slice ga gs.length gc)) (hn : n ≤ rs.length) (hl : rs.length + ks.length ≤ 1000) (hx : ∀ y ∈ rs ++ ks, y.xs.length ≤ 100) (hxl : xs.length ≤ 1000) (hF : Fol (cls.take n ++ sel cls Q) xs) :
    Calls Tryd.prog 55 #[.int .i64 n, .func (.func 53) #[] #[.pointer (some ⟨N, 0, none⟩), .pointer (some ⟨B6, 0, none⟩), .pointer (some ⟨B7, 0, none⟩)]] V fun e w' => ∃ m : Nat, e = .returned (.int .i64 m) ∧ Hid (m ≤ n ∧ Fol (cls.take m ++ sel cls Q) xs ∧ ∀ k, k < m → ¬ Fol (cls.take k ++ sel cls Q) xs) ∧ Hid (Below V.heap.size V w') := by
  classical
  have hp : ∀ k, (fun k => decide (Fol (cls.take k ++ sel cls Q) xs)) k = true ↔ Fol (cls.take k ++ sel cls Q) xs := fun k => decide_eq_true_iff
  refine (least_any n (fun k => decide (Fol (cls.take k ++ sel cls Q) xs)) N B6 B7 V (by omega) (core_tells N B6 B7 rs a c ks ka kc xs gs ga gc cls Q n V hcl hQ hG hR hK hA hgs c0 c6 c7 hn hl hx hxl _ hp) (fun i j h1 h2 h3 => (hp j).2 (((hp i).1 h3).mono (take_sub h1))) ((hp n).2 hF)).mono ?_
  rintro e w' ⟨⟨m, rfl, h1, h2, h3⟩, hb⟩
  exact ⟨m, rfl, ⟨h1, (hp m).1 h2, fun k hk h4 => of_decide_eq_false (h3 k hk) h4⟩, hb⟩
end Go.Proofs.YtggighikemhnfaaDoor.Tm
