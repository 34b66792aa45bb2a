/- Atoms: Bools; rows of places of one's own. -/
import Derived.Test.YtaiabpbcipnjaaaDoorAtB
import Derived.Laws.MakeOwn
import Derived.Deep.AppendLies
namespace Go.Proofs.YtaiabpbcipnjaaaDoor.Tm
open Go.RowKit
set_option linter.unusedVariables false
theorem info_int : (Tryd.prog.info? 3).map (fun i => (i.zero, i.size, i.bytes)) = some (some (.int .i64 0), 1, 8) := by kernel_rfl
theorem own_lt {w : World} {base size n : Nat} {E : TypeId} {v : Value} {L : List Value} (h : w.ownsRow base E size v n L) {g : Nat} (hg : v.ownBlock = some g) : base ≤ g ∧ g < w.heap.size := by
  rcases h.2 with ⟨rfl, _⟩ | ⟨g', cap, cur, rfl, h1, h2, _⟩
  · cases hg
  · obtain rfl : g' = g := by simpa [Value.ownBlock] using hg
    exact ⟨h1, (Array.getElem?_eq_some_iff.1 h2).1⟩
theorem below_pushP {W V V2 : World} {o : Obj} {B : Nat} {e : TypeId} {size n : Nat} {v : Value} {xs : List Value} (hB : W.heap.size ≤ B) (h : Below W.heap.size W V) (hown : V.ownsRow B e size v n xs) (hg : (V.alloc o).grownBy V2 v.ownBlock) : Below W.heap.size W V2 := by
  have h3 := hg.size
  have h4 := h.size
  have h2 : (V.alloc o).heap.size = V.heap.size + 1 := by simp
  exact ⟨hg.os.trans h.os, hg.tape.trans h.tape, hg.output.trans h.output, by omega, fun k hk => (hg.block k (by omega) (fun e' => by have := (own_lt hown e'.symm).1; omega)).trans ((Below.heap_alloc V o k (by omega)).trans (h.block k hk))⟩
/-- A row of places of one's own. -/
def RowO (w : World) (base : Nat) (xs : List Int) (v : Value) : Prop := w.ownsRow base 3 1 v xs.length (xs.map (Value.int .i64))
theorem RowO.ints {w : World} {base : Nat} {xs : List Int} {v : Value} (h : RowO w base xs v) (hok : ∀ x ∈ xs, I64 x) : ∃ a c, v = .slice a xs.length c ∧ IntsR w xs a c := by
  obtain ⟨a, c, e, h1, h2, h3, _⟩ := own_at h
  exact ⟨a, c, e, h1, h2, h3, hok⟩
theorem RowO.keep {w w' : World} {base : Nat} {xs : List Int} {v : Value} (h : RowO w base xs v) (hb : Below w.heap.size w w') : RowO w' base xs v := own_heap h (fun g _ hg => hb.block g hg)
theorem RowO.base {w : World} {base base' : Nat} {xs : List Int} {v : Value} (h : RowO w base xs v) (hb : base' ≤ base) : RowO w base' xs v := own_base h hb
/-- The Bool nodes but OpNot among the first k. -/
def bL (l : List NodeA) (k : Nat) : List Int := ((List.range k).filter (fun i => isB (nodA l (i : Nat)))).map (fun i => ((i : Nat) : Int))
theorem bL_len (l : List NodeA) (k : Nat) : (bL l k).length ≤ k := by
  unfold bL
  rw [List.length_map]
  exact Nat.le_trans (List.length_filter_le _ _) (by simp)
theorem bL_yes {l : List NodeA} {k : Nat} {n : NodeA} (h : l[k]? = some n) (hb : isB n = true) : bL l (k + 1) = bL l k ++ [(k : Int)] := by
  unfold bL
  rw [List.range_succ, List.filter_append, List.map_append, List.filter_cons, nodA_at h, hb]; rfl
theorem bL_no {l : List NodeA} {k : Nat} {n : NodeA} (h : l[k]? = some n) (hb : isB n = false) : bL l (k + 1) = bL l k := by
  unfold bL
  rw [List.range_succ, List.filter_append, List.map_append, List.filter_cons, nodA_at h, hb]; simp
theorem bL_mem {l : List NodeA} {k : Nat} {x : Int} : x ∈ bL l k ↔ ∃ i : Nat, x = (i : Int) ∧ i < k ∧ isB (nodA l (i : Nat)) = true := by
  unfold bL
  simp only [List.mem_map, List.mem_filter, List.mem_range]
  constructor
  · rintro ⟨i, ⟨h1, h2⟩, rfl⟩
    exact ⟨i, rfl, h1, h2⟩
  · rintro ⟨i, rfl, h1, h2⟩
    exact ⟨i, ⟨h1, h2⟩, rfl⟩
theorem bL_i64 {l : List NodeA} {k : Nat} (hk : k ≤ 3000) : ∀ x ∈ bL l k, I64 x := fun x hx => by
  obtain ⟨i, rfl, h, _⟩ := bL_mem.1 hx
  exact ⟨by omega, by omega⟩
set_option maxRecDepth 100000 in
set_option maxHeartbeats 4000000 in
theorem Bools_any (l : List NodeA) (a : Option Addr) (c : Nat) (w : World) (hG : GT w) (hA : TabR w l a c) (hm : mayT l = true) (hl : l.length ≤ 3000) :
    Calls Tryd.prog 8 #[.agg #[.slice a l.length c]] w fun e w' => ∃ v, e = .returned v ∧ RowO w' w.heap.size (bL l l.length) v ∧ Below w.heap.size w w' := by
  obtain ⟨W0, hW0⟩ : ∃ W0, W0 = w.alloc (.cells #[.slice a l.length c] 24) := ⟨_, rfl⟩
  obtain ⟨hB0, hX⟩ := tab_box hW0
  have hcap := hA.le
  have hmx : l.length ≤ 9223372036854775807 := by omega
  have HCk : Hid (Calls Tryd.prog 20 #[.agg #[.slice a l.length c]] W0 fun e w' => e = .returned (.int .i64 0) ∧ Below W0.heap.size W0 w') := Check_any l a c 0 W0 (hG.below hB0) (hA.below hB0) hl (by rw [hm]; rfl)
  have HI : Hid (∀ (V : World) (n : NodeA) (t : Bool), isB n = t → Calls Tryd.prog 21 #[.agg #[.int .i8 n.op, .int .i8 n.len, .int .i64 n.a0, .int .i64 n.a1, .int .i64 n.a2, .int .i64 n.sort, .int .i64 n.fn, .int .i64 n.num]] V fun e w' => e = .returned (.bool t) ∧ Below V.heap.size V w') := fun V n t ht => isBool_any n t V ht
  obtain ⟨i0, hi_, hz0, hz1, hz2⟩ := info_parts info_int
  obtain ⟨x0, xz⟩ := hX _ (Below.refl _ _)
  have HX := Lib.hid hX
  have HB0 := Lib.hid hB0
  have HA := Lib.hid hA
  clear hX hB0 hA hG hm
  go_enter Tryd.func8, Tryd.ntmps8
  go_wp2_with fail
  rw [← hW0]
  clear hW0
  refine HCk.out.mono ?_
  rintro e w1 ⟨rfl, hb1⟩
  have HB1 := Lib.hid hb1
  clear hb1 x0 xz
  obtain ⟨x0, xz⟩ := HX.out _ HB1.out
  go_wp2_with fail
  go_loopw [3, 12] (fun s i wr => ∃ (k m : Nat) (a' : Option Addr) (c' : Nat), k ≤ l.length ∧ m ≤ k ∧ i = .int .i64 k ∧ s = .slice a' m c' ∧ Hid ((bL l k).length = m) ∧ Hid (Below W0.heap.size W0 wr) ∧ Hid (wr.ownsRow W0.heap.size 3 1 (.slice a' m c') m ((bL l k).map (Value.int .i64)))) (fun _ i _ => l.length - (intOf i).toNat)
  case atStart => exact ⟨0, 0, none, 0, by omega, by omega, rfl, rfl, rfl, HB1.out, World.ownsRow_nil _ _ _ _⟩
  case round =>
    clear x0 xz
    obtain ⟨k, m, a', c', hk, hmk, rfl, rfl, HL, HV, HR⟩ := hrel
    by_cases hlt : k < l.length
    · obtain ⟨n, hn⟩ : ∃ n, l[k]? = some n := ⟨_, List.getElem?_eq_getElem hlt⟩
      obtain ⟨g, o, rfl, hg, q0, q1, q2, q3, q4, q5, q6, q7⟩ := (HA.out.below (HB0.out.trans (HV.out.mono HB0.out.size))).node hn
      have hki : (k : Int) < (l.length : Int) := by omega
      have HN := Lib.hid hn
      clear hn
      cases ht : isB n with
      | false =>
        have HIt := Lib.hid (HI.out · n false ht)
        have HE : Hid (bL l (k + 1) = bL l k) := bL_no HN.out ht
        have HL2 : Hid ((bL l (k + 1)).length = m) := by show _ = _; rw [HE.out]; exact HL.out
        clear ht
        go_wp2_with fail
        refine (HIt.out _).mono ?_
        rintro e w2 ⟨rfl, hb2⟩
        have hb : Below wr.heap.size wr w2 := ((Below.refl _ wr).alloc (Nat.le_refl _) _).trans (hb2.mono (by simp))
        have HV2 : Hid (Below W0.heap.size W0 w2) := HV.out.trans (hb.mono HV.out.size)
        have HR2 : Hid (w2.ownsRow W0.heap.size 3 1 (.slice a' m c') m ((bL l (k + 1)).map (Value.int .i64))) := by show World.ownsRow _ _ _ _ _ _ _; rw [HE.out]; exact own_heap HR.out (fun g _ hg => hb.block g hg)
        clear hb2 hb
        go_wp2_with fail
        go_roundw
        case rel => exact ⟨k + 1, m, a', c', by omega, by omega, by go_num, rfl, HL2, HV2, HR2⟩
        case measure => simp [intOf]; omega
      | true =>
        have HIt := Lib.hid (HI.out · n true ht)
        have HE : Hid (bL l (k + 1) = bL l k ++ [(k : Int)]) := bL_yes HN.out ht
        have HL2 : Hid ((bL l (k + 1)).length = m + 1) := by show _ = _; rw [HE.out, List.length_append, HL.out]; rfl
        clear ht
        go_wp2_with fail
        refine (HIt.out _).mono ?_
        rintro e w2 ⟨rfl, hb2⟩
        have hb : Below wr.heap.size wr w2 := ((Below.refl _ wr).alloc (Nat.le_refl _) _).trans (hb2.mono (by simp))
        have HV2 : Hid (Below W0.heap.size W0 w2) := HV.out.trans (hb.mono HV.out.size)
        have hrow : w2.ownsRow W0.heap.size 3 1 (.slice a' m c') m ((bL l k).map (Value.int .i64)) := own_heap HR.out (fun g _ hg => hb.block g hg)
        have hws := HV2.out.size
        clear hb2 hb
        go_wp2_with (at_builtin; refine wpList_append_lies _ rfl _ _ 25 rfl W0.heap.size 3 i0 _ 1 8 Tryd.underlying25 hi_ hz0 hz1 hz2 rfl (by decide) (Value.slice a' m c') m ((bL l k).map (Value.int .i64)) (by rfl) (hrow.alloc _) ⟨w2.heap.size, 0, none⟩ 1 1 [.int .i64 k] (by rfl) rfl (World.news_of_block (B := w2.heap.size) (cs := #[.int .i64 k]) (t := 3) (fr := (0, 0)) (heap_alloc_new w2 _)) (by simp [Value.oneCell']) (by omega) (by simp only [maxLen]; omega) (by omega) (by simp; omega) _ rfl ?_; intro g9 c9 w9 hown9 hgrow9 hat9 hlt9; have HB9 := Lib.hid (below_pushP (Nat.le_refl _) HV2.out hrow hgrow9); have HO9 : Hid (w9.ownsRow W0.heap.size 3 1 (.slice (some ⟨g9, 0, none⟩) (m + 1) c9) (m + 1) ((bL l (k + 1)).map (Value.int .i64))) := (by show World.ownsRow _ _ _ _ _ _ _; rw [HE.out, List.map_append]; exact hown9); clear hown9 hgrow9 hat9)
        go_roundw
        case rel => exact ⟨k + 1, m + 1, some ⟨g9, 0, none⟩, c9, by omega, by omega, by go_num, rfl, HL2, HB9, HO9⟩
        case measure => simp [intOf]; omega
    · obtain rfl : k = l.length := by omega
      go_wp2_with fail
      go_ret
      refine ⟨_, rfl, ?_, HB0.out.trans (HV.out.mono HB0.out.size)⟩
      unfold RowO
      rw [HL.out]
      exact own_base HR.out HB0.out.size
end Go.Proofs.YtaiabpbcipnjaaaDoor.Tm
