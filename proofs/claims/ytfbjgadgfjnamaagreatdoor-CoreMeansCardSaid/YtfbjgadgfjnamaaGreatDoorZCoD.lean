/- Core: split, node, not, negation. -/
import Derived.Test.YtfbjgadgfjnamaaGreatDoorZCoB
import Derived.Deep.AppendLies
import Derived.Deep.RegionLaw
import Derived.Laws.CopyOwn
namespace Go.Proofs.YtfbjgadgfjnamaaGreatDoor.Tm
open Go.RowKit
set_option linter.unusedVariables false
theorem underMp : Tryz.prog.underlying 88 = some (.map 47 3) := by rw [Tryz.underlying88]
theorem MapI.look_yes {w : World} {b : Nat} {l : List NodeA} (h : MapI w b l) {k : Nat} {n : NodeA} (hk : l[k]? = some n) (hn : NodeOk n) :
    (Instr.lookup 88 (.map (some b)) (.agg #[.int .i8 n.op, .int .i8 n.len, .int .i64 n.a0, .int .i64 n.a1, .int .i64 n.a2, .int .i64 n.sort, .int .i64 n.fn, .int .i64 n.num]) true).run Tryz.prog w = .ok (.tuple #[.int .i64 k, .bool true]) w := by
  obtain ⟨D, h1, h2, h3⟩ := h
  obtain ⟨v, ps, hrun, hv⟩ := h1.look_ok lawNd underMp (zeroI w) (plainElem_int Tryz.underlying3 (a := 0) (by decide)) (key_is n hn)
  rw [h3 k n hk] at hv
  obtain ⟨c, rfl, hc, _⟩ := plainElem_int_inv Tryz.underlying3 hv
  simp only [Prod.mk.injEq, DataW.lit.injEq, Lit.int.injEq, true_and] at hc
  have hh := h2 n hn
  rw [decide_eq_true (List.mem_of_getElem? hk)] at hh
  rw [hh] at hrun
  rw [hrun, ← hc.1]
theorem MapI.look_no {w : World} {b : Nat} {l : List NodeA} (h : MapI w b l) {n : NodeA} (hn : NodeOk n) (hno : n ∉ l) :
    (Instr.lookup 88 (.map (some b)) (.agg #[.int .i8 n.op, .int .i8 n.len, .int .i64 n.a0, .int .i64 n.a1, .int .i64 n.a2, .int .i64 n.sort, .int .i64 n.fn, .int .i64 n.num]) true).run Tryz.prog w = .ok (.tuple #[.int .i64 0, .bool false]) w := by
  obtain ⟨D, h1, h2, h3⟩ := h
  obtain ⟨v, ps, hrun, hv⟩ := h1.look_ok lawNd underMp (zeroI w) (plainElem_int Tryz.underlying3 (a := 0) (by decide)) (key_is n hn)
  have hh := h2 n hn
  rw [decide_eq_false hno] at hh
  rw [Maps.atKey_of_not_has hh] at hv
  obtain ⟨c, rfl, hc, _⟩ := plainElem_int_inv Tryz.underlying3 hv
  simp only [Prod.mk.injEq, DataW.lit.injEq, Lit.int.injEq, true_and] at hc
  rw [hh] at hrun
  rw [hrun, ← hc.1]
theorem MapI.look {w : World} {b : Nat} {l : List NodeA} (h : MapI w b l) {k : Nat} {n : NodeA} (hk : l[k]? = some n) (hn : NodeOk n) :
    (Instr.lookup 88 (.map (some b)) (.agg #[.int .i8 n.op, .int .i8 n.len, .int .i64 n.a0, .int .i64 n.a1, .int .i64 n.a2, .int .i64 n.sort, .int .i64 n.fn, .int .i64 n.num]) false).run Tryz.prog w = .ok (.int .i64 k) w := by
  obtain ⟨D, h1, h2, h3⟩ := h
  obtain ⟨v, ps, hrun, hv⟩ := h1.lookup lawNd underMp (zeroI w) (plainElem_int Tryz.underlying3 (a := 0) (by decide)) (key_is n hn)
  rw [h3 k n hk] at hv
  obtain ⟨c, rfl, hc, _⟩ := plainElem_int_inv Tryz.underlying3 hv
  simp only [Prod.mk.injEq, DataW.lit.injEq, Lit.int.injEq, true_and] at hc
  rw [hrun, ← hc.1]
theorem MapI.upd {w : World} {b : Nat} {l : List NodeA} (h : MapI w b l) {n : NodeA} (hl : ∀ m ∈ l, NodeOk m) (hn : NodeOk n) (hno : n ∉ l) (hlen : l.length ≤ 3000) :
    ∃ w', (Instr.mapUpdate 88 (.map (some b)) (.agg #[.int .i8 n.op, .int .i8 n.len, .int .i64 n.a0, .int .i64 n.a1, .int .i64 n.a2, .int .i64 n.sort, .int .i64 n.fn, .int .i64 n.num]) (.int .i64 l.length)).run Tryz.prog w = .ok () w' ∧ MapI w' b (l ++ [n]) ∧ w.grownBy w' (some b) := by
  obtain ⟨D, h1, h2, h3⟩ := h
  obtain ⟨w', hrun, ho, hg⟩ := h1.update lawNd underMp (by simp only [maxLen]; omega) (key_is n hn) (plainElem_int Tryz.underlying3 (a := (l.length : Int)) (wf64 ⟨by omega, by omega⟩))
  exact ⟨w', hrun, MapI.put hl hn hno h2 h3 (World.ownsMap.isMap h1) ho, hg⟩
/-- A node's box, as it is made first of all. -/
theorem node_box {w : World} {n : NodeA} {b : Nat} {ty : TypeId} (h : w.heap[b]? = some (.cells #[.int .i8 n.op, .int .i8 n.len, .int .i64 n.a0, .int .i64 n.a1, .int .i64 n.a2, .int .i64 n.sort, .int .i64 n.fn, .int .i64 n.num] ty (0, 0))) : w.cell? ⟨b, 0, none⟩ = some (.int .i8 n.op) ∧ w.cell? ⟨b, 1, none⟩ = some (.int .i8 n.len) ∧ w.cell? ⟨b, 2, none⟩ = some (.int .i64 n.a0) ∧ w.cell? ⟨b, 3, none⟩ = some (.int .i64 n.a1) ∧ w.cell? ⟨b, 4, none⟩ = some (.int .i64 n.a2) ∧ w.cell? ⟨b, 5, none⟩ = some (.int .i64 n.sort) ∧ w.cell? ⟨b, 6, none⟩ = some (.int .i64 n.fn) ∧ w.cell? ⟨b, 7, none⟩ = some (.int .i64 n.num) ∧ b < w.heap.size :=
  ⟨(cell_of_row _ _ 0 _ _ _ h).trans rfl, (cell_of_row _ _ 1 _ _ _ h).trans rfl, (cell_of_row _ _ 2 _ _ _ h).trans rfl, (cell_of_row _ _ 3 _ _ _ h).trans rfl, (cell_of_row _ _ 4 _ _ _ h).trans rfl, (cell_of_row _ _ 5 _ _ _ h).trans rfl, (cell_of_row _ _ 6 _ _ _ h).trans rfl, (cell_of_row _ _ 7 _ _ _ h).trans rfl, (Array.getElem?_eq_some_iff.1 h).1⟩
/-- Others' blocks, and one more. -/
def And1 (P : Nat → Prop) (b : Nat) (k : Nat) : Prop := P k ∨ k = b
theorem MkR.box {w : World} {P : Nat → Prop} {M : Nat} {most : Int} {s : MkS} (h : MkR w P M most s) (o : Obj) : MkR (w.alloc o) (And1 P w.heap.size) M most s :=
  (h.grow ((Below.refl _ w).alloc (Nat.le_refl _) _)).less (fun k hk => by
    rcases hk with hk | hk
    · exact .inl hk
    · exact .inr ⟨by omega, by simp; omega⟩)
theorem Kp.box {P : Nat → Prop} {w : World} (o : Obj) (hP : ∀ k, P k → k < w.heap.size) : Kp P w (w.alloc o) := Kp.of ((Below.refl _ w).alloc (Nat.le_refl _) _) hP
theorem grown_at {V w9 : World} {o : Obj} {row : Option Nat} {k : Nat} (hg : (V.alloc o).drew.grownBy w9 row) (hk : k < V.heap.size) (hne : some k ≠ row) : w9.heap[k]? = V.heap[k]? := (hg.block k (by show k < (V.alloc o).heap.size; simp; omega) hne).trans (Below.heap_alloc V o k hk)
theorem put_end {V1 V2 w9 : World} {P : Nat → Prop} {M : Nat} {most : Int} {s : MkS} {a : Option Addr} {c b : Nat} {n : NodeA} {o : Obj} {g9 c9 : Nat} (hX1 : MkX V1 P M most s a c b) (hg2 : V1.drew.grownBy V2 (some b)) (hm2 : MapI V2 b (s.l ++ [n]))
    (hg9 : (V2.alloc o).drew.grownBy w9 (Value.slice a s.l.length c).ownBlock) (ho9 : w9.ownsRow 0 47 8 (.slice (some ⟨g9, 0, none⟩) (s.l.length + 1) c9) (s.l.length + 1) (s.l.flatMap nodeC ++ nodeC n))
    (ha9 : (Value.slice a s.l.length c).ownBlock = some g9 ∨ g9 = (V2.alloc o).drew.heap.size) (he : s.e = 0) (hinv : MkI ⟨s.l ++ [n], 0⟩) :
    MkX (w9.setCell ⟨M, 0, none⟩ (.slice (some ⟨g9, 0, none⟩) (s.l.length + 1) c9)) P M most ⟨s.l ++ [n], 0⟩ (some ⟨g9, 0, none⟩) c9 b ∧ Kp P V1 (w9.setCell ⟨M, 0, none⟩ (.slice (some ⟨g9, 0, none⟩) (s.l.length + 1) c9)) := by
  have hs2 : V1.heap.size ≤ V2.heap.size := hg2.size
  have hs9 : V2.heap.size + 1 ≤ w9.heap.size := by
    have h := hg9.size
    have e : (V2.alloc o).drew.heap.size = V2.heap.size + 1 := by show (V2.alloc o).heap.size = _; simp
    omega
  have hbk : ∀ k, k < V1.heap.size → k ≠ b → V2.heap[k]? = V1.heap[k]? := fun k h1 h2 => hg2.block k h1 (fun e => h2 (Option.some.inj e))
  have hb9 : w9.heap[M]? = some (.cells (mkC a s.l.length c b most s.e) 93 (0, 0)) :=
    (grown_at hg9 (by have := hX1.lt; omega) (fun e => (hX1.ne_own e.symm).1 rfl)).trans ((hbk M hX1.lt hX1.ne_b).trans hX1.box)
  have hlen : (s.l ++ [n]).length = s.l.length + 1 := by simp
  have hfl : (s.l ++ [n]).flatMap nodeC = s.l.flatMap nodeC ++ nodeC n := by simp
  have hgM : g9 ≠ M := fun e => by
    obtain ⟨cur, hc⟩ := own_type ho9 (g := g9) rfl
    rw [e, hb9] at hc
    exact absurd hc (by simp only [Option.some.injEq, Obj.cells.injEq]; intro h; exact absurd h.2.1 (by decide))
  have hMb : M ≠ b := hX1.ne_b
  have hm9 : w9.heap[b]? = V2.heap[b]? := grown_at hg9 hm2.lt (fun e => (hX1.ne_own e.symm).2 rfl)
  have hP : ∀ k, P k → (w9.setCell ⟨M, 0, none⟩ (.slice (some ⟨g9, 0, none⟩) (s.l.length + 1) c9)).heap[k]? = V1.heap[k]? := fun k hk => by
    obtain ⟨p1, p2, p3, p4⟩ := hX1.apart k hk
    exact (Below.heap_setCell _ _ _ _ p2).trans ((grown_at hg9 (by omega) (fun e => p4 e.symm)).trans (hbk k p1 p3))
  refine ⟨⟨?_, ?_, (hm2.heap hm9).heap (Below.heap_setCell _ _ _ _ (fun e => hMb e.symm)), fun k hk => ?_, hinv⟩, ⟨?_, ?_, ?_, by simp; omega, hP⟩⟩
  · show _ = some (Obj.cells (mkC (some ⟨g9, 0, none⟩) (s.l ++ [n]).length c9 b most 0) _ _)
    rw [hlen]
    rw [he] at hb9
    exact heap_setCell_same w9 M 0 _ _ _ hb9
  · show World.ownsRow _ _ _ _ (.slice _ (s.l ++ [n]).length c9) (s.l ++ [n]).length ((s.l ++ [n]).flatMap nodeC)
    rw [hlen, hfl]
    exact own_blk ho9 (fun g hg => Below.heap_setCell _ _ _ _ (fun e => hgM ((by simpa [Value.ownBlock] using hg : g9 = g).trans e)))
  · obtain ⟨p1, p2, p3, p4⟩ := hX1.apart k hk
    refine ⟨by simp; omega, p2, p3, fun e => ?_⟩
    have e1 : g9 = k := by simpa [Value.ownBlock] using e
    rcases ha9 with h | h
    · exact p4 (by rw [h, e1])
    · have e2 : (V2.alloc o).drew.heap.size = V2.heap.size + 1 := by show (V2.alloc o).heap.size = _; simp
      omega
  · exact hg9.os.trans hg2.os
  · exact hg9.tape.trans hg2.tape
  · exact hg9.output.trans hg2.output
theorem exit_name {K : Exit → Act → World → Prop} {x : Exit} {a : Act} {w : World} (h : ∀ V, V = w → K x a V) : K x a w := h w rfl
theorem wp_name {Q : Program} {c : Code} {R : Exit → Act → World → Prop} {a : Act} {w : World} (h : ∀ V, V = w → Code.wp Q c R a V) : Code.wp Q c R a w := h w rfl
set_option maxRecDepth 100000 in
set_option maxHeartbeats 4000000 in
theorem put_any (P : Nat → Prop) (M : Nat) (most : Int) (s : MkS) (n : NodeA) (r : MkS × Int) (w : World) (h : MkR w P M most s) (hm : most ≤ 2000) (hn : NodeOk n) (hs : s.e = 0 → standsB n s.l.length = true) (hr : putM most s n = r) :
    Calls Tryz.prog 98 #[.pointer (some ⟨M, 0, none⟩), .agg #[.int .i8 n.op, .int .i8 n.len, .int .i64 n.a0, .int .i64 n.a1, .int .i64 n.a2, .int .i64 n.sort, .int .i64 n.fn, .int .i64 n.num]] w (MkPost P M most w r) := by
  obtain ⟨W0, hW0⟩ : ∃ W0, W0 = w.alloc (.cells #[.int .i8 n.op, .int .i8 n.len, .int .i64 n.a0, .int .i64 n.a1, .int .i64 n.a2, .int .i64 n.sort, .int .i64 n.fn, .int .i64 n.num] 47) := ⟨_, rfl⟩
  have hR : MkR W0 (And1 P w.heap.size) M most s := by rw [hW0]; exact h.box _
  have hK0 : Kp P w W0 := by rw [hW0]; exact Kp.box _ (fun k hk => h.lt hk)
  have hn0 : W0.heap[w.heap.size]? = some (.cells #[.int .i8 n.op, .int .i8 n.len, .int .i64 n.a0, .int .i64 n.a1, .int .i64 n.a2, .int .i64 n.sort, .int .i64 n.fn, .int .i64 n.num] 47 (0, 0)) := by rw [hW0]; exact heap_alloc_new w _
  have hinv := h.inv
  have HO := put_out (most := most) hinv hm hn hs
  rw [hr] at HO
  have HO := Lib.hid HO
  clear h
  obtain ⟨a, c, b, hX⟩ := hR
  obtain ⟨m0, m1, m2, m17, mlt, mfz⟩ := hX.cells
  obtain ⟨n0, n1, n2, n3, n4, n5, n6, n7, zn⟩ := node_box hn0
  have HK0 := Lib.hid hK0
  have HX := Lib.hid hX
  have HNo := Lib.hid hn
  have hlen := hinv.len
  have hl2 := hinv.le
  have HRet : Hid (∀ V p, MkR V (And1 P w.heap.size) M most r.1 → Kp (And1 P w.heap.size) W0 V → r.2 = p → MkPost P M most w r (.returned (.int .i64 p)) V) := fun V p hv hk hp => by
    subst hp
    exact ⟨rfl, hv.less (fun _ h => .inl h), hK0.trans (hk.less (fun _ h => .inl h))⟩
  have HN0 := Lib.hid hn0
  clear hn0 hK0
  by_cases hin : n ∈ s.l
  · obtain ⟨k, hk⟩ : ∃ k, fndN s.l n = k := ⟨_, rfl⟩
    have hkg : s.l[k]? = some n := by rw [← hk]; exact fndN_get hin
    have hlk : ∀ q, (Instr.lookup 88 (.map (some b)) (.agg #[.int .i8 n.op, .int .i8 n.len, .int .i64 n.a0, .int .i64 n.a1, .int .i64 n.a2, .int .i64 n.sort, .int .i64 n.fn, .int .i64 n.num]) true).run Tryz.prog (W0.drewN q) = .ok (.tuple #[.int .i64 k, .bool true]) (W0.drewN q) := fun q => MapI.look_yes (MapI.heap (w' := W0.drewN q) hX.map rfl) hkg hn
    by_cases he : s.e = 0
    · have e0 := ne_f he
      obtain rfl : r = (s, (k : Int)) := by rw [← hr]; unfold putM; rw [if_neg (fun h => h he), if_pos hin, hk]
      clear hkg hk hin hr hinv hX he hs hn mfz
      go_enter Tryz.func98, Tryz.ntmps98
      go_wp2_with fail
      rw [← hW0]
      clear hW0
      go_quiet (fail)
      go_wp2_with fail
      go_ret
      exact HRet.out _ _ (MkR.same ⟨a, c, b, HX.out⟩ rfl) ((Kp.refl _ _).drewN _) rfl
    · have e0 := ne_t he
      obtain rfl : r = (s, 0) := by rw [← hr]; unfold putM; rw [if_pos he]
      clear hkg hk hin hr hinv hX he hs hn mfz
      go_enter Tryz.func98, Tryz.ntmps98
      go_wp2_with fail
      rw [← hW0]
      clear hW0
      go_quiet (fail)
      go_wp2_with fail
      go_ret
      exact HRet.out _ _ (MkR.same ⟨a, c, b, HX.out⟩ rfl) ((Kp.refl _ _).drewN _) rfl
  have hlk : ∀ q, (Instr.lookup 88 (.map (some b)) (.agg #[.int .i8 n.op, .int .i8 n.len, .int .i64 n.a0, .int .i64 n.a1, .int .i64 n.a2, .int .i64 n.sort, .int .i64 n.fn, .int .i64 n.num]) true).run Tryz.prog (W0.drewN q) = .ok (.tuple #[.int .i64 0, .bool false]) (W0.drewN q) := fun q => MapI.look_no (MapI.heap (w' := W0.drewN q) hX.map rfl) hn hin
  by_cases he : s.e = 0
  rotate_left
  · have e0 := ne_t he
    obtain rfl : r = (s, 0) := by rw [← hr]; unfold putM; rw [if_pos he]
    clear hin hr hinv hX he hs hn mfz
    go_enter Tryz.func98, Tryz.ntmps98
    go_wp2_with fail
    rw [← hW0]
    clear hW0
    go_quiet (fail)
    go_wp2_with fail
    go_ret
    exact HRet.out _ _ (MkR.same ⟨a, c, b, HX.out⟩ rfl) ((Kp.refl _ _).drewN _) rfl
  have e0 := ne_f he
  by_cases hmany : most ≤ (s.l.length : Int)
  · have HFl : Hid (∀ V, V.heap = W0.heap → Calls Tryz.prog 142 #[.pointer (some ⟨M, 0, none⟩), .int .i64 40] V (MkPost (And1 P w.heap.size) M most V (failM s 40, 0))) := fun V hv => fail_any _ M most s 40 V (MkR.same ⟨a, c, b, HX.out⟩ hv) (.inr rfl)
    obtain rfl : r = (failM s 40, 0) := by rw [← hr]; unfold putM failM; rw [if_neg (fun h => h he), if_neg hin, if_pos hmany, if_pos he]
    have em : decide (most ≤ (s.l.length : Int)) = true := decide_eq_true hmany
    clear hin hr hinv hX he hs hn mfz
    go_enter Tryz.func98, Tryz.ntmps98
    go_wp2_with fail
    rw [← hW0]
    clear hW0
    go_quiet (fail)
    go_wp2_with fail
    go_quiet (fail)
    go_wp2_with fail
    refine (HFl.out _ (by rfl)).mono ?_
    rintro e w1 ⟨rfl, h1, h2⟩
    go_wp2_with fail
    go_ret
    exact HRet.out _ _ h1 (Kp.trans (Kp.drewN (Kp.refl _ _) _) h2) rfl
  have em : decide (most ≤ (s.l.length : Int)) = false := decide_eq_false hmany
  obtain rfl : r = (⟨s.l ++ [n], 0⟩, (s.l.length : Int)) := by rw [← hr]; unfold putM; rw [if_neg (fun h => h he), if_neg hin, if_neg hmany]
  have HNin := Lib.hid hin
  obtain ⟨i0, hi, hz0, hz1, hz2⟩ := info_parts info_node
  have HLen := Lib.hid hlen
  have HE0 := Lib.hid he
  clear hin hr hinv hX he hs hn mfz
  go_enter Tryz.func98, Tryz.ntmps98
  go_wp2_with fail
  rw [← hW0]
  clear hW0
  go_quiet (fail)
  go_wp2_with fail
  go_quiet (fail)
  go_wp2_with fail
  refine wp_name ?_
  intro V1 hV1
  have hh : V1.heap = W0.heap := by rw [hV1]; rfl
  have HK1 : Hid (Kp (And1 P w.heap.size) W0 V1) := by rw [hV1]; exact Kp.drewN (Kp.drewN (Kp.refl _ _) _) _
  have hX1 : MkX V1 (And1 P w.heap.size) M most s a c b := HX.out.move (by rw [hh]) (by rw [hh]) (fun g _ => by rw [hh]) (fun k hk => by rw [hh]; exact HX.out.apart k hk)
  have hnb : V1.heap[w.heap.size]? = some (.cells #[.int .i8 n.op, .int .i8 n.len, .int .i64 n.a0, .int .i64 n.a1, .int .i64 n.a2, .int .i64 n.sort, .int .i64 n.fn, .int .i64 n.num] 47 (0, 0)) := by rw [hh]; exact HN0.out
  clear hV1 hh m0 m1 m2 m17 mlt n0 n1 n2 n3 n4 n5 n6 n7 zn hlk e0 em
  obtain ⟨m0, m1, m2, m17, mlt, mfz⟩ := hX1.cells
  obtain ⟨n0, n1, n2, n3, n4, n5, n6, n7, zn⟩ := node_box hnb
  obtain ⟨V2, hup, hm2, hg2⟩ := MapI.upd (w := V1.drew) (MapI.heap hX1.map rfl) HX.out.inv.ok HNo.out HNin.out (by have := HLen.out; omega)
  have hX1h := Lib.hid hX1
  have HG2 := Lib.hid hg2
  have HM2 := Lib.hid hm2
  have HNb := Lib.hid hnb
  clear mfz hX1 hg2 hm2 hnb
  go_region
  have hX1 := hX1h.out
  have hs2 : V1.heap.size ≤ V2.heap.size := HG2.out.size
  have hbk : ∀ k, k < V1.heap.size → k ≠ b → V2.heap[k]? = V1.heap[k]? := fun k h1 h2 => HG2.out.block k h1 (fun e => h2 (Option.some.inj e))
  have hbox2 : V2.heap[M]? = some (.cells (mkC a s.l.length c b most s.e) 93 (0, 0)) := (hbk M hX1.lt hX1.ne_b).trans hX1.box
  have hown2 : V2.ownsRow 0 47 8 (.slice a s.l.length c) s.l.length (s.l.flatMap nodeC) := own_blk hX1.own (fun g hg => hbk g (own_lt hX1.own hg).2 (hX1.ne_own hg).2)
  have hap := hX1.apart w.heap.size (.inr rfl)
  have hnb2 : V2.heap[w.heap.size]? = some (.cells #[.int .i8 n.op, .int .i8 n.len, .int .i64 n.a0, .int .i64 n.a1, .int .i64 n.a2, .int .i64 n.sort, .int .i64 n.fn, .int .i64 n.num] 47 (0, 0)) := (hbk _ hap.1 hap.2.2.1).trans HNb.out
  have HNeM : Hid (some M ≠ (Value.slice a s.l.length c).ownBlock) := fun e => (hX1.ne_own e.symm).1 rfl
  have HBox2 := Lib.hid hbox2
  have HOwn2 := Lib.hid hown2
  have HNb2 := Lib.hid hnb2
  have HBk := Lib.hid hbk
  have HS2 := Lib.hid hs2
  clear m0 m1 m2 m17 mlt n0 n1 n2 n3 n4 n5 n6 n7 zn hup hs2 hbk hap hX1
  obtain ⟨n0, n1, n2, n3, n4, n5, n6, n7, zn⟩ := node_box hnb2
  have m0 : V2.cell? ⟨M, 0, none⟩ = some (.slice a s.l.length c) := (cell_of_row _ _ 0 _ _ _ hbox2).trans rfl
  have mf : V2.frozen? ⟨M, 0, none⟩ = false := by simp [World.frozen?, hbox2]
  have mlt := (Array.getElem?_eq_some_iff.1 hbox2).1
  clear hbox2 hnb2
  have hz : s.l.length ≤ 2000 := HLen.out
  go_wp2_with fail
  go_region_law (refine step_append_lies _ rfl (.tmp 52) (.tmp 54) 31 rfl 0 47 i0 _ 8 56 Tryz.underlying31 hi hz0 hz1 hz2 rfl (by decide) (Value.slice a s.l.length c) s.l.length (s.l.flatMap nodeC) (by rfl) (hown2.alloc _) ⟨V2.heap.size, 0, none⟩ 1 1 (nodeC n) (by rfl) rfl (World.news_of_block (B := V2.heap.size) (cs := #[.int .i8 n.op, .int .i8 n.len, .int .i64 n.a0, .int .i64 n.a1, .int .i64 n.a2, .int .i64 n.sort, .int .i64 n.fn, .int .i64 n.num]) (t := 47) (fr := (0, 0)) (heap_alloc_new V2 _)) (by simp [nodeC, Value.oneCell']) (by omega) (by simp only [maxLen]; omega) (by omega) (Nat.zero_le _) _ rfl ?_; intro g9 c9 w9 hown9 hgrow9 hat9 hlt9; have HO9 := Lib.hid hown9; have HG9 := Lib.hid hgrow9; have HA9 := Lib.hid hat9; have hb9 := (grown_at hgrow9 mlt HNeM.out).trans HBox2.out; have k9 : w9.cell? ⟨M, 0, none⟩ = some (.slice a s.l.length c) := (cell_of_row _ _ 0 _ _ _ hb9).trans rfl; have f9 : w9.frozen? ⟨M, 0, none⟩ = false := (by simp [World.frozen?, hb9]); have HB9 := Lib.hid hb9; clear hown9 hgrow9 hat9 hb9)
  all_goals
    obtain ⟨E1, E2⟩ := put_end hX1h.out HG2.out HM2.out HG9.out HO9.out HA9.out HE0.out HO.out.inv
    refine exit_name ?_
    intro w5 hw5
    rw [← hw5] at E1 E2
    have HE1 := Lib.hid E1
    have HE2 := Lib.hid E2
    obtain ⟨k0, k1, k2, k17, klt, kfz⟩ := E1.cells
    obtain ⟨n0, n1, n2, n3, n4, n5, n6, n7, zn⟩ := node_box ((E2.keep _ (.inr rfl)).trans HNb.out)
    have hlk : ∀ q, (Instr.lookup 88 (.map (some b)) (.agg #[.int .i8 n.op, .int .i8 n.len, .int .i64 n.a0, .int .i64 n.a1, .int .i64 n.a2, .int .i64 n.sort, .int .i64 n.fn, .int .i64 n.num]) false).run Tryz.prog (w5.drewN q) = .ok (.int .i64 s.l.length) (w5.drewN q) := fun q => MapI.look (MapI.heap (w' := w5.drewN q) E1.map rfl) (by rw [List.getElem?_append_right (Nat.le_refl _), Nat.sub_self]; rfl) HNo.out
    clear hw5 E1 E2 m0 mf mlt k9 f9 hlt9 kfz hz hown2
    go_wp2_with fail
    go_quiet (fail)
    go_wp2_with fail
    go_ret
    exact HRet.out _ _ (MkR.same ⟨_, _, _, HE1.out⟩ rfl) (Kp.drewN (Kp.trans HK1.out HE2.out) _) rfl
end Go.Proofs.YtfbjgadgfjnamaaGreatDoor.Tm
namespace Go.Proofs.YtfbjgadgfjnamaaGreatDoor.Tm
open Go.RowKit
set_option linter.unusedVariables false
theorem below_dN {B : Nat} {w w' : World} (h : Below B w w') {k : Nat} : Below B w (w'.drewN k) := ⟨h.os, h.tape, h.output, h.size, h.block⟩
set_option maxRecDepth 100000 in
theorem split_any (l : List NodeA) (a : Option Addr) (c k : Nat) (p : Int × Int) (w : World) (hA : TabR w l a c) (hk : k < l.length) (hl : l.length ≤ 3000) (hp : splitA l k = p) :
    Calls Tryz.prog 129 #[.slice a l.length c, .int .i64 k] w fun e w' => e = .returned (.tuple #[.int .i64 p.1, .int .i64 p.2]) ∧ Below w.heap.size w w' := by
  have hn := nodA_get hk
  obtain ⟨n, hnn⟩ : ∃ n, nodA l k = n := ⟨_, rfl⟩
  rw [hnn] at hn
  obtain ⟨g, o, rfl, hg, m0, m1, m2, m3, m4, m5, m6, m7⟩ := hA.node hn
  have hki : (k : Int) < (l.length : Int) := by omega
  have hk0 : (0 : Int) ≤ (k : Int) := by omega
  obtain ⟨W0, hW0⟩ : ∃ W0, W0 = w.alloc (.cells #[.int .i8 n.op, .int .i8 n.len, .int .i64 n.a0, .int .i64 n.a1, .int .i64 n.a2, .int .i64 n.sort, .int .i64 n.fn, .int .i64 n.num] 47) := ⟨_, rfl⟩
  have hn0 : W0.heap[w.heap.size]? = some (.cells #[.int .i8 n.op, .int .i8 n.len, .int .i64 n.a0, .int .i64 n.a1, .int .i64 n.a2, .int .i64 n.sort, .int .i64 n.fn, .int .i64 n.num] 47 (0, 0)) := by rw [hW0]; exact heap_alloc_new w _
  have HB : Hid (Below w.heap.size w W0) := by show Below _ _ _; rw [hW0]; exact (Below.refl _ w).alloc (Nat.le_refl _) _
  obtain ⟨n0, n1, n2, n3, n4, n5, n6, n7, zn⟩ := node_box hn0
  clear hn0 hn
  by_cases h10 : n.op = 10
  · have e0 := eq_t h10
    obtain rfl : (1, n.num) = p := by rw [← hp]; unfold splitA; rw [hnn, if_pos h10]
    clear h10 hp hnn
    go_enter Tryz.func129, Tryz.ntmps129
    go_wp2_with fail
    rw [← hW0]
    clear hW0 m0 m1 m2 m3 m4 m5 m6 m7
    go_quiet (fail)
    go_wp2_with fail
    go_ret2
    exact ⟨rfl, below_dN HB.out⟩
  have e0 := eq_f h10
  by_cases h11 : n.op = 11
  · have e1 := eq_t h11
    obtain rfl : (n.a0, n.num) = p := by rw [← hp]; unfold splitA; rw [hnn, if_neg h10, if_pos h11]
    clear h10 h11 hp hnn
    go_enter Tryz.func129, Tryz.ntmps129
    go_wp2_with fail
    rw [← hW0]
    clear hW0 m0 m1 m2 m3 m4 m5 m6 m7
    go_quiet (fail)
    go_wp2_with fail
    go_ret2
    exact ⟨rfl, below_dN HB.out⟩
  have e1 := eq_f h11
  obtain rfl : ((k : Int), 0) = p := by rw [← hp]; unfold splitA; rw [hnn, if_neg h10, if_neg h11]
  clear h10 h11 hp hnn
  go_enter Tryz.func129, Tryz.ntmps129
  go_wp2_with fail
  rw [← hW0]
  clear hW0 m0 m1 m2 m3 m4 m5 m6 m7
  go_ret2
  exact ⟨rfl, HB.out⟩
theorem intSz : (Tryz.prog.info? 3).map (·.size) = some 1 := by kernel_rfl
theorem set8 {w : World} {b : Nat} {t : TypeId} {a0 a1 a2 a3 a4 a5 a6 a7 v0 v1 v2 v3 v4 v5 v6 v7 : Value} (h : w.heap[b]? = some (.cells #[a0, a1, a2, a3, a4, a5, a6, a7] t (0, 0))) :
    ((((((((w.setCell ⟨b, 0, none⟩ v0).setCell ⟨b, 1, none⟩ v1).setCell ⟨b, 2, none⟩ v2).setCell ⟨b, 3, none⟩ v3).setCell ⟨b, 4, none⟩ v4).setCell ⟨b, 5, none⟩ v5).setCell ⟨b, 6, none⟩ v6).setCell ⟨b, 7, none⟩ v7).heap[b]? = some (.cells #[v0, v1, v2, v3, v4, v5, v6, v7] t (0, 0)) := by
  simp [World.setCell, Array.getElem?_modify, h]
theorem below_set8 {B b : Nat} {w w' : World} {v0 v1 v2 v3 v4 v5 v6 v7 : Value} (h : Below B w w') (hb : B ≤ b) : Below B w ((((((((w'.setCell ⟨b, 0, none⟩ v0).setCell ⟨b, 1, none⟩ v1).setCell ⟨b, 2, none⟩ v2).setCell ⟨b, 3, none⟩ v3).setCell ⟨b, 4, none⟩ v4).setCell ⟨b, 5, none⟩ v5).setCell ⟨b, 6, none⟩ v6).setCell ⟨b, 7, none⟩ v7) := ((((((((h.setCell (p := ⟨b, 0, none⟩) hb v0).setCell (p := ⟨b, 1, none⟩) hb v1).setCell (p := ⟨b, 2, none⟩) hb v2).setCell (p := ⟨b, 3, none⟩) hb v3).setCell (p := ⟨b, 4, none⟩) hb v4).setCell (p := ⟨b, 5, none⟩) hb v5).setCell (p := ⟨b, 6, none⟩) hb v6).setCell (p := ⟨b, 7, none⟩) hb v7)
/-- The eight cells of a row. -/
theorem row8 {w : World} {b : Nat} {t : TypeId} {v0 v1 v2 v3 v4 v5 v6 v7 : Value} (h : w.heap[b]? = some (.cells #[v0, v1, v2, v3, v4, v5, v6, v7] t (0, 0))) : w.cell? ⟨b, 0, none⟩ = some v0 ∧ w.cell? ⟨b, 1, none⟩ = some v1 ∧ w.cell? ⟨b, 2, none⟩ = some v2 ∧ w.cell? ⟨b, 3, none⟩ = some v3 ∧ w.cell? ⟨b, 4, none⟩ = some v4 ∧ w.cell? ⟨b, 5, none⟩ = some v5 ∧ w.cell? ⟨b, 6, none⟩ = some v6 ∧ w.cell? ⟨b, 7, none⟩ = some v7 ∧ b < w.heap.size ∧ (∀ i, w.frozen? ⟨b, i, none⟩ = false) :=
  ⟨(cell_of_row _ _ 0 _ _ _ h).trans rfl, (cell_of_row _ _ 1 _ _ _ h).trans rfl, (cell_of_row _ _ 2 _ _ _ h).trans rfl, (cell_of_row _ _ 3 _ _ _ h).trans rfl, (cell_of_row _ _ 4 _ _ _ h).trans rfl, (cell_of_row _ _ 5 _ _ _ h).trans rfl, (cell_of_row _ _ 6 _ _ _ h).trans rfl, (cell_of_row _ _ 7 _ _ _ h).trans rfl, (Array.getElem?_eq_some_iff.1 h).1, fun i => by simp [World.frozen?, h]⟩
set_option maxRecDepth 100000 in
set_option maxHeartbeats 1000000 in
theorem node1_any (op a : Int) (B : Nat) (ty : TypeId) (w : World) (hB : w.heap[B]? = some (.cells #[.int .i64 a] ty (0, 0))) :
    Calls Tryz.prog 144 #[.int .i8 op, .slice (some ⟨B, 0, none⟩) 1 1] w fun e w' => e = .returned (.agg #[.int .i8 op, .int .i8 1, .int .i64 a, .int .i64 0, .int .i64 0, .int .i64 0, .int .i64 0, .int .i64 0]) ∧ Below w.heap.size w w' := by
  obtain ⟨WA, hWA⟩ : ∃ WA, WA = w.alloc (.cells #[.int .i8 0, .int .i8 0, .int .i64 0, .int .i64 0, .int .i64 0, .int .i64 0, .int .i64 0, .int .i64 0] 47) := ⟨_, rfl⟩
  obtain ⟨W0, hW0⟩ : ∃ W0, W0 = WA.alloc (.cells #[.int .i8 op, .int .i8 1, .int .i64 0, .int .i64 0, .int .i64 0, .int .i64 0, .int .i64 0, .int .i64 0] 47) := ⟨_, rfl⟩
  have hsz : WA.heap.size = w.heap.size + 1 := by rw [hWA]; simp
  have hbA : Below w.heap.size w WA := by rw [hWA]; exact (Below.refl _ w).alloc (Nat.le_refl _) _
  have hb0 : Below WA.heap.size WA W0 := by rw [hW0]; exact (Below.refl _ WA).alloc (Nat.le_refl _) _
  have hg0 : W0.heap[WA.heap.size]? = some (.cells [.int .i8 op, .int .i8 1, .int .i64 0, .int .i64 0, .int .i64 0, .int .i64 0, .int .i64 0, .int .i64 0].toArray 47 (0, 0)) := by rw [hW0]; exact heap_alloc_new WA _
  have hr0 : WA.heap[w.heap.size]? = some (.cells #[.int .i8 0, .int .i8 0, .int .i64 0, .int .i64 0, .int .i64 0, .int .i64 0, .int .i64 0, .int .i64 0] 47 (0, 0)) := by rw [hWA]; exact heap_alloc_new w _
  have hB0 : W0.heap[B]? = some (.cells #[.int .i64 a] ty (0, 0)) := ((hb0.block _ (by have := (Array.getElem?_eq_some_iff.1 hB).1; omega)).trans (hbA.block _ (Array.getElem?_eq_some_iff.1 hB).1)).trans hB
  have hs0 : ∀ j u, ([.int .i64 a] : List Value)[j]? = some u → W0.cell? ((⟨B, 0, none⟩ : Addr).add j) = some u := at_add (fun i v hv => by
    rw [Nat.zero_add]
    exact (cell_of_row _ _ i _ _ _ hB0).trans (by rw [List.getElem?_toArray]; exact hv))
  rw [hsz] at hb0 hg0
  have HA := Lib.hid hbA
  have HB0 := Lib.hid hb0
  have HG := Lib.hid hg0
  have HS := Lib.hid hs0
  have HR := Lib.hid (And.intro hr0 (show w.heap.size < WA.heap.size by omega))
  have HZ := Lib.hid hsz
  clear hbA hb0 hg0 hs0 hr0 hB0 hB hsz
  subst hW0
  subst hWA
  go_enter Tryz.func144, Tryz.ntmps144
  go_wp2_with (with_reducible refine wpList_copy_splice rfl _ _ _ _ rfl 3 Tryz.underlying27 intSz _ _ 3 3 1 1 rfl rfl (w.heap.size + 1) 2 [.int .i8 op, .int .i8 1, .int .i64 0, .int .i64 0, .int .i64 0, .int .i64 0, .int .i64 0, .int .i64 0] 47 HG.out [.int .i64 a] rfl (fun _ => ⟨rfl, _, rfl, HS.out⟩) (by simp) (by simp [Value.oneCell']) (w.heap.size + 1) _ HB0.out (Nat.le_refl _) ?_; intro w3 hg3 hb3; (have h3 : w3.heap[w.heap.size + 1]? = some (.cells #[.int .i8 op, .int .i8 1, .int .i64 a, .int .i64 0, .int .i64 0, .int .i64 0, .int .i64 0, .int .i64 0] 47 (0, 0)) := (by have := hg3.out; simpa [splice] using this); have hr3 : w3.heap[w.heap.size]? = some (.cells #[.int .i8 0, .int .i8 0, .int .i64 0, .int .i64 0, .int .i64 0, .int .i64 0, .int .i64 0, .int .i64 0] 47 (0, 0)) := (hb3.block _ (by omega)).trans HR.out.1; have HB3 := Lib.hid (HA.out.trans (hb3.mono (by have := HZ.out; omega))); have HR3 := Lib.hid hr3; obtain ⟨q0, q1, q2, q3, q4, q5, q6, q7, qz, _⟩ := row8 h3; obtain ⟨r0, r1, r2, r3, r4, r5, r6, r7, rz, rf⟩ := row8 hr3; clear hg3 hb3 h3 hr3))
  obtain ⟨x0, x1, x2, x3, x4, x5, x6, x7, _, _⟩ := row8 (set8 (v0 := .int .i8 op) (v1 := .int .i8 1) (v2 := .int .i64 a) (v3 := .int .i64 0) (v4 := .int .i64 0) (v5 := .int .i64 0) (v6 := .int .i64 0) (v7 := .int .i64 0) HR3.out)
  refine bodyPost_ret (v := .agg #[.int .i8 op, .int .i8 1, .int .i64 a, .int .i64 0, .int .i64 0, .int .i64 0, .int .i64 0, .int .i64 0]) (by simp [results, Tryz.results144, go_sem, x0, x1, x2, x3, x4, x5, x6, x7]) rfl ⟨rfl, below_set8 HB3.out (Nat.le_refl _)⟩
set_option maxRecDepth 100000 in
set_option maxHeartbeats 1000000 in
theorem node2_any (op a b : Int) (B : Nat) (ty : TypeId) (w : World) (hB : w.heap[B]? = some (.cells #[.int .i64 a, .int .i64 b] ty (0, 0))) :
    Calls Tryz.prog 144 #[.int .i8 op, .slice (some ⟨B, 0, none⟩) 2 2] w fun e w' => e = .returned (.agg #[.int .i8 op, .int .i8 2, .int .i64 a, .int .i64 b, .int .i64 0, .int .i64 0, .int .i64 0, .int .i64 0]) ∧ Below w.heap.size w w' := by
  obtain ⟨WA, hWA⟩ : ∃ WA, WA = w.alloc (.cells #[.int .i8 0, .int .i8 0, .int .i64 0, .int .i64 0, .int .i64 0, .int .i64 0, .int .i64 0, .int .i64 0] 47) := ⟨_, rfl⟩
  obtain ⟨W0, hW0⟩ : ∃ W0, W0 = WA.alloc (.cells #[.int .i8 op, .int .i8 2, .int .i64 0, .int .i64 0, .int .i64 0, .int .i64 0, .int .i64 0, .int .i64 0] 47) := ⟨_, rfl⟩
  have hsz : WA.heap.size = w.heap.size + 1 := by rw [hWA]; simp
  have hbA : Below w.heap.size w WA := by rw [hWA]; exact (Below.refl _ w).alloc (Nat.le_refl _) _
  have hb0 : Below WA.heap.size WA W0 := by rw [hW0]; exact (Below.refl _ WA).alloc (Nat.le_refl _) _
  have hg0 : W0.heap[WA.heap.size]? = some (.cells [.int .i8 op, .int .i8 2, .int .i64 0, .int .i64 0, .int .i64 0, .int .i64 0, .int .i64 0, .int .i64 0].toArray 47 (0, 0)) := by rw [hW0]; exact heap_alloc_new WA _
  have hr0 : WA.heap[w.heap.size]? = some (.cells #[.int .i8 0, .int .i8 0, .int .i64 0, .int .i64 0, .int .i64 0, .int .i64 0, .int .i64 0, .int .i64 0] 47 (0, 0)) := by rw [hWA]; exact heap_alloc_new w _
  have hB0 : W0.heap[B]? = some (.cells #[.int .i64 a, .int .i64 b] ty (0, 0)) := ((hb0.block _ (by have := (Array.getElem?_eq_some_iff.1 hB).1; omega)).trans (hbA.block _ (Array.getElem?_eq_some_iff.1 hB).1)).trans hB
  have hs0 : ∀ j u, ([.int .i64 a, .int .i64 b] : List Value)[j]? = some u → W0.cell? ((⟨B, 0, none⟩ : Addr).add j) = some u := at_add (fun i v hv => by
    rw [Nat.zero_add]
    exact (cell_of_row _ _ i _ _ _ hB0).trans (by rw [List.getElem?_toArray]; exact hv))
  rw [hsz] at hb0 hg0
  have HA := Lib.hid hbA
  have HB0 := Lib.hid hb0
  have HG := Lib.hid hg0
  have HS := Lib.hid hs0
  have HR := Lib.hid (And.intro hr0 (show w.heap.size < WA.heap.size by omega))
  have HZ := Lib.hid hsz
  clear hbA hb0 hg0 hs0 hr0 hB0 hB hsz
  subst hW0
  subst hWA
  go_enter Tryz.func144, Tryz.ntmps144
  go_wp2_with (with_reducible refine wpList_copy_splice rfl _ _ _ _ rfl 3 Tryz.underlying27 intSz _ _ 3 3 2 2 rfl rfl (w.heap.size + 1) 2 [.int .i8 op, .int .i8 2, .int .i64 0, .int .i64 0, .int .i64 0, .int .i64 0, .int .i64 0, .int .i64 0] 47 HG.out [.int .i64 a, .int .i64 b] rfl (fun _ => ⟨rfl, _, rfl, HS.out⟩) (by simp) (by simp [Value.oneCell']) (w.heap.size + 1) _ HB0.out (Nat.le_refl _) ?_; intro w3 hg3 hb3; (have h3 : w3.heap[w.heap.size + 1]? = some (.cells #[.int .i8 op, .int .i8 2, .int .i64 a, .int .i64 b, .int .i64 0, .int .i64 0, .int .i64 0, .int .i64 0] 47 (0, 0)) := (by have := hg3.out; simpa [splice] using this); have hr3 : w3.heap[w.heap.size]? = some (.cells #[.int .i8 0, .int .i8 0, .int .i64 0, .int .i64 0, .int .i64 0, .int .i64 0, .int .i64 0, .int .i64 0] 47 (0, 0)) := (hb3.block _ (by omega)).trans HR.out.1; have HB3 := Lib.hid (HA.out.trans (hb3.mono (by have := HZ.out; omega))); have HR3 := Lib.hid hr3; obtain ⟨q0, q1, q2, q3, q4, q5, q6, q7, qz, _⟩ := row8 h3; obtain ⟨r0, r1, r2, r3, r4, r5, r6, r7, rz, rf⟩ := row8 hr3; clear hg3 hb3 h3 hr3))
  obtain ⟨x0, x1, x2, x3, x4, x5, x6, x7, _, _⟩ := row8 (set8 (v0 := .int .i8 op) (v1 := .int .i8 2) (v2 := .int .i64 a) (v3 := .int .i64 b) (v4 := .int .i64 0) (v5 := .int .i64 0) (v6 := .int .i64 0) (v7 := .int .i64 0) HR3.out)
  refine bodyPost_ret (v := .agg #[.int .i8 op, .int .i8 2, .int .i64 a, .int .i64 b, .int .i64 0, .int .i64 0, .int .i64 0, .int .i64 0]) (by simp [results, Tryz.results144, go_sem, x0, x1, x2, x3, x4, x5, x6, x7]) rfl ⟨rfl, below_set8 HB3.out (Nat.le_refl _)⟩
/-- Where the box of a call's node is, and what is others'. -/
structure NdB (w W0 : World) (P : Nat → Prop) (M : Nat) (most : Int) (s : MkS) (n : NodeA) : Prop where
  mr : MkR W0 (And1 P w.heap.size) M most s
  kp : Kp P w W0
  box : W0.heap[w.heap.size]? = some (.cells #[.int .i8 n.op, .int .i8 n.len, .int .i64 n.a0, .int .i64 n.a1, .int .i64 n.a2, .int .i64 n.sort, .int .i64 n.fn, .int .i64 n.num] 47 (0, 0))
theorem ndB {w : World} {P : Nat → Prop} {M : Nat} {most : Int} {s : MkS} (h : MkR w P M most s) (n : NodeA) : NdB w (w.alloc (.cells #[.int .i8 n.op, .int .i8 n.len, .int .i64 n.a0, .int .i64 n.a1, .int .i64 n.a2, .int .i64 n.sort, .int .i64 n.fn, .int .i64 n.num] 47)) P M most s n :=
  ⟨h.box _, Kp.box _ (fun k hk => h.lt hk), heap_alloc_new w _⟩
theorem NdB.post {w W0 V : World} {P : Nat → Prop} {M : Nat} {most : Int} {s : MkS} {n : NodeA} (h : NdB w W0 P M most s n) {r : MkS × Int} {p : Int} (hv : MkR V (And1 P w.heap.size) M most r.1) (hk : Kp (And1 P w.heap.size) W0 V) (hp : r.2 = p) : MkPost P M most w r (.returned (.int .i64 p)) V := by
  subst hp
  exact ⟨rfl, hv.less (fun _ h => .inl h), h.kp.trans (hk.less (fun _ h => .inl h))⟩
theorem NdB.cells {w W0 V : World} {P : Nat → Prop} {M : Nat} {most : Int} {s : MkS} {n : NodeA} (h : NdB w W0 P M most s n) (hk : Kp (And1 P w.heap.size) W0 V) : V.cell? ⟨w.heap.size, 0, none⟩ = some (.int .i8 n.op) ∧ V.cell? ⟨w.heap.size, 1, none⟩ = some (.int .i8 n.len) ∧ V.cell? ⟨w.heap.size, 2, none⟩ = some (.int .i64 n.a0) ∧ V.cell? ⟨w.heap.size, 3, none⟩ = some (.int .i64 n.a1) ∧ V.cell? ⟨w.heap.size, 4, none⟩ = some (.int .i64 n.a2) ∧ V.cell? ⟨w.heap.size, 5, none⟩ = some (.int .i64 n.sort) ∧ V.cell? ⟨w.heap.size, 6, none⟩ = some (.int .i64 n.fn) ∧ V.cell? ⟨w.heap.size, 7, none⟩ = some (.int .i64 n.num) ∧ w.heap.size < V.heap.size :=
  node_box ((hk.keep _ (.inr rfl)).trans h.box)
theorem MkR.lts {w : World} {P : Nat → Prop} {M : Nat} {most : Int} {s : MkS} (h : MkR w P M most s) : ∀ k, P k → k < w.heap.size := fun k hk => h.lt hk
theorem kp_dN {P : Nat → Prop} {w : World} {k : Nat} : Kp P w (w.drewN k) := (Kp.refl _ _).drewN _
end Go.Proofs.YtfbjgadgfjnamaaGreatDoor.Tm
