/- Core: newMaker. -/
import Derived.Test.YtjibhkgphahbaaaDoorCoS
namespace Go.Proofs.YtjibhkgphahbaaaDoor.Tm
open Go.RowKit
set_option linter.unusedVariables false
theorem make_mp (w : World) : (Instr.makeMap 49 none).run Tryd.prog w = .ok (.map (some w.heap.size)) (w.alloc (.map #[] 0)) := by
  simp [Instr.makeMap]
theorem own_base0 {w : World} {base size n : Nat} {E : TypeId} {v : Value} {L : List Value} (h : w.ownsRow base E size v n L) {b2 : Nat} (hb : b2 ≤ base) : w.ownsRow b2 E size v n L := by
  refine ⟨h.1, ?_⟩
  rcases h.2 with h1 | ⟨g, cap, cur, rfl, h1, h2⟩
  · exact .inl h1
  · exact .inr ⟨g, cap, cur, rfl, Nat.le_trans hb h1, h2⟩
/-- A maker as it is made: its map has the first k nodes. -/
structure NmR (w wr : World) (M b : Nat) (most : Int) (l : List NodeA) (a : Option Addr) (c k : Nat) : Prop where
  below : Below w.heap.size w wr
  box : wr.heap[M]? = some (.cells (mkC a l.length c b most 0) 54 (0, 0))
  own : wr.ownsRow w.heap.size 36 8 (.slice a l.length c) l.length (l.flatMap nodeC)
  map : MapI wr b (l.take k)
  geM : w.heap.size ≤ M
  geb : w.heap.size ≤ b
theorem NmR.ne_b {w wr : World} {M b : Nat} {most : Int} {l : List NodeA} {a : Option Addr} {c k : Nat} (h : NmR w wr M b most l a c k) : M ≠ b := fun e' => by
  obtain ⟨D, ⟨es, clock, hb, _⟩, _⟩ := h.map
  rw [← e', h.box] at hb
  cases hb
theorem NmR.ne_own {w wr : World} {M b : Nat} {most : Int} {l : List NodeA} {a : Option Addr} {c k : Nat} (h : NmR w wr M b most l a c k) {g : Nat} (hg : (Value.slice a l.length c).ownBlock = some g) : g ≠ b := fun e' => by
  obtain ⟨cur, hc⟩ := own_type h.own hg
  obtain ⟨D, ⟨es, clock, hb, _⟩, _⟩ := h.map
  rw [e', hb] at hc
  cases hc
theorem NmR.next {w wr V : World} {M b : Nat} {most : Int} {l : List NodeA} {a : Option Addr} {c k : Nat} {o : Obj} (h : NmR w wr M b most l a c k) (hg : (wr.alloc o).drew.grownBy V (some b)) (hm : MapI V b (l.take (k + 1))) : NmR w V M b most l a c (k + 1) := by
  have hsz : (wr.alloc o).drew.heap.size = wr.heap.size + 1 := by show (wr.alloc o).heap.size = _; simp
  have hk : ∀ j, j < wr.heap.size → j ≠ b → V.heap[j]? = wr.heap[j]? := fun j h1 h2 => (hg.block j (by omega) (fun e => h2 (Option.some.inj e))).trans (Below.heap_alloc wr o j h1)
  have h1 := h.below.size
  have h2 := h.geb
  have h3 := hg.size
  refine ⟨⟨hg.os.trans h.below.os, hg.tape.trans h.below.tape, hg.output.trans h.below.output, by omega, fun j hj => (hk j (by omega) (by omega)).trans (h.below.block j hj)⟩, (hk M (Array.getElem?_eq_some_iff.1 h.box).1 h.ne_b).trans h.box, own_blk h.own (fun g hg' => hk g (own_lt h.own hg').2 (h.ne_own hg')), hm, h.geM, h.geb⟩
theorem NmR.done {w wr : World} {M b : Nat} {most : Int} {l : List NodeA} {a : Option Addr} {c : Nat} (h : NmR w wr M b most l a c l.length) (h0 : mayT l = true) (hl : l.length ≤ 2000) (hok : ∀ n ∈ l, NodeOk n) : MkR wr (fun k => k < w.heap.size) M most ⟨l, 0⟩ := by
  have hm := h.map
  rw [List.take_length] at hm
  refine ⟨a, c, b, h.box, own_base0 h.own (Nat.zero_le _), hm, fun k hk => ?_, ⟨h0, hl, hok, .inl rfl⟩⟩
  have h1 := h.below.size
  have h2 := h.geM
  have h3 := h.geb
  refine ⟨by omega, by omega, by omega, fun e => ?_⟩
  have := (own_lt h.own e).1
  omega
set_option maxRecDepth 100000 in
set_option maxHeartbeats 4000000 in
theorem newMaker_any (l : List NodeA) (a : Option Addr) (c : Nat) (most : Int) (w : World) (hA : TabR w l a c) (h0 : mayT l = true) (hl : l.length ≤ 2000) :
    Calls Tryd.prog 17 #[.agg #[.slice a l.length c], .int .i64 most] w fun e w' => ∃ M, e = .returned (.pointer (some ⟨M, 0, none⟩)) ∧ w.heap.size ≤ M ∧ MkR w' (fun k => k < w.heap.size) M most ⟨l, 0⟩ ∧ Below w.heap.size w w' := by
  have hok : okFrom [] l = true := by
    unfold mayT at h0
    rw [Bool.and_eq_true] at h0
    exact h0.2
  have HUq : Hid (∀ (k : Nat) (n : NodeA), l[k]? = some n → n ∉ l.take k) := fun k n hn hm => by
    obtain ⟨j, hj, e⟩ := List.mem_iff_getElem.1 hm
    have hjk : j < k := by simp at hj; omega
    refine (ok_at hok hn).2 j hjk ?_
    rw [← List.getElem?_take_of_lt hjk, List.getElem?_eq_getElem hj, e]
  obtain ⟨W0, hW0⟩ : ∃ W0, W0 = w.alloc (.cells #[.slice a l.length c] 24) := ⟨_, rfl⟩
  have hB0 : Below w.heap.size w W0 := by rw [hW0]; exact (Below.refl _ w).alloc (Nat.le_refl _) _
  have hn0 : W0.heap[w.heap.size]? = some (.cells #[.slice a l.length c] 24 (0, 0)) := by rw [hW0]; exact heap_alloc_new w _
  have b0 : W0.cell? ⟨w.heap.size, 0, none⟩ = some (.slice a l.length c) := (cell_of_row _ _ 0 _ _ _ hn0).trans rfl
  have hbz := (Array.getElem?_eq_some_iff.1 hn0).1
  have h2 := mayT_len h0
  have HC : Hid (Calls Tryd.prog 34 #[.slice a l.length c] W0 (RowPost W0 l)) := Clone_any l a c W0 (hA.below hB0) (by omega) (by omega)
  have HA := Lib.hid hA
  have HB0 := Lib.hid hB0
  have HN0 := Lib.hid hn0
  have HMay := Lib.hid h0
  clear hA hB0 hn0 hok h0
  go_enter Tryd.func17, Tryd.ntmps17
  go_wp2_with fail
  rw [← hW0]
  clear hW0
  refine HC.out.mono ?_
  rintro e w1 ⟨v, rfl, hown, hb1⟩
  obtain ⟨a', c', rfl, hc1, hc2, _⟩ := own_at hown
  have HW1 : Hid (Below w.heap.size w w1) := HB0.out.trans (hb1.mono HB0.out.size)
  have HO1 : Hid (w1.ownsRow w.heap.size 36 8 (.slice a' l.length c') l.length (l.flatMap nodeC)) := own_base0 hown HB0.out.size
  have HT1 : Hid (w1.heap[w.heap.size]? = some (.cells #[.slice a l.length c] 24 (0, 0))) := (hb1.block _ hbz).trans HN0.out
  have hz1 : w.heap.size < w1.heap.size := Nat.lt_of_lt_of_le hbz hb1.size
  have hmp := make_mp w1
  have HK : Hid (∀ V, Calls Tryd.prog 35 #[] V fun e w' => e = .returned (.agg #[.func (.func 48) #[] #[], .func (.func 49) #[] #[], .func (.func 48) #[] #[], .func (.func 48) #[] #[], .func (.func 50) #[] #[], .func (.func 51) #[] #[], .func (.func 52) #[] #[], .func (.func 53) #[] #[], .func (.func 54) #[] #[], .func (.func 55) #[] #[], .func (.func 48) #[] #[], .func (.func 56) #[] #[], .func (.func 57) #[] #[], .func (.func 48) #[] #[]]) ∧ Below V.heap.size V w') := fun V => kinds_any V
  have HMp : Hid (MapI (w1.alloc (.map #[] 0)) w1.heap.size []) := ⟨.map [], World.ownsMap_made (H := Unit) w1 Tryd.prog 36 (plainElem Tryd.prog 3), fun y _ => rfl, fun k y hk => by simp at hk⟩
  clear hown hb1 b0 hbz
  go_wp2_with (go_at_call 35; refine (HK.out _).mono ?_; rintro e w2 ⟨rfl, hb2⟩; obtain ⟨W3, hA3⟩ : ∃ W3, w2.alloc (.cells #[.slice a' l.length c', .map (some w1.heap.size), .int .i64 most, .func (.func 48) #[] #[], .func (.func 49) #[] #[], .func (.func 48) #[] #[], .func (.func 48) #[] #[], .func (.func 50) #[] #[], .func (.func 51) #[] #[], .func (.func 52) #[] #[], .func (.func 53) #[] #[], .func (.func 54) #[] #[], .func (.func 55) #[] #[], .func (.func 48) #[] #[], .func (.func 56) #[] #[], .func (.func 57) #[] #[], .func (.func 48) #[] #[], .int .i64 0] 54) = W3 := ⟨_, rfl⟩; have hW2 : Below w1.heap.size w1 w2 := ((Below.refl _ w1).alloc (Nat.le_refl _) _).trans (hb2.mono (by simp)); have hW3 : Below w1.heap.size w1 W3 := (by rw [← hA3]; exact hW2.alloc hW2.size _); have HN3 : Hid (NmR w W3 w2.heap.size w1.heap.size most l a' c' 0) := ⟨HW1.out.trans (hW3.mono HW1.out.size), by rw [← hA3]; exact heap_alloc_new w2 _, own_blk HO1.out (fun g hg => hW3.block g (own_lt HO1.out hg).2), by rw [List.take_zero, ← hA3]; exact (HMp.out.below hb2).below ((Below.refl _ w2).alloc (Nat.le_refl _) _), Nat.le_trans HW1.out.size hW2.size, HW1.out.size⟩; have t3 : W3.cell? ⟨w.heap.size, 0, none⟩ = some (.slice a l.length c) := (cell_of_row _ _ 0 _ _ _ ((hW3.block _ hz1).trans HT1.out)).trans rfl; have hz3 : w.heap.size < W3.heap.size := Nat.lt_of_lt_of_le hz1 hW3.size; clear hb2 hW2 hW3)
  clear t3 hz3 hmp hA3
  go_loopw [19] (fun i wr => ∃ k : Nat, k ≤ l.length ∧ i = .int .i64 k ∧ Hid (NmR w wr w2.heap.size w1.heap.size most l a' c' k)) (fun i _ => l.length - (intOf i).toNat)
  case atStart => exact ⟨0, Nat.zero_le _, rfl, HN3⟩
  case round =>
    clear HN3
    obtain ⟨k, hkl, rfl, HR⟩ := hrel
    by_cases hlt : k < l.length
    · obtain ⟨n, hn⟩ : ∃ n, l[k]? = some n := ⟨_, List.getElem?_eq_getElem hlt⟩
      obtain ⟨g, o, rfl, hg, q0, q1, q2, q3, q4, q5, q6, q7⟩ := (HA.out.below HR.out.below).node hn
      obtain ⟨W1, hW1⟩ : ∃ W1, wr.alloc (.cells #[.int .i8 n.op, .int .i8 n.len, .int .i64 n.a0, .int .i64 n.a1, .int .i64 n.a2, .int .i64 n.sort, .int .i64 n.fn, .int .i64 n.num] 36) = W1 := ⟨_, rfl⟩
      have hn1 : W1.heap[wr.heap.size]? = some (.cells #[.int .i8 n.op, .int .i8 n.len, .int .i64 n.a0, .int .i64 n.a1, .int .i64 n.a2, .int .i64 n.sort, .int .i64 n.fn, .int .i64 n.num] 36 (0, 0)) := by rw [← hW1]; exact heap_alloc_new wr _
      obtain ⟨V2, hup, hm2, hg2⟩ := MapI.upd (w := W1.drew) (MapI.heap (w := wr) (w' := W1.drew) HR.out.map (by show W1.heap[_]? = _; rw [← hW1]; exact Below.heap_alloc wr _ _ HR.out.map.lt)) (fun m hm => HA.out.ok m (List.mem_of_mem_take hm)) (HA.out.ok n (List.mem_of_getElem? hn)) (HUq.out k n hn) (by simp; omega)
      rw [List.length_take, Nat.min_eq_left hkl] at hup
      have HNx : Hid (NmR w V2 w2.heap.size w1.heap.size most l a' c' (k + 1)) := HR.out.next (o := .cells #[.int .i8 n.op, .int .i8 n.len, .int .i64 n.a0, .int .i64 n.a1, .int .i64 n.a2, .int .i64 n.sort, .int .i64 n.fn, .int .i64 n.num] 36) (by rw [hW1]; exact hg2) (by rw [List.take_add_one, hn]; exact hm2)
      have hbx : W1.heap[w2.heap.size]? = some (.cells (mkC a' l.length c' w1.heap.size most 0) 54 (0, 0)) := by rw [← hW1]; exact (Below.heap_alloc wr _ _ (Array.getElem?_eq_some_iff.1 HR.out.box).1).trans HR.out.box
      have m1 : W1.cell? ⟨w2.heap.size, 1, none⟩ = some (.map (some w1.heap.size)) := (cell_of_row _ _ 1 _ _ _ hbx).trans rfl
      have mz := (Array.getElem?_eq_some_iff.1 hbx).1
      obtain ⟨n0, n1, n2, n3, n4, n5, n6, n7, zn⟩ := node_box hn1
      clear hn hn1 hm2 hg2 hbx
      go_wp2_with fail
      go_region
      all_goals
        go_wp2_with fail
        go_roundw
        case rel => exact ⟨k + 1, by omega, by go_num, HNx⟩
        case measure => simp [intOf]; omega
    · obtain rfl : k = l.length := by omega
      have HFin := Lib.hid (HR.out.done HMay.out hl HA.out.ok)
      have hge := HR.out.geM
      go_wp2_with fail
      go_ret
      exact ⟨w2.heap.size, rfl, hge, HFin.out, HR.out.below⟩
end Go.Proofs.YtjibhkgphahbaaaDoor.Tm
