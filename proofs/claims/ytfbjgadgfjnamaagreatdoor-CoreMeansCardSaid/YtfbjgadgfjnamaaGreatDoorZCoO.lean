/- Core: the walk puts a node's image. -/
import Derived.Test.YtfbjgadgfjnamaaGreatDoorZCoK
import Derived.Test.YtfbjgadgfjnamaaGreatDoorZCoL
namespace Go.Proofs.YtfbjgadgfjnamaaGreatDoor.Tm
open Go.RowKit
set_option linter.unusedVariables false
/-- The image of a place. -/
def imA (im : List Int) (i : Int) : Int := im.getD i.toNat (-1)
/-- A walk lies at block X, its images in block I. -/
structure WkR (w : World) (X I M : Nat) (l : List NodeA) (a : Option Addr) (c : Nat) (im : List Int) : Prop where
  box : w.heap[X]? = some (.cells #[.slice a l.length c, .slice (some ⟨I, 0, none⟩) l.length l.length, .func (.func 39) #[.pointer (some ⟨M, 0, none⟩)] #[]] 139 (0, 0))
  img : w.heap[I]? = some (.cells ⟨im.map (Value.int .i64)⟩ 3 (0, 0))
  len : im.length = l.length
  tab : TabR w l a c
  ne : X ≠ I
theorem WkR.move {w w' : World} {X I M : Nat} {l : List NodeA} {a : Option Addr} {c : Nat} {im : List Int} (h : WkR w X I M l a c im) (h1 : w'.heap[X]? = w.heap[X]?) (h2 : w'.heap[I]? = w.heap[I]?) (ht : TabR w' l a c) : WkR w' X I M l a c im := ⟨h1.trans h.box, h2.trans h.img, h.len, ht, h.ne⟩
theorem WkR.below {w w' : World} {X I M : Nat} {l : List NodeA} {a : Option Addr} {c : Nat} {im : List Int} (h : WkR w X I M l a c im) (hb : Below w.heap.size w w') : WkR w' X I M l a c im :=
  h.move (hb.block _ (Array.getElem?_eq_some_iff.1 h.box).1) (hb.block _ (Array.getElem?_eq_some_iff.1 h.img).1) (h.tab.below hb)
theorem WkR.cells {w : World} {X I M : Nat} {l : List NodeA} {a : Option Addr} {c : Nat} {im : List Int} (h : WkR w X I M l a c im) : w.cell? ⟨X, 0, none⟩ = some (.slice a l.length c) ∧ w.cell? ⟨X, 1, none⟩ = some (.slice (some ⟨I, 0, none⟩) l.length l.length) ∧ w.cell? ⟨X, 2, none⟩ = some (.func (.func 39) #[.pointer (some ⟨M, 0, none⟩)] #[]) ∧ X < w.heap.size ∧ I < w.heap.size :=
  ⟨(cell_of_row _ _ 0 _ _ _ h.box).trans rfl, (cell_of_row _ _ 1 _ _ _ h.box).trans rfl, (cell_of_row _ _ 2 _ _ _ h.box).trans rfl, (Array.getElem?_eq_some_iff.1 h.box).1, (Array.getElem?_eq_some_iff.1 h.img).1⟩
theorem WkR.im {w : World} {X I M : Nat} {l : List NodeA} {a : Option Addr} {c : Nat} {im : List Int} (h : WkR w X I M l a c im) {j : Nat} (hj : j < l.length) : w.cell? ⟨I, j, none⟩ = some (.int .i64 (imA im j)) := by
  refine (cell_of_row _ _ j _ _ _ h.img).trans ?_
  rw [List.getElem?_toArray, List.getElem?_map, List.getElem?_eq_getElem (by rw [h.len]; exact hj)]
  unfold imA
  rw [Int.toNat_natCast, List.getD_eq_getElem?_getD, List.getElem?_eq_getElem (by rw [h.len]; exact hj)]; rfl
/-- Which of a node's arguments is the first without an image. -/
def MissP (im : List Int) (n : NodeA) (p : Int × Bool) : Prop := (p.2 = true ∧ ∃ j : Nat, (j : Int) < n.len ∧ argA n j = p.1 ∧ imA im p.1 = -1) ∨ (p.2 = false ∧ p.1 = 0 ∧ ∀ j : Nat, (j : Int) < n.len → ¬ imA im (argA n j) = -1)
set_option maxRecDepth 100000 in
set_option maxHeartbeats 4000000 in
theorem missing_any (X I M : Nat) (l : List NodeA) (a : Option Addr) (c : Nat) (im : List Int) (k : Nat) (n : NodeA) (w : World) (h : WkR w X I M l a c im) (hk : l[k]? = some n) (hI : InA l n) (hl : l.length ≤ 3000) :
    Calls Tryz.prog 74 #[.pointer (some ⟨X, 0, none⟩), .int .i64 k] w fun e w' => ∃ p : Int × Bool, e = .returned (.tuple #[.int .i64 p.1, .bool p.2]) ∧ MissP im n p ∧ Below w.heap.size w w' := by
  obtain ⟨op, len, a0, a1, a2, sort, fn, num⟩ := n
  have lo : 0 ≤ len := hI.lo
  have hi : len ≤ 3 := hI.hi
  obtain ⟨m, rfl⟩ : ∃ m : Nat, len = m := ⟨len.toNat, by omega⟩
  have hm3 : m ≤ 3 := by omega
  have hkl := (List.getElem?_eq_some_iff.1 hk).1
  obtain ⟨n, hnn⟩ : ∃ n : NodeA, n = ⟨op, m, a0, a1, a2, sort, fn, num⟩ := ⟨_, rfl⟩
  rw [← hnn] at hI
  obtain ⟨g, o, rfl, hg, q0, q1, q2, q3, q4, q5, q6, q7⟩ := h.tab.node hk
  simp only at q0 q1 q2 q3 q4 q5 q6 q7
  obtain ⟨x0, x1, x2, xz, iz⟩ := h.cells
  have hki : (k : Int) < (l.length : Int) := by omega
  have hk0 : (0 : Int) ≤ (k : Int) := by omega
  obtain ⟨W0, hW0⟩ : ∃ W0, W0 = w.alloc (.cells #[.int .i8 op, .int .i8 m, .int .i64 a0, .int .i64 a1, .int .i64 a2, .int .i64 sort, .int .i64 fn, .int .i64 num] 47) := ⟨_, rfl⟩
  have hB0 : Below w.heap.size w W0 := by rw [hW0]; exact (Below.refl _ w).alloc (Nat.le_refl _) _
  have hn0 : W0.heap[w.heap.size]? = some (.cells #[.int .i8 n.op, .int .i8 n.len, .int .i64 n.a0, .int .i64 n.a1, .int .i64 n.a2, .int .i64 n.sort, .int .i64 n.fn, .int .i64 n.num] 47 (0, 0)) := by rw [hW0, hnn]; exact heap_alloc_new w _
  have HB0 := Lib.hid hB0
  have HBx := Lib.hid hn0
  have HW : Hid (WkR W0 X I M l (some ⟨g, o, none⟩) c im) := h.below hB0
  have HI := Lib.hid hI
  have HM : Hid (n.len = (m : Int)) := by show _ = _; rw [hnn]
  rw [← hnn]
  clear hB0 hn0 hI hnn hk h
  go_enter Tryz.func74, Tryz.ntmps74
  go_wp2_with fail
  rw [← hW0]
  clear hW0 q0 q1 q2 q3 q4 q5 q6 q7 x0 x1 x2 xz iz
  go_loopw [22] (fun i wr => ∃ j : Nat, j ≤ m ∧ i = .int .i64 j ∧ wr = W0 ∧ Hid (∀ u : Nat, u < j → ¬ imA im (argA n u) = -1)) (fun i _ => m - (intOf i).toNat)
  case atStart => exact ⟨0, by omega, rfl, rfl, fun u hu => absurd hu (Nat.not_lt_zero _)⟩
  case round =>
    obtain ⟨j, hj, rfl, hwr, HU⟩ := hrel
    subst hwr
    obtain ⟨x0, x1, x2, xz, iz⟩ := HW.out.cells
    obtain ⟨q0, q1, q2, q3, q4, q5, q6, q7, zq⟩ := node_box HBx.out
    by_cases hlt : j < m
    · obtain ⟨al, ah⟩ := HI.out.arg j (by rw [HM.out]; omega)
      obtain ⟨u, hu⟩ : ∃ u : Nat, argA n j = (u : Int) := ⟨(argA n j).toNat, by omega⟩
      have hul : u < l.length := by omega
      have qa : wr.cell? ⟨w.heap.size, 2 + j, none⟩ = some (.int .i64 u) := (arg_cell HBx.out j (by omega)).trans (by rw [hu])
      have qi := HW.out.im hul
      have hjm : (j : Int) < (m : Int) := by omega
      have hui : (u : Int) < (l.length : Int) := by omega
      have hu0 : (0 : Int) ≤ (u : Int) := by omega
      have HAu : Hid (argA n j = (u : Int)) := hu
      clear al ah hu q0 q1 q2 q3 q4 q5 q6 q7
      by_cases hz : imA im (u : Int) = -1
      · have e0 := eq_t hz
        have HF : Hid (MissP im n ((u : Int), true)) := .inl ⟨rfl, j, by rw [HM.out]; omega, HAu.out, hz⟩
        clear hz
        go_wp2_with fail
        go_ret2
        exact ⟨((u : Int), true), rfl, HF.out, HB0.out⟩
      · have e0 := eq_f hz
        have HU2 : Hid (∀ v : Nat, v < j + 1 → ¬ imA im (argA n v) = -1) := fun v hv => by
          by_cases hvj : v < j
          · exact HU.out v hvj
          · obtain rfl : v = j := by omega
            rw [HAu.out]; exact hz
        clear hz
        go_wp2_with fail
        go_roundw
        case rel => exact ⟨j + 1, by omega, by go_num, trivial, HU2⟩
        case measure => simp [intOf]; omega
    · obtain rfl : j = m := by omega
      have HF : Hid (MissP im n (0, false)) := .inr ⟨rfl, rfl, fun v hv => HU.out v (by rw [HM.out] at hv; omega)⟩
      go_wp2_with fail
      go_ret2
      exact ⟨(0, false), rfl, HF.out, HB0.out⟩
end Go.Proofs.YtfbjgadgfjnamaaGreatDoor.Tm
namespace Go.Proofs.YtfbjgadgfjnamaaGreatDoor.Tm
open Go.RowKit
set_option linter.unusedVariables false
/-- A node with its first arguments' images in their places. -/
def subN (im : List Int) (n : NodeA) (k : Nat) : NodeA := { n with a0 := if 0 < k then imA im n.a0 else n.a0, a1 := if 1 < k then imA im n.a1 else n.a1, a2 := if 2 < k then imA im n.a2 else n.a2 }
theorem subN_arg (im : List Int) (n : NodeA) (k j : Nat) (hj : j < 3) : argA (subN im n k) j = if j < k then imA im (argA n j) else argA n j := by
  have hc : j = 0 ∨ j = 1 ∨ j = 2 := by omega
  rcases hc with rfl | rfl | rfl <;> rfl
/-- Others' blocks: all that was there before, the walk's and its images'. -/
structure PkR (w : World) (P : Nat → Prop) (B0 X I : Nat) (l : List NodeA) (a : Option Addr) (c : Nat) : Prop where
  old : ∀ k, k < B0 → P k
  px : P X
  pi : P I
  low : At w B0 (l.flatMap nodeC) a
  le : l.length ≤ c
  cap : c ≤ maxLen
  ok : ∀ n ∈ l, NodeOk n
theorem PkR.keep {w V : World} {P : Nat → Prop} {B0 X I : Nat} {l : List NodeA} {a : Option Addr} {c : Nat} (h : PkR w P B0 X I l a c) (hk : Kp P w V) (hB : B0 ≤ w.heap.size) : PkR V P B0 X I l a c ∧ TabR V l a c := by
  have hl : At V B0 (l.flatMap nodeC) a := by
    intro h0
    obtain ⟨g, o, e, hg, hc⟩ := h.low h0
    exact ⟨g, o, e, hg, fun i v hv => (hk.cell (h.old g hg)).trans (hc i v hv)⟩
  exact ⟨⟨h.old, h.px, h.pi, hl, h.le, h.cap, h.ok⟩, ⟨h.le, h.cap, hl.more (Nat.le_trans hB hk.size), h.ok⟩⟩
/-- What the images are: none yet, or places. -/
def ImP (s : MkS) (im : List Int) : Prop := ∀ x ∈ im, x = -1 ∨ PlA s x
theorem ImP.at {s : MkS} {im : List Int} (h : ImP s im) {i : Int} (hi : ¬ imA im i = -1) : PlA s (imA im i) := by
  unfold imA at hi ⊢
  rw [List.getD_eq_getElem?_getD] at hi ⊢
  cases e : im[i.toNat]? with
  | none => rw [e] at hi; exact absurd rfl hi
  | some x =>
    rw [e] at hi
    rcases h x (List.mem_of_getElem? e) with h1 | h1
    · exact absurd h1 hi
    · exact h1
theorem stands_sub {l : List NodeA} {s : MkS} {im : List Int} {n : NodeA} {k : Nat} (h : standsB n k = true) (hs : ImP s im) (ha : ∀ j : Nat, (j : Int) < n.len → ¬ imA im (argA n j) = -1) : standsB (subN im n n.len.toNat) s.l.length = true := by
  refine st_yes ((stands_iff _ _).1 ?_)
  have hst := (stands_iff n k).2 ((stands_iff n k).1 (by unfold standsB at h; exact of_decide_eq_true h))
  obtain ⟨hf, hsrt, h0, h1, h2⟩ := hst
  have one : ∀ j : Nat, j < 3 → ArgP n.len (argA n j) j k → ArgP n.len (argA (subN im n n.len.toNat) j) j s.l.length := fun j hj ha' => by
    rw [subN_arg _ _ _ _ hj]
    by_cases hjl : (j : Int) < n.len
    · rw [if_pos (by omega)]
      exact ArgP.ins hjl (hs.at (ha j hjl))
    · rw [if_neg (by omega), ha'.2 (by omega)]
      exact ArgP.out (by omega)
  exact ⟨hf, hsrt, one 0 (by decide) h0, one 1 (by decide) h1, one 2 (by decide) h2⟩
theorem sub_ok {s : MkS} {im : List Int} {n : NodeA} (hn : NodeOk n) (him : ∀ x ∈ im, I64 x) (k : Nat) : NodeOk (subN im n k) := by
  have hi : ∀ i, I64 (imA im i) := fun i => by
    unfold imA
    rw [List.getD_eq_getElem?_getD]
    cases e : im[i.toNat]? with
    | none => exact l64 (by show -9223372036854775808 ≤ (-1 : Int) ∧ (-1 : Int) ≤ 9223372036854775807; decide)
    | some x => exact him x (List.mem_of_getElem? e)
  refine ⟨hn.op, hn.len, ?_, ?_, ?_, hn.sort, hn.fn, hn.num⟩
  · show I64 (if _ then _ else _); split; exact hi _; exact hn.a0
  · show I64 (if _ then _ else _); split; exact hi _; exact hn.a1
  · show I64 (if _ then _ else _); split; exact hi _; exact hn.a2
/-- One more argument in its image's place. -/
theorem sub_set {w : World} {b : Nat} {im : List Int} {n : NodeA} {k : Nat} (h : w.heap[b]? = some (.cells #[.int .i8 (subN im n k).op, .int .i8 (subN im n k).len, .int .i64 (subN im n k).a0, .int .i64 (subN im n k).a1, .int .i64 (subN im n k).a2, .int .i64 (subN im n k).sort, .int .i64 (subN im n k).fn, .int .i64 (subN im n k).num] 47 (0, 0))) (hk : k < 3) : (w.setCell ⟨b, 2 + k, none⟩ (.int .i64 (imA im (argA n k)))).heap[b]? = some (.cells #[.int .i8 (subN im n (k + 1)).op, .int .i8 (subN im n (k + 1)).len, .int .i64 (subN im n (k + 1)).a0, .int .i64 (subN im n (k + 1)).a1, .int .i64 (subN im n (k + 1)).a2, .int .i64 (subN im n (k + 1)).sort, .int .i64 (subN im n (k + 1)).fn, .int .i64 (subN im n (k + 1)).num] 47 (0, 0)) := by
  refine Eq.trans (heap_setCell_same w b (2 + k) _ _ _ h) ?_
  have hc : k = 0 ∨ k = 1 ∨ k = 2 := by omega
  rcases hc with rfl | rfl | rfl <;> rfl
end Go.Proofs.YtfbjgadgfjnamaaGreatDoor.Tm
namespace Go.Proofs.YtfbjgadgfjnamaaGreatDoor.Tm
open Go.RowKit
set_option linter.unusedVariables false
theorem PkR.keepI {w V : World} {P : Nat → Prop} {B0 X I : Nat} {l : List NodeA} {a : Option Addr} {c : Nat} (h : PkR w P B0 X I l a c) (hI : B0 ≤ I) (hk : Kp (fun i => P i ∧ i ≠ I) w V) (hB : B0 ≤ w.heap.size) : PkR V P B0 X I l a c ∧ TabR V l a c := by
  have hl : At V B0 (l.flatMap nodeC) a := by
    intro h0
    obtain ⟨g, o, e, hg, hc⟩ := h.low h0
    exact ⟨g, o, e, hg, fun i v hv => (hk.cell ⟨h.old g hg, by omega⟩).trans (hc i v hv)⟩
  exact ⟨⟨h.old, h.px, h.pi, hl, h.le, h.cap, h.ok⟩, ⟨h.le, h.cap, hl.more (Nat.le_trans hB hk.size), h.ok⟩⟩
theorem WkR.kp {w V : World} {P : Nat → Prop} {B0 X I M : Nat} {l : List NodeA} {a : Option Addr} {c : Nat} {im : List Int} (h : WkR w X I M l a c im) (hP : PkR w P B0 X I l a c) (hB : B0 ≤ w.heap.size) (hk : Kp P w V) : WkR V X I M l a c im :=
  h.move (hk.keep _ hP.px) (hk.keep _ hP.pi) (hP.keep hk hB).2
/-- One more image. -/
theorem WkR.put {w V : World} {P : Nat → Prop} {B0 X I M : Nat} {l : List NodeA} {a : Option Addr} {c : Nat} {im : List Int} (h : WkR w X I M l a c im) (hP : PkR w P B0 X I l a c) (hB : B0 ≤ w.heap.size) (hI : B0 ≤ I) (hk : Kp P w V) (k : Nat) (v : Int) :
    WkR (V.setCell ⟨I, k, none⟩ (.int .i64 v)) X I M l a c (im.set k v) ∧ Kp (fun i => P i ∧ i ≠ I) w (V.setCell ⟨I, k, none⟩ (.int .i64 v)) := by
  have hV := h.kp hP hB hk
  have hkp : Kp (fun i => P i ∧ i ≠ I) w (V.setCell ⟨I, k, none⟩ (.int .i64 v)) :=
    ⟨hk.os, hk.tape, hk.output, by simpa using hk.size, fun i hi => (Below.heap_setCell _ _ _ _ hi.2).trans (hk.keep i hi.1)⟩
  refine ⟨⟨(hkp.keep X ⟨hP.px, h.ne⟩).trans h.box, ?_, by simpa using h.len, (hP.keepI hI hkp hB).2, h.ne⟩, hkp⟩
  refine Eq.trans (heap_setCell_same V I k _ _ _ hV.img) ?_
  simp [List.map_set]
theorem NdB.put {w W : World} {P : Nat → Prop} {M : Nat} {most : Int} {s : MkS} {im : List Int} {n : NodeA} {j : Nat} (h : NdB w W P M most s (subN im n j)) (hP : ∀ k, P k → k < w.heap.size) (hj : j < 3) : NdB w (W.setCell ⟨w.heap.size, 2 + j, none⟩ (.int .i64 (imA im (argA n j)))) P M most s (subN im n (j + 1)) :=
  ⟨h.mr.set (.inr rfl) _, ⟨h.kp.os, h.kp.tape, h.kp.output, by simpa using h.kp.size, fun k hk => (Below.heap_setCell _ _ _ _ (Nat.ne_of_lt (hP k hk))).trans (h.kp.keep k hk)⟩, sub_set h.box hj⟩
set_option maxRecDepth 100000 in
set_option maxHeartbeats 4000000 in
theorem make_any (P : Nat → Prop) (B0 X I M : Nat) (most : Int) (s : MkS) (l : List NodeA) (a : Option Addr) (c : Nat) (im : List Int) (k : Nat) (n : NodeA) (r : MkS × Int) (w : World) (h : WkR w X I M l a c im) (hM : MkR w P M most s) (hP : PkR w P B0 X I l a c) (hB : B0 ≤ w.heap.size) (hBI : B0 ≤ I) (hm : most ≤ 2000) (hk : l[k]? = some n) (hI : InA l n) (hl : l.length ≤ 3000) (hn : NodeOk n) (hst : standsB n k = true) (hs : ImP s im) (hi : ∀ j : Nat, (j : Int) < n.len → ¬ imA im (argA n j) = -1) (hx : ∀ x ∈ im, I64 x) (hr : imgM most s (subN im n n.len.toNat) = r) :
    Calls Tryz.prog 75 #[.pointer (some ⟨X, 0, none⟩), .int .i64 k] w fun e w' => e = .returned (.int .i64 r.1.e) ∧ MkR w' P M most r.1 ∧ WkR w' X I M l a c (im.set k r.2) ∧ Kp (fun i => P i ∧ i ≠ I) w w' := by
  have hst' := stands_sub (l := l) hst hs hi
  have hn' := sub_ok (s := s) hn hx n.len.toNat
  obtain ⟨op, len, a0, a1, a2, sort, fn, num⟩ := n
  have lo : 0 ≤ len := hI.lo
  have hi3 : len ≤ 3 := hI.hi
  obtain ⟨m, rfl⟩ : ∃ m : Nat, len = m := ⟨len.toNat, by omega⟩
  have hm3 : m ≤ 3 := by omega
  have hkl := (List.getElem?_eq_some_iff.1 hk).1
  obtain ⟨n, hnn⟩ : ∃ n : NodeA, n = ⟨op, m, a0, a1, a2, sort, fn, num⟩ := ⟨_, rfl⟩
  rw [← hnn] at hI hr hst' hn'
  have hlen : n.len = (m : Int) := by rw [hnn]
  rw [hlen, Int.toNat_natCast] at hr hst' hn'
  have HM : Hid (n.len = (m : Int)) := hlen
  clear hlen hi hst hn hx
  have htab := h.tab
  obtain ⟨g, o, rfl, hg, q0, q1, q2, q3, q4, q5, q6, q7⟩ := htab.node hk
  simp only at q0 q1 q2 q3 q4 q5 q6 q7
  obtain ⟨x0, x1, x2, xz, iz⟩ := h.cells
  have hki : (k : Int) < (l.length : Int) := by omega
  have hk0 : (0 : Int) ≤ (k : Int) := by omega
  obtain ⟨W0, hW0⟩ : ∃ W0, W0 = w.alloc (.cells #[.int .i8 op, .int .i8 m, .int .i64 a0, .int .i64 a1, .int .i64 a2, .int .i64 sort, .int .i64 fn, .int .i64 num] 47) := ⟨_, rfl⟩
  have HN : Hid (NdB w W0 P M most s n) := by show NdB w W0 P M most s n; rw [hW0, hnn]; exact ndB hM ⟨op, m, a0, a1, a2, sort, fn, num⟩
  have n1 : W0.cell? ⟨w.heap.size, 1, none⟩ = some (.int .i8 m) := by
    obtain ⟨_, n1, _⟩ := HN.out.cells (Kp.refl _ _)
    rw [HM.out] at n1; exact n1
  have HWk : Hid (∀ V, Kp P w V → WkR V X I M l (some ⟨g, o, none⟩) c im) := fun V hV => h.kp hP hB hV
  have HPut : Hid (∀ V, Kp P w V → ∀ v, WkR (V.setCell ⟨I, k, none⟩ (.int .i64 v)) X I M l (some ⟨g, o, none⟩) c (im.set k v) ∧ Kp (fun i => P i ∧ i ≠ I) w (V.setCell ⟨I, k, none⟩ (.int .i64 v))) := fun V hV v => h.put hP hB hBI hV k v
  have HLt : Hid (∀ k, P k → k < w.heap.size) := fun k hk => hM.lt hk
  have HI := Lib.hid hI
  have HPI : Hid (P I) := hP.pi
  obtain ⟨q, hq⟩ : ∃ q, q = subN im n m := ⟨_, rfl⟩
  rw [← hq] at hn' hst' hr
  have HIm : Hid (∀ V, MkR V (And1 P w.heap.size) M most s → Calls Tryz.prog 39 #[.pointer (some ⟨M, 0, none⟩), .agg #[.int .i8 q.op, .int .i8 q.len, .int .i64 q.a0, .int .i64 q.a1, .int .i64 q.a2, .int .i64 q.sort, .int .i64 q.fn, .int .i64 q.num]] V fun e w' => e = .returned (.tuple #[.int .i64 r.2, .int .i64 r.1.e]) ∧ MkR w' (And1 P w.heap.size) M most r.1 ∧ Kp (And1 P w.heap.size) V w') := fun V hv => image_any _ M most s _ r V hv hm hn' hst' hr
  have HQ := Lib.hid hq
  clear hI hk h hM hP hB hBI hm hs hr hst' hn' htab hnn hq
  go_enter Tryz.func75, Tryz.ntmps75
  go_wp2_with fail
  rw [← hW0]
  clear hW0 q0 q1 q2 q3 q4 q5 q6 q7 x0 x1 x2
  go_loopw [23] (fun i wr => ∃ j : Nat, j ≤ m ∧ i = .int .i64 j ∧ Hid (NdB w wr P M most s (subN im n j))) (fun i _ => m - (intOf i).toNat)
  case atStart => exact ⟨0, by omega, rfl, HN⟩
  case round =>
    clear n1
    obtain ⟨j, hj, rfl, HN⟩ := hrel
    obtain ⟨x0, x1, x2, xz', iz'⟩ := (HWk.out wr HN.out.kp).cells
    by_cases hlt : j < m
    · obtain ⟨al, ah⟩ := HI.out.arg j (by rw [HM.out]; omega)
      obtain ⟨u, hu⟩ : ∃ u : Nat, argA n j = (u : Int) := ⟨(argA n j).toNat, by omega⟩
      have hul : u < l.length := by omega
      have qa : wr.cell? ⟨w.heap.size, 2 + j, none⟩ = some (.int .i64 u) := (arg_cell HN.out.box j (by omega)).trans (by rw [subN_arg _ _ _ _ (by omega), if_neg (by omega), hu])
      have qi := (HWk.out wr HN.out.kp).im hul
      have qf : wr.frozen? ⟨w.heap.size, 2 + j, none⟩ = false := by simp [World.frozen?, HN.out.box]
      have zq : w.heap.size < wr.heap.size := (Array.getElem?_eq_some_iff.1 HN.out.box).1
      have hjm : (j : Int) < (m : Int) := by omega
      have hui : (u : Int) < (l.length : Int) := by omega
      have hu0 : (0 : Int) ≤ (u : Int) := by omega
      have HN2 : Hid (NdB w (wr.setCell ⟨w.heap.size, 2 + j, none⟩ (.int .i64 (imA im (u : Int)))) P M most s (subN im n (j + 1))) := by
        have e := HN.out.put HLt.out (by omega : j < 3)
        rw [hu] at e
        exact e
      clear al ah hu
      go_wp2_with fail
      go_roundw
      case rel => exact ⟨j + 1, by omega, by go_num, HN2⟩
      case measure => simp [intOf]; omega
    · obtain rfl : j = m := by omega
      have HN : Hid (NdB w wr P M most s q) := by show NdB w wr P M most s q; rw [HQ.out]; exact HN.out
      have HS : Hid (∀ V, Kp (And1 P w.heap.size) wr V → V.cell? ⟨w.heap.size, 0, none⟩ = some (.int .i8 q.op) ∧ V.cell? ⟨w.heap.size, 1, none⟩ = some (.int .i8 q.len) ∧ V.cell? ⟨w.heap.size, 2, none⟩ = some (.int .i64 q.a0) ∧ V.cell? ⟨w.heap.size, 3, none⟩ = some (.int .i64 q.a1) ∧ V.cell? ⟨w.heap.size, 4, none⟩ = some (.int .i64 q.a2) ∧ V.cell? ⟨w.heap.size, 5, none⟩ = some (.int .i64 q.sort) ∧ V.cell? ⟨w.heap.size, 6, none⟩ = some (.int .i64 q.fn) ∧ V.cell? ⟨w.heap.size, 7, none⟩ = some (.int .i64 q.num) ∧ V.cell? ⟨X, 2, none⟩ = some (.func (.func 39) #[.pointer (some ⟨M, 0, none⟩)] #[])) := fun V hV => by
        obtain ⟨n0, n1, n2, n3, n4, n5, n6, n7, _⟩ := HN.out.cells hV
        exact ⟨n0, n1, n2, n3, n4, n5, n6, n7, (HWk.out V (HN.out.kp.trans (hV.less fun _ h => .inl h))).cells.2.2.1⟩
      obtain ⟨n0, n1, n2, n3, n4, n5, n6, n7, zn⟩ := HN.out.cells (Kp.refl _ _)
      have hjn : ¬ (j : Int) < (j : Int) := by omega
      clear x0 x1 n0 n1 n2 n3 n4 n5 n6 n7 x2
      go_wp2_with fail
      go_region_held3 (fun V => V.cell? ⟨w.heap.size, 0, none⟩ = some (.int .i8 q.op) ∧ V.cell? ⟨w.heap.size, 1, none⟩ = some (.int .i8 q.len) ∧ V.cell? ⟨w.heap.size, 2, none⟩ = some (.int .i64 q.a0) ∧ V.cell? ⟨w.heap.size, 3, none⟩ = some (.int .i64 q.a1) ∧ V.cell? ⟨w.heap.size, 4, none⟩ = some (.int .i64 q.a2) ∧ V.cell? ⟨w.heap.size, 5, none⟩ = some (.int .i64 q.sort) ∧ V.cell? ⟨w.heap.size, 6, none⟩ = some (.int .i64 q.fn) ∧ V.cell? ⟨w.heap.size, 7, none⟩ = some (.int .i64 q.num) ∧ V.cell? ⟨X, 2, none⟩ = some (.func (.func 39) #[.pointer (some ⟨M, 0, none⟩)] #[]))
        (first | with_reducible exact HS.out _ (Kp.drew (Kp.refl _ _)) | with_reducible exact HS.out _ HK1.out)
        (first | (go_at_call 39; refine (HIm.out _ HN.out.mr.drew).mono ?_; rintro e w1 ⟨rfl, hm1, hk1⟩; have HM1 := Lib.hid hm1; have HK1 := Lib.hid (Kp.trans (Kp.drew (Kp.refl _ _)) hk1); clear hm1 hk1))
      all_goals
        have HKw : Hid (Kp P w w1) := HN.out.kp.trans (HK1.out.less fun _ h => .inl h)
        obtain ⟨x0, x1, x2, xz2, iz2⟩ := (HWk.out w1 HKw.out).cells
        have qi := (HWk.out w1 HKw.out).im hkl
        have qf : w1.frozen? ⟨I, k, none⟩ = false := by simp [World.frozen?, (HWk.out w1 HKw.out).img]
        have HFin : Hid (MkR (w1.setCell ⟨I, k, none⟩ (.int .i64 r.2)) P M most r.1 ∧ WkR (w1.setCell ⟨I, k, none⟩ (.int .i64 r.2)) X I M l (some ⟨g, o, none⟩) c (im.set k r.2) ∧ Kp (fun i => P i ∧ i ≠ I) w (w1.setCell ⟨I, k, none⟩ (.int .i64 r.2))) := ⟨(HM1.out.set (.inl HPI.out) _).less fun _ h => .inl h, HPut.out w1 HKw.out r.2⟩
        go_wp2_with fail
        go_ret
        exact ⟨rfl, HFin.out⟩
end Go.Proofs.YtfbjgadgfjnamaaGreatDoor.Tm
