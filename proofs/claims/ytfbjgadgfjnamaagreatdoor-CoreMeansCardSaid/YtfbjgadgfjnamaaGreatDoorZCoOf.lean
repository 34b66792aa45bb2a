/- Core: Of, walked. -/
import Derived.Test.YtfbjgadgfjnamaaGreatDoorZCoY
import Derived.Test.YtfbjgadgfjnamaaGreatDoorZCoL
import Derived.Test.YtfbjgadgfjnamaaGreatDoorZOfB
import Derived.Deep.AppendLies
namespace Go.Proofs.YtfbjgadgfjnamaaGreatDoor.Tm
open Go.RowKit
set_option linter.unusedVariables false
theorem res_cell3 {P : Program} {fn : Func} {p u v : Tmp} {ty : TypeId} (h : fn.results = #[.cell p ty, .tmp u, .tmp v]) (tmps : Array Value) (w : World) (g : Nat) (t : TypeId) (cs : Array Value) (fr : Nat × Nat) (d : TypeDesc)
    (hp : tmps.getD p undef = .pointer (some ⟨g, 0, none⟩)) (hg : w.heap[g]? = some (.cells cs t fr))
    (hu : P.underlying ty = some d) (hd : (match d with | .struct _ | .array _ _ => true | _ => false) = true) (hi : (P.info? ty).map (·.size) = some cs.size) :
    (results fn tmps).run P w = .ok (.tuple #[.agg cs, tmps.getD u undef, tmps.getD v undef]) w := by
  have hp' : tmps[p]?.getD undef = .pointer (some ⟨g, 0, none⟩) := by simpa using hp
  simp [results, h, hp', asAddr, run_loadVar_row w g t ty cs fr d hg hu hd hi]
theorem tabSize1 : (Tryz.prog.info? 33).map (·.size) = some 1 := by kernel_rfl
theorem setOne {w : World} {b : Nat} {t : TypeId} {z v : Value} (h : w.heap[b]? = some (.cells #[z] t (0, 0))) : (w.setCell ⟨b, 0, none⟩ v).heap[b]? = some (.cells #[v] t (0, 0)) := by
  simp [World.setCell, Array.getElem?_modify, h]
/-- Why Of answers an error. -/
def OfErr (Q : MkS → List Int → Prop) (most : Int) (l : List NodeA) (roots : List Int) (err : Int) : Prop :=
  (err = 2 ∧ (mayT l = false ∨ roots.any (badP l.length) = true)) ∨ (err = 33 ∧ mayT l = true ∧ l.any (badS l) = true) ∨ (∃ s', err = s'.e ∧ MkI s' ∧ FailP Q most l s')
/-- The images of the first roots, each told at its time. -/
def ImsP (Q : MkS → List Int → Prop) (l : List NodeA) (roots : List Int) (s : MkS) (ims : List Int) : Prop :=
  ∀ (j : Nat) (x r : Int), ims[j]? = some x → roots[j]? = some r → ∃ (s0 : MkS) (im0 : List Int), WkS Q l s0 im0 ∧ imA im0 r = x ∧ ¬ x = -1 ∧ Pre s0 s
theorem ImsP.up {Q : MkS → List Int → Prop} {l : List NodeA} {roots : List Int} {s s' : MkS} {ims : List Int} (h : ImsP Q l roots s ims) (hp : Pre s s') : ImsP Q l roots s' ims := fun j x r hx hr => by
  obtain ⟨s0, im0, h1, h2, h3, h4⟩ := h j x r hx hr
  exact ⟨s0, im0, h1, h2, h3, h4.trans hp⟩
theorem ImsP.pl {Q : MkS → List Int → Prop} {l : List NodeA} {roots : List Int} {s : MkS} {ims : List Int} (h : ImsP Q l roots s ims) {j : Nat} {x r : Int} (hx : ims[j]? = some x) (hr : roots[j]? = some r) : PlA s x := by
  obtain ⟨s0, im0, h1, h2, h3, h4⟩ := h j x r hx hr
  rw [← h2] at h3 ⊢
  exact (h1.imp.at h3).up h4
def OfPost (Q : MkS → List Int → Prop) (most : Int) (l : List NodeA) (roots : List Int) (w : World) (e : Ending) (w' : World) : Prop :=
  Below w.heap.size w w' ∧ ((∃ err : Int, e = .returned (.tuple #[.agg #[.slice none 0 0], .slice none 0 0, .int .i64 err]) ∧ ¬ err = 0 ∧ OfErr Q most l roots err) ∨
    (∃ (s : MkS) (im ims : List Int) (a : Option Addr) (c : Nat) (b : Option Addr) (d : Nat), e = .returned (.tuple #[.agg #[.slice a s.l.length c], .slice b ims.length d, .int .i64 0]) ∧ TabR w' s.l a c ∧ IntsR w' ims b d ∧ WkS Q l s im ∧ ImsP Q l roots s ims ∧ ims.length = roots.length ∧ ∀ x ∈ roots, 0 ≤ x ∧ x < (l.length : Int)))
/-- Between two rounds of Of's loop. -/
structure OfR (Q : MkS → List Int → Prop) (w wr : World) (P : Nat → Prop) (X I M : Nat) (most : Int) (l : List NodeA) (a : Option Addr) (c : Nat) (roots : List Int) (s : MkS) (im ims : List Int) (v : Value) (R : Nat → Prop) : Prop where
  sub : ∀ k, P k → R k
  rg : ∀ g, v.ownBlock = some g → R g ∧ w.heap.size ≤ g
  mr : MkR wr R M most s
  wk : WkR wr X I M l a c im
  kp : Kp (fun k => P k ∧ k ≠ I) w wr
  row : wr.ownsRow w.heap.size 3 1 v ims.length (ims.map (Value.int .i64))
  wks : WkS Q l s im
  imp : ImsP Q l roots s ims
theorem WkS.less {Q Q' : MkS → List Int → Prop} {l : List NodeA} {s : MkS} {im : List Int} (h : WkS Q l s im) (hq : Q' s im) : WkS Q' l s im := ⟨hq, h.inv, h.ok, h.imp, h.len⟩
theorem step_pre {Q : MkS → List Int → Prop} {most : Int} {l : List NodeA} {s0 : MkS} (hQ : StepQ Q most l) (hm : most ≤ 2000) (hok : ∀ n ∈ l, NodeOk n) (hst : ∀ (k : Nat) (n : NodeA), l[k]? = some n → standsB n k = true) : StepQ (fun s im => Q s im ∧ Pre s0 s) most l := fun s im k n hw hk ha he => by
  have hw' : WkS Q l s im := hw.less hw.q.1
  obtain ⟨ho, _⟩ := step_wks hQ hw' hk ha hm (hok n (List.mem_of_getElem? hk)) (hst k n hk)
  exact ⟨hQ s im k n hw' hk ha he, hw.q.2.trans ho.pre⟩
theorem fail_less {Q : MkS → List Int → Prop} {most : Int} {l : List NodeA} {s0 s' : MkS} (h : FailP (fun s im => Q s im ∧ Pre s0 s) most l s') : FailP Q most l s' := by
  obtain ⟨h0, s, im, k, n, hw, h1, h2, h3⟩ := h
  exact ⟨h0, s, im, k, n, hw.less hw.q.1, h1, h2, h3⟩
/-- The next image is put behind. -/
theorem OfR.push {Q : MkS → List Int → Prop} {w w1 w9 : World} {P : Nat → Prop} {B0 X I M : Nat} {most : Int} {l : List NodeA} {a : Option Addr} {c : Nat} {roots : List Int} {s : MkS} {im ims : List Int} {v : Value} {R : Nat → Prop} (h : OfR Q w w1 P X I M most l a c roots s im ims v R) (hP : PkR w P B0 X I l a c) (hPl : ∀ k, P k → k < w.heap.size) (hB : B0 ≤ w.heap.size) (hI : B0 ≤ I) {o : Obj} {g9 c9 : Nat} {y : Int}
    (hrow : w9.ownsRow w.heap.size 3 1 (.slice (some ⟨g9, 0, none⟩) (ims.length + 1) c9) (ims.length + 1) (ims.map (Value.int .i64) ++ [.int .i64 y])) (hgr : (w1.alloc o).grownBy w9 v.ownBlock) (hat : v.ownBlock = some g9 ∨ g9 = w1.heap.size + 1) (hlt : g9 < w9.heap.size) (hq : ImsP Q l roots s (ims ++ [y])) :
    OfR Q w w9 P X I M most l a c roots s im (ims ++ [y]) (.slice (some ⟨g9, 0, none⟩) (ims.length + 1) c9) (fun k => R k ∨ k = g9) := by
  have hsz : (w1.alloc o).heap.size = w1.heap.size + 1 := by simp
  have hs9 := hgr.size
  have hblk : ∀ k, k < w1.heap.size → v.ownBlock ≠ some k → w9.heap[k]? = w1.heap[k]? := fun k hk hne => (hgr.block k (by omega) (fun e => hne e.symm)).trans (Below.heap_alloc w1 o k hk)
  have hold : ∀ k, k < w.heap.size → v.ownBlock ≠ some k := fun k hk e => by have := (h.rg k e).2; omega
  have hkp : Kp (fun k => P k ∧ k ≠ I) w w9 := h.kp.trans ⟨hgr.os, hgr.tape, hgr.output, by omega, fun k hk => hblk k (h.mr.lt (h.sub k hk.1)) (hold k (hPl k hk.1))⟩
  refine ⟨fun k hk => .inl (h.sub k hk), ?_, ?_, ?_, hkp, ?_, h.wks, hq⟩
  · intro g hg
    obtain rfl : g9 = g := by simpa [Value.ownBlock] using hg
    refine ⟨.inr rfl, ?_⟩
    rcases hat with e | e
    · exact (h.rg _ e).2
    · have := h.kp.size; omega
  · obtain ⟨a', c', b', hx⟩ := h.mr
    have hap : ∀ g, v.ownBlock = some g → g ≠ M ∧ g ≠ b' ∧ (Value.slice a' s.l.length c').ownBlock ≠ some g := fun g hg => (hx.apart g (h.rg g hg).1).2
    refine ⟨a', c', b', hx.move (hblk _ hx.lt (fun e => (hap _ e).1 rfl)) (hblk _ hx.map.lt (fun e => (hap _ e).2.1 rfl)) (fun k hk => hblk k (own_lt hx.own hk).2 (fun e => (hap _ e).2.2 hk)) (fun k hk => ?_)⟩
    rcases hk with hk | rfl
    · obtain ⟨h1, h2, h3, h4⟩ := hx.apart k hk
      exact ⟨by omega, h2, h3, h4⟩
    · rcases hat with e | e
      · exact ⟨hlt, hap _ e⟩
      · refine ⟨hlt, ?_, ?_, fun e' => ?_⟩
        · have := hx.lt; omega
        · have := hx.map.lt; omega
        · have := (own_lt hx.own e').2; omega
  · have h1 := h.mr.lt (h.sub X hP.px)
    have h2 := h.mr.lt (h.sub I hP.pi)
    exact h.wk.move (hblk X h1 (hold X (hPl X hP.px))) (hblk I h2 (hold I (hPl I hP.pi))) (hP.keepI hI hkp hB).2
  · rw [List.length_append, List.map_append]
    exact hrow
end Go.Proofs.YtfbjgadgfjnamaaGreatDoor.Tm
namespace Go.Proofs.YtfbjgadgfjnamaaGreatDoor.Tm
open Go.RowKit
set_option linter.unusedVariables false
theorem stands_in {l : List NodeA} {k : Nat} {n : NodeA} (h : okFrom [] l = true) (hk : l[k]? = some n) : InA l n := by
  have hlt := (List.getElem?_eq_some_iff.1 hk).1
  have h2 := (ok_at h hk).1
  unfold standsB at h2
  rw [decide_eq_true_eq] at h2
  have h4 := (stands_iff n k).1 h2
  refine ⟨h4.1.2.2.1, h4.1.2.2.2, fun j hj => ?_⟩
  have h5 := (h4.2.1 j (by have := h4.1.2.2.2; omega)).1 hj
  omega
theorem badP_no {N : Nat} {xs : List Int} (h : xs.any (badP N) = false) {x : Int} (hx : x ∈ xs) : 0 ≤ x ∧ x < (N : Int) := by
  rw [List.any_eq_false] at h
  have h1 := h x hx
  unfold badP at h1
  by_cases h0 : x < 0
  · rw [if_pos h0] at h1; exact absurd rfl h1
  · rw [if_neg h0, decide_eq_true_eq] at h1
    omega
theorem kp_below {w w6 V : World} {P : Nat → Prop} {I : Nat} (h : Below w.heap.size w w6) (k : Kp (fun i => P i ∧ i ≠ I) w6 V) (hP : ∀ i, i < w.heap.size → P i) (hI : w.heap.size ≤ I) : Below w.heap.size w V :=
  ⟨k.os.trans h.os, k.tape.trans h.tape, k.output.trans h.output, Nat.le_trans h.size k.size, fun i hi => (k.keep i ⟨hP i hi, by omega⟩).trans (h.block i hi)⟩
set_option maxRecDepth 100000 in
set_option maxHeartbeats 8000000 in
theorem Of_any (Q : MkS → List Int → Prop) (most : Int) (l : List NodeA) (a : Option Addr) (c : Nat) (roots : List Int) (b : Option Addr) (d : Nat) (w : World) (hT : GT w) (hG : GR w) (hA : TabR w l a c) (hl : l.length ≤ 2000) (hR : IntsR w roots b d) (hrl : roots.length ≤ 3000) (hm : most ≤ 2000) (hm64 : I64 most)
    (hQ0 : mayT l = true → l.any (badS l) = false → Q ⟨newL, 0⟩ (List.replicate l.length (-1))) (hQ : mayT l = true → l.any (badS l) = false → StepQ Q most l) :
    Calls Tryz.prog 12 #[.agg #[.slice a l.length c], .slice b roots.length d, .int .i64 most] w (OfPost Q most l roots w) := by
  have hcap := hA.le
  have hrc := hR.le
  have hmx : l.length ≤ 9223372036854775807 := by omega
  obtain ⟨W0, hW0⟩ : ∃ W0, W0 = (w.alloc (.cells #[.slice a l.length c] 33)).alloc (.cells #[.slice none 0 0] 33) := ⟨_, rfl⟩
  have hB0 : Below w.heap.size w W0 := by rw [hW0]; exact ((Below.refl _ w).alloc (Nat.le_refl _) _).alloc (by simp) _
  have hz0 : W0.heap.size = w.heap.size + 2 := by rw [hW0]; simp
  have hX0 : W0.heap[w.heap.size]? = some (.cells #[.slice a l.length c] 33 (0, 0)) := by rw [hW0]; exact (Below.heap_alloc _ _ _ (by simp)).trans (heap_alloc_new w _)
  have hY0 : W0.heap[w.heap.size + 1]? = some (.cells #[.slice none 0 0] 33 (0, 0)) := by
    have := heap_alloc_new (w.alloc (.cells #[.slice a l.length c] 33)) (.cells #[.slice none 0 0] 33)
    rw [World.size_alloc] at this
    rw [hW0]; exact this
  have HBX : Hid (∀ V : World, V.heap[w.heap.size]? = W0.heap[w.heap.size]? → V.heap[w.heap.size + 1]? = W0.heap[w.heap.size + 1]? → V.cell? ⟨w.heap.size, 0, none⟩ = some (.slice a l.length c) ∧ V.cell? ⟨w.heap.size + 1, 0, none⟩ = some (.slice none 0 0) ∧ (∀ i, V.frozen? ⟨w.heap.size + 1, i, none⟩ = false) ∧ w.heap.size < V.heap.size ∧ w.heap.size + 1 < V.heap.size) := fun V h1 h2 => by
    have e0 := h1.trans hX0
    have e1 := h2.trans hY0
    exact ⟨(cell_of_row _ _ 0 _ _ _ e0).trans rfl, (cell_of_row _ _ 0 _ _ _ e1).trans rfl, fun i => by simp [World.frozen?, e1], (Array.getElem?_eq_some_iff.1 e0).1, (Array.getElem?_eq_some_iff.1 e1).1⟩
  have HBB : Hid (∀ V : World, Below W0.heap.size W0 V → V.heap[w.heap.size]? = W0.heap[w.heap.size]? ∧ V.heap[w.heap.size + 1]? = W0.heap[w.heap.size + 1]?) := fun V hV => ⟨hV.block _ (by omega), hV.block _ (by omega)⟩
  have HY0 := Lib.hid hY0
  have HB0 := Lib.hid hB0
  obtain ⟨x0, y0, yf, xz, yz⟩ := HBX.out W0 rfl rfl
  have HEnd : Hid (∀ (V : World) (err : Int), Below W0.heap.size W0 V → ¬ err = 0 → OfErr Q most l roots err → OfPost Q most l roots w (.returned (.tuple #[.agg #[.slice none 0 0], .slice none 0 0, .int .i64 err])) (V.setCell ⟨w.heap.size + 1, 0, none⟩ (.slice none 0 0))) := fun V err hV h0 he => ⟨(hB0.trans (hV.mono hB0.size)).setCell (p := ⟨w.heap.size + 1, 0, none⟩) (by show w.heap.size ≤ w.heap.size + 1; omega) _, .inl ⟨err, rfl, h0, he⟩⟩
  obtain ⟨v, hv⟩ : ∃ v, errB (mayT l) = v := ⟨_, rfl⟩
  have HCk : Hid (Calls Tryz.prog 33 #[.agg #[.slice a l.length c]] W0 fun e w' => e = .returned (.int .i64 v) ∧ Below W0.heap.size W0 w') := Check_any l a c v W0 (hT.below hB0) (hA.below hB0) (by omega) hv
  cases hmt : mayT l with
  | false =>
    obtain rfl : 2 = v := by rw [← hv, hmt]; rfl
    have HErr : Hid (OfErr Q most l roots 2) := .inl ⟨rfl, .inl hmt⟩
    clear hmt hv hA hR hG hT hQ hQ0 hB0 hX0 hY0 hz0
    go_enter Tryz.func12, Tryz.ntmps12
    go_wp2_with fail
    rw [← hW0]
    clear hW0
    refine HCk.out.mono ?_
    rintro e w1 ⟨rfl, hb1⟩
    obtain ⟨k1, k2⟩ := HBB.out w1 hb1
    clear x0 y0 yf xz yz
    obtain ⟨x0, y0, yf, xz, yz⟩ := HBX.out w1 k1 k2
    have HB1 := Lib.hid hb1
    have HK2 : Hid (w1.heap[w.heap.size + 1]? = some (.cells #[.slice none 0 0] 33 (0, 0))) := k2.trans HY0.out
    clear hb1 k1 k2
    go_wp2_with fail
    refine bodyPost_ret (res_cell3 rfl _ _ (w.heap.size + 1) _ _ _ _ rfl (setOne HK2.out) Tryz.underlying33 rfl tabSize1) rfl ?_
    exact HEnd.out w1 2 HB1.out (by decide) HErr.out
  | true =>
  obtain rfl : 0 = v := by rw [← hv, hmt]; rfl
  obtain ⟨q1, hq1⟩ : ∃ q, roots.any (badP l.length) = q := ⟨_, rfl⟩
  have HPl : Hid (∀ V, Below w.heap.size w V → Calls Tryz.prog 34 #[.slice a l.length c, .slice b roots.length d] V fun e w' => e = .returned (.bool (!q1)) ∧ Below V.heap.size V w') := fun V hV => places_any l.length a c roots b d q1 V (hR.below hV) (by omega) hrl hq1
  cases q1 with
  | true =>
    have HErr : Hid (OfErr Q most l roots 2) := .inl ⟨rfl, .inr hq1⟩
    clear hmt hv hA hR hG hT hQ hQ0 hB0 hX0 hY0 hz0 hq1
    go_enter Tryz.func12, Tryz.ntmps12
    go_wp2_with fail
    rw [← hW0]
    clear hW0
    refine HCk.out.mono ?_
    rintro e w1 ⟨rfl, hb1⟩
    obtain ⟨k1, k2⟩ := HBB.out w1 hb1
    clear x0 y0 yf xz yz
    obtain ⟨x0, y0, yf, xz, yz⟩ := HBX.out w1 k1 k2
    have HB1 := Lib.hid hb1
    clear hb1 k1 k2
    go_wp2_with fail
    refine (HPl.out _ (HB0.out.trans (HB1.out.mono HB0.out.size))).mono ?_
    rintro e w2 ⟨rfl, hb2⟩
    have HB2 : Hid (Below W0.heap.size W0 w2) := HB1.out.trans (hb2.mono HB1.out.size)
    obtain ⟨k1, k2⟩ := HBB.out w2 HB2.out
    clear x0 y0 yf xz yz
    obtain ⟨x0, y0, yf, xz, yz⟩ := HBX.out w2 k1 k2
    have HK2 : Hid (w2.heap[w.heap.size + 1]? = some (.cells #[.slice none 0 0] 33 (0, 0))) := k2.trans HY0.out
    clear hb2 k1 k2
    go_wp2_with fail
    refine bodyPost_ret (res_cell3 rfl _ _ (w.heap.size + 1) _ _ _ _ rfl (setOne HK2.out) Tryz.underlying33 rfl tabSize1) rfl ?_
    exact HEnd.out w2 2 HB2.out (by decide) HErr.out
  | false =>
  have hok := (mayT_ok hmt).2
  have hin : ∀ n ∈ l, InA l n := fun n hn => by
    obtain ⟨k, hk⟩ := List.getElem?_of_mem hn
    exact stands_in hok hk
  have hst : ∀ (k : Nat) (n : NodeA), l[k]? = some n → standsB n k = true := fun k n hk => (ok_at hok hk).1
  obtain ⟨q2, hq2⟩ : ∃ q, l.any (badS l) = q := ⟨_, rfl⟩
  have HSo : Hid (∀ V, Below w.heap.size w V → Calls Tryz.prog 35 #[.slice a l.length c] V fun e w' => e = .returned (.bool (!q2)) ∧ Below V.heap.size V w') := fun V hV => sorted_any l a c q2 V (hG.below hV) (hA.below hV) hin (by omega) hq2
  cases q2 with
  | true =>
    have HErr : Hid (OfErr Q most l roots 33) := .inr (.inl ⟨rfl, hmt, hq2⟩)
    clear hmt hv hA hR hG hT hQ hQ0 hB0 hX0 hY0 hz0 hq1 hq2 hok hin hst
    go_enter Tryz.func12, Tryz.ntmps12
    go_wp2_with fail
    rw [← hW0]
    clear hW0
    refine HCk.out.mono ?_
    rintro e w1 ⟨rfl, hb1⟩
    obtain ⟨k1, k2⟩ := HBB.out w1 hb1
    clear x0 y0 yf xz yz
    obtain ⟨x0, y0, yf, xz, yz⟩ := HBX.out w1 k1 k2
    have HB1 := Lib.hid hb1
    clear hb1 k1 k2
    go_wp2_with fail
    refine (HPl.out _ (HB0.out.trans (HB1.out.mono HB0.out.size))).mono ?_
    rintro e w2 ⟨rfl, hb2⟩
    have HB2 : Hid (Below W0.heap.size W0 w2) := HB1.out.trans (hb2.mono HB1.out.size)
    obtain ⟨k1, k2⟩ := HBB.out w2 HB2.out
    clear x0 y0 yf xz yz
    obtain ⟨x0, y0, yf, xz, yz⟩ := HBX.out w2 k1 k2
    clear hb2 k1 k2
    go_wp2_with fail
    refine (HSo.out _ (HB0.out.trans (HB2.out.mono HB0.out.size))).mono ?_
    rintro e w3 ⟨rfl, hb3⟩
    have HB3 : Hid (Below W0.heap.size W0 w3) := HB2.out.trans (hb3.mono HB2.out.size)
    obtain ⟨k1, k2⟩ := HBB.out w3 HB3.out
    clear x0 y0 yf xz yz
    obtain ⟨x0, y0, yf, xz, yz⟩ := HBX.out w3 k1 k2
    have HK2 : Hid (w3.heap[w.heap.size + 1]? = some (.cells #[.slice none 0 0] 33 (0, 0))) := k2.trans HY0.out
    clear hb3 k1 k2
    go_wp2_with fail
    refine bodyPost_ret (res_cell3 rfl _ _ (w.heap.size + 1) _ _ _ _ rfl (setOne HK2.out) Tryz.underlying33 rfl tabSize1) rfl ?_
    exact HEnd.out w3 33 HB3.out (by decide) HErr.out
  | false =>
  have hQs := hQ hmt hq2
  have hQi := hQ0 hmt hq2
  have hl2 := mayT_len hmt
  have HNw : Hid (∀ V, Calls Tryz.prog 37 #[] V fun e w' => e = .returned (.agg #[.slice (some ⟨V.heap.size + 1, 0, none⟩) 2 2]) ∧ TabR w' newL (some ⟨V.heap.size + 1, 0, none⟩) 2 ∧ Below V.heap.size V w') := fun V => New_any V
  have HMk : Hid (∀ V g, TabR V newL (some ⟨g, 0, none⟩) 2 → Calls Tryz.prog 36 #[.agg #[.slice (some ⟨g, 0, none⟩) 2 2], .int .i64 most] V fun e w' => ∃ M, e = .returned (.pointer (some ⟨M, 0, none⟩)) ∧ V.heap.size ≤ M ∧ MkR w' (fun k => k < V.heap.size) M most ⟨newL, 0⟩ ∧ Below V.heap.size V w') := fun V g hV => newMaker_any newL (some ⟨g, 0, none⟩) 2 most V hV (by decide) (by decide)
  have HWk : Hid (∀ V M, Below w.heap.size w V → Calls Tryz.prog 38 #[.agg #[.slice a l.length c], .func (.func 39) #[.pointer (some ⟨M, 0, none⟩)] #[]] V fun e w' => ∃ X I, e = .returned (.pointer (some ⟨X, 0, none⟩)) ∧ V.heap.size ≤ I ∧ V.heap.size ≤ X ∧ X < w'.heap.size ∧ WkR w' X I M l a c (List.replicate l.length (-1)) ∧ Below V.heap.size V w') := fun V M hV => newWalk_any l a c M V (hA.below hV) (by omega) (by omega)
  have HRt : Hid (∀ x ∈ roots, 0 ≤ x ∧ x < (l.length : Int)) := fun x hx => badP_no hq1 hx
  have HQ : Hid (∀ s0, StepQ (fun s im => Q s im ∧ Pre s0 s) most l) := fun s0 => step_pre hQs hm hA.ok hst
  have HQi := Lib.hid hQi
  have HIn := Lib.hid hin
  have HSt := Lib.hid hst
  have HA := Lib.hid hA
  have HR := Lib.hid hR
  have HM := Lib.hid hm
  have HHl := Lib.hid hl
  obtain ⟨i0, hi_, hz0', hz1, hz2⟩ := info_parts info_int
  clear hmt hv hA hR hG hT hQ hQ0 hB0 hX0 hY0 hq1 hq2 hok hin hst hQs hQi hm
  go_enter Tryz.func12, Tryz.ntmps12
  go_wp2_with fail
  rw [← hW0]
  clear hW0
  refine HCk.out.mono ?_
  rintro e w1 ⟨rfl, hb1⟩
  obtain ⟨k1, k2⟩ := HBB.out w1 hb1
  clear x0 y0 yf xz yz
  obtain ⟨x0, y0, yf, xz, yz⟩ := HBX.out w1 k1 k2
  have HB1 := Lib.hid hb1
  clear hb1 k1 k2
  go_wp2_with fail
  refine (HPl.out _ (HB0.out.trans (HB1.out.mono HB0.out.size))).mono ?_
  rintro e w2 ⟨rfl, hb2⟩
  have HB2 : Hid (Below W0.heap.size W0 w2) := HB1.out.trans (hb2.mono HB1.out.size)
  obtain ⟨k1, k2⟩ := HBB.out w2 HB2.out
  clear x0 y0 yf xz yz
  obtain ⟨x0, y0, yf, xz, yz⟩ := HBX.out w2 k1 k2
  clear hb2 k1 k2
  go_wp2_with fail
  refine (HSo.out _ (HB0.out.trans (HB2.out.mono HB0.out.size))).mono ?_
  rintro e w3 ⟨rfl, hb3⟩
  have HB3 : Hid (Below W0.heap.size W0 w3) := HB2.out.trans (hb3.mono HB2.out.size)
  clear hb3 x0 y0 yf xz yz
  go_wp2_with fail
  refine (HNw.out _).mono ?_
  rintro e w4 ⟨rfl, ht4, hb4⟩
  have HB4 : Hid (Below W0.heap.size W0 w4) := HB3.out.trans (hb4.mono HB3.out.size)
  have HT4 := Lib.hid ht4
  clear hb4 ht4
  go_wp2_with fail
  refine (HMk.out _ _ HT4.out).mono ?_
  rintro e w5 ⟨M, rfl, hM, hmk5, hb5⟩
  have HB5 : Hid (Below W0.heap.size W0 w5) := HB4.out.trans (hb5.mono HB4.out.size)
  have HMk5 := Lib.hid hmk5
  have h45 := hb5.size
  obtain ⟨k1, k2⟩ := HBB.out w5 HB5.out
  obtain ⟨x0, y0, yf, xz, yz⟩ := HBX.out w5 k1 k2
  clear hb5 hmk5 k1 k2 y0 yf yz
  go_wp2_with fail
  refine (HWk.out _ M (HB0.out.trans (HB5.out.mono HB0.out.size))).mono ?_
  rintro e w6 ⟨X, I, rfl, hI, hX, hXl, hwk6, hb6⟩
  have HB6 : Hid (Below W0.heap.size W0 w6) := HB5.out.trans (hb6.mono HB5.out.size)
  have HBw : Hid (Below w.heap.size w w6) := HB0.out.trans (HB6.out.mono HB0.out.size)
  have h56 := hb6.size
  have h04 : W0.heap.size ≤ w4.heap.size := HB4.out.size
  have hIl : I < w6.heap.size := hwk6.cells.2.2.2.2
  obtain ⟨P, hP⟩ : ∃ P : Nat → Prop, P = fun k => k < w4.heap.size ∨ (w5.heap.size ≤ k ∧ k < w6.heap.size) := ⟨_, rfl⟩
  have hmr6 : MkR w6 P M most ⟨newL, 0⟩ := by rw [hP]; exact HMk5.out.grow hb6
  have hpk6 : PkR w6 P w4.heap.size X I l a c := by
    have ht := HA.out.below HBw.out
    refine ⟨fun k hk => by rw [hP]; exact .inl hk, by rw [hP]; exact .inr ⟨hX, hXl⟩, by rw [hP]; exact .inr ⟨hI, hIl⟩, ?_, ht.le, ht.cap, ht.ok⟩
    exact (HA.out.tat.below HBw.out).more (by omega)
  have HPl6 : Hid (∀ k, P k → k < w6.heap.size) := fun k hk => hmr6.lt hk
  have HPw : Hid (∀ i, i < w.heap.size → P i) := fun i hi => by rw [hP]; exact .inl (by omega)
  have HPb : Hid (P w.heap.size ∧ P (w.heap.size + 1) ∧ w.heap.size ≠ I ∧ w.heap.size + 1 ≠ I ∧ w.heap.size ≤ I) := by rw [hP]; exact ⟨.inl (by omega), .inl (by omega), by omega, by omega, by omega⟩
  have HO6 : Hid (OfR Q w6 w6 P X I M most l a c roots ⟨newL, 0⟩ (List.replicate l.length (-1)) [] (.slice none 0 0) P) := by
    refine ⟨fun _ h => h, fun g hg => (by cases hg), hmr6, hwk6, Kp.refl _ _, World.ownsRow_nil _ _ _ _, ⟨HQi.out, hmr6.inv, rfl, fun x hx => .inl (by simpa using (List.mem_replicate.1 hx).2), by simp⟩, fun j x r hx => by simp at hx⟩
  have HPk := Lib.hid hpk6
  have HI4 : Hid (w4.heap.size ≤ I) := by show _ ≤ _; omega
  have HB46 : Hid (w4.heap.size ≤ w6.heap.size) := by show _ ≤ _; omega
  have HK6 : Hid (∀ V : World, Kp (fun k => P k ∧ k ≠ I) w6 V → V.heap[w.heap.size]? = W0.heap[w.heap.size]? ∧ V.heap[w.heap.size + 1]? = W0.heap[w.heap.size + 1]? ∧ Below w.heap.size w V) := fun V hV => by
    obtain ⟨p1, p2, p3, p4, p5⟩ := HPb.out
    obtain ⟨k1, k2⟩ := HBB.out w6 HB6.out
    exact ⟨(hV.keep _ ⟨p1, p3⟩).trans k1, (hV.keep _ ⟨p2, p4⟩).trans k2, kp_below HBw.out hV HPw.out p5⟩
  clear hb6 hwk6 hP hmr6 hpk6 x0 xz h45 h56 h04 hX hXl hI hM hz0
  go_wp2_with fail
  go_loopw [7, 42] (fun v i wr => ∃ (k : Nat) (s : MkS) (im ims : List Int) (R : Nat → Prop) (a7 : Option Addr) (c7 : Nat), k ≤ roots.length ∧ i = .int .i64 k ∧ v = .slice a7 k c7 ∧ Hid (OfR Q w6 wr P X I M most l a c roots s im ims (.slice a7 k c7) R) ∧ Hid (ims.length = k)) (fun _ i _ => roots.length - (intOf i).toNat)
  case atStart => exact ⟨0, _, _, [], P, none, 0, Nat.zero_le _, rfl, rfl, HO6, rfl⟩
  case round =>
    clear HO6
    obtain ⟨k, s, im, ims, R, a7, c7, hk, rfl, rfl, HO, HL⟩ := hrel
    obtain ⟨k1, k2, hbw⟩ := HK6.out wr HO.out.kp
    by_cases hlt : k < roots.length
    · obtain ⟨r, hr⟩ : ∃ r, roots[k]? = some r := ⟨_, List.getElem?_eq_getElem hlt⟩
      obtain ⟨g, o, rfl, hg, q0⟩ := (HR.out.below hbw).cell hr
      have hrr := HRt.out r (List.mem_of_getElem? hr)
      obtain ⟨root, rfl⟩ : ∃ n : Nat, r = (n : Int) := ⟨r.toNat, by omega⟩
      have hki : (k : Int) < (roots.length : Int) := by omega
      have hpkR : PkR wr R w4.heap.size X I l a c := by
        obtain ⟨h1, _⟩ := HPk.out.keepI HI4.out HO.out.kp HB46.out
        exact ⟨fun k hk => HO.out.sub k (h1.old k hk), HO.out.sub _ h1.px, HO.out.sub _ h1.pi, h1.low, h1.le, h1.cap, h1.ok⟩
      have HAt := Lib.hid (at_any (fun s' im' => Q s' im' ∧ Pre s s') R w4.heap.size X I M most s l a c im root wr HO.out.wk HO.out.mr hpkR (Nat.le_trans HB46.out HO.out.kp.size) HI4.out HM.out (by have := HHl.out; omega) (by omega) HIn.out HSt.out (HQ.out s) (HO.out.wks.less ⟨HO.out.wks.q, Pre.refl s⟩))
      have HRr := Lib.hid hr
      clear hpkR hrr hr hbw k1 k2
      go_wp2_with fail
      refine HAt.out.mono ?_
      rintro e wA ⟨s', im', hmA, hwA, hkA, ⟨rfl, hwks, hne⟩ | ⟨rfl, hfail⟩⟩
      · have hOA : OfR Q w6 wA P X I M most l a c roots s' im' ims (.slice a7 k c7) R := by
          have h := HO.out
          have hI7 : ∀ g, (Value.slice a7 k c7).ownBlock = some g → g ≠ I := fun g hg e => by have := (h.rg g hg).2; omega
          refine ⟨h.sub, h.rg, hmA, hwA, h.kp.trans (hkA.less fun k hk => ⟨h.sub k hk.1, hk.2⟩), own_blk h.row (fun g hg => hkA.keep g ⟨(h.rg g hg).1, hI7 g hg⟩), hwks.less hwks.q.1, h.imp.up hwks.q.2⟩
        have hq : ImsP Q l roots s' (ims ++ [imA im' root]) := fun j x r hx hr => by
          by_cases hj : j < ims.length
          · rw [List.getElem?_append_left hj] at hx
            exact hOA.imp j x r hx hr
          · have hjk : j = ims.length := by have := (List.getElem?_eq_some_iff.1 hx).1; simp at this; omega
            rw [hjk, List.getElem?_append_right (Nat.le_refl _), Nat.sub_self] at hx
            rw [hjk, HL.out, HRr.out] at hr
            obtain rfl : x = imA im' root := by simpa using hx.symm
            obtain rfl := Option.some.inj hr
            exact ⟨s', im', hwks.less hwks.q.1, rfl, hne, Pre.refl _⟩
        have hrow : wA.ownsRow w6.heap.size 3 1 (.slice a7 k c7) k (ims.map (Value.int .i64)) := by have h := hOA.row; rw [HL.out] at h; exact h
        have hk3 : k ≤ 3000 := by omega
        have hws := HO.out.kp.size
        have hwa := hkA.size
        have HOA := Lib.hid hOA
        have HQx := Lib.hid hq
        clear hmA hwA hkA hwks hne hOA hq HAt
        go_wp2_with (at_builtin; refine wpList_append_lies _ rfl _ _ 27 rfl w6.heap.size 3 i0 _ 1 8 Tryz.underlying27 hi_ hz0' hz1 hz2 rfl (by decide) (Value.slice a7 k c7) k (ims.map (Value.int .i64)) (by rfl) (hrow.alloc _) ⟨wA.heap.size, 0, none⟩ 1 1 [.int .i64 (imA im' root)] (by rfl) rfl (World.news_of_block (B := wA.heap.size) (cs := #[.int .i64 (imA im' root)]) (t := 3) (fr := (0, 0)) (heap_alloc_new wA _)) (by simp [Value.oneCell']) (by omega) (by simp only [maxLen]; omega) (by omega) (by simp; omega) _ rfl ?_; intro g9 c9 w9 hown9 hgrow9 hat9 hlt9; have HO9 := Lib.hid (HOA.out.push HPk.out HPl6.out HB46.out HI4.out (g9 := g9) (c9 := c9) (y := imA im' root) (by rw [HL.out]; exact hown9) hgrow9 (by simpa using hat9) hlt9 HQx.out); clear hown9 hgrow9 hat9)
        have HO10 : Hid (OfR Q w6 w9 P X I M most l a c roots s' im' (ims ++ [imA im' root]) (.slice (some ⟨g9, 0, none⟩) (k + 1) c9) (fun k => R k ∨ k = g9)) := by have h := HO9.out; rw [HL.out] at h; exact h
        go_roundw
        case rel => exact ⟨k + 1, s', im', ims ++ [imA im' root], _, some ⟨g9, 0, none⟩, c9, by omega, by go_num, rfl, HO10, by show _ = _; rw [List.length_append, HL.out]; rfl⟩
        case measure => simp [intOf]; omega
      · have hkk : Kp (fun k => P k ∧ k ≠ I) w6 wA := HO.out.kp.trans (hkA.less fun k hk => ⟨HO.out.sub k hk.1, hk.2⟩)
        obtain ⟨k1, k2, hbA⟩ := HK6.out wA hkk
        obtain ⟨x0, y0, yf, xz, yz⟩ := HBX.out wA k1 k2
        have e0 := ne_t hfail.1
        have HK2 : Hid (wA.heap[w.heap.size + 1]? = some (.cells #[.slice none 0 0] 33 (0, 0))) := k2.trans HY0.out
        have HP2 : Hid (OfPost Q most l roots w (.returned (.tuple #[.agg #[.slice none 0 0], .slice none 0 0, .int .i64 s'.e])) (wA.setCell ⟨w.heap.size + 1, 0, none⟩ (.slice none 0 0))) := ⟨hbA.setCell (p := ⟨w.heap.size + 1, 0, none⟩) (by show w.heap.size ≤ w.heap.size + 1; omega) _, .inl ⟨s'.e, rfl, hfail.1, .inr (.inr ⟨s', rfl, hmA.inv, fail_less hfail⟩)⟩⟩
        clear hmA hwA hkA hfail hkk k1 k2 hbA x0 xz HAt
        go_wp2_with fail
        refine bodyPost_ret (res_cell3 rfl _ _ (w.heap.size + 1) _ _ _ _ rfl (setOne HK2.out) Tryz.underlying33 rfl tabSize1) rfl ?_
        exact HP2.out
    · obtain rfl : k = roots.length := by omega
      obtain ⟨x0, y0, yf, xz, yz⟩ := HBX.out wr k1 k2
      obtain ⟨aN, cN, bN, hx⟩ := HO.out.mr
      obtain ⟨m0, _, _, _, mz, _⟩ := hx.cells
      have HK2 : Hid (wr.heap[w.heap.size + 1]? = some (.cells #[.slice none 0 0] 33 (0, 0))) := k2.trans HY0.out
      have HPo : Hid (OfPost Q most l roots w (.returned (.tuple #[.agg #[.slice aN s.l.length cN], .slice a7 roots.length c7, .int .i64 0])) (wr.setCell ⟨w.heap.size + 1, 0, none⟩ (.slice aN s.l.length cN))) := by
        have hlt1 := HPl6.out _ HPb.out.2.1
        have hap := hx.apart (w.heap.size + 1) (HO.out.sub _ HPb.out.2.1)
        refine ⟨hbw.setCell (p := ⟨w.heap.size + 1, 0, none⟩) (by show w.heap.size ≤ w.heap.size + 1; omega) _, .inr ⟨s, im, ims, aN, cN, a7, c7, by rw [HL.out], ?_, ?_, HO.out.wks, HO.out.imp, HL.out, HRt.out⟩⟩
        · obtain ⟨a', c', e, ht⟩ := own_tab (base := 0) (own_blk hx.own (w' := wr.setCell ⟨w.heap.size + 1, 0, none⟩ (.slice aN s.l.length cN)) (fun g hg => Below.heap_setCell _ _ _ _ (fun e => hap.2.2.2 (by rw [hg]; exact congrArg some e)))) hx.inv.ok
          cases e
          exact ht
        · have hr := own_blk HO.out.row (w' := wr.setCell ⟨w.heap.size + 1, 0, none⟩ (.slice aN s.l.length cN)) (fun g hg => Below.heap_setCell _ _ _ _ (fun e => by have := (HO.out.rg g hg).2; simp only at e; omega))
          obtain ⟨a', c', e, h1, h2, h3, _⟩ := own_at hr
          rw [HL.out] at e
          cases e
          refine ⟨h1, h2, h3, fun x hx' => ?_⟩
          obtain ⟨j, hj⟩ := List.getElem?_of_mem hx'
          obtain ⟨r, hrj⟩ : ∃ r, roots[j]? = some r := ⟨_, List.getElem?_eq_getElem (by have := (List.getElem?_eq_some_iff.1 hj).1; have := HL.out; omega)⟩
          exact (HO.out.imp.pl hj hrj).i64 HO.out.wks.inv.len
      clear hx hbw k1 k2 HO x0 xz
      go_wp2_with fail
      refine bodyPost_ret (res_cell3 rfl _ _ (w.heap.size + 1) _ _ _ _ rfl (setOne HK2.out) Tryz.underlying33 rfl tabSize1) rfl ?_
      exact HPo.out
end Go.Proofs.YtfbjgadgfjnamaaGreatDoor.Tm
