/- The document's Put and Add of a base and a number. -/
import Derived.Test.YtpppfghdjbmbgaaGreatDoorZDaD
namespace Go.Proofs.YtpppfghdjbmbgaaGreatDoor.Tm
open Go.RowKit
set_option linter.unusedVariables false
theorem res_cell4 {P : Program} {fn : Func} {p u v z : Tmp} {ty : TypeId} (h : fn.results = #[.cell p ty, .tmp u, .tmp v, .tmp z]) (tmps : Array Value) (w : World) (g : Nat) (t : TypeId) (cs : Array Value) (fr : Nat × Nat) (d : TypeDesc)
    (hp : tmps.getD p undef = .pointer (some ⟨g, 0, none⟩)) (hg : w.heap[g]? = some (.cells cs t fr))
    (hu : P.underlying ty = some d) (hd : (match d with | .struct _ | .array _ _ => true | _ => false) = true) (hi : (P.info? ty).map (·.size) = some cs.size) :
    (results fn tmps).run P w = .ok (.tuple #[.agg cs, tmps.getD u undef, tmps.getD v undef, tmps.getD z undef]) w := by
  have hp' : tmps[p]?.getD undef = .pointer (some ⟨g, 0, none⟩) := by simpa using hp
  simp [results, h, hp', asAddr, run_loadVar_row w g t ty cs fr d hg hu hd hi]
/-- A table's rows are not in a box that holds a slice. -/
theorem TabN.setBox {V : World} {l : List NodeA} {a : Option Addr} {c b : Nat} {t : TypeId} {sa : Option Addr} {n m : Nat} {v : Value} (h : TabN V l a c) (h0 : 0 < l.length) (hb : V.heap[b]? = some (.cells #[.slice sa n m] t (0, 0))) : TabN (V.setCell ⟨b, 0, none⟩ v) l a c := by
  obtain ⟨x, hx⟩ : ∃ x, l[0]? = some x := ⟨_, List.getElem?_eq_getElem h0⟩
  obtain ⟨g, o, rfl, hg, q0, _⟩ := h.node hx
  have hne : g ≠ b := by
    rintro rfl
    have h1 := cell_of_row V g (o + 0 * 8) _ _ _ hb
    rw [h1] at q0
    cases ho : o + 0 * 8 with
    | zero => rw [ho] at q0; simp at q0
    | succ j => rw [ho] at q0; simp at q0
  refine ⟨⟨h.le, h.cap, fun hl => ?_, h.ok⟩, h.off⟩
  obtain ⟨g2, o2, e, hg2, hc⟩ := h.tat hl
  cases e
  refine ⟨g, o, rfl, by simpa using hg2, fun i u hu => ?_⟩
  have hk : (V.setCell ⟨b, 0, none⟩ v).heap[g]? = V.heap[g]? := Below.heap_setCell _ _ _ _ (fun e => hne (by simpa using e))
  rw [← hc i u hu]
  simp only [World.cell?, hk]
/-- What the document's Le answers. -/
def LeO (W : World) (r : MkS × Int) (e : Ending) (w' : World) : Prop :=
  Below W.heap.size W w' ∧ ((r.1.e = 0 ∧ ∃ (a : Option Addr) (c : Nat) (q : Bool), e = .returned (.tuple #[.agg #[.slice a r.1.l.length c], .int .i64 r.2, .bool q, .int .i64 0]) ∧ TabN w' r.1.l a c) ∨ (¬ r.1.e = 0 ∧ ∃ q : Bool, e = .returned (.tuple #[.agg #[.slice none 0 0], .int .i64 0, .bool q, .int .i64 r.1.e])))
/-- A box for a table, and one for the result's. -/
theorem tab_res {w W0 : World} {t : Value} (h : W0 = (w.alloc (.cells #[t] 33)).alloc (.cells #[.slice none 0 0] 33)) : Below w.heap.size w W0 ∧ ∀ V, Below W0.heap.size W0 V → (V.cell? ⟨w.heap.size, 0, none⟩ = some t ∧ w.heap.size < V.heap.size) ∧ V.heap[w.heap.size + 1]? = some (.cells #[.slice none 0 0] 33 (0, 0)) := by
  have hB : Below w.heap.size w W0 := by rw [h]; exact ((Below.refl _ w).alloc (Nat.le_refl _) _).alloc (by simp) _
  have h1 : W0.heap[w.heap.size]? = some (.cells #[t] 33 (0, 0)) := by rw [h]; exact (Below.heap_alloc _ _ _ (by simp)).trans (heap_alloc_new w _)
  have h2 : W0.heap[w.heap.size + 1]? = some (.cells #[.slice none 0 0] 33 (0, 0)) := by
    have := heap_alloc_new (w.alloc (.cells #[t] 33)) (.cells #[.slice none 0 0] 33)
    rw [World.size_alloc] at this
    rw [h]; exact this
  refine ⟨hB, fun V hV => ?_⟩
  have e1 := (hV.block _ (Array.getElem?_eq_some_iff.1 h1).1).trans h1
  exact ⟨⟨(cell_of_row _ _ 0 _ _ _ e1).trans rfl, (Array.getElem?_eq_some_iff.1 e1).1⟩, (hV.block _ (Array.getElem?_eq_some_iff.1 h2).1).trans h2⟩
theorem set_below {w V : World} {b : Nat} {v : Value} (h : Below w.heap.size w V) (hb : w.heap.size ≤ b) : Below w.heap.size w (V.setCell ⟨b, 0, none⟩ v) := h.setCell (p := ⟨b, 0, none⟩) hb _
/-- Behind a store into the result's box and one more box. -/
theorem res_box {w V : World} {b : Nat} {v : Value} {t : TypeId} {z : Value} (hV : Below w.heap.size w V) (hwb : w.heap.size ≤ b) (hb : V.heap[b]? = some (.cells #[z] t (0, 0))) (o : Obj) : Below w.heap.size w ((V.setCell ⟨b, 0, none⟩ v).alloc o) ∧ ((V.setCell ⟨b, 0, none⟩ v).alloc o).heap[b]? = some (.cells #[v] t (0, 0)) := by
  have hlt := (Array.getElem?_eq_some_iff.1 hb).1
  have h1 := set_below (v := v) hV hwb
  exact ⟨h1.alloc h1.size o, (Below.heap_alloc _ _ _ (by simpa using hlt)).trans (setOne hb)⟩
set_option maxRecDepth 100000 in
set_option maxHeartbeats 8000000 in
theorem RLe_any {s : MkS} (hI : MkI s) (h0 : s.e = 0) (hQ : QO s.l) (most : Int) (hm : most ≤ 2000) {x y : Int} (hx : PlA s x) (hy : PlA s y) (sx : srt s.l x = 1) (sy : srt s.l y = 1) (k : Int) (a : Option Addr) (c : Nat) (w : World) (hA : TabN w s.l a c) :
    Calls Tryz.prog 81 #[.agg #[.slice a s.l.length c], .int .i64 x, .int .i64 y, .int .i64 k, .int .i64 most] w (LeO w (leM most s x y k)) := by
  obtain ⟨W0, hW0⟩ : ∃ W0, W0 = (w.alloc (.cells #[.slice a s.l.length c] 33)).alloc (.cells #[.slice none 0 0] 33) := ⟨_, rfl⟩
  obtain ⟨hB0, hXX⟩ := tab_res hW0
  have HA : Hid (∀ V, Below W0.heap.size W0 V → TabN V s.l a c) := fun V hV => hA.below (hB0.trans (hV.mono hB0.size))
  have hl2 := hI.le
  obtain ⟨D, hD⟩ : ∃ D, diffM s x y k = D := ⟨_, rfl⟩
  obtain ⟨X1, hX1⟩ : ∃ X, (splitA s.l x).1 = X := ⟨_, rfl⟩
  obtain ⟨Y1, hY1⟩ : ∃ X, (splitA s.l y).1 = X := ⟨_, rfl⟩
  have HDf : Hid (∀ V, Below W0.heap.size W0 V → Calls Tryz.prog 96 #[.agg #[.slice a s.l.length c], .int .i64 x, .int .i64 y, .int .i64 k] V fun e w' => Below V.heap.size V w' ∧ ((¬ D.1.e = 0 ∧ e = .returned (.tuple #[.int .i64 0, .int .i64 0, .int .i64 0, .int .i64 D.1.e])) ∨ (D = (s, D.2) ∧ e = .returned (.tuple #[.int .i64 X1, .int .i64 Y1, .int .i64 D.2, .int .i64 0])))) := fun V hV => by
    have := RDiff_any hI h0 hQ hx hy sx sy k a c V (HA.out V hV)
    rw [hD, hX1, hY1] at this; exact this
  have hpx := split_pl hI hx
  have hpy := split_pl hI hy
  rw [hX1] at hpx
  rw [hY1] at hpy
  have HPut : Hid (∀ V, Below W0.heap.size W0 V → mayB D.2 = true → Calls Tryz.prog 59 #[.agg #[.slice a s.l.length c], .agg #[.int .i8 12, .int .i8 2, .int .i64 X1, .int .i64 Y1, .int .i64 0, .int .i64 0, .int .i64 0, .int .i64 D.2], .int .i64 most] V (TabO V (putM most s (two2 12 X1 Y1 D.2)))) := fun V hV hd => RPut_any hI h0 most hm (two2 12 X1 Y1 D.2) (st_two (.inr ⟨rfl, hd⟩) hpx hpy) a c V (HA.out V hV)
  have HNeg : Hid (∀ V, Below W0.heap.size W0 V → Calls Tryz.prog 59 #[.agg #[.slice a s.l.length c], .agg #[.int .i8 1, .int .i8 1, .int .i64 0, .int .i64 0, .int .i64 0, .int .i64 0, .int .i64 0, .int .i64 0], .int .i64 most] V (TabO V (putM most s (one1 1 0)))) := fun V hV => RPut_any hI h0 most hm (one1 1 0) (st_one rfl (PlA.zero hI)) a c V (HA.out V hV)
  have HR1 : Hid (¬ D.1.e = 0 → (leM most s x y k).1.e = D.1.e) := fun h => by
    have hs : ∀ n, putM most D.1 n = (D.1, 0) := fun n => by unfold putM; rw [if_pos h]
    have hz : (nodA D.1.l 0).op = 0 := by
      have h3 := diff_l s x y k
      rw [hD] at h3
      rw [h3]
      have ht : s.l[0]? = some trueN := by
        have h2 : (s.l.take 2)[0]? = some trueN := by rw [(mayT_ok hI.may).1]; rfl
        rw [List.getElem?_take] at h2
        simpa using h2
      have h4 := nodA_get (l := s.l) (k := 0) (by omega)
      rw [ht] at h4
      show (nodA s.l ((0 : Nat) : Int)).op = 0
      rw [← Option.some.inj h4]; rfl
    unfold leM
    rw [hD, hX1, hY1]
    by_cases hxy : X1 = Y1
    · rw [if_neg (fun h => h hxy)]
      by_cases hd : 0 ≤ D.2
      · rw [if_pos hd]
      · rw [if_neg hd]
        unfold negM notM
        rw [if_neg (by show ¬ (nodA D.1.l 0).op = 1; omega), hs]
    · rw [if_pos hxy, hs]
  have HR2 : Hid (D = (s, D.2) → ¬ X1 = Y1 → leM most s x y k = putM most s (two2 12 X1 Y1 D.2) ∧ mayB D.2 = true) := fun h hxy => by
    have hz := diff_z (s := s) (a := x) (b := y) (c := k) (by rw [hD, h]; exact h0)
    rw [hD] at hz
    refine ⟨?_, hz.2.1⟩
    unfold leM
    rw [hD, hX1, hY1, if_pos hxy, h]
  have HR3 : Hid (D = (s, D.2) → X1 = Y1 → 0 ≤ D.2 → leM most s x y k = (s, 0)) := fun h hxy hd => by
    unfold leM
    rw [hD, hX1, hY1, if_neg (fun h => h hxy), if_pos hd, h]
  have HR4 : Hid (D = (s, D.2) → X1 = Y1 → ¬ 0 ≤ D.2 → leM most s x y k = putM most s (one1 1 0)) := fun h hxy hd => by
    unfold leM
    rw [hD, hX1, hY1, if_neg (fun h => h hxy), if_neg hd, h]
    show notM most s (one1 1 0) = _
    unfold notM
    rw [if_neg]
    show ¬ (nodA s.l 0).op = 1
    have ht : s.l[0]? = some trueN := by
      have h2 : (s.l.take 2)[0]? = some trueN := by rw [(mayT_ok hI.may).1]; rfl
      rw [List.getElem?_take] at h2
      simpa using h2
    have h4 := nodA_get (l := s.l) (k := 0) (by omega)
    rw [ht] at h4
    have h5 : trueN = nodA s.l 0 := Option.some.inj h4
    rw [← h5]; decide
  have HPn : Hid (∀ n, standsB n s.l.length = true → (putM most s n).1.e = 0 → 0 < (putM most s n).1.l.length) := fun n hst he => by
    have := (put_out (most := most) (n := n) hI hm (ok_of_st hst hI.len) (fun _ => hst)).inv.le
    omega
  have HLn : Hid ((leM most s x y k).1.e = 0 → 0 < (leM most s x y k).1.l.length) := fun _ => by
    have := (le_out (most := most) hI hm hx hy k).inv.le
    omega
  have HAw := Lib.hid hA
  have HB0 := Lib.hid hB0
  have HE0 := Lib.hid h0
  generalize leM most s x y k = R at *
  have HXX := Lib.hid hXX
  obtain ⟨⟨x0, xz⟩, hrb⟩ := hXX _ (Below.refl _ _)
  clear hA hXX hB0 hI hQ hx hy sx sy hpx hpy hD hX1 hY1 hrb h0
  go_enter Tryz.func81, Tryz.ntmps81
  go_wp2_with fail
  rw [← hW0]
  clear hW0
  refine (HDf.out _ (Below.refl _ _)).mono ?_
  rintro e w1 ⟨hb1, ⟨hne, rfl⟩ | ⟨hDs, rfl⟩⟩
  · have HB1 := Lib.hid hb1
    have e0 := ne_t hne
    have h1 := HR1.out hne
    clear hb1 x0 xz
    obtain ⟨⟨x0, xz⟩, hrb⟩ := HXX.out w1 HB1.out
    obtain ⟨y0, yf, yz⟩ := box_fz hrb
    have HRb := Lib.hid hrb
    have HP : Hid (LeO w R (.returned (.tuple #[.agg #[.slice none 0 0], .int .i64 0, .bool false, .int .i64 D.1.e])) (w1.setCell ⟨w.heap.size + 1, 0, none⟩ (.slice none 0 0))) := ⟨set_below (ball HB0.out HB1.out) (by omega), .inr ⟨by rw [h1]; exact hne, false, by rw [h1]⟩⟩
    clear hrb hne h1
    go_wp2_with fail
    refine bodyPost_ret (res_cell4 rfl _ _ (w.heap.size + 1) _ _ _ _ rfl (setOne HRb.out) Tryz.underlying33 rfl tabSize1) rfl ?_
    exact HP.out
  have HB1 := Lib.hid hb1
  clear hb1 x0 xz
  obtain ⟨⟨x0, xz⟩, hrb⟩ := HXX.out w1 HB1.out
  obtain ⟨y0, yf, yz⟩ := box_fz hrb
  have HRb := Lib.hid hrb
  clear hrb
  by_cases hxy : X1 = Y1
  · have e1 : (X1 != Y1) = false := ne_f hxy
    by_cases hd : 0 ≤ D.2
    · have e2 : decide (0 ≤ D.2) = true := decide_eq_true hd
      have h1 := HR3.out hDs hxy hd
      have HP : Hid (LeO w R (.returned (.tuple #[.agg #[.slice a s.l.length c], .int .i64 0, .bool false, .int .i64 0])) (w1.setCell ⟨w.heap.size + 1, 0, none⟩ (.slice a s.l.length c))) := by
        have hb := set_below (v := .slice a s.l.length c) (ball HB0.out HB1.out) (b := w.heap.size + 1) (by omega)
        refine ⟨hb, .inl ⟨by rw [h1]; exact HE0.out, a, c, false, by rw [h1], ?_⟩⟩
        rw [h1]; exact HAw.out.below hb
      clear h1 hxy hd hDs
      go_wp2_with fail
      refine bodyPost_ret (res_cell4 rfl _ _ (w.heap.size + 1) _ _ _ _ rfl (setOne HRb.out) Tryz.underlying33 rfl tabSize1) rfl ?_
      exact HP.out
    have e2 : decide (0 ≤ D.2) = false := decide_eq_false hd
    have h1 := HR4.out hDs hxy (by omega)
    have HLn' := HLn
    rw [h1] at HLn'
    have HEq := Lib.hid h1
    clear h1 hxy hd hDs
    go_wp2_with fail
    refine (HNeg.out _ HB1.out).mono ?_
    rintro e w2 ⟨hb2, ⟨hz, a2, c2, rfl, hT2⟩ | ⟨hnz, rfl⟩⟩
    · have HB2 : Hid (∀ o, Below W0.heap.size W0 (w2.alloc o)) := fun o => (HB1.out.trans (hb2.mono HB1.out.size)).alloc (by have := hb2.size; have := HB1.out.size; omega) o
      have hb12 : Below W0.heap.size W0 w2 := HB1.out.trans (hb2.mono HB1.out.size)
      clear x0 xz y0 yf yz
      obtain ⟨⟨x0, xz⟩, hrb⟩ := HXX.out w2 hb12
      obtain ⟨y0, yf, yz⟩ := box_fz hrb
      obtain ⟨P, hP⟩ : ∃ P, putM most s (one1 1 0) = P := ⟨_, rfl⟩
      rw [hP] at hz hT2
      rw [hP]
      have HLp := HLn'.out
      rw [hP] at HLp
      have HP : Hid (∀ o, LeO w R (.returned (.tuple #[.agg #[.slice a2 P.1.l.length c2], .int .i64 P.2, .bool false, .int .i64 0])) ((w2.setCell ⟨w.heap.size + 1, 0, none⟩ (.slice a2 P.1.l.length c2)).alloc o) ∧ ((w2.setCell ⟨w.heap.size + 1, 0, none⟩ (.slice a2 P.1.l.length c2)).alloc o).heap[w.heap.size + 1]? = some (.cells #[.slice a2 P.1.l.length c2] 33 (0, 0))) := fun o => by
        obtain ⟨hbo, hr2⟩ := res_box (v := .slice a2 P.1.l.length c2) (ball HB0.out hb12) (b := w.heap.size + 1) (by omega) hrb o
        refine ⟨⟨hbo, .inl ⟨by rw [HEq.out, hP]; exact hz, a2, c2, false, by rw [HEq.out, hP], ?_⟩⟩, hr2⟩
        rw [HEq.out, hP]
        exact (hT2.setBox (HLp hz) hrb).below ((Below.refl _ _).alloc (Nat.le_refl _) o)
      clear hz hT2 hP HLp hb2 hb12 hrb
      go_wp2_with fail
      refine bodyPost_ret (res_cell4 rfl _ _ (w.heap.size + 1) _ _ _ _ rfl (HP.out _).2 Tryz.underlying33 rfl tabSize1) rfl ?_
      exact (HP.out _).1
    · have HB2 : Hid (∀ o, Below W0.heap.size W0 (w2.alloc o)) := fun o => (HB1.out.trans (hb2.mono HB1.out.size)).alloc (by have := hb2.size; have := HB1.out.size; omega) o
      have hb12 : Below W0.heap.size W0 w2 := HB1.out.trans (hb2.mono HB1.out.size)
      clear x0 xz y0 yf yz
      obtain ⟨⟨x0, xz⟩, hrb⟩ := HXX.out w2 hb12
      obtain ⟨y0, yf, yz⟩ := box_fz hrb
      obtain ⟨P, hP⟩ : ∃ P, putM most s (one1 1 0) = P := ⟨_, rfl⟩
      rw [hP] at hnz
      rw [hP]
      have HP : Hid (∀ o, LeO w R (.returned (.tuple #[.agg #[.slice none 0 0], .int .i64 0, .bool false, .int .i64 P.1.e])) ((w2.setCell ⟨w.heap.size + 1, 0, none⟩ (.slice none 0 0)).alloc o) ∧ ((w2.setCell ⟨w.heap.size + 1, 0, none⟩ (.slice none 0 0)).alloc o).heap[w.heap.size + 1]? = some (.cells #[.slice none 0 0] 33 (0, 0))) := fun o => by
        obtain ⟨hbo, hr2⟩ := res_box (v := .slice none 0 0) (ball HB0.out hb12) (b := w.heap.size + 1) (by omega) hrb o
        exact ⟨⟨hbo, .inr ⟨by rw [HEq.out, hP]; exact hnz, false, by rw [HEq.out, hP]⟩⟩, hr2⟩
      clear hnz hP hb2 hb12 hrb
      go_wp2_with fail
      refine bodyPost_ret (res_cell4 rfl _ _ (w.heap.size + 1) _ _ _ _ rfl (HP.out _).2 Tryz.underlying33 rfl tabSize1) rfl ?_
      exact (HP.out _).1
  have e1 : (X1 != Y1) = true := ne_t hxy
  obtain ⟨h1, hmy⟩ := HR2.out hDs hxy
  have HLn' := HLn
  rw [h1] at HLn'
  have HEq := Lib.hid h1
  clear h1 hxy hDs
  go_wp2_with fail
  refine (HPut.out _ HB1.out hmy).mono ?_
  rintro e w2 ⟨hb2, ⟨hz, a2, c2, rfl, hT2⟩ | ⟨hnz, rfl⟩⟩
  · have HB2 : Hid (∀ o, Below W0.heap.size W0 (w2.alloc o)) := fun o => (HB1.out.trans (hb2.mono HB1.out.size)).alloc (by have := hb2.size; have := HB1.out.size; omega) o
    have hb12 : Below W0.heap.size W0 w2 := HB1.out.trans (hb2.mono HB1.out.size)
    clear x0 xz y0 yf yz
    obtain ⟨⟨x0, xz⟩, hrb⟩ := HXX.out w2 hb12
    obtain ⟨y0, yf, yz⟩ := box_fz hrb
    obtain ⟨P, hP⟩ : ∃ P, putM most s (two2 12 X1 Y1 D.2) = P := ⟨_, rfl⟩
    rw [hP] at hz hT2
    rw [hP]
    have HLp := HLn'.out
    rw [hP] at HLp
    have HP : Hid (∀ o, LeO w R (.returned (.tuple #[.agg #[.slice a2 P.1.l.length c2], .int .i64 P.2, .bool true, .int .i64 0])) ((w2.setCell ⟨w.heap.size + 1, 0, none⟩ (.slice a2 P.1.l.length c2)).alloc o) ∧ ((w2.setCell ⟨w.heap.size + 1, 0, none⟩ (.slice a2 P.1.l.length c2)).alloc o).heap[w.heap.size + 1]? = some (.cells #[.slice a2 P.1.l.length c2] 33 (0, 0))) := fun o => by
      obtain ⟨hbo, hr2⟩ := res_box (v := .slice a2 P.1.l.length c2) (ball HB0.out hb12) (b := w.heap.size + 1) (by omega) hrb o
      refine ⟨⟨hbo, .inl ⟨by rw [HEq.out, hP]; exact hz, a2, c2, true, by rw [HEq.out, hP], ?_⟩⟩, hr2⟩
      rw [HEq.out, hP]
      exact (hT2.setBox (HLp hz) hrb).below ((Below.refl _ _).alloc (Nat.le_refl _) o)
    clear hz hT2 hP HLp hb2 hb12 hrb
    go_wp2_with fail
    refine bodyPost_ret (res_cell4 rfl _ _ (w.heap.size + 1) _ _ _ _ rfl (HP.out _).2 Tryz.underlying33 rfl tabSize1) rfl ?_
    exact (HP.out _).1
  · have HB2 : Hid (∀ o, Below W0.heap.size W0 (w2.alloc o)) := fun o => (HB1.out.trans (hb2.mono HB1.out.size)).alloc (by have := hb2.size; have := HB1.out.size; omega) o
    have hb12 : Below W0.heap.size W0 w2 := HB1.out.trans (hb2.mono HB1.out.size)
    clear x0 xz y0 yf yz
    obtain ⟨⟨x0, xz⟩, hrb⟩ := HXX.out w2 hb12
    obtain ⟨y0, yf, yz⟩ := box_fz hrb
    obtain ⟨P, hP⟩ : ∃ P, putM most s (two2 12 X1 Y1 D.2) = P := ⟨_, rfl⟩
    rw [hP] at hnz
    rw [hP]
    have ep : (P.1.e == 0) = false := eq_f hnz
    have HP : Hid (∀ o, LeO w R (.returned (.tuple #[.agg #[.slice none 0 0], .int .i64 0, .bool false, .int .i64 P.1.e])) ((w2.setCell ⟨w.heap.size + 1, 0, none⟩ (.slice none 0 0)).alloc o) ∧ ((w2.setCell ⟨w.heap.size + 1, 0, none⟩ (.slice none 0 0)).alloc o).heap[w.heap.size + 1]? = some (.cells #[.slice none 0 0] 33 (0, 0))) := fun o => by
      obtain ⟨hbo, hr2⟩ := res_box (v := .slice none 0 0) (ball HB0.out hb12) (b := w.heap.size + 1) (by omega) hrb o
      exact ⟨⟨hbo, .inr ⟨by rw [HEq.out, hP]; exact hnz, false, by rw [HEq.out, hP]⟩⟩, hr2⟩
    clear hnz hP hb2 hb12 hrb
    go_wp2_with fail
    refine bodyPost_ret (res_cell4 rfl _ _ (w.heap.size + 1) _ _ _ _ rfl (HP.out _).2 Tryz.underlying33 rfl tabSize1) rfl ?_
    exact (HP.out _).1
end Go.Proofs.YtpppfghdjbmbgaaGreatDoor.Tm
namespace Go.Proofs.YtpppfghdjbmbgaaGreatDoor.Tm
open Go.RowKit
set_option linter.unusedVariables false
/-- A callee's answer that is handed on. -/
theorem tabO_ret {w V w2 : World} {r : MkS × Int} {e : Ending} {b : Nat} (h : TabO V r e w2) (hV : Below w.heap.size w V) (hwb : w.heap.size ≤ b) (hb : V.heap[b]? = some (.cells #[.slice none 0 0] 33 (0, 0))) (hl : r.1.e = 0 → 0 < r.1.l.length) :
    ∃ (va : Option Addr) (n c : Nat) (i er : Int), e = .returned (.tuple #[.agg #[.slice va n c], .int .i64 i, .int .i64 er]) ∧ w2.heap[b]? = some (.cells #[.slice none 0 0] 33 (0, 0)) ∧ TabO w r (.returned (.tuple #[.agg #[.slice va n c], .int .i64 i, .int .i64 er])) (w2.setCell ⟨b, 0, none⟩ (.slice va n c)) := by
  obtain ⟨hb2, h2⟩ := h
  have hr2 := (hb2.block _ (Array.getElem?_eq_some_iff.1 hb).1).trans hb
  have hw2 : Below w.heap.size w w2 := ball hV hb2
  rcases h2 with ⟨hz, a, c, rfl, hT⟩ | ⟨hz, rfl⟩
  · exact ⟨a, r.1.l.length, c, r.2, 0, rfl, hr2, set_below hw2 hwb, .inl ⟨hz, a, c, rfl, hT.setBox (hl hz) hr2⟩⟩
  · exact ⟨none, 0, 0, 0, r.1.e, rfl, hr2, set_below hw2 hwb, .inr ⟨hz, rfl⟩⟩
/-- An error, returned. -/
theorem tabO_err {w V : World} {r : MkS × Int} {b : Nat} {er : Int} (hV : Below w.heap.size w V) (hwb : w.heap.size ≤ b) (h : r.1.e = er) (h0 : ¬ er = 0) : TabO w r (.returned (.tuple #[.agg #[.slice none 0 0], .int .i64 0, .int .i64 er])) (V.setCell ⟨b, 0, none⟩ (.slice none 0 0)) :=
  ⟨set_below hV hwb, .inr ⟨by rw [h]; exact h0, by rw [h]⟩⟩
/-- The table as it was, returned. -/
theorem tabO_same {w V : World} {r : MkS × Int} {s : MkS} {i : Int} {a : Option Addr} {c b : Nat} (hA : TabN w s.l a c) (hV : Below w.heap.size w V) (hwb : w.heap.size ≤ b) (h0 : s.e = 0) (h : r = (s, i)) : TabO w r (.returned (.tuple #[.agg #[.slice a s.l.length c], .int .i64 i, .int .i64 0])) (V.setCell ⟨b, 0, none⟩ (.slice a s.l.length c)) := by
  subst h
  have hb := set_below (v := .slice a s.l.length c) hV hwb
  exact ⟨hb, .inl ⟨h0, a, c, rfl, hA.below hb⟩⟩
def putBN (most : Int) (s : MkS) (b n : Int) : MkS × Int := if b = 1 then putM most s ⟨10, 0, 0, 0, 0, 1, 0, n⟩ else if n = 0 then (s, b) else putM most s ⟨11, 1, b, 0, 0, 1, 0, n⟩
theorem put_zero {most : Int} {s : MkS} (hI : MkI s) (h0 : s.e = 0) : putM most s zeroN = (s, 1) := by
  have hz := mayT_zero hI.may
  have hm : zeroN ∈ s.l := List.mem_of_getElem? hz
  have hf : fndN s.l zeroN = 1 := by
    have h1 := fndN_get hm
    rcases Nat.lt_trichotomy (fndN s.l zeroN) 1 with h2 | h2 | h2
    · exact absurd h1 ((ok_at (mayT_ok hI.may).2 hz).2 _ h2)
    · exact h2
    · exact absurd hz ((ok_at (mayT_ok hI.may).2 h1).2 _ h2)
  unfold putM
  rw [if_neg (fun h => h h0), if_pos hm, hf]; rfl
theorem put_true {most : Int} {s : MkS} (hI : MkI s) (h0 : s.e = 0) : putM most s trueN = (s, 0) := by
  have hz : s.l[0]? = some trueN := by
    have h2 : (s.l.take 2)[0]? = some trueN := by rw [(mayT_ok hI.may).1]; rfl
    rw [List.getElem?_take] at h2
    simpa using h2
  have hm : trueN ∈ s.l := List.mem_of_getElem? hz
  have hf : fndN s.l trueN = 0 := by
    have h1 := fndN_get hm
    rcases Nat.lt_trichotomy (fndN s.l trueN) 0 with h2 | h2 | h2
    · exact absurd h2 (Nat.not_lt_zero _)
    · exact h2
    · exact absurd hz ((ok_at (mayT_ok hI.may).2 h1).2 _ h2)
  unfold putM
  rw [if_neg (fun h => h h0), if_pos hm, hf]; rfl
/-- The Add's node, as the document puts it. -/
theorem sum_is {most : Int} {s : MkS} (hI : MkI s) (h0 : s.e = 0) {i n : Int} : (¬ addE (splitA s.l i).2 n = 0 → (sumM most s ⟨11, 1, i, 0, 0, 1, 0, n⟩).1.e = addE (splitA s.l i).2 n) ∧ (addE (splitA s.l i).2 n = 0 → sumM most s ⟨11, 1, i, 0, 0, 1, 0, n⟩ = putBN most s (splitA s.l i).1 (addV (splitA s.l i).2 n)) := by
  refine ⟨fun h => ?_, fun h => ?_⟩
  · have hk : numM s (addV (splitA s.l i).2 n) (addE (splitA s.l i).2 n) = (⟨s.l, addE (splitA s.l i).2 n⟩, 0) := by unfold numM; rw [if_neg h, if_pos h0]
    unfold sumM
    simp only [hk, if_true]
  · have hk : numM s (addV (splitA s.l i).2 n) (addE (splitA s.l i).2 n) = (s, addV (splitA s.l i).2 n) := by unfold numM; rw [if_pos h]
    unfold sumM putBN
    simp only [hk]
    by_cases h1 : addV (splitA s.l i).2 n = 0
    · rw [if_pos h1]
      by_cases h2 : (splitA s.l i).1 = 1
      · rw [if_pos h2, h1, h2]; exact (put_zero hI h0).symm
      · rw [if_neg h2, if_pos h1]
    · rw [if_neg h1]
      by_cases h2 : (splitA s.l i).1 = 1
      · rw [if_pos h2, if_pos h2]
      · rw [if_neg h2, if_neg h2, if_neg h1]
set_option maxRecDepth 100000 in
set_option maxHeartbeats 8000000 in
theorem RPutN_any {s : MkS} (hI : MkI s) (h0 : s.e = 0) (hQ : QO s.l) (most : Int) (hm : most ≤ 2000) {b n : Int} (hb : PlA s b) (sb : srt s.l b = 1) (hsp : (splitA s.l b).1 = b) (hn : mayB n = true) (a : Option Addr) (c : Nat) (w : World) (hA : TabN w s.l a c) :
    Calls Tryz.prog 51 #[.agg #[.slice a s.l.length c], .int .i64 b, .int .i64 n, .int .i64 most] w (TabO w (putBN most s b n)) := by
  obtain ⟨W0, hW0⟩ : ∃ W0, W0 = (w.alloc (.cells #[.slice a s.l.length c] 33)).alloc (.cells #[.slice none 0 0] 33) := ⟨_, rfl⟩
  obtain ⟨hB0, hXX⟩ := tab_res hW0
  have HA : Hid (∀ V, Below W0.heap.size W0 V → TabN V s.l a c) := fun V hV => hA.below (hB0.trans (hV.mono hB0.size))
  obtain ⟨k2, hk2⟩ : ∃ k, (splitA s.l b).2 = k := ⟨_, rfl⟩
  have HOf : Hid (∀ V, Below W0.heap.size W0 V → Calls Tryz.prog 78 #[.agg #[.slice a s.l.length c], .int .i64 b] V fun e w' => e = .returned (.tuple #[.int .i64 b, .int .i64 k2, .int .i64 0]) ∧ Below V.heap.size V w') := fun V hV => by
    have := ROf_any hI hQ hb sb a c V (HA.out V hV).r
    rw [hsp, hk2] at this; exact this
  have HMay : Hid (∀ V, Calls Tryz.prog 48 #[.int .i64 n] V fun e w' => e = .returned (.bool true) ∧ V = w') := fun V => by
    have := RMay_any n V
    rw [hn] at this; exact this
  have HNum : Hid (∀ V, Below W0.heap.size W0 V → Calls Tryz.prog 59 #[.agg #[.slice a s.l.length c], .agg #[.int .i8 10, .int .i8 0, .int .i64 0, .int .i64 0, .int .i64 0, .int .i64 1, .int .i64 0, .int .i64 n], .int .i64 most] V (TabO V (putM most s ⟨10, 0, 0, 0, 0, 1, 0, n⟩))) := fun V hV => RPut_any hI h0 most hm ⟨10, 0, 0, 0, 0, 1, 0, n⟩ (st_num hn) a c V (HA.out V hV)
  have stA : standsB ⟨11, 1, b, 0, 0, 1, 0, n⟩ s.l.length = true := by
    unfold standsB
    rw [decide_eq_true_eq]
    refine ⟨⟨by show (0 : Int) ≤ 11; decide, by show (11 : Int) < 14; decide, ?_⟩, ⟨by show (0 : Int) ≤ 1; decide, by show (1 : Int) < 6; decide⟩, ArgP.ins (by show ((0 : Nat) : Int) < 1; decide) hb, ArgP.out (by show (1 : Int) ≤ ((1 : Nat) : Int); decide), ArgP.out (by show (1 : Int) ≤ ((2 : Nat) : Int); decide)⟩
    show (if (11 : Int) = 13 then _ else if (11 : Int) = 10 ∨ (11 : Int) = 11 ∨ (11 : Int) = 12 then _ else _)
    rw [if_neg (by decide), if_pos (by decide)]
    exact ⟨rfl, rfl, hn⟩
  have HAdd : Hid (∀ V, Below W0.heap.size W0 V → Calls Tryz.prog 59 #[.agg #[.slice a s.l.length c], .agg #[.int .i8 11, .int .i8 1, .int .i64 b, .int .i64 0, .int .i64 0, .int .i64 1, .int .i64 0, .int .i64 n], .int .i64 most] V (TabO V (putM most s ⟨11, 1, b, 0, 0, 1, 0, n⟩))) := fun V hV => RPut_any hI h0 most hm ⟨11, 1, b, 0, 0, 1, 0, n⟩ stA a c V (HA.out V hV)
  have HL1 : Hid ((putM most s ⟨10, 0, 0, 0, 0, 1, 0, n⟩).1.e = 0 → 0 < (putM most s ⟨10, 0, 0, 0, 0, 1, 0, n⟩).1.l.length) := fun _ => by
    have := (put_out (most := most) hI hm (ok_of_st (st_num (at_ := s.l.length) hn) hI.len) (fun _ => st_num hn)).inv.le
    omega
  have HL2 : Hid ((putM most s ⟨11, 1, b, 0, 0, 1, 0, n⟩).1.e = 0 → 0 < (putM most s ⟨11, 1, b, 0, 0, 1, 0, n⟩).1.l.length) := fun _ => by
    have := (put_out (most := most) hI hm (ok_of_st stA hI.len) (fun _ => stA)).inv.le
    omega
  have HAw := Lib.hid hA
  have HB0 := Lib.hid hB0
  have HE0 := Lib.hid h0
  have HXX := Lib.hid hXX
  have eb : (b != b) = false := by simp
  obtain ⟨⟨x0, xz⟩, hrb⟩ := hXX _ (Below.refl _ _)
  by_cases hb1 : b = 1
  · have e1 := eq_t hb1
    have HP1 : Hid (putBN most s b n = putM most s ⟨10, 0, 0, 0, 0, 1, 0, n⟩) := by show _ = _; unfold putBN; rw [if_pos hb1]
    clear hA hXX hB0 hI hQ hb sb hsp hn stA hrb h0 hb1 hk2
    go_enter Tryz.func51, Tryz.ntmps51
    go_wp2_with fail
    rw [← hW0]
    clear hW0
    refine (HOf.out _ (Below.refl _ _)).mono ?_
    rintro e w1 ⟨rfl, hb1⟩
    have HB1 := Lib.hid hb1
    clear hb1 x0 xz
    obtain ⟨⟨x0, xz⟩, hrb⟩ := HXX.out w1 HB1.out
    obtain ⟨y0, yf, yz⟩ := box_fz hrb
    have HRb := Lib.hid hrb
    clear hrb
    go_wp2_with fail
    refine (HMay.out _).mono ?_
    rintro e w2 ⟨rfl, rfl⟩
    go_wp2_with fail
    refine (HNum.out _ HB1.out).mono ?_
    rintro e w2 hO
    obtain ⟨va, nn, cc, i, er, rfl, hr2, hO2⟩ := tabO_ret (w := w) hO (ball HB0.out HB1.out) (by omega) HRb.out HL1.out
    rw [← HP1.out] at hO2
    have HO2 := Lib.hid hO2
    have HR2 := Lib.hid hr2
    clear x0 xz y0 yf yz hO hO2
    obtain ⟨y0, yf, yz⟩ := box_fz hr2
    clear hr2
    go_wp2_with fail
    refine bodyPost_ret (res_cell3 rfl _ _ (w.heap.size + 1) _ _ _ _ rfl (setOne HR2.out) Tryz.underlying33 rfl tabSize1) rfl ?_
    exact HO2.out
  have e1 := eq_f hb1
  by_cases hn0 : n = 0
  · have e2 := eq_t hn0
    have HP : Hid (∀ V, Below W0.heap.size W0 V → TabO w (putBN most s b n) (.returned (.tuple #[.agg #[.slice a s.l.length c], .int .i64 b, .int .i64 0])) (V.setCell ⟨w.heap.size + 1, 0, none⟩ (.slice a s.l.length c))) := fun V hV => tabO_same HAw.out (ball HB0.out hV) (by omega) HE0.out (by unfold putBN; rw [if_neg hb1, if_pos hn0])
    clear hA hXX hB0 hI hQ hb sb hsp hn stA hrb h0 hb1 hn0 hk2
    go_enter Tryz.func51, Tryz.ntmps51
    go_wp2_with fail
    rw [← hW0]
    clear hW0
    refine (HOf.out _ (Below.refl _ _)).mono ?_
    rintro e w1 ⟨rfl, hb1⟩
    have HB1 := Lib.hid hb1
    clear hb1 x0 xz
    obtain ⟨⟨x0, xz⟩, hrb⟩ := HXX.out w1 HB1.out
    obtain ⟨y0, yf, yz⟩ := box_fz hrb
    have HRb := Lib.hid hrb
    clear hrb
    go_wp2_with fail
    refine (HMay.out _).mono ?_
    rintro e w2 ⟨rfl, rfl⟩
    go_wp2_with fail
    refine bodyPost_ret (res_cell3 rfl _ _ (w.heap.size + 1) _ _ _ _ rfl (setOne HRb.out) Tryz.underlying33 rfl tabSize1) rfl ?_
    exact HP.out _ HB1.out
  have e2 := eq_f hn0
  have HP1 : Hid (putBN most s b n = putM most s ⟨11, 1, b, 0, 0, 1, 0, n⟩) := by show _ = _; unfold putBN; rw [if_neg hb1, if_neg hn0]
  clear hA hXX hB0 hI hQ hb sb hsp hn stA hrb h0 hb1 hn0 hk2
  go_enter Tryz.func51, Tryz.ntmps51
  go_wp2_with fail
  rw [← hW0]
  clear hW0
  refine (HOf.out _ (Below.refl _ _)).mono ?_
  rintro e w1 ⟨rfl, hb1⟩
  have HB1 := Lib.hid hb1
  clear hb1 x0 xz
  obtain ⟨⟨x0, xz⟩, hrb⟩ := HXX.out w1 HB1.out
  obtain ⟨y0, yf, yz⟩ := box_fz hrb
  have HRb := Lib.hid hrb
  clear hrb
  go_wp2_with fail
  refine (HMay.out _).mono ?_
  rintro e w2 ⟨rfl, rfl⟩
  go_wp2_with fail
  refine (HAdd.out _ HB1.out).mono ?_
  rintro e w2 hO
  obtain ⟨va, nn, cc, i, er, rfl, hr2, hO2⟩ := tabO_ret (w := w) hO (ball HB0.out HB1.out) (by omega) HRb.out HL2.out
  rw [← HP1.out] at hO2
  have HO2 := Lib.hid hO2
  have HR2 := Lib.hid hr2
  clear x0 xz y0 yf yz hO hO2
  obtain ⟨y0, yf, yz⟩ := box_fz hr2
  clear hr2
  go_wp2_with fail
  refine bodyPost_ret (res_cell3 rfl _ _ (w.heap.size + 1) _ _ _ _ rfl (setOne HR2.out) Tryz.underlying33 rfl tabSize1) rfl ?_
  exact HO2.out
theorem split_self {s : MkS} (hI : MkI s) (hQ : QO s.l) {i : Int} (hi : PlA s i) : (splitA s.l (splitA s.l i).1).1 = (splitA s.l i).1 := by
  have hb := split_bas hI hQ hi
  obtain ⟨h1, h2⟩ := hb
  generalize (splitA s.l i).1 = b at *
  unfold splitA
  by_cases h10 : (nodA s.l b).op = 10
  · rw [if_pos h10]; exact (h2 h10).symm
  · rw [if_neg h10, if_neg h1]
set_option maxRecDepth 100000 in
set_option maxHeartbeats 8000000 in
theorem RAddN_any {s : MkS} (hI : MkI s) (h0 : s.e = 0) (hQ : QO s.l) (hW : WS s.l) (most : Int) (hm : most ≤ 2000) {x n : Int} (hx : PlA s x) (sx : srt s.l x = 1) (a : Option Addr) (c : Nat) (w : World) (hA : TabN w s.l a c) :
    Calls Tryz.prog 52 #[.agg #[.slice a s.l.length c], .int .i64 x, .int .i64 n, .int .i64 most] w (TabO w (sumM most s ⟨11, 1, x, 0, 0, 1, 0, n⟩)) := by
  obtain ⟨W0, hW0⟩ : ∃ W0, W0 = (w.alloc (.cells #[.slice a s.l.length c] 33)).alloc (.cells #[.slice none 0 0] 33) := ⟨_, rfl⟩
  obtain ⟨hB0, hXX⟩ := tab_res hW0
  have HA : Hid (∀ V, Below W0.heap.size W0 V → TabN V s.l a c) := fun V hV => hA.below (hB0.trans (hV.mono hB0.size))
  have hsp := split_self hI hQ hx
  have hpl := split_pl hI hx
  have hss := split_srt hI hW hx sx
  obtain ⟨hs1, hs2⟩ := sum_is (most := most) hI h0 (i := x) (n := n)
  obtain ⟨X1, hX1⟩ : ∃ k, (splitA s.l x).1 = k := ⟨_, rfl⟩
  obtain ⟨X2, hX2⟩ : ∃ k, (splitA s.l x).2 = k := ⟨_, rfl⟩
  obtain ⟨av, hav⟩ : ∃ k, addV X2 n = k := ⟨_, rfl⟩
  obtain ⟨ae, hae⟩ : ∃ k, addE X2 n = k := ⟨_, rfl⟩
  rw [hX1] at hsp hpl hss
  rw [hX1, hX2, hav, hae] at hs2
  rw [hX2, hae] at hs1
  have hmy : ae = 0 → mayB av = true := fun h => by
    rw [← hae] at h
    obtain ⟨_, _, h3, h4⟩ := add_z h
    rw [← hav, h4]; exact h3
  have HOf : Hid (∀ V, Below W0.heap.size W0 V → Calls Tryz.prog 78 #[.agg #[.slice a s.l.length c], .int .i64 x] V fun e w' => e = .returned (.tuple #[.int .i64 X1, .int .i64 X2, .int .i64 0]) ∧ Below V.heap.size V w') := fun V hV => by
    have := ROf_any hI hQ hx sx a c V (HA.out V hV).r
    rw [hX1, hX2] at this; exact this
  have HAd : Hid (∀ V, Calls Tryz.prog 79 #[.int .i64 X2, .int .i64 n] V fun e w' => e = .returned (.tuple #[.int .i64 av, .int .i64 ae]) ∧ V = w') := fun V => by
    have := RAdd_any X2 n V
    rw [hav, hae] at this; exact this
  have HPut : Hid (∀ V, Below W0.heap.size W0 V → ae = 0 → Calls Tryz.prog 51 #[.agg #[.slice a s.l.length c], .int .i64 X1, .int .i64 av, .int .i64 most] V (TabO V (putBN most s X1 av))) := fun V hV h => RPutN_any hI h0 hQ most hm hpl hss hsp (hmy h) a c V (HA.out V hV)
  have HL : Hid (ae = 0 → (putBN most s X1 av).1.e = 0 → 0 < (putBN most s X1 av).1.l.length) := fun h _ => by
    have h2 := hs2 h
    have hl := (sum_out (most := most) (n := ⟨11, 1, x, 0, 0, 1, 0, n⟩) hI hm ⟨i8_lit (n := 11) (by decide), i8_lit (n := 1) (by decide), hx.i64 hI.len, z64, z64, l64 (n := 1) (by decide), z64, ?_⟩ rfl hx (fun _ => ?_)).inv.le
    · rw [h2] at hl; omega
    · rw [← hae] at h
      exact may_i64 (add_z h).2.1
    · rw [← hae] at h
      have hn := (add_z h).2.1
      unfold standsB
      rw [decide_eq_true_eq]
      refine ⟨⟨by show (0 : Int) ≤ 11; decide, by show (11 : Int) < 14; decide, ?_⟩, ⟨by show (0 : Int) ≤ 1; decide, by show (1 : Int) < 6; decide⟩, ArgP.ins (by show ((0 : Nat) : Int) < 1; decide) hx, ArgP.out (by show (1 : Int) ≤ ((1 : Nat) : Int); decide), ArgP.out (by show (1 : Int) ≤ ((2 : Nat) : Int); decide)⟩
      show (if (11 : Int) = 13 then _ else if (11 : Int) = 10 ∨ (11 : Int) = 11 ∨ (11 : Int) = 12 then _ else _)
      rw [if_neg (by decide), if_pos (by decide)]
      exact ⟨rfl, rfl, hn⟩
  have HAw := Lib.hid hA
  have HB0 := Lib.hid hB0
  have HXX := Lib.hid hXX
  have HS1 := Lib.hid hs1
  have HS2 := Lib.hid hs2
  generalize sumM most s ⟨11, 1, x, 0, 0, 1, 0, n⟩ = R at *
  obtain ⟨⟨x0, xz⟩, hrb⟩ := hXX _ (Below.refl _ _)
  clear hA hXX hB0 hI hQ hx sx hsp hpl hss hmy hrb h0 hs1 hs2 hX1 hX2 hav hae hW
  go_enter Tryz.func52, Tryz.ntmps52
  go_wp2_with fail
  rw [← hW0]
  clear hW0
  refine (HOf.out _ (Below.refl _ _)).mono ?_
  rintro e w1 ⟨rfl, hb1⟩
  have HB1 := Lib.hid hb1
  clear hb1 x0 xz
  obtain ⟨⟨x0, xz⟩, hrb⟩ := HXX.out w1 HB1.out
  obtain ⟨y0, yf, yz⟩ := box_fz hrb
  have HRb := Lib.hid hrb
  clear hrb
  go_wp2_with fail
  refine (HAd.out _).mono ?_
  rintro e w2 ⟨rfl, rfl⟩
  by_cases h : ae = 0
  rotate_left
  · have e1 := ne_t h
    have HP : Hid (TabO w R (.returned (.tuple #[.agg #[.slice none 0 0], .int .i64 0, .int .i64 ae])) (w1.setCell ⟨w.heap.size + 1, 0, none⟩ (.slice none 0 0))) := tabO_err (ball HB0.out HB1.out) (by omega) (HS1.out h) h
    clear h
    go_wp2_with fail
    refine bodyPost_ret (res_cell3 rfl _ _ (w.heap.size + 1) _ _ _ _ rfl (setOne HRb.out) Tryz.underlying33 rfl tabSize1) rfl ?_
    exact HP.out
  have e1 := ne_f h
  have HH := Lib.hid h
  clear h
  go_wp2_with fail
  refine (HPut.out _ HB1.out HH.out).mono ?_
  rintro e w2 hO
  obtain ⟨va, nn, cc, i, er, rfl, hr2, hO2⟩ := tabO_ret (w := w) hO (ball HB0.out HB1.out) (by omega) HRb.out (HL.out HH.out)
  rw [← HS2.out HH.out] at hO2
  have HO2 := Lib.hid hO2
  have HR2 := Lib.hid hr2
  clear x0 xz y0 yf yz hO hO2
  obtain ⟨y0, yf, yz⟩ := box_fz hr2
  clear hr2
  go_wp2_with fail
  refine bodyPost_ret (res_cell3 rfl _ _ (w.heap.size + 1) _ _ _ _ rfl (setOne HR2.out) Tryz.underlying33 rfl tabSize1) rfl ?_
  exact HO2.out
end Go.Proofs.YtpppfghdjbmbgaaGreatDoor.Tm
