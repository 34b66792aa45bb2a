/- Core: the image of a root. -/
import Derived.Test.YtjibhkgphahbaaaDoorCoQ
import Derived.Deep.LoopGhost
namespace Go.Proofs.YtjibhkgphahbaaaDoor.Tm
open Go.RowKit
set_option linter.unusedVariables false
theorem st_arg {n : NodeA} {k j : Nat} (h : standsB n k = true) (hj : (j : Int) < n.len) (h3 : n.len ≤ 3) : 0 ≤ argA n j ∧ argA n j < (k : Int) := by
  unfold standsB at h
  rw [decide_eq_true_eq] at h
  obtain ⟨_, _, h0, h1, h2⟩ := h
  have hc : j = 0 ∨ j = 1 ∨ j = 2 := by omega
  rcases hc with rfl | rfl | rfl
  · exact h0.1 hj
  · exact h1.1 hj
  · exact h2.1 hj
theorem fall_len : ∀ (st : List Int) (N : Nat), st.Pairwise (fun x y => y < x) → (∀ x ∈ st, 0 ≤ x ∧ x < (N : Int)) → st.length ≤ N
  | [], N, _, _ => Nat.zero_le _
  | x :: t, N, h, hr => by
    have hx := hr x (by simp)
    have ht := fall_len t x.toNat (List.pairwise_cons.1 h).2 fun y hy => ⟨(hr y (by simp [hy])).1, by have := (List.pairwise_cons.1 h).1 y hy; omega⟩
    simp only [List.length_cons]
    omega
/-- What the image of a root is. -/
def AtPost (Q : MkS → List Int → Prop) (w : World) (P : Nat → Prop) (X I M : Nat) (most : Int) (l : List NodeA) (a : Option Addr) (c : Nat) (root : Nat) (e : Ending) (w' : World) : Prop :=
  ∃ (s' : MkS) (im' : List Int), MkR w' P M most s' ∧ WkR w' X I M l a c im' ∧ Kp (fun i => P i ∧ i ≠ I) w w' ∧ ((e = .returned (.tuple #[.int .i64 (imA im' root), .int .i64 0]) ∧ WkS Q l s' im' ∧ ¬ imA im' root = -1) ∨ (e = .returned (.tuple #[.int .i64 0, .int .i64 s'.e]) ∧ FailP Q most l s'))
set_option maxRecDepth 100000 in
set_option maxHeartbeats 4000000 in
theorem at_any (Q : MkS → List Int → Prop) (P : Nat → Prop) (B0 X I M : Nat) (most : Int) (s : MkS) (l : List NodeA) (a : Option Addr) (c : Nat) (im : List Int) (root : Nat) (w : World) (h : WkR w X I M l a c im) (hM : MkR w P M most s) (hP : PkR w P B0 X I l a c) (hB : B0 ≤ w.heap.size) (hBI : B0 ≤ I) (hm : most ≤ 2000) (hl : l.length ≤ 3000) (hr : root < l.length) (hIn : ∀ n ∈ l, InA l n) (hst : ∀ (k : Nat) (n : NodeA), l[k]? = some n → standsB n k = true) (hQ : StepQ Q most l) (hs : WkS Q l s im) :
    Calls Tryd.prog 21 #[.pointer (some ⟨X, 0, none⟩), .int .i64 root] w (AtPost Q w P X I M most l a c root) := by
  have HPl : Hid (∀ k, P k → k < w.heap.size) := fun k hk => hM.lt hk
  have HP := Lib.hid hP
  have HMiss : Hid (∀ (V : World) (im : List Int) (k : Nat) (n : NodeA), WkR V X I M l a c im → l[k]? = some n → Calls Tryd.prog 37 #[.pointer (some ⟨X, 0, none⟩), .int .i64 k] V fun e w' => ∃ p : Int × Bool, e = .returned (.tuple #[.int .i64 p.1, .bool p.2]) ∧ MissP im n p ∧ Below V.heap.size V w') := fun V im k n hv hk => missing_any X I M l a c im k n V hv hk (hIn n (List.mem_of_getElem? hk)) hl
  have HMake : Hid (∀ (V : World) (R : Nat → Prop) (s : MkS) (im : List Int) (k : Nat) (n : NodeA), (∀ k, P k → R k) → Kp (fun k => P k ∧ k ≠ I) w V → WkR V X I M l a c im → MkR V R M most s → WkS Q l s im → l[k]? = some n → AllIm im n → Calls Tryd.prog 38 #[.pointer (some ⟨X, 0, none⟩), .int .i64 k] V fun e w' => e = .returned (.int .i64 (stepM most s im n).1.e) ∧ MkR w' R M most (stepM most s im n).1 ∧ WkR w' X I M l a c (im.set k (stepM most s im n).2) ∧ Kp (fun i => R i ∧ i ≠ I) V w') := fun V R s im k n hR hk hv hm' hs hn ha => by
    obtain ⟨h1, _⟩ := hP.keepI hBI hk hB
    exact make_any R B0 X I M most s l a c im k n _ V hv hm' ⟨fun k hk => hR k (h1.old k hk), hR _ h1.px, hR _ h1.pi, h1.low, h1.le, h1.cap, h1.ok⟩ (Nat.le_trans hB hk.size) hBI hm hn (hIn n (List.mem_of_getElem? hn)) hl (hP.ok n (List.mem_of_getElem? hn)) (hst k n hn) hs.imp ha hs.x rfl
  have HStep : Hid (∀ (s : MkS) (im : List Int) (k : Nat) (n : NodeA), WkS Q l s im → l[k]? = some n → AllIm im n → Out most s (stepM most s im n) ∧ ((stepM most s im n).1.e = 0 → WkS Q l (stepM most s im n).1 (im.set k (stepM most s im n).2))) := fun s im k n hs hn ha => step_wks hQ hs hn ha hm (hP.ok n (List.mem_of_getElem? hn)) (hst k n hn)
  have HLow : Hid (∀ (k : Nat) (n : NodeA), l[k]? = some n → ∀ j : Nat, (j : Int) < n.len → 0 ≤ argA n j ∧ argA n j < (k : Int)) := fun k n hn j hj => st_arg (hst k n hn) hj (hIn n (List.mem_of_getElem? hn)).hi
  have HB := Lib.hid hB
  have HBI := Lib.hid hBI
  have HIw : Hid (I < w.heap.size) := hM.lt hP.pi
  obtain ⟨W0, hW0⟩ : ∃ W0, W0 = w.alloc (.cells #[.int .i64 root] 3) := ⟨_, rfl⟩
  have HO : Hid (OpenR Q w W0 P X I M most l a c root s im [(root : Int)] w.heap.size 1 (And1 P w.heap.size)) := by
    have hb : Below w.heap.size w W0 := by rw [hW0]; exact (Below.refl _ w).alloc (Nat.le_refl _) _
    refine ⟨fun k hk => .inl hk, .inr rfl, Nat.le_refl _, by rw [hW0]; exact hM.box _, h.below hb, Kp.of hb fun k hk => hM.lt hk.1, ?_, StP.start (by omega), hs⟩
    exact ⟨rfl, .inr ⟨_, 1, _, rfl, Nat.le_refl _, by rw [hW0]; exact heap_alloc_new w _, Nat.le_refl _, by decide, rfl, rfl⟩⟩
  have HHl := Lib.hid hl
  clear h hM hP hB hBI hm hIn hst hQ hs
  obtain ⟨i0, hi_, hz0, hz1, hz2⟩ := info_parts info_int
  go_enter Tryd.func21, Tryd.ntmps21
  go_wp2_with fail
  rw [← hW0]
  clear hW0
  go_loopg [6] (roundsM l.length im [(root : Int)]) (fun N p wr => ∃ (s : MkS) (im st : List Int) (g cap n : Nat) (R : Nat → Prop), p = .slice (some ⟨g, 0, none⟩) n cap ∧ Hid (OpenR Q w wr P X I M most l a c root s im st g cap R) ∧ Hid (N = roundsM l.length im st) ∧ Hid (st.length = n))
  case atStart => exact ⟨s, im, [(root : Int)], w.heap.size, 1, 1, _, rfl, HO, rfl, rfl⟩
  case round =>
    clear HO
    obtain ⟨s, im, st, g, cap, n, R, rfl, HO, HN, HL⟩ := hrel
    rcases List.eq_nil_or_concat st with hst | ⟨st, y, hst⟩
    · subst hst
      obtain rfl : n = 0 := HL.out.symm
      obtain ⟨x0, x1, x2, xz, iz⟩ := HO.out.wk.cells
      have qi := HO.out.wk.im hr
      have HR : Hid (AtPost Q w P X I M most l a c root (.returned (.tuple #[.int .i64 (imA im root), .int .i64 0])) wr) := ⟨s, im, HO.out.mr.less HO.out.sub, HO.out.wk, HO.out.kp, .inl ⟨rfl, HO.out.wks, HO.out.st.fin rfl⟩⟩
      go_wp2_with fail
      go_ret2
      exact HR.out
    · rw [List.concat_eq_append] at hst
      subst hst
      have hyr := HO.out.st.rng y (by simp)
      obtain ⟨k, rfl⟩ : ∃ k : Nat, y = (k : Int) := ⟨y.toNat, by omega⟩
      obtain ⟨m, hm⟩ : ∃ m, st.length = m := ⟨_, rfl⟩
      obtain rfl : n = m + 1 := by have h1 := HL.out; rw [List.length_append, hm] at h1; exact h1.symm
      have hkl : k < l.length := by omega
      obtain ⟨nd, hnd⟩ : ∃ nd, l[k]? = some nd := ⟨_, List.getElem?_eq_getElem hkl⟩
      have qc : wr.cell? ⟨g, m, none⟩ = some (.int .i64 (k : Int)) := own_cellG HO.out.row (by rw [List.map_append, List.getElem?_append_right (by simp [hm])]; simp [hm])
      have hgl : g < wr.heap.size := HO.out.mr.lt HO.out.rg
      have hm3 : m + 1 ≤ 3000 := by
        have h1 := fall_len _ _ HO.out.st.fall HO.out.st.rng
        rw [List.length_append, hm] at h1
        exact Nat.le_trans h1 HHl.out
      have hcap : m + 1 ≤ cap ∧ cap ≤ maxLen := by
        obtain ⟨a', c', e, h1, h2, _⟩ := own_at HO.out.row
        cases e
        rw [List.length_append, hm] at h1
        exact ⟨h1, h2⟩
      obtain ⟨hcap1, hcap2⟩ := hcap
      have HMs := Lib.hid (HMiss.out wr im k nd HO.out.wk hnd)
      have HNd := Lib.hid hnd
      have HM1 := Lib.hid hm
      clear hnd hm hyr HMiss
      go_wp2_with fail
      refine HMs.out.mono ?_
      rintro e w1 ⟨⟨a1, q1⟩, rfl, hp, hb1⟩
      have HO1 := Lib.hid (HO.out.below hb1)
      clear HO HMs hb1 qc
      rcases hp with ⟨hq, j, hj, ha, hz⟩ | ⟨hq, ha, hall⟩
      · obtain rfl : q1 = true := hq
        simp only at ha hz
        have hlow := HLow.out k nd HNd.out j hj
        rw [ha] at hlow
        obtain ⟨hst2, hlt2⟩ := HO1.out.st.push hlow.1 hlow.2 hz
        have HSt := Lib.hid hst2
        have HLt := Lib.hid hlt2
        have hrow : w1.ownsRow w.heap.size 3 1 (.slice (some ⟨g, 0, none⟩) (m + 1) cap) (m + 1) ((st ++ [(k : Int)]).map (Value.int .i64)) := by
          have h1 := HO1.out.row
          rw [List.length_append, HM1.out] at h1
          exact h1
        have hws := HO1.out.kp.size
        clear hst2 hlt2 hlow hz ha hj
        go_wp2_with (at_builtin; refine wpList_append_lies _ rfl _ _ 25 rfl w.heap.size 3 i0 _ 1 8 Tryd.underlying25 hi_ hz0 hz1 hz2 rfl (by decide) (Value.slice (some ⟨g, 0, none⟩) (m + 1) cap) (m + 1) ((st ++ [(k : Int)]).map (Value.int .i64)) (by rfl) (hrow.alloc _) ⟨w1.heap.size, 0, none⟩ 1 1 [.int .i64 a1] (by rfl) rfl (World.news_of_block (B := w1.heap.size) (cs := #[.int .i64 a1]) (t := 3) (fr := (0, 0)) (heap_alloc_new w1 _)) (by simp [Value.oneCell']) (by omega) (by simp only [maxLen]; omega) (by omega) (by simp; omega) _ rfl ?_; intro g9 c9 w9 hown9 hgrow9 hat9 hlt9; have HO9 := Lib.hid (HO1.out.push HP.out HPl.out HB.out HBI.out (g9 := g9) (c9 := c9) (y := a1) (by rw [List.length_append, HM1.out]; exact hown9) (by simpa [Value.ownBlock] using hgrow9) (by simpa [Value.ownBlock] using hat9) hlt9 HSt.out); clear hown9 hgrow9 hat9)
        go_roundg (roundsM l.length im ((st ++ [(k : Int)]) ++ [a1]))
        case measure => rw [HN.out]; exact HLt.out
        case rel => exact ⟨s, im, _, g9, c9, m + 1 + 1, _, rfl, HO9, rfl, by show _ = _; simp [HM1.out]⟩
      · obtain rfl : q1 = false := hq
        obtain rfl : a1 = 0 := ha
        obtain ⟨ho, hw⟩ := HStep.out s im k nd HO1.out.wks HNd.out hall
        have hMk := HMake.out w1 R s im k nd HO1.out.sub HO1.out.kp HO1.out.wk HO1.out.mr HO1.out.wks HNd.out hall
        obtain ⟨r, hr'⟩ : ∃ r, stepM most s im nd = r := ⟨_, rfl⟩
        rw [hr'] at ho hw hMk
        have HMk := Lib.hid hMk
        have HOu := Lib.hid ho
        have HW := Lib.hid hw
        have HRr := Lib.hid hr'
        have HAll := Lib.hid hall
        clear ho hw hMk hr' hall
        go_wp2_with fail
        refine HMk.out.mono ?_
        rintro e w2 ⟨rfl, hm2, hw2, hk2⟩
        by_cases h0 : r.1.e = 0
        · have e0 := ne_f h0
          obtain ⟨hst2, hlt2⟩ := HO1.out.st.pop (v := r.2) HO1.out.wks.len (by have := HOu.out.pl.1; omega)
          have HO2 := Lib.hid (HO1.out.pop HIw.out hm2 hw2 hk2 hst2 (HW.out h0))
          have HLt := Lib.hid hlt2
          clear hst2 hlt2 hm2 hw2 hk2 h0
          go_wp2_with fail
          go_roundg (roundsM l.length (im.set k r.2) st)
          case measure => rw [HN.out]; exact HLt.out
          case rel => exact ⟨r.1, im.set k r.2, st, g, cap, m, R, rfl, HO2, rfl, HM1⟩
        · have e0 := ne_t h0
          have HF : Hid (AtPost Q w P X I M most l a c root (.returned (.tuple #[.int .i64 0, .int .i64 r.1.e])) w2) := ⟨r.1, im.set k r.2, hm2.less HO1.out.sub, hw2, HO1.out.kp.trans (hk2.less fun k hk => ⟨HO1.out.sub k hk.1, hk.2⟩), .inr ⟨rfl, h0, s, im, k, nd, HO1.out.wks, HNd.out, HAll.out, by rw [HRr.out]⟩⟩
          clear hm2 hw2 hk2 h0
          go_wp2_with fail
          go_ret2
          exact HF.out
end Go.Proofs.YtjibhkgphahbaaaDoor.Tm
