/- The document's heap: sorted. -/
import Derived.Test.YtmgppnepccmceaaHrD
import Derived.Deep.RegionHeld3
namespace Go.Proofs.Ytmgppnepccmceaa
open Go.RowKit
set_option linter.unusedVariables false
/-- A row of bools, of ints, of one's own. -/
def BoolsO (w : World) (base : Nat) (I : List Bool) (v : Value) : Prop := w.ownsRow base 4 1 v I.length (rowB I)
def IntsO (w : World) (base : Nat) (xs : List Int) (v : Value) : Prop := w.ownsRow base 3 1 v xs.length (rowI xs)
theorem rowB_len (I : List Bool) : (rowB I).length = I.length := by unfold rowB; rw [List.length_map]
theorem rowI_len (xs : List Int) : (rowI xs).length = xs.length := by unfold rowI; rw [List.length_map]
theorem step_appB {w : World} {ops : Array Oper} {o : Oper} {a : Act} {K : Act → World → Prop} {Q : Exit → Act → World → Prop} {E : Prop} (hgd : o.guard = none) (s x : Operand) (ho : o.op = .call { callee := .builtin .append, args := #[s, x], argTypes := #[57, 57] }) (hty : o.type = 57)
    (base : Nat) (v : Value) (I : List Bool) (bb d : Nat) (hs : a.eval s = v) (hx : a.eval x = .slice (some ⟨bb, 0, none⟩) I.length d) (hown : BoolsO w base [] v) (hI : ∀ j u, (rowB I)[j]? = some u → w.cell? ⟨bb, j, none⟩ = some u) (hb : base ≤ w.heap.size) (hl : I.length ≤ 300)
    (h : ∀ v' w', BoolsO w' base I v' → w.grownBy w' v.ownBlock → (v'.ownBlock = v.ownBlock ∨ v'.ownBlock = some w.heap.size) → K (a.put o.dst v') w') : if Region.wanted o (yielded ops a.tmps) = true then Oper.wp Try.prog o a w K Q else E := by
  have hw : Region.wanted o (yielded ops a.tmps) = true := by simp [Region.wanted, hgd]
  rw [if_pos hw]
  obtain ⟨i0, hi_, hz0, hz1, hz2⟩ := info_parts info_bool
  obtain ⟨v', w', hr, h2, h3, _, h5⟩ := run_append_own_at (P := Try.prog) w base 57 57 4 i0 _ 1 1 Try.underlying57 hi_ hz0 hz1 hz2 rfl (by decide) v 0 [] hown ⟨bb, 0, none⟩ I.length d (rowB I) (by rw [rowB_len, Nat.mul_one]) (fun j u hu => by rw [Addr.add_lit, Nat.zero_add]; exact hI j u hu) (fun u hu => by unfold rowB at hu; obtain ⟨y, _, rfl⟩ := List.mem_map.1 hu; rfl) (by simp only [maxLen]; omega) (by omega) hb
  rw [Nat.zero_add, List.nil_append] at h2
  unfold Oper.wp execOp
  simp only [ho, hty, resolve, invoke, builtin, Sem.run_bind, Sem.run_pure, Result.andThen_ok, List.map_toArray, List.map_cons, List.map_nil, hs, hx, hr]
  exact h v' w' h2 h3 h5
theorem bool_zero (w : World) : BoolsO (w.alloc (.cells #[] 4)) w.heap.size [] (.slice (some ⟨w.heap.size, 0, none⟩) 0 0) := ⟨rfl, .inr ⟨w.heap.size, 0, #[], rfl, Nat.le_refl _, heap_alloc_new w _, Nat.le_refl _, by decide, rfl, rfl⟩⟩
theorem bools_at {w : World} {base : Nat} {I : List Bool} {v : Value} (h : BoolsO w base I v) {k : Nat} (hk : v.ownBlock = some k) : ∃ c sp, v = .slice (some ⟨k, 0, none⟩) I.length c ∧ w.heap[k]? = some (.cells ⟨rowB I ++ sp⟩ 4 (0, 0)) := by
  rcases h.2 with ⟨rfl, _⟩ | ⟨g, cap, cur, rfl, h1, h2, h3, h4, h5, h6⟩
  · cases hk
  · obtain rfl : g = k := by simpa [Value.ownBlock] using hk
    refine ⟨cap, cur.toList.drop (I.length * 1), rfl, ?_⟩
    rw [h2, ← h6, List.take_append_drop]
theorem step_int {w : World} {ops : Array Oper} {rest : List Oper} {o : Oper} {a : Act} {Q : Exit → Act → World → Prop} (hgd : o.guard = none) (s x : Operand) (ho : o.op = .call { callee := .builtin .append, args := #[s, x], argTypes := #[39, 39] }) (hty : o.type = 39)
    (base : Nat) (v : Value) (xs : List Int) (y : Int) (b : Nat) (d : Nat) (hs : a.eval s = v) (hx : a.eval x = .slice (some ⟨b, 0, none⟩) 1 d) (hown : IntsO w base xs v) (hI : w.cell? ⟨b, 0, none⟩ = some (.int .i64 y)) (hb : base ≤ w.heap.size) (hl : xs.length ≤ 6000)
    (h : ∀ v' w', IntsO w' base (xs ++ [y]) v' → w.grownBy w' v.ownBlock → wpList Try.prog ops Q rest (a.put o.dst v') w') : wpList Try.prog ops Q (o :: rest) a w := by
  obtain ⟨i0, hi_, hz0, hz1, hz2⟩ := info_parts info_int
  obtain ⟨v', w', hr, h2, h3, _, h5⟩ := run_append_own_at (P := Try.prog) w base 39 39 3 i0 _ 1 8 Try.underlying39 hi_ hz0 hz1 hz2 rfl (by decide) v xs.length (rowI xs) hown ⟨b, 0, none⟩ 1 d [.int .i64 y] rfl (fun j u hu => by
      rw [Addr.add_lit, Nat.zero_add]
      cases j with
      | zero => simp at hu; subst hu; exact hI
      | succ j => simp at hu) (fun u hu => by simp at hu; subst hu; rfl) (by simp only [maxLen]; omega) (by omega) hb
  refine wpList_plain hgd fun _ hK => ?_
  unfold Oper.wp execOp
  simp only [ho, hty, resolve, invoke, builtin, Sem.run_bind, Sem.run_pure, Result.andThen_ok, List.map_toArray, List.map_cons, List.map_nil, hs, hx, hr]
  refine hK _ _ (h v' w' ?_ h3)
  unfold IntsO rowI
  rw [List.length_append, List.map_append]
  exact h2
theorem ints_nil (w : World) (base : Nat) : IntsO w base [] (.slice none 0 0) := ⟨rfl, .inl ⟨rfl, rfl⟩⟩
theorem ints_at {w : World} {base : Nat} {xs : List Int} {v : Value} (h : IntsO w base xs v) : ∃ a c, v = .slice a xs.length c := by
  rcases h.2 with ⟨rfl, h0⟩ | ⟨g, cap, cur, rfl, _⟩
  · exact ⟨none, 0, by rw [h0]⟩
  · exact ⟨_, _, rfl⟩
/-- What has been popped, what is left. -/
structure SoP (w0 wr : World) (A : List Int) (S P : List Nat) (o ab bb : Nat) (v : Value) : Prop where
  rq : ∃ T, RQ wr o ab bb ⟨A, T⟩ ∧ (P ++ T).Perm S ∧ ∀ x ∈ P, ∀ y ∈ T, keyA A x < keyA A y
  srt : P.Pairwise (fun x y => keyA A x < keyA A y)
  own : IntsO wr w0.heap.size (P.map (fun x : Nat => (x : Int))) v
  gr : Gr (fun k => k ≠ bb) w0 wr
theorem SoP.le {w0 wr : World} {A : List Int} {S P : List Nat} {o ab bb : Nat} {v : Value} (h : SoP w0 wr A S P o ab bb v) : P.length ≤ S.length := by
  obtain ⟨T, _, h2, _⟩ := h.rq
  rw [← h2.length_eq, List.length_append]
  omega
def lenV (v : Value) : Nat := match v with | .slice _ n _ => n | _ => 0
/-- What Sorted answers. -/
def RSortedP (s : St) (w : World) (e : Ending) (w' : World) : Prop := ∃ v M, e = .returned v ∧ SortedM s.A s.S M ∧ IntsO w' w.heap.size (M.map (fun x : Nat => (x : Int))) v ∧ Below w.heap.size w w'
section
variable {w : World} {g ab bb : Nat} {s : St}
set_option maxRecDepth 100000 in
set_option maxHeartbeats 1000000 in
theorem RSorted_q (H : RQ w g ab bb s) : Calls Try.prog 27 #[.pointer (some ⟨g, 0, none⟩)] w fun e w' => RSortedP s w e w' := by
  have hmem : ∀ z, z ∈ s.S → z < s.A.length := fun z hz => rq_mem H hz
  obtain ⟨I, H, hnd, hI⟩ := H
  have hlS : s.S.length ≤ s.A.length := by rw [← cntB_all hnd hI hmem]; exact cntB_le _ _
  have HS := Lib.hid (show s.S.Nodup ∧ (∀ x, I.getD x false = true ↔ x ∈ s.S) ∧ ∀ z, z ∈ s.S → z < s.A.length from ⟨hnd, hI, hmem⟩)
  have HX1 := Lib.hid H
  have hle := H.le
  obtain ⟨cb, c0, c1⟩ := H.head
  obtain ⟨n, hnA⟩ : ∃ n, s.A.length = n := ⟨_, rfl⟩
  have HNA := Lib.hid hnA
  rw [hnA] at hle c0 c1 hlS
  have HIn : Hid (I.length = n) := H.len.trans hnA
  have HK : Hid (∀ V, Below w.heap.size w V → (V.cell? ⟨g, 0, none⟩ = some (.slice (some ⟨ab, 0, none⟩) n n) ∧ V.cell? ⟨g, 1, none⟩ = some (.slice (some ⟨bb, 0, none⟩) n cb)) ∧ ∀ j u, (rowB I)[j]? = some u → V.cell? ⟨bb, j, none⟩ = some u) := fun V hV => by
    refine ⟨⟨(hV.cell (p := ⟨g, 0, none⟩) H.blk.1).trans c0, (hV.cell (p := ⟨g, 1, none⟩) H.blk.1).trans c1⟩, fun j u hu => ?_⟩
    have hj := (List.getElem?_eq_some_iff.1 hu).1
    rw [rowB_len, H.len] at hj
    rw [hV.cell (p := ⟨bb, j, none⟩) H.blk.2.2, (H.bcell hj).1]
    unfold rowB at hu
    rw [List.getElem?_map, List.getElem?_eq_getElem (by rw [H.len]; exact hj)] at hu
    rw [← hu, List.getD_eq_getElem?_getD, List.getElem?_eq_getElem (by rw [H.len]; exact hj)]
    rfl
  have HB0 : Hid (Below w.heap.size w w.drew) := (Below.refl _ w).drew
  have HZ := Lib.hid (bool_zero w.drew)
  have HBZ : Hid (Below w.heap.size w (w.drew.alloc (.cells #[] 4))) := HB0.out.alloc (Nat.le_refl _) _
  clear H hnA hI hnd hmem c0 c1
  go_enter Try.func27, Try.ntmps27
  go_wp2
  go_region_held3 (fun V => V.cell? ⟨g, 0, none⟩ = some (.slice (some ⟨ab, 0, none⟩) n n) ∧ V.cell? ⟨g, 1, none⟩ = some (.slice (some ⟨bb, 0, none⟩) n cb)) (first | exact (HK.out _ (Below.refl _ _)).1 | exact (HK.out _ HB0.out).1 | exact (HK.out _ HBZ.out).1 | exact (HK.out _ HU.out.2.2.1).1 | exact (HK.out _ (HU.out.2.2.1.alloc HU.out.2.2.1.size _)).1) (first | (refine step_appB rfl _ _ rfl rfl w.heap.size _ I bb cb (by rfl) (by rw [HIn.out]; rfl) HZ.out (HK.out _ HBZ.out).2 (by simp) (by rw [HIn.out]; exact hle) ?_; intro v6 u6 hr6 hg6 hb6; obtain ⟨k6, hk6⟩ : ∃ k, v6.ownBlock = some k := (hb6.elim (fun e => ⟨_, e⟩) (fun e => ⟨_, e⟩)); obtain ⟨c6, sp6, rfl, hh6⟩ := bools_at hr6 hk6; have HU : Hid (BoolsO u6 w.heap.size I (.slice (some ⟨k6, 0, none⟩) I.length c6) ∧ u6.heap[k6]? = some (.cells ⟨rowB I ++ sp6⟩ 4 (0, 0)) ∧ Below w.heap.size w u6 ∧ w.heap.size ≤ k6) := ⟨hr6, hh6, HBZ.out.grown hg6 HBZ.out.size (fun k e => by cases e; exact Nat.le_refl _), (own_lt hr6 rfl).1⟩; clear hr6 hg6 hb6 hk6 hh6) | fail)
  obtain ⟨W0, hW0⟩ : ∃ W0, u6.alloc (.cells #[.slice (some ⟨ab, 0, none⟩) n n, .slice (some ⟨k6, 0, none⟩) I.length c6] 59) = W0 := ⟨_, rfl⟩
  have hBW : Below w.heap.size w W0 := by rw [← hW0]; exact HU.out.2.2.1.alloc HU.out.2.2.1.size _
  have hk6 := (Array.getElem?_eq_some_iff.1 HU.out.2.1).1
  have hnew : W0.heap[u6.heap.size]? = some (.cells #[.slice (some ⟨ab, 0, none⟩) n n, .slice (some ⟨k6, 0, none⟩) I.length c6] 59 (0, 0)) := by rw [← hW0]; exact heap_alloc_new _ _
  have hold : W0.heap[k6]? = some (.cells ⟨rowB I ++ sp6⟩ 4 (0, 0)) := by rw [← hW0]; exact (Below.heap_alloc _ _ _ hk6).trans HU.out.2.1
  have hszW : W0.heap.size = u6.heap.size + 1 := by rw [← hW0]; simp
  obtain ⟨o, ho⟩ : ∃ o, u6.heap.size = o := ⟨_, rfl⟩
  rw [hW0]
  rw [ho] at hnew hszW hk6 ⊢
  have H0 : Hid (SoP W0 W0 s.A s.S [] o ab k6 (.slice none 0 0)) := by
    refine ⟨⟨s.S, ⟨I, ⟨⟨c6, ?_⟩, (hBW.block ab HX1.out.blk.2.1).trans HX1.out.ad, ⟨sp6, hold⟩, HX1.out.len, HX1.out.le, HX1.out.act⟩, HS.out.1, HS.out.2.1⟩, List.Perm.refl _, fun x hx => by cases hx⟩, List.Pairwise.nil, ints_nil _ _, Gr.refl _ _⟩
    show W0.heap[o]? = some (.cells #[.slice (some ⟨ab, 0, none⟩) s.A.length s.A.length, _] _ _)
    rw [HNA.out]
    exact hnew
  have HW := Lib.hid (show Below w.heap.size w W0 ∧ w.heap.size ≤ k6 ∧ k6 < W0.heap.size ∧ o < W0.heap.size ∧ ab < W0.heap.size ∧ w.heap.size ≤ W0.heap.size from ⟨hBW, HU.out.2.2.2, by omega, by omega, Nat.lt_of_lt_of_le HX1.out.blk.2.1 hBW.size, hBW.size⟩)
  clear hBW hk6 hnew hold hszW ho hW0 HU HZ HBZ HB0 HK HIn
  go_wp2
  go_loopw [4] (fun ov wr => ∃ (P : List Nat) (a4 : Option Addr) (c4 : Nat), ov = .slice a4 P.length c4 ∧ Hid (SoP W0 wr s.A s.S P o ab k6 (.slice a4 P.length c4))) (fun ov _ => s.S.length - lenV ov)
  case atStart => exact ⟨[], none, 0, rfl, H0⟩
  case round =>
    clear H0
    obtain ⟨P, a4, c4, rfl, HR⟩ := hrel
    obtain ⟨T, q1, q2, q3⟩ := HR.out.rq
    have hTl : ∀ z ∈ T, z < 1000 := fun z hz => by
      have := HS.out.2.2 z (q2.mem_iff.1 (List.mem_append_right _ hz))
      rw [HNA.out] at this
      omega
    have hTn : T.Nodup := by obtain ⟨_, _, h, _⟩ := q1; exact h
    rcases best_spec (A := s.A) T with ⟨hb, hT⟩ | ⟨x, hb, hxT, hxm⟩
    · have C := RPop_q q1
      rw [show popV ⟨s.A, T⟩ = 0 from by unfold popV; rw [hb], show popB ⟨s.A, T⟩ = false from by unfold popB; rw [hb]; rfl] at C
      have HC := Lib.hid C
      have HF : Hid (∀ w1, Gr (fun k => k ≠ k6) wr w1 → RSortedP s w (.returned (.slice a4 P.length c4)) w1) := fun w1 hg => by
        refine ⟨_, P, rfl, ⟨?_, HR.out.srt⟩, own_base (own_move HR.out.own (fun g hg1 => hg.keep g (own_lt HR.out.own hg1).2 (fun e => ?_))) HW.out.2.2.2.2.2, ?_⟩
        · rw [hT, List.append_nil] at q2
          exact q2
        · have := (own_lt HR.out.own hg1).1
          have := HW.out.2.2.1
          omega
        · have h2 := HR.out.gr.trans (hg.mono (fun _ _ h => h))
          exact ⟨h2.os.trans HW.out.1.os, h2.tape.trans HW.out.1.tape, h2.output.trans HW.out.1.output, Nat.le_trans HW.out.1.size h2.size, fun k hk => (h2.keep k (by have := HW.out.1.size; omega) (by have := HW.out.2.1; omega)).trans (HW.out.1.block k hk)⟩
      clear HR q1 q2 q3 hTl hTn hb hT C
      go_wp2_with (first | (go_at_call 14; with_reducible refine HC.out.mono ?_; rintro e w1 ⟨rfl, HW1⟩))
      go_ret
      exact HF.out _ HW1.out.2
    · have C := RPop_q q1
      rw [show popV ⟨s.A, T⟩ = x from by unfold popV; rw [hb], show popB ⟨s.A, T⟩ = true from by unfold popB; rw [hb]; rfl, show popS ⟨s.A, T⟩ = ⟨s.A, T.erase x⟩ from by unfold popS; rw [hb]] at C
      have HC := Lib.hid C
      have HX2 := Lib.hid (show x ∈ T ∧ (∀ y ∈ T, keyA s.A x ≤ keyA s.A y) ∧ T.Nodup ∧ (∀ z ∈ T, z < 1000) ∧ (P ++ T).Perm s.S ∧ ∀ x ∈ P, ∀ y ∈ T, keyA s.A x < keyA s.A y from ⟨hxT, hxm, hTn, hTl, q2, q3⟩)
      have hxb : (x : Int) < 1000 := by have := hTl x hxT; omega
      clear C q1 q2 q3 hTl hTn hb hxT hxm
      have hPl := HR.out.le
      obtain ⟨V, hV⟩ : ∃ V, P.map (fun x : Nat => (x : Int)) = V := ⟨_, rfl⟩
      have hVl : V.length = P.length := by rw [← hV, List.length_map]
      have HV := Lib.hid (show P.map (fun x : Nat => (x : Int)) = V from hV)
      clear hV
      go_wp2_with fail
      with_reducible refine HC.out.mono ?_
      rintro e w1 ⟨rfl, HW1⟩
      have hs1 : W0.heap.size ≤ w1.heap.size := Nat.le_trans HR.out.gr.size HW1.out.2.size
      have hown : IntsO (w1.alloc (.cells #[.int .i64 x] 3)) W0.heap.size V (.slice a4 P.length c4) := by
        rw [← HV.out]
        refine own_alloc (own_move HR.out.own (fun g hg1 => HW1.out.2.keep g (own_lt HR.out.own hg1).2 (fun e => ?_))) _
        have := (own_lt HR.out.own hg1).1
        have := HW.out.2.2.1
        omega
      have hcx : (w1.alloc (.cells #[.int .i64 x] 3)).cell? ⟨w1.heap.size, 0, none⟩ = some (.int .i64 x) := by simp
      have hbs : W0.heap.size ≤ (w1.alloc (.cells #[.int .i64 x] 3)).heap.size := by simp; omega
      have hls : V.length ≤ 6000 := by omega
      go_wp2_with (at_builtin; refine step_int rfl _ _ rfl rfl W0.heap.size _ V x w1.heap.size 1 (by rfl) (by rfl) hown hcx hbs hls ?_)
      intro v2 w2 ho2 hg2
      obtain ⟨a5, c5, rfl⟩ := ints_at ho2
      have hPx : (V ++ [(x : Int)]).length = (P ++ [x]).length := by rw [List.length_append, List.length_append, hVl]; rfl
      rw [hPx] at ho2 ⊢
      have HN : Hid (SoP W0 w2 s.A s.S (P ++ [x]) o ab k6 (.slice a5 (P ++ [x]).length c5)) := by
        have hgn : Gr (fun k => k < W0.heap.size) w1 w2 := ⟨hg2.os, hg2.tape, hg2.output, by have := hg2.size; simp at this; omega, fun k hk hp => (hg2.block k (by simp; omega) (fun e => absurd (own_lt hown e.symm).1 (by omega))).trans (Below.heap_alloc _ _ _ hk)⟩
        obtain ⟨x1, x2, x3, x4, x5, x6⟩ := HX2.out
        refine ⟨⟨T.erase x, HW1.out.1.gr hgn HW.out.2.2.2.1 HW.out.2.2.2.2.1 HW.out.2.2.1, ?_, fun z hz y hy => ?_⟩, ?_, ?_, ?_⟩
        · rw [List.append_assoc]
          exact ((List.perm_cons_erase x1).symm.append_left P).trans x5
        · have hyT := List.mem_of_mem_erase hy
          rcases List.mem_append.1 hz with h | h
          · exact x6 z h y hyT
          · obtain rfl : z = x := by simpa using h
            have h1 := x2 y hyT
            have h2 : keyA s.A z ≠ keyA s.A y := fun e => by
              have e2 := key_inj (x4 z x1) (x4 y hyT) e
              rw [e2] at hy
              exact (x3.mem_erase_iff.1 hy).1 rfl
            omega
        · rw [List.pairwise_append]
          exact ⟨HR.out.srt, List.pairwise_singleton _ _, fun z hz y hy => by
            obtain rfl : y = x := by simpa using hy
            exact x6 z hz y x1⟩
        · rw [List.map_append, HV.out]
          exact ho2
        · exact ⟨hgn.os.trans (HW1.out.2.os.trans HR.out.gr.os), hgn.tape.trans (HW1.out.2.tape.trans HR.out.gr.tape), hgn.output.trans (HW1.out.2.output.trans HR.out.gr.output), Nat.le_trans hs1 hgn.size, fun k hk hp => (hgn.keep k (by omega) hk).trans ((HR.out.gr.trans (HW1.out.2.mono (fun _ _ h => h))).keep k hk hp)⟩
      have hle2 := HN.out.le
      have hlp : (P ++ [x]).length = P.length + 1 := by simp
      clear hown hcx hbs hls ho2 hg2 HW1 HX2 HR HC
      go_wp2
      go_roundw
      case rel => exact ⟨P ++ [x], a5, c5, rfl, HN⟩
      case measure => unfold lenV; dsimp only; omega
end
end Go.Proofs.Ytmgppnepccmceaa
