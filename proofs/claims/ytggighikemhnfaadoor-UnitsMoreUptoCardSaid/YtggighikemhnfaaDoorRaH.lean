/- UnitsMore. -/
import Derived.Test.YtggighikemhnfaaDoorRaD
namespace Go.Proofs.YtggighikemhnfaaDoor.Tm
open Go.RowKit Go.Lib
set_option linter.unusedVariables false
theorem rows_zero (w : World) : RowsO (w.alloc (.cells #[] 23)) w.heap.size [] (.slice (some ⟨w.heap.size, 0, none⟩) 0 0) := ⟨rfl, .inr ⟨w.heap.size, 0, #[], rfl, Nat.le_refl _, heap_alloc_new w _, Nat.le_refl _, by decide, rfl, rfl⟩⟩
theorem run_appR (w : World) (base : Nat) (v : Value) (xs ys : List RowD) (b : Option Addr) (d : Nat) (hown : RowsO w base xs v) (hI : RowsR w ys b d) (hb : base ≤ w.heap.size) (hl : (xs.length + ys.length) * 24 ≤ 140737488355328) :
    ∃ v' w', (Builtin.append_ #[22, 22] 22 #[v, .slice b ys.length d]).run Tryd.prog w = .ok v' w' ∧ RowsO w' base (xs ++ ys) v' ∧ w.grownBy w' v.ownBlock := by
  obtain ⟨i0, hi_, hz0, hz1, hz2⟩ := info_parts info_sl
  cases b with
  | none =>
    have h0 : ys = [] := by
      cases ys with
      | nil => rfl
      | cons y r =>
        obtain ⟨g, o, e, _⟩ := hI.tat (by simp)
        cases e
    subst h0
    refine ⟨v, w, ?_, by rw [List.append_nil]; exact hown, ⟨rfl, rfl, rfl, Nat.le_refl _, fun _ _ _ => rfl⟩⟩
    rcases hown.2 with ⟨rfl, h⟩ | ⟨g, cap, cur, rfl, _, _, hc, _, _, _⟩
    · simp [Builtin.append_, run_underlying Tryd.underlying22, sizeOf, typeInfo, hi_, Builtin.lenOf, Builtin.firstCells]
    · simp [Builtin.append_, run_underlying Tryd.underlying22, sizeOf, typeInfo, hi_, Builtin.lenOf, Builtin.firstCells, loadCells, hc, storeCells]
  | some ad =>
    have hnews : ∀ j u, (ys.map rowV)[j]? = some u → w.cell? (ad.add j) = some u := fun j u hu => by
      have hlt := (List.getElem?_eq_some_iff.1 hu).1
      obtain ⟨g, o, e, _, hc⟩ := hI.tat (by omega)
      cases e
      have := hc j u hu
      rw [Addr.add_lit]; exact this
    obtain ⟨v', w', hr, h2, h3, _, _⟩ := run_append_own_at (P := Tryd.prog) w base 22 22 23 i0 _ 1 24 Tryd.underlying22 hi_ hz0 hz1 hz2 rfl (by decide) v xs.length (xs.map rowV) hown ad ys.length d (ys.map rowV) (by simp) hnews (by simp [Value.oneCell', rowV]) (by simp only [maxLen]; omega) (by omega) hb
    refine ⟨v', w', hr, ?_, h3⟩
    unfold RowsO
    rw [List.length_append, List.map_append]
    exact h2
theorem wp_appR {w : World} {o : Oper} {a : Act} {K : Act → World → Prop} {Q : Exit → Act → World → Prop} (s x : Operand) (ho : o.op = .call { callee := .builtin .append, args := #[s, x], argTypes := #[22, 22] }) (hty : o.type = 22)
    (base : Nat) (v : Value) (xs ys : List RowD) (b : Option Addr) (d : Nat) (hs : a.eval s = v) (hx : a.eval x = .slice b ys.length d) (hown : RowsO w base xs v) (hI : RowsR w ys b d) (hb : base ≤ w.heap.size) (hl : (xs.length + ys.length) * 24 ≤ 140737488355328)
    (h : ∀ v' w', RowsO w' base (xs ++ ys) v' → w.grownBy w' v.ownBlock → K (a.put o.dst v') w') : o.wp Tryd.prog a w K Q := by
  obtain ⟨v', w', hr, h2, h3⟩ := run_appR w base v xs ys b d hown hI hb hl
  unfold Oper.wp execOp
  simp only [ho, hty, resolve, invoke, builtin, Sem.run_bind, Sem.run_pure, Result.andThen_ok, List.map_toArray, List.map_cons, List.map_nil, hs, hx, hr]
  exact h v' w' h2 h3
theorem wpList_appR {w : World} {ops : Array Oper} {rest : List Oper} {o : Oper} {a : Act} {Q : Exit → Act → World → Prop} (hgd : o.guard = none) (s x : Operand) (ho : o.op = .call { callee := .builtin .append, args := #[s, x], argTypes := #[22, 22] }) (hty : o.type = 22)
    (base : Nat) (v : Value) (xs ys : List RowD) (b : Option Addr) (d : Nat) (hs : a.eval s = v) (hx : a.eval x = .slice b ys.length d) (hown : RowsO w base xs v) (hI : RowsR w ys b d) (hb : base ≤ w.heap.size) (hl : (xs.length + ys.length) * 24 ≤ 140737488355328)
    (h : ∀ v' w', RowsO w' base (xs ++ ys) v' → w.grownBy w' v.ownBlock → wpList Tryd.prog ops Q rest (a.put o.dst v') w') : wpList Tryd.prog ops Q (o :: rest) a w :=
  wpList_plain hgd fun _ hK => wp_appR s x ho hty base v xs ys b d hs hx hown hI hb hl fun v' w' h2 h3 => hK _ _ (h v' w' h2 h3)
theorem more_plain {cls cls' : List (List Int)} {gs gs' r r' : List Int} {k' : Int} (hm : ∀ c ∈ cls', c ∈ cls) (hg : ∀ x ∈ gs', x ∈ gs) (h : RunRel cls gs r (-1)) (h' : RunRel cls' gs' r' k') : k' = -1 ∧ ∀ x ∈ r', x ∈ r := by
  obtain ⟨_, _, hC⟩ := h.inv
  have hc := hC rfl
  exact h'.sub (fun x hx hmay => hc.given x (hg x hx) hmay) (fun c hcc => hc.nf c (hm c hcc)) (fun c hcc => hc.nu c (hm c hcc)) hc.cons
set_option maxRecDepth 100000 in
set_option maxHeartbeats 4000000 in
theorem UnitsMore_c (w : World) (rs : List RowD) (a : Option Addr) (c : Nat) (hR : RowsR w rs a c) (ms : List RowD) (am : Option Addr) (cm : Nat) (hM : RowsR w ms am cm) (gs : List Int) (b : Option Addr) (d : Nat) (hA : IntsR w gs b d) (hs : List Int) (bh : Option Addr) (dh : Nat) (hH : IntsR w hs bh dh) (hlb : rs.length + ms.length + gs.length + hs.length ≤ 1048576) (hG : GC w) :
    Calls Tryd.prog 5 #[.slice a rs.length c, .slice am ms.length cm, .slice b gs.length d, .slice bh hs.length dh] w fun e w' => e = .returned (.bool true) ∧ Below w.heap.size w w' := by
  obtain ⟨cls, hcl⟩ : ∃ cls, rs.map (·.xs) = cls := ⟨_, rfl⟩
  obtain ⟨M, hMs⟩ : ∃ M, rs ++ ms = M := ⟨_, rfl⟩
  obtain ⟨Z, hZs⟩ : ∃ Z, gs ++ hs = Z := ⟨_, rfl⟩
  have HMs := Lib.hid hMs
  have HZs := Lib.hid hZs
  have HLB := Lib.hid hlb
  have HCl := Lib.hid hcl
  have HOkZ : Hid (∀ x ∈ Z, I64 x) := fun x hx => by
    rw [← hZs] at hx
    exact (List.mem_append.1 hx).elim (hA.ok x) (hH.ok x)
  have HR : Hid (∀ V, Below w.heap.size w V → RowsR V rs a c) := fun V hV => hR.below hV
  have HM : Hid (∀ V, Below w.heap.size w V → RowsR V ms am cm) := fun V hV => hM.below hV
  have HA : Hid (∀ V, Below w.heap.size w V → IntsR V gs b d) := fun V hV => hA.below hV
  have HH : Hid (∀ V, Below w.heap.size w V → IntsR V hs bh dh) := fun V hV => hH.below hV
  have HOkM : Hid (∀ V y, Below w.heap.size w V → y ∈ M → IntsR V y.xs y.a y.c) := fun V y hV hy => by
    rw [← hMs] at hy
    exact (List.mem_append.1 hy).elim ((hR.below hV).ok y) ((hM.below hV).ok y)
  have HWk : Hid (∀ V, Below w.heap.size w V → Calls Tryd.prog 11 #[] V fun e w' => e = .returned (.bool true) ∧ Hid (Below w.heap.size w w')) := fun V hV => (wakes_any V (hG.below hV)).mono fun e w' ⟨h1, h2⟩ => ⟨h1, ball hV h2⟩
  have HGr : Hid (∀ V a' c' b' d', RowsR V M a' c' → IntsR V Z b' d' → Calls Tryd.prog 10 #[.slice a' M.length c', .slice b' Z.length d'] V fun e w' => GrP e (SmallG M Z) ∧ V = w') := fun V a' c' b' d' h1 h2 => great_any M a' c' Z b' d' V h1 h2
  have HRn : Hid (∀ V, SmallG M Z → Below w.heap.size w V → Calls Tryd.prog 12 #[.slice a rs.length c, .slice b gs.length d] V fun e w' => ∃ r k a' c', e = .returned (.tuple #[.slice a' r.length c', .int .i64 k]) ∧ Hid (RunRel cls gs r k ∧ IntsR w' r a' c') ∧ Hid (Below V.heap.size V w')) := fun V hS hV => by
    have h1 : rs.length ≤ M.length := by rw [← hMs]; simp
    have h2 : gs.length ≤ Z.length := by rw [← hZs]; simp
    exact (Run_any rs a c gs b d cls V hcl (hG.below hV) (hR.below hV) (hA.below hV) (by have := hS.1.1; omega) (by rw [← hcl]; have := flat_sum (rs := rs) (fun y hy => hS.1.2 y (by rw [← hMs]; simp [hy])); have := hS.1.1; omega) (by have := hS.2.1; omega)).mono fun e w' ⟨r, k, a', c', h0, h1, h2, h3⟩ => ⟨r, k, a', c', h0, ⟨h1, h2⟩, h3⟩
  have HRm : Hid (∀ V a' c' b' d', SmallG M Z → Below w.heap.size w V → RowsR V M a' c' → IntsR V Z b' d' → Calls Tryd.prog 12 #[.slice a' M.length c', .slice b' Z.length d'] V fun e w' => ∃ r k a' c', e = .returned (.tuple #[.slice a' r.length c', .int .i64 k]) ∧ Hid (RunRel (M.map (·.xs)) Z r k ∧ IntsR w' r a' c') ∧ Hid (Below V.heap.size V w')) := fun V a' c' b' d' hS hV h1 h2 =>
    (Run_any M a' c' Z b' d' _ V rfl (hG.below hV) h1 h2 (by have := hS.1.1; omega) (by have := flat_sum hS.1.2; have := hS.1.1; omega) (by have := hS.2.1; omega)).mono fun e w' ⟨r, k, a', c', h0, h1, h2, h3⟩ => ⟨r, k, a', c', h0, ⟨h1, h2⟩, h3⟩
  have HB0 : Hid (Below w.heap.size w w) := Below.refl _ _
  have l0 : rs.length ≤ c := hR.le
  clear hR hM hA hH hG hcl hMs hZs hlb l0
  go_enter Tryd.func5, Tryd.ntmps5
  have hrop := rows_zero w
  have hRap : RowsR (w.alloc (.cells #[] 23)) rs a c := HR.out _ (HB0.out.alloc HB0.out.size _)
  go_wp2_with (first
    | (at_builtin; refine wpList_appR rfl _ _ rfl rfl w.heap.size _ [] rs a c (by rfl) (by rfl) hrop hRap (by simp) (by have := HLB.out; first | omega | (simp; omega)) ?_; intro v1p w1p ho1p hg1p; rw [List.nil_append] at ho1p; have HB1p : Hid (Below w.heap.size w w1p) := ((Below.refl _ w).alloc (Nat.le_refl _) (.cells #[] 23)).grown hg1p (by simp) (fun k e => by cases e; exact Nat.le_refl _); obtain ⟨a1p, c1p, rfl, le1p, cm1p, _⟩ := own_at ho1p; have HO1p : Hid (RowsO w1p w.heap.size rs (.slice a1p rs.length c1p)) := ho1p; have hRmp : RowsR w1p ms am cm := HM.out _ (ball HB0.out HB1p.out); clear ho1p hg1p hrop hRap)
    | (at_builtin; refine wpList_appR rfl _ _ rfl rfl w.heap.size _ rs ms am cm (by rfl) (by rfl) HO1p.out hRmp HB1p.out.size (by have := HLB.out; first | omega | (simp; omega)) ?_; intro v2p w2p ho2p hg2p; rw [HMs.out] at ho2p; have HB2p : Hid (Below w.heap.size w w2p) := HB1p.out.grown hg2p HB1p.out.size (fun k e => (own_lt HO1p.out e).1); obtain ⟨a2p, c2p, rfl, le2p, cm2p, _⟩ := own_at ho2p; have HO2p : Hid (RowsO w2p w.heap.size M (.slice a2p M.length c2p)) := ho2p; have hro2p := row_zero w2p; have hAip : IntsR (w2p.alloc (.cells #[] 3)) gs b d := HA.out _ ((ball HB0.out HB2p.out).alloc (ball HB0.out HB2p.out).size _); clear ho2p hg2p hRmp HO1p)
    | (at_builtin; refine wpList_appB rfl _ _ rfl rfl w2p.heap.size _ [] gs b d (by rfl) (by rfl) hro2p hAip (by simp) (by have := HLB.out; first | omega | (simp; omega)) ?_; intro v3p w3p ho3p hg3p; rw [List.nil_append] at ho3p; have HB3p : Hid (Below w2p.heap.size w2p w3p) := ((Below.refl _ w2p).alloc (Nat.le_refl _) (.cells #[] 3)).grown hg3p (by simp) (fun k e => by cases e; exact Nat.le_refl _); obtain ⟨a3p, c3p, rfl, le3p, cm3p, _⟩ := own_at ho3p; have HO3p : Hid (RowO w3p w2p.heap.size gs (.slice a3p gs.length c3p)) := ho3p; have hAhp : IntsR w3p hs bh dh := HH.out _ (ball (ball HB0.out HB2p.out) HB3p.out); clear ho3p hg3p hro2p hAip)
    | (at_builtin; refine wpList_appB rfl _ _ rfl rfl w2p.heap.size _ gs hs bh dh (by rfl) (by rfl) HO3p.out hAhp HB3p.out.size (by have := HLB.out; first | omega | (simp; omega)) ?_; intro v4p w4p ho4p hg4p; rw [HZs.out] at ho4p; have HB4p : Hid (Below w2p.heap.size w2p w4p) := HB3p.out.grown hg4p HB3p.out.size (fun k e => (own_lt HO3p.out e).1); obtain ⟨a4p, c4p, rfl, hi4p⟩ := ho4p.ints HOkZ.out; have HI4p := Lib.hid hi4p; clear ho4p hg4p hAhp HO3p hi4p))
  have HW4p : Hid (Below w.heap.size w w4p) := ball (ball HB0.out HB2p.out) HB4p.out
  have HRMp : Hid (RowsR w4p M a2p c2p) := RowsO.rows (own_heap HO2p.out (fun g _ hg => HB4p.out.block g hg)) (fun y hy => HOkM.out w4p y HW4p.out hy)
  have HG4 := Lib.hid (HGr.out w4p a2p c2p a4p c4p HRMp.out HI4p.out)
  with_reducible refine HG4.out.mono ?_
  rintro e w5 ⟨⟨q, rfl, hq⟩, rfl⟩
  cases q with
  | true =>
    clear hq
    go_wp2_with (first | (go_at_call 11; with_reducible refine (HWk.out _ HW4p.out).mono ?_; rintro e wz ⟨rfl, HBz⟩))
    go_ret
    exact ⟨rfl, HBz.out⟩
  | false =>
    have HS : Hid (SmallG M Z) := hq rfl
    have HRn1 := Lib.hid (HRn.out w4p HS.out HW4p.out)
    clear hq HG4 le1p cm1p le2p cm2p le3p cm3p
    go_wp2_with fail
    with_reducible refine HRn1.out.mono ?_
    rintro e w5 ⟨r, k, a5, c5, rfl, HX, HB5⟩
    have HW5 : Hid (Below w.heap.size w w5) := ball HW4p.out HB5.out
    clear HRn1
    have hroq := rows_zero w5
    have hRaq : RowsR (w5.alloc (.cells #[] 23)) rs a c := HR.out _ (HW5.out.alloc HW5.out.size _)
    go_wp2_with (first
      | (at_builtin; refine wpList_appR rfl _ _ rfl rfl w5.heap.size _ [] rs a c (by rfl) (by rfl) hroq hRaq (by simp) (by have := HLB.out; first | omega | (simp; omega)) ?_; intro v1q w1q ho1q hg1q; rw [List.nil_append] at ho1q; have HB1q : Hid (Below w5.heap.size w5 w1q) := ((Below.refl _ w5).alloc (Nat.le_refl _) (.cells #[] 23)).grown hg1q (by simp) (fun k e => by cases e; exact Nat.le_refl _); obtain ⟨a1q, c1q, rfl, le1q, cm1q, _⟩ := own_at ho1q; have HO1q : Hid (RowsO w1q w5.heap.size rs (.slice a1q rs.length c1q)) := ho1q; have hRmq : RowsR w1q ms am cm := HM.out _ (ball HW5.out HB1q.out); clear ho1q hg1q hroq hRaq)
      | (at_builtin; refine wpList_appR rfl _ _ rfl rfl w5.heap.size _ rs ms am cm (by rfl) (by rfl) HO1q.out hRmq HB1q.out.size (by have := HLB.out; first | omega | (simp; omega)) ?_; intro v2q w2q ho2q hg2q; rw [HMs.out] at ho2q; have HB2q : Hid (Below w5.heap.size w5 w2q) := HB1q.out.grown hg2q HB1q.out.size (fun k e => (own_lt HO1q.out e).1); obtain ⟨a2q, c2q, rfl, le2q, cm2q, _⟩ := own_at ho2q; have HO2q : Hid (RowsO w2q w5.heap.size M (.slice a2q M.length c2q)) := ho2q; have hro2q := row_zero w2q; have hAiq : IntsR (w2q.alloc (.cells #[] 3)) gs b d := HA.out _ ((ball HW5.out HB2q.out).alloc (ball HW5.out HB2q.out).size _); clear ho2q hg2q hRmq HO1q)
      | (at_builtin; refine wpList_appB rfl _ _ rfl rfl w2q.heap.size _ [] gs b d (by rfl) (by rfl) hro2q hAiq (by simp) (by have := HLB.out; first | omega | (simp; omega)) ?_; intro v3q w3q ho3q hg3q; rw [List.nil_append] at ho3q; have HB3q : Hid (Below w2q.heap.size w2q w3q) := ((Below.refl _ w2q).alloc (Nat.le_refl _) (.cells #[] 3)).grown hg3q (by simp) (fun k e => by cases e; exact Nat.le_refl _); obtain ⟨a3q, c3q, rfl, le3q, cm3q, _⟩ := own_at ho3q; have HO3q : Hid (RowO w3q w2q.heap.size gs (.slice a3q gs.length c3q)) := ho3q; have hAhq : IntsR w3q hs bh dh := HH.out _ (ball (ball HW5.out HB2q.out) HB3q.out); clear ho3q hg3q hro2q hAiq)
      | (at_builtin; refine wpList_appB rfl _ _ rfl rfl w2q.heap.size _ gs hs bh dh (by rfl) (by rfl) HO3q.out hAhq HB3q.out.size (by have := HLB.out; first | omega | (simp; omega)) ?_; intro v4q w4q ho4q hg4q; rw [HZs.out] at ho4q; have HB4q : Hid (Below w2q.heap.size w2q w4q) := HB3q.out.grown hg4q HB3q.out.size (fun k e => (own_lt HO3q.out e).1); obtain ⟨a4q, c4q, rfl, hi4q⟩ := ho4q.ints HOkZ.out; have HI4q := Lib.hid hi4q; clear ho4q hg4q hAhq HO3q hi4q))
    have HW4q : Hid (Below w.heap.size w w4q) := ball (ball HW5.out HB2q.out) HB4q.out
    have HRMq : Hid (RowsR w4q M a2q c2q) := RowsO.rows (own_heap HO2q.out (fun g _ hg => HB4q.out.block g hg)) (fun y hy => HOkM.out w4q y HW4q.out hy)
    have HRm1 := Lib.hid (HRm.out w4q a2q c2q a4q c4q HS.out HW4q.out HRMq.out HI4q.out)
    clear le1q cm1q le2q cm2q le3q cm3q
    with_reducible refine HRm1.out.mono ?_
    rintro e w6 ⟨r', n, a6, c6, rfl, HX6, HB6⟩
    have HW6 : Hid (Below w.heap.size w w6) := ball HW4q.out HB6.out
    clear HRm1
    by_cases hn : n = -1
    · subst hn
      have HP := Lib.hid (more_plain (fun cc hc => by
        rw [← HCl.out] at hc
        rw [← HMs.out, List.map_append, List.mem_append]
        exact .inl hc) (fun x hx => by rw [← HZs.out]; simp [hx]) HX6.out.1 HX.out.1)
      obtain ⟨hk, _⟩ := HP.out
      subst hk
      have HV := Lib.hid (Values_any r' a6 c6 w6 HX6.out.2)
      rw [psV_self HX6.out.1.inv.1] at HV
      obtain ⟨L, hL⟩ : ∃ L, vL r' = L := ⟨_, rfl⟩
      have HL := Lib.hid hL
      rw [hL] at HV
      clear hL
      go_wp2_with fail
      with_reducible refine HV.out.mono ?_
      rintro e w7 ⟨a7, c7, rfl, HX7⟩
      have HW7 : Hid (Below w.heap.size w w7) := ball HW6.out HX7.out.2
      have HB57 : Hid (Below w5.heap.size w5 w7) := ball (ball (ball HB2q.out HB4q.out) HB6.out) HX7.out.2
      have HI7 : Hid (IntsR w7 r a5 c5) := HX.out.2.below HB57.out
      have HVl : Hid (∀ x, x ∈ r' → Calls Tryd.prog 21 #[.slice a7 L.length c7, .int .i64 x] w7 fun e w' => e = .returned (.int .i8 1) ∧ w7 = w') := fun x hx => by
        have hv : ValR w7 L a7 c7 := by
          have h1 := HX7.out.1
          have h2 := HL.out
          subst h2
          exact h1.val
        have hm := HX6.out.1.inv.1.may x hx
        refine RVal_any L a7 c7 x 1 w7 hv (by have := mayU_iff.1 hm; exact ⟨by omega, by omega⟩) ?_
        rw [← HL.out, valM_vL hm HX6.out.1.inv.1.cons, val_mem hm hx]
      have l4 : r.length ≤ c5 := HI7.out.le
      have c4 : r.length ≤ 9223372036854775807 := by have := HI7.out.cap; simp only [maxLen] at this; omega
      go_wp2_with fail
      go_loopw [14] (fun iv wr => ∃ i : Nat, i ≤ r.length ∧ iv = .int .i64 i ∧ wr = w7) (fun iv _ => r.length - (intOf iv).toNat)
      case atStart => exact ⟨0, Nat.zero_le _, rfl, rfl⟩
      case round =>
        obtain ⟨i, hil, rfl, rfl⟩ := hrel
        by_cases hlt : i < r.length
        · obtain ⟨x, hx⟩ : ∃ x, r[i]? = some x := ⟨_, List.getElem?_eq_getElem hlt⟩
          obtain ⟨g, o, rfl, hg, q0⟩ := HI7.out.cell hx
          have HVx := Lib.hid (HVl.out x (HP.out.2 x (List.mem_of_getElem? hx)))
          clear hx
          go_wp2_with fail
          with_reducible refine HVx.out.mono ?_
          rintro e wv ⟨rfl, rfl⟩
          go_wp2_with fail
          go_roundw
          case rel => exact ⟨i + 1, by omega, by go_num, trivial⟩
          case measure => simp [intOf]; omega
        · obtain rfl : i = r.length := by omega
          go_wp2_with (first | (go_at_call 11; with_reducible refine (HWk.out _ HW7.out).mono ?_; rintro e wz ⟨rfl, HBz⟩))
          go_ret
          exact ⟨rfl, HBz.out⟩
    · have d1 : (n != -1) = true := ne_t hn
      clear hn
      go_wp2_with (first | (go_at_call 11; with_reducible refine (HWk.out _ HW6.out).mono ?_; rintro e wz ⟨rfl, HBz⟩))
      go_ret
      exact ⟨rfl, HBz.out⟩
end Go.Proofs.YtggighikemhnfaaDoor.Tm
