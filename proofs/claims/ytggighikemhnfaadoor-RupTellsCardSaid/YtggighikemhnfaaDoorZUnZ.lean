/- Run. -/
import Derived.Test.YtggighikemhnfaaDoorZUnX
import Derived.Laws.Tables
import Derived.WalkMore
namespace Go.Proofs.YtggighikemhnfaaDoor.Tm
open Go.RowKit
set_option linter.unusedVariables false
structure UnitO (W0 w' : World) (b : Nat) (s : USt) (ps : List Int) (rb n rc : Nat) (lv : Value) (t : Nat) (y : Int) : Prop where
  mem : t ∈ s.q
  min : ∀ u ∈ s.q, t ≤ u
  row : ∃ r, s.rows[t / 2]? = some r ∧ wat r (t % 2) = y
  run : LookR W0 w' b { s with q := s.q.erase t } ps (.slice (some ⟨rb, 0, none⟩) n rc) lv
set_option maxRecDepth 100000 in
set_option maxHeartbeats 4000000 in
theorem unit_none {W0 : World} {b : Nat} {s : USt} {ps : List Int} {rb n rc : Nat} {lv : Value} (w : World) (h : LookR W0 w b s ps (.slice (some ⟨rb, 0, none⟩) n rc) lv) (hq : s.q = []) :
    Calls Tryd.prog 38 #[.pointer (some ⟨b, 0, none⟩)] w fun e w' => e = .returned (.tuple #[.int .i64 (-1), .bool false]) ∧ w = w' := by
  obtain ⟨pg, qv, xs, L, hX⟩ := h
  obtain ⟨_, b1, _, _, blt, bfz⟩ := hX.box.cells
  have hL : L.length = 0 := by rw [qu_len hX.qu, hq]; rfl
  obtain ⟨qa, qc, hqv, _, _, _⟩ := own_at hX.qu.row
  rw [hL] at hqv
  subst hqv
  have HL : Hid (Calls Tryd.prog 59 #[.slice qa 0 qc] w fun e w' => e = .returned (.int .i64 0) ∧ w = w') := ILen_any qa 0 qc w
  clear hX hL bfz hq
  go_enter Tryd.func38, Tryd.ntmps38
  go_wp2_with (first | (go_at_call 59; with_reducible refine HL.out.mono ?_; rintro e w1 ⟨rfl, rfl⟩))
  go_ret2
  exact ⟨rfl, rfl⟩
set_option maxRecDepth 100000 in
set_option maxHeartbeats 4000000 in
theorem unit_some {W0 : World} {b : Nat} {s : USt} {ps : List Int} {rb n rc : Nat} {lv : Value} (w : World) (h : LookR W0 w b s ps (.slice (some ⟨rb, 0, none⟩) n rc) lv) (hq : s.q ≠ []) (hb : ∀ t ∈ s.q, t / 2 < s.rows.length) (hn : s.rows.length ≤ 2000) (hql : s.q.length ≤ 2000) :
    Calls Tryd.prog 38 #[.pointer (some ⟨b, 0, none⟩)] w fun e w' => ∃ t y, e = .returned (.tuple #[.int .i64 y, .bool true]) ∧ UnitO W0 w' b s ps rb n rc lv t y := by
  obtain ⟨pg, qv, xs, L, hX⟩ := h
  obtain ⟨_, b1, _, _, blt, bfz⟩ := hX.box.cells
  have hLl := qu_len hX.qu
  obtain ⟨m, hm⟩ : ∃ m, m + 1 = L.length := ⟨L.length - 1, by have : 0 < s.q.length := List.length_pos_iff.2 hq; omega⟩
  obtain ⟨g, cap, hqv⟩ : ∃ g cap, qv = .slice (some ⟨g, 0, none⟩) L.length cap := by
    rcases hX.qu.row.2 with ⟨_, e⟩ | ⟨g, cap, cur, e, _⟩
    · omega
    · exact ⟨g, cap, e⟩
  subst hqv
  have hne := (hX.qv_ne (g := g) rfl).1
  have hlen0 : ((L.length : Int) == 0) = false := eq_f (by omega)
  have HL : Hid (Calls Tryd.prog 59 #[.slice (some ⟨g, 0, none⟩) L.length cap] w fun e w' => e = .returned (.int .i64 L.length) ∧ w = w') := ILen_any _ _ _ w
  have HP : Hid (Calls Tryd.prog 60 #[.iface 84 (.pointer (some ⟨b, 1026, none⟩))] w fun e w' => ∃ (t : Nat) (L' : List Int), e = .returned (.iface 3 (.int .i64 (t : Int))) ∧ Hid (t ∈ s.q ∧ (∀ u ∈ s.q, t ≤ u) ∧ RunX W0 w' b { s with q := s.q.erase t } ps pg (.slice (some ⟨rb, 0, none⟩) n rc) (.slice (some ⟨g, 0, none⟩) L'.length cap) lv xs L')) := by
    refine (hPop_any W0.heap.size b g cap m pg _ lv s.conf s.q L w hX.box hX.qu (fun e => hne e.symm) hm (by omega)).mono ?_
    rintro e w' ⟨t, L', rfl, hO⟩
    exact ⟨t, L', rfl, hO.mem, hO.min, hX.pop hO⟩
  have HB : Hid ((∀ t ∈ s.q, t / 2 < s.rows.length) ∧ s.rows.length ≤ 2000) := ⟨hb, hn⟩
  have hTA : ∀ (W : World) (x : Int), Sem.run Tryd.prog (Instr.typeAssert (.iface 3 (.int .i64 x)) 20 3 false) W = .ok (.int .i64 x) W := fun W x => by kernel_rfl
  have hnr : s.rows.length = xs.length := by rw [← hX.rws, List.length_map]
  have HNr := Lib.hid hnr
  clear hX hLl hq hb hn hql hne hm bfz hnr
  go_enter Tryd.func38, Tryd.ntmps38
  go_wp2_with (first | (go_at_call 59; with_reducible refine HL.out.mono ?_; rintro e w1 ⟨rfl, rfl⟩))
  with_reducible refine HP.out.mono ?_
  rintro e w1 ⟨t, L', rfl, HX⟩
  obtain ⟨h1, h2, hX⟩ := HX.out
  have htl := HB.out.1 t h1
  have hr2 := HB.out.2
  obtain ⟨x, hx⟩ := hX.getRow (k := t / 2) htl
  obtain ⟨mm, hmm⟩ : ∃ mm, t / 2 = mm := ⟨_, rfl⟩
  rw [hmm] at hx htl
  obtain ⟨b0, _, _, _, blt1, _⟩ := hX.box.cells
  obtain ⟨r0, r1, r2, r3, r4, rlt, _⟩ := hX.rowAt hx
  have hmn : (mm : Int) < (n : Int) := by
    obtain ⟨a, c, e, h1, _⟩ := own_at hX.rows
    cases e
    have := (List.getElem?_eq_some_iff.1 hx).1
    omega
  have hnc : n ≤ 9223372036854775807 := by
    obtain ⟨a, c, e, h1, h2, _⟩ := own_at hX.rows
    cases e
    simp only [maxLen] at h2
    omega
  have hth : ((t : Nat) : Int) / 2 = (mm : Int) := by omega
  have htb : (t : Int) ≤ 5000 := by omega
  have HO : Hid (∀ y, wat x.r (t % 2) = y → UnitO W0 w1 b s ps rb n rc lv t y) := fun y hy => ⟨h1, h2, ⟨x.r, by rw [hmm]; exact hX.rowOf hx, hy⟩, _, _, _, _, hX⟩
  clear hX h1 h2 htl hx HX hr2
  rcases (by omega : t % 2 = 0 ∨ t % 2 = 1) with hp | hp
  · have hta : bits .and .i64 (t : Int) 1 = 0 := by rw [i64_and1 _ ⟨by omega, by omega⟩]; omega
    have HE := Lib.hid (HO.out x.r.w0 (by rw [hp]; rfl))
    clear hp hmm HO
    go_wp2
    go_ret2
    exact ⟨t, x.r.w0, rfl, HE.out⟩
  · have hta : bits .and .i64 (t : Int) 1 = 1 := by rw [i64_and1 _ ⟨by omega, by omega⟩]; omega
    have HE := Lib.hid (HO.out x.r.w1 (by rw [hp]; rfl))
    clear hp hmm HO
    go_wp2
    go_ret2
    exact ⟨t, x.r.w1, rfl, HE.out⟩
end Go.Proofs.YtggighikemhnfaaDoor.Tm
namespace Go.Proofs.YtggighikemhnfaaDoor.Tm
open Go.RowKit
set_option linter.unusedVariables false
theorem run0 {w : World} (hG : GC w) : LookR w (w.alloc (.cells (runC (fun _ => none) nilV nilV nilV (-1)) 54)) w.heap.size (stG []) [] nilV nilV := by
  have hown : ∀ (E : TypeId) (sz : Nat), (w.alloc (.cells (runC (fun _ => none) nilV nilV nilV (-1)) 54)).ownsRow w.heap.size E sz nilV 0 [] := fun E sz => ⟨by simp, .inl ⟨rfl, rfl⟩⟩
  exact ⟨fun _ => none, nilV, [], [], ⟨(Below.refl _ w).alloc (Nat.le_refl _) _, Nat.le_refl _, hG, heap_alloc_new w _, fun k g h => (by cases h), fun k k' g h => (by cases h), fun k _ => ⟨fun _ _ _ => rfl, fun x hx => (by cases hx)⟩, hown _ _, rfl, fun x hx => (by cases hx), ⟨hown _ _, fun i _ h => (by simp at h), List.Perm.refl _⟩, hown _ _, fun g h => (by cases h), fun x hx => (by cases hx), fun x hx => (by cases hx)⟩⟩
theorem giveM_len : ∀ (gs ps : List Int), (giveM ps gs).1.length ≤ ps.length + gs.length
  | [], ps => by simp [giveM]
  | x :: g, ps => by
    unfold giveM
    split
    · split
      · have := giveM_len g (ps ++ [x]); simp at this ⊢; omega
      · split
        · simp
        · have := giveM_len g ps; simp at this ⊢; omega
    · have := giveM_len g ps; simp at this ⊢; omega
theorem opens_le (cls : List (List Int)) (ps : List Int) : opens cls ps ≤ cls.flatten.length := List.length_filter_le _ _
theorem LookR.ints {W0 w : World} {b : Nat} {s : USt} {rv lv : Value} (h : LookR W0 w b s s.ps rv lv) : ∃ a c, lv = .slice a s.ps.length c ∧ IntsR w s.ps a c ∧ w.cell? ⟨b, 1027, none⟩ = some lv ∧ w.cell? ⟨b, 1028, none⟩ = some (.int .i64 s.conf) ∧ b < w.heap.size ∧ Below W0.heap.size W0 w := by
  obtain ⟨pg, qv, xs, L, hX⟩ := h
  obtain ⟨a, c, e, hI⟩ := hX.lits.ints (fun x hx => by have := mayU_iff.1 (hX.may x hx); exact ⟨by omega, by omega⟩)
  exact ⟨a, c, e, hI, hX.box.cells.2.2.1, hX.box.cells.2.2.2.1, hX.box.cells.2.2.2.2.1, hX.bel⟩
def RunO (w w' : World) (cls : List (List Int)) (gs : List Int) (e : Ending) : Prop := ∃ (r : List Int) (k : Int) (a : Option Addr) (c : Nat), e = .returned (.tuple #[.slice a r.length c, .int .i64 k]) ∧ RunRel cls gs r k ∧ IntsR w' r a c ∧ Below w.heap.size w w'
structure LoR (W0 w : World) (b : Nat) (cls : List (List Int)) (n : Nat) (ps0 : List Int) (rb rc : Nat) (lv : Value) (s : USt) : Prop where
  st : StR W0 w b cls n s.ps rb n rc lv s
  len : n = cls.length
  cnt : s.ps.length + opens cls s.ps ≤ 700000
  back : ∀ r e, RunsD cls s.ps r e → RunsD cls ps0 r e
def mes (cls : List (List Int)) (s : USt) : Nat := opens cls s.ps * (cls.length + 1) + s.q.length
set_option maxRecDepth 100000 in
set_option maxHeartbeats 8000000 in
theorem Run_any (rs : List RowD) (a : Option Addr) (c : Nat) (gs : List Int) (a2 : Option Addr) (c2 : Nat) (cls : List (List Int)) (w : World) (hcl : rs.map (·.xs) = cls) (hG : GC w) (hR : RowsR w rs a c) (hA : IntsR w gs a2 c2) (hl : rs.length ≤ 1000) (hf : cls.flatten.length ≤ 600000) (hgl : gs.length ≤ 10000) :
    Calls Tryd.prog 12 #[.slice a rs.length c, .slice a2 gs.length c2] w fun e w' => RunO w w' cls gs e := by
  have h0 := run0 hG
  have hzc : Tryd.zeroCells54.setIfInBounds 1028 (.int .i64 (-1)) = runC (fun _ => none) nilV nilV nilV (-1) := by kernel_rfl
  rw [← hzc] at h0
  have hcn : cls.length = rs.length := by rw [← hcl, List.length_map]
  obtain ⟨⟨ps0, ok⟩, hgv⟩ : ∃ R, giveM [] gs = R := ⟨_, rfl⟩
  have hpl : ps0.length ≤ 10000 := by have := giveM_len gs []; rw [hgv] at this; simp at this; omega
  have HGv : Hid (∀ W lv, LookR w W w.heap.size (stG []) [] nilV lv → Calls Tryd.prog 36 #[.pointer (some ⟨w.heap.size, 0, none⟩), .slice a2 gs.length c2] W fun e w' => e = .returned (.bool ok) ∧ Hid (∃ lv, LookR w w' w.heap.size (stG ps0) ps0 nilV lv)) := fun W lv h => give_any gs a2 c2 (ps0, ok) lv W hA h (by omega) hgv
  have H0 := Lib.hid h0
  have HGR := Lib.hid hgv
  clear h0 hzc
  cases ok with
  | false =>
    have HE : Hid (∀ w1 lv, LookR w w1 w.heap.size (stG ps0) ps0 nilV lv → ∃ a c, lv = .slice a ps0.length c ∧ w1.cell? ⟨w.heap.size, 1027, none⟩ = some lv ∧ w.heap.size < w1.heap.size ∧ Hid (RunO w w1 cls gs (.returned (.tuple #[.slice a ps0.length c, .int .i64 (-2)])))) := fun w1 lv h => by
      obtain ⟨a, c, e, hI, h1, _, h3, h4⟩ := h.ints (s := stG ps0)
      exact ⟨a, c, e, h1, h3, ps0, -2, a, c, rfl, .inl ⟨by rw [HGR.out], by rw [HGR.out], rfl⟩, hI, h4⟩
    clear hgv hG hR hA hcl hcn
    go_enter Tryd.func12, Tryd.ntmps12
    go_wp2_with fail
    go_step3
    go_wp2_with fail
    with_reducible refine (HGv.out _ _ H0.out).mono ?_
    rintro e w1 ⟨rfl, HX⟩
    obtain ⟨lv, hX⟩ := HX.out
    obtain ⟨a1, c1, rfl, hc, hlt, HR⟩ := HE.out w1 lv hX
    clear hX
    go_wp2_with fail
    rw [Exit.noGoto_ret]
    go_ret2
    exact HR.out
  | true =>
    have HSt : Hid (∀ W, (∃ lv, LookR w W w.heap.size (stG ps0) ps0 nilV lv) → Calls Tryd.prog 37 #[.pointer (some ⟨w.heap.size, 0, none⟩), .slice a rs.length c] W fun e w' => e = .returned (.tuple #[]) ∧ Hid (∃ lv rb s, LoR w w' w.heap.size cls rs.length ps0 rb rs.length lv s)) := fun W ⟨lv, h⟩ => by
      refine (start_any rs a c cls W hcl hR h (by omega)).mono ?_
      rintro e w' ⟨rfl, rb, s, hS⟩
      refine ⟨rfl, lv, rb, s, ?_, hcn.symm, ?_, ?_⟩
      · have := hS
        rw [← hS.eqps] at this
        exact this
      · rw [hS.eqps]
        have := opens_le cls ps0
        omega
      · rw [hS.eqps]
        exact fun r e h => h
    have HEnd : Hid (∀ w1 lv rb s, LoR w w1 w.heap.size cls rs.length ps0 rb rs.length lv s → RunsD cls s.ps s.ps s.conf → ∃ a c, lv = .slice a s.ps.length c ∧ w1.cell? ⟨w.heap.size, 1027, none⟩ = some lv ∧ Hid (∀ q, RunO w (w1.drewN q) cls gs (.returned (.tuple #[.slice a s.ps.length c, .int .i64 s.conf])))) := fun w1 lv rb s h hD => by
      obtain ⟨a, c, e, hI, h1, _, _, h4⟩ := h.st.mem.ints
      exact ⟨a, c, e, h1, fun q => ⟨s.ps, s.conf, a, c, rfl, .inr ⟨by rw [HGR.out], by rw [HGR.out]; exact h.back _ _ hD⟩, hI.below (below_drewN (Below.refl _ _)), below_drewN h4⟩⟩
    have HN : Hid (rs.length ≤ 1000 ∧ cls.length = rs.length) := ⟨hl, hcn⟩
    clear hgv hG hR hA hcl hcn
    go_enter Tryd.func12, Tryd.ntmps12
    go_wp2_with fail
    go_step3
    go_wp2_with fail
    with_reducible refine (HGv.out _ _ H0.out).mono ?_
    rintro e w1 ⟨rfl, HX⟩
    have HS1 := Lib.hid (HSt.out w1 HX.out)
    go_wp2_with fail
    with_reducible refine HS1.out.mono ?_
    rintro e w2 ⟨rfl, HL⟩
    obtain ⟨lvS, rbS, sS, hLS⟩ := HL.out
    have HLS : Hid (∃ lv rb s, mes cls sS = mes cls s ∧ LoR w w2 w.heap.size cls rs.length ps0 rb rs.length lv s) := ⟨_, _, _, rfl, hLS⟩
    obtain ⟨N0, hN0⟩ : ∃ N0, mes cls sS = N0 := ⟨_, rfl⟩
    rw [hN0] at HLS
    clear hLS hN0 HL HX HS1
    go_wp2_with fail
    go_step3
    go_wp2_with fail
    go_loopg [7] N0 (fun N x wr => ∃ u : Unit, Hid (∃ lv rb s, N = mes cls s ∧ LoR w wr w.heap.size cls rs.length ps0 rb rs.length lv s))
    case atStart => exact ⟨(), HLS⟩
    case round =>
      clear HLS
      obtain ⟨_, HL⟩ := hrel
      obtain ⟨lv, rb, s, hN, hL⟩ := HL.out
      obtain ⟨al, cl, hlv, hI, k1, k2, klt, kbel⟩ := hL.st.mem.ints
      by_cases hcf : s.conf = -1
      · by_cases hq : s.q = []
        · have c1 : (s.conf == -1) = true := eq_t hcf
          have HU : Hid (Calls Tryd.prog 38 #[.pointer (some ⟨w.heap.size, 0, none⟩)] wr fun e w' => e = .returned (.tuple #[.int .i64 (-1), .bool false]) ∧ wr = w') := unit_none wr hL.st.mem hq
          have hD : RunsD cls s.ps s.ps s.conf := by
            have hi := hL.st.inv
            rw [hL.len] at hi
            rw [hcf]
            exact hi.done_none hcf hq
          obtain ⟨a3, c3, e3, h1, hE⟩ := HEnd.out wr lv rb s hL hD
          have HE := Lib.hid hE
          clear hcf hq hL hI hN HL hD hE hlv
          subst e3
          go_wp2_with (first | (go_at_call 38; with_reducible refine HU.out.mono ?_; rintro e w3 ⟨rfl, rfl⟩))
          go_quiet (fail)
          go_wp2_with fail
          rw [Exit.noGoto_ret]
          go_ret2
          exact HE.out _
        · have c1 : (s.conf == -1) = true := eq_t hcf
          have hi : Inv cls cls.length [] s := by have hi := hL.st.inv; rw [hL.len] at hi; exact hi
          have hlr : s.rows.length = cls.length := hi.len
          have hn2 := HN.out
          have hql := hi.q_len
          have HU : Hid (Calls Tryd.prog 38 #[.pointer (some ⟨w.heap.size, 0, none⟩)] wr fun e w' => ∃ t y, e = .returned (.tuple #[.int .i64 y, .bool true]) ∧ UnitO w w' w.heap.size s s.ps rb rs.length rs.length lv t y) := unit_some wr hL.st.mem hq (fun t ht => by rw [hlr]; exact (hi.q2 t ht).1) (by omega) (by omega)
          have HL2 := Lib.hid (And.intro hL (And.intro hcf (And.intro hi hN)))
          clear hcf hq hL hI hN HL hlv hi hlr hql
          go_wp2_with (first | (go_at_call 38; with_reducible refine HU.out.mono ?_; rintro e w3 ⟨t, y, rfl, hO⟩))
          obtain ⟨hL, hcf, hi, hN⟩ := HL2.out
          obtain ⟨r, hr, hy⟩ := hO.row
          obtain ⟨r', cc, s1, s2, s3, s4⟩ := hi.slot hcf hO.mem
          rw [hr] at s1
          cases s1
          rw [hy] at s3 s4
          have hm := mayU_iff.1 s3
          have hyI : I64 y := ⟨by omega, by omega⟩
          have hst : ∀ u ∈ s.q, u ∉ s.q.erase t → u = t := fun u hu hn => nodup_erase hi.q1 hu hn
          by_cases hv : valL s.ps y = 0
          · have HV : Hid (Calls Tryd.prog 39 #[.pointer (some ⟨w.heap.size, 0, none⟩), .int .i64 y] w3 fun e w' => e = .returned (.int .i8 0) ∧ w3 = w') := by
              obtain ⟨pg, qv, xs, L, hX⟩ := hO.run
              exact val_any y 0 w3 hX hyI hv
            obtain ⟨cs, hcs⟩ := hi.chn hv
            have hcl := hcs.len
            have hpi : Inv cls cls.length cs { s with ps := s.ps ++ [y], q := s.q.erase t } := put_inv hi hcf hv hcs List.erase_sublist (fun u hu hnu v hvv => by
              obtain rfl := hst u hu hnu
              rw [hr] at hvv
              cases hvv
              exact hy)
            have hfi := fold_inv hpi hcs.2.1
            have hfp := fold_ps cs { s with ps := s.ps ++ [y], q := s.q.erase t }
            have hfo : OkW (cs.foldl lookM { s with ps := s.ps ++ [y], q := s.q.erase t }) := by
              have : ∀ (cs : List Nat) (s : USt), OkW s → OkW (cs.foldl lookM s) := fun cs => by
                induction cs with
                | nil => exact fun s h => h
                | cons u r ih => exact fun s h => ih _ (look_ok h)
              exact this _ _ hL.st.ok
            have hop := opens_lt s2 (s4.elim (fun h => h.2.1) (fun h => by rw [hv] at h; cases h)) hv
            have hcnt := hL.cnt
            have HP : Hid (Calls Tryd.prog 40 #[.pointer (some ⟨w.heap.size, 0, none⟩), .int .i64 y] w3 fun e w' => e = .returned (.tuple #[]) ∧ Hid (∃ lv rb s', mes cls s' < gk ∧ LoR w w' w.heap.size cls rs.length ps0 rb rs.length lv s')) := by
              obtain ⟨pg, qv, xs, L, hX⟩ := hO.run
              have hqe : (s.q.erase t).length ≤ s.q.length := List.erase_sublist.length_le
              have hql := hi.q_len
              refine (put_any y cs w3 hX hv hcs.1 hcs.2.1 (.inr ⟨rb, rs.length, rs.length, rfl⟩) hL.st.ok (by show (s.q.erase t).length + _ ≤ _; omega) (by show s.rows.length ≤ _; rw [hi.len]; omega) (by show s.ps.length ≤ _; omega)).mono ?_
              rintro e w' ⟨rfl, lv', hM⟩
              obtain ⟨S, hS⟩ : ∃ S, cs.foldl lookM { s with ps := s.ps ++ [y], q := s.q.erase t } = S := ⟨_, rfl⟩
              rw [hS] at hfi hfp hfo
              have hM2 : LookR w w' w.heap.size S (s.ps ++ [y]) (.slice (some ⟨rb, 0, none⟩) rs.length rs.length) lv' := by rw [← hS]; exact hM
              have hSp : S.ps = s.ps ++ [y] := hfp
              have hSq := hfi.q_len
              refine ⟨rfl, lv', rb, S, ?_, ⟨by rw [hL.len]; exact hfi, rfl, hfo, by rw [hSp]; exact hM2⟩, hL.len, ?_, fun r e h => hL.back _ _ (hi.step hcf hO.mem hO.min hr (by rw [hy]; exact hv) (by rw [hy, ← hSp]; exact h))⟩
              · rw [hN]
                unfold mes
                rw [hSp]
                have : (opens cls (s.ps ++ [y]) + 1) * (cls.length + 1) ≤ opens cls s.ps * (cls.length + 1) := Nat.mul_le_mul_right _ hop
                rw [Nat.succ_mul] at this
                omega
              · rw [hSp, List.length_append, List.length_singleton]; omega
            clear hL hcf hi hN hr hy s2 s3 s4 hm hyI hst hv hcs hcl hpi hfi hfp hfo hop hcnt hO HL2
            go_wp2_with (first | (go_at_call 39; with_reducible refine HV.out.mono ?_; rintro e w4 ⟨rfl, rfl⟩))
            with_reducible refine HP.out.mono ?_
            rintro e w5 ⟨rfl, HQ⟩
            obtain ⟨lv5, rb5, s5, hlt5, hL5⟩ := HQ.out
            have H5 : Hid (∃ lv rb s, mes cls s5 = mes cls s ∧ LoR w w5 w.heap.size cls rs.length ps0 rb rs.length lv s) := ⟨_, _, _, rfl, hL5⟩
            clear hL5
            go_wp2
            go_roundg (mes cls s5)
            case measure => exact hlt5
            case rel => exact ⟨(), H5⟩
          · have hv1 : valL s.ps y = 1 := s4.elim (fun h => absurd h.1 hv) id
            have HV : Hid (Calls Tryd.prog 39 #[.pointer (some ⟨w.heap.size, 0, none⟩), .int .i64 y] w3 fun e w' => e = .returned (.int .i8 1) ∧ w3 = w') := by
              obtain ⟨pg, qv, xs, L, hX⟩ := hO.run
              exact val_any y 1 w3 hX hyI hv1
            have hdr := hi.drop hr (by rw [hy]; exact hv1)
            have hlt5 : mes cls { s with q := s.q.erase t } < gk := by
              rw [hN]
              unfold mes
              show opens cls s.ps * _ + (s.q.erase t).length < _
              rw [List.length_erase_of_mem hO.mem]
              have : 0 < s.q.length := List.length_pos_of_mem hO.mem
              omega
            have H5 : Hid (∃ lv rb s', mes cls { s with q := s.q.erase t } = mes cls s' ∧ LoR w w3 w.heap.size cls rs.length ps0 rb rs.length lv s') := ⟨lv, rb, _, rfl, ⟨by rw [hL.len]; exact hdr, rfl, hL.st.ok, hO.run⟩, hL.len, hL.cnt, hL.back⟩
            clear hL hcf hi hN hr hy s2 s3 s4 hm hyI hst hv hv1 hdr hO HL2
            go_wp2_with (first | (go_at_call 39; with_reducible refine HV.out.mono ?_; rintro e w4 ⟨rfl, rfl⟩))
            go_roundg (mes cls { s with q := s.q.erase t })
            case measure => exact hlt5
            case rel => exact ⟨(), H5⟩
      · have c1 : (s.conf == -1) = false := eq_f hcf
        have hD : RunsD cls s.ps s.ps s.conf := by
          have hi := hL.st.inv
          rw [hL.len] at hi
          exact hi.done_conf hcf
        obtain ⟨a3, c3, e3, h1, hE⟩ := HEnd.out wr lv rb s hL hD
        have HE := Lib.hid hE
        clear hcf hL hI hN HL hD hE hlv
        subst e3
        go_wp2_with fail
        go_quiet (fail)
        go_wp2_with fail
        rw [Exit.noGoto_ret]
        go_ret2
        exact HE.out _
end Go.Proofs.YtggighikemhnfaaDoor.Tm
