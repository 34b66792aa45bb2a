/- Package sig's mayMacro. -/
import Derived.Test.YtbddghcdibdloaaGreatDoorSgJ
namespace Go.Proofs.YtbddghcdibdloaaGreatDoor
open Go.RowKit
set_option linter.unusedVariables false
/-- Parameters of unlike names that may be, of sorts that are there. -/
def parsFrom (n : Nat) (ahead : List ParA) : List ParA → Bool
  | [] => true
  | p :: r => (!fndB (ahead.map (·.name)) p.name && (mayNm p.name && thereA n p.sort)) && parsFrom n (ahead ++ [p]) r
theorem parsFrom_append (n : Nat) : ∀ (l m a : List ParA), parsFrom n a (l ++ m) = (parsFrom n a l && parsFrom n (a ++ l) m)
  | [], m, a => by simp [parsFrom]
  | y :: r, m, a => by
    simp only [List.cons_append, parsFrom]
    rw [parsFrom_append n r m]
    simp [Bool.and_assoc]
theorem parsFrom_snoc (n : Nat) (l : List ParA) (p : ParA) : parsFrom n [] (l ++ [p]) = (parsFrom n [] l && (!fndB (l.map (·.name)) p.name && (mayNm p.name && thereA n p.sort))) := by
  rw [parsFrom_append]; simp [parsFrom]
theorem parsFrom_no {n : Nat} {l : List ParA} {k : Nat} (h : parsFrom n [] (l.take k) = false) : parsFrom n [] l = false := by
  have := parsFrom_append n (l.take k) (l.drop k) []
  rw [List.take_append_drop, h] at this
  exact this
def macB (n : Nat) (m : MacA) : Bool := decide (m.params.length ≤ 3) && (thereA n m.res && (parsFrom n [] m.params && mayT m.body))
theorem mayBody (m : MacV) (w : World) (hG : GS w) (hm : MacOk w w.heap.size m) : ∀ V, Below w.heap.size w V → Calls Tryz.prog 78 #[.agg #[.int .i8 m.m.body.kind, .string (bytesL m.m.body.text), .slice m.ba m.m.body.kids.length m.bc]] V fun e w' => ∃ r, e = .returned (.bool r) ∧ (r = true → mayT m.m.body = true) ∧ (SxK w m.m.body (bodyV m) → r = mayT m.m.body) ∧ Below V.heap.size V w' := by
  intro V hV
  by_cases hk : SxK w m.m.body (bodyV m)
  · obtain ⟨bad, h1, h2, h3⟩ := hk.below hV
    refine (May_any m.m.body (bodyV m) V (hG.below hV).g bad h1 h2 h3).mono ?_
    rintro e w' ⟨rfl, hb⟩
    exact ⟨_, rfl, fun h => h, fun _ => rfl, hb⟩
  · have hs : Sx V m.m.body (bodyV m) := hm.body.below hV
    refine (May_mk m.m.body (bodyV m) V (hG.below hV).g (fun b => V.heap.size ≤ b) (fun b hb => by omega) hs).mono ?_
    rintro e w' ⟨⟨r, rfl, hr⟩, hb⟩
    exact ⟨r, rfl, hr, fun h => absurd h hk, hb⟩
set_option maxRecDepth 100000 in
set_option maxHeartbeats 2000000 in
theorem mayMacro_aux (x : SigV) (m : MacV) (pa : Option Addr) (hpa : m.pa = pa) (w : World) (hG : GS w) (hR : SigR w x) (hm : MacOk w w.heap.size m) (hl : x.sorts.length ≤ 100) :
    Calls Tryz.prog 65 #[.agg #[.slice x.sa x.sorts.length x.sc, .slice x.fa x.funs.length x.fc, .slice x.ma x.macs.length x.mc], .agg #[.string m.m.name, .slice pa m.m.params.length m.pc, .int .i64 m.m.res, .int .i8 m.m.body.kind, .string (bytesL m.m.body.text), .slice m.ba m.m.body.kids.length m.bc]] w fun e w' => ∃ r, e = .returned (.bool r) ∧ (r = true → macB x.sorts.length m.m = true) ∧ (SxK w m.m.body (bodyV m) → r = macB x.sorts.length m.m) ∧ Below w.heap.size w w' := by
  have HS : ∀ i q, thereA x.sorts.length i = q → I64 i → Hid (∀ W, Below w.heap.size w W → Calls Tryz.prog 75 #[.agg #[.slice x.sa x.sorts.length x.sc, .slice x.fa x.funs.length x.fc, .slice x.ma x.macs.length x.mc], .int .i64 i] W fun e w' => e = .returned (.bool q) ∧ Below W.heap.size W w') := fun i q h1 h2 W hW => maySort_any x i q W (hG.below hW) (hR.below hW) h1 h2 hl
  have HNm : ∀ s q, mayNm s = q → s.size ≤ maxLen → Hid (∀ W, Below w.heap.size w W → Calls Tryz.prog 73 #[.string s] W fun e w' => e = .returned (.bool q) ∧ Below W.heap.size W w') := fun s q h1 h2 W hW => mayName_is s q W (hG.below hW).g h2 h1
  have HMB := Lib.hid (mayBody m w hG hm)
  have HM := Lib.hid hm
  have hpl : m.m.params.length ≤ 9223372036854775807 := by have := hm.plen; have := hm.pcap; simp only [maxLen] at this; omega
  have hb0 : Below w.heap.size w ((w.alloc (.cells #[.slice x.sa x.sorts.length x.sc, .slice x.fa x.funs.length x.fc, .slice x.ma x.macs.length x.mc] 34)).alloc (.cells #[.string m.m.name, .slice pa m.m.params.length m.pc, .int .i64 m.m.res, .int .i8 m.m.body.kind, .string (bytesL m.m.body.text), .slice m.ba m.m.body.kids.length m.bc] 127)) := ((Below.refl _ _).alloc (Nat.le_refl _) _).alloc (by simp) _
  have HB0 := Lib.hid hb0
  clear hG hR hm hl hb0
  by_cases h0 : 3 < m.m.params.length
  · have e0 : macB x.sorts.length m.m = false := by unfold macB; rw [decide_eq_false (by omega)]; rfl
    clear HS HNm
    go_enter Tryz.func65, Tryz.ntmps65
    go_wp2
    go_ret
    first | exact ⟨rfl, HB0.out⟩ | exact ⟨rfl, fun e => (by cases e), fun _ => e0.symm, HB0.out⟩ | exact ⟨false, rfl, fun e => (by cases e), fun _ => e0.symm, HB0.out⟩
  cases hq : thereA x.sorts.length m.m.res with
  | false =>
    have e0 : macB x.sorts.length m.m = false := by unfold macB; rw [hq]; simp
    have HC := HS _ _ hq HM.out.res
    clear HS HNm hq
    go_enter Tryz.func65, Tryz.ntmps65
    go_wp2_with (go_at_call 75; refine (HC.out _ HB0.out).mono ?_; rintro e w1 ⟨rfl, hb1⟩)
    go_ret
    first | exact ⟨rfl, fun e => (by cases e), fun _ => e0.symm, HB0.out.trans (hb1.mono (by simp; omega))⟩ | exact ⟨false, rfl, fun e => (by cases e), fun _ => e0.symm, HB0.out.trans (hb1.mono (by simp; omega))⟩
  | true =>
    have HC := HS _ _ hq HM.out.res
    have HQ := Lib.hid hq
    clear hq
    have hX0 : ((w.alloc (.cells #[.slice x.sa x.sorts.length x.sc, .slice x.fa x.funs.length x.fc, .slice x.ma x.macs.length x.mc] 34)).alloc (.cells #[.string m.m.name, .slice pa m.m.params.length m.pc, .int .i64 m.m.res, .int .i8 m.m.body.kind, .string (bytesL m.m.body.text), .slice m.ba m.m.body.kids.length m.bc] 127)).heap[w.heap.size]? = some (.cells #[.slice x.sa x.sorts.length x.sc, .slice x.fa x.funs.length x.fc, .slice x.ma x.macs.length x.mc] 34 (0, 0)) := (Below.heap_alloc _ _ _ (by simp)).trans (heap_alloc_new w _)
    have hY0 : ((w.alloc (.cells #[.slice x.sa x.sorts.length x.sc, .slice x.fa x.funs.length x.fc, .slice x.ma x.macs.length x.mc] 34)).alloc (.cells #[.string m.m.name, .slice pa m.m.params.length m.pc, .int .i64 m.m.res, .int .i8 m.m.body.kind, .string (bytesL m.m.body.text), .slice m.ba m.m.body.kids.length m.bc] 127)).heap[w.heap.size + 1]? = some (.cells #[.string m.m.name, .slice pa m.m.params.length m.pc, .int .i64 m.m.res, .int .i8 m.m.body.kind, .string (bytesL m.m.body.text), .slice m.ba m.m.body.kids.length m.bc] 127 (0, 0)) := by
      have := heap_alloc_new (w.alloc (.cells #[.slice x.sa x.sorts.length x.sc, .slice x.fa x.funs.length x.fc, .slice x.ma x.macs.length x.mc] 34)) (.cells #[.string m.m.name, .slice pa m.m.params.length m.pc, .int .i64 m.m.res, .int .i8 m.m.body.kind, .string (bytesL m.m.body.text), .slice m.ba m.m.body.kids.length m.bc] 127)
      rwa [World.size_alloc] at this
    have HX0 := Lib.hid hX0
    have HY0 := Lib.hid hY0
    clear hX0 hY0
    go_enter Tryz.func65, Tryz.ntmps65
    go_wp2_with (go_at_call 75; refine (HC.out _ HB0.out).mono ?_; rintro e w1 ⟨rfl, hb1⟩; obtain ⟨hc1, hf1⟩ := bcell hb1)
    have HB1 := Lib.hid (HB0.out.trans (hb1.mono (by simp; omega)))
    have HX1 := Lib.hid ((hb1.block _ (by simp; omega)).trans HX0.out)
    have HY1 := Lib.hid ((hb1.block _ (by simp)).trans HY0.out)
    clear hb1 hc1 hf1
    go_loopw [23] (fun i wr => ∃ k : Nat, k ≤ m.m.params.length ∧ i = .int .i64 k ∧ Hid (parsFrom x.sorts.length [] (m.m.params.take k) = true) ∧ Hid (Below w.heap.size w wr) ∧ Hid (wr.heap[w.heap.size]? = some (.cells #[.slice x.sa x.sorts.length x.sc, .slice x.fa x.funs.length x.fc, .slice x.ma x.macs.length x.mc] 34 (0, 0))) ∧ Hid (wr.heap[w.heap.size + 1]? = some (.cells #[.string m.m.name, .slice pa m.m.params.length m.pc, .int .i64 m.m.res, .int .i8 m.m.body.kind, .string (bytesL m.m.body.text), .slice m.ba m.m.body.kids.length m.bc] 127 (0, 0)))) (fun i _ => m.m.params.length - (intOf i).toNat)
    case atStart => exact ⟨0, Nat.zero_le _, rfl, rfl, HB1, HX1, HY1⟩
    case round =>
      obtain ⟨k, hk3, rfl, HP, HB, HX, HY⟩ := hrel
      have x0 := cell_of_row _ _ 0 _ _ _ HX.out
      have x1 := cell_of_row _ _ 1 _ _ _ HX.out
      have x2 := cell_of_row _ _ 2 _ _ _ HX.out
      have y1 := cell_of_row _ _ 1 _ _ _ HY.out
      have y3 := cell_of_row _ _ 3 _ _ _ HY.out
      have y4 := cell_of_row _ _ 4 _ _ _ HY.out
      have y5 := cell_of_row _ _ 5 _ _ _ HY.out
      simp only [List.getElem?_toArray, List.getElem?_cons_zero, List.getElem?_cons_succ] at x0 x1 x2 y1 y3 y4 y5
      have hz := (Array.getElem?_eq_some_iff.1 HX.out).1
      have hz1 := (Array.getElem?_eq_some_iff.1 HY.out).1
      by_cases hlt : k < m.m.params.length
      · obtain ⟨p, hp⟩ : ∃ p, m.m.params[k]? = some p := ⟨_, List.getElem?_eq_getElem hlt⟩
        obtain ⟨g, o, ha, hg, hcell⟩ := (HM.out.pat.below HB.out) (by rw [len_flat parC_len]; omega)
        rw [hpa] at ha
        have q0 := hcell _ _ ((get_flat parC_len m.m.params k 0 p hp (by omega)).trans rfl)
        have q1 := hcell _ _ ((get_flat parC_len m.m.params k 1 p hp (by omega)).trans rfl)
        simp only [Nat.add_zero, ← Nat.add_assoc] at q0 q1
        have hpo := HM.out.pok p (List.mem_of_getElem? hp)
        have hpc := HM.out.plen
        have hpm := HM.out.pcap
        have hFind : ∀ V, Below wr.heap.size wr V → Calls Tryz.prog 76 #[.slice pa k m.pc, .string p.name, .func (.func 77) #[] #[]] V fun e w' => e = .returned (.tuple #[.int .i64 (fndI ((m.m.params.take k).map (·.name)) p.name), .bool (fndB ((m.m.params.take k).map (·.name)) p.name)]) ∧ Below V.heap.size V w' := fun V hV => by
          have hAt : At V V.heap.size ((m.m.params.take k).flatMap parC) m.pa := by
            have h1 : At V w.heap.size (m.m.params.flatMap parC) m.pa := HM.out.pat.below (HB.out.trans (hV.mono HB.out.size))
            have h2 := (h1.take (k * 2)).more (Nat.le_trans HB.out.size hV.size)
            rwa [take_flat parC_len m.m.params k hk3] at h2
          have := find_par (m.m.params.take k) p.name m.pa m.pc V hAt (by rw [List.length_take]; omega) hpm
          rwa [List.length_take, Nat.min_eq_left hk3, hpa] at this
        have HPS : Hid (parsFrom x.sorts.length [] (m.m.params.take (k + 1)) = (true && (!fndB ((m.m.params.take k).map (·.name)) p.name && (mayNm p.name && thereA x.sorts.length p.sort)))) := by show _ = _; rw [take_snoc' hp, parsFrom_snoc, HP.out]
        subst ha
        obtain ⟨W0, hW0⟩ : ∃ W0, W0 = wr.alloc (.cells #[.string p.name, .int .i64 p.sort] 139) := ⟨_, rfl⟩
        have hBW : Below wr.heap.size wr W0 := by rw [hW0]; exact (Below.refl _ _).alloc (Nat.le_refl _) _
        have hP0 : W0.heap[wr.heap.size]? = some (.cells #[.string p.name, .int .i64 p.sort] 139 (0, 0)) := by rw [hW0]; exact heap_alloc_new wr _
        have hszW : W0.heap.size = wr.heap.size + 1 := by rw [hW0]; simp
        have p0 := cell_of_row _ _ 0 _ _ _ hP0
        have p1 := cell_of_row _ _ 1 _ _ _ hP0
        simp only [List.getElem?_toArray, List.getElem?_cons_zero, List.getElem?_cons_succ] at p0 p1
        have HBW := Lib.hid hBW
        have HXW := Lib.hid ((hBW.block _ hz).trans HX.out)
        have HYW := Lib.hid ((hBW.block _ hz1).trans HY.out)
        have u1 := cell_of_row _ _ 1 _ _ _ HYW.out
        have u3 := cell_of_row _ _ 3 _ _ _ HYW.out
        simp only [List.getElem?_toArray, List.getElem?_cons_zero, List.getElem?_cons_succ] at u1 u3
        have HF := Lib.hid hFind
        have H0 := Lib.hid (And.intro u1 p0)
        have HP0 := Lib.hid hP0
        have HPar := Lib.hid hpo
        have hkpc : k ≤ m.pc := by omega
        clear hFind hpo hcell hP0 hBW p1 hpm
        obtain ⟨fi, hfi⟩ : ∃ fi, fi = fndI ((m.m.params.take k).map (·.name)) p.name := ⟨_, rfl⟩
        obtain ⟨fb, hfb⟩ : ∃ fb, fb = fndB ((m.m.params.take k).map (·.name)) p.name := ⟨_, rfl⟩
        rw [← hfi, ← hfb] at HF
        rw [← hfb] at HPS
        clear hfi hfb
        have hzW : wr.heap.size < W0.heap.size := by omega
        have hz1W : w.heap.size + 1 < W0.heap.size := by omega
        go_wp2
        rw [← hW0]
        clear hW0 u1 p0 y1 y3 y4 y5 x0 x1 x2 q0 q1
        go_region_held3 (fun w' => w'.cell? ⟨w.heap.size + 1, 1, none⟩ = some (.slice (some ⟨g, o, none⟩) m.m.params.length m.pc) ∧ w'.cell? ⟨wr.heap.size, 0, none⟩ = some (.string p.name))
          (first | exact H0.out | exact ⟨(hc1 _ _ hz1W).trans H0.out.1, (hc1 _ _ hzW).trans H0.out.2⟩ | go_keep)
          (first | (go_at_call 76; refine (HF.out _ (by first | exact HBW.out.drew | exact HBW.out)).mono ?_; rintro e w2 ⟨rfl, hb2⟩; obtain ⟨hc1, hf1⟩ := bcell hb2))
        have hw2 : Below wr.heap.size wr w2 := HBW.out.drew.trans (hb2.mono (by show wr.heap.size ≤ W0.heap.size; omega))
        have HB2 := Lib.hid (HB.out.trans (hw2.mono HB.out.size))
        have HX2 := Lib.hid ((hw2.block _ hz).trans HX.out)
        have HY2 := Lib.hid ((hw2.block _ hz1).trans HY.out)
        have hP2 : w2.heap[wr.heap.size]? = some (.cells #[.string p.name, .int .i64 p.sort] 139 (0, 0)) := (hb2.block wr.heap.size (by show wr.heap.size < W0.heap.size; omega)).trans HP0.out
        have p0 := cell_of_row _ _ 0 _ _ _ hP2
        have p1 := cell_of_row _ _ 1 _ _ _ hP2
        have x0 := cell_of_row _ _ 0 _ _ _ HX2.out
        have x1 := cell_of_row _ _ 1 _ _ _ HX2.out
        have x2 := cell_of_row _ _ 2 _ _ _ HX2.out
        simp only [List.getElem?_toArray, List.getElem?_cons_zero, List.getElem?_cons_succ] at p0 p1 x0 x1 x2
        have hz2 := (Array.getElem?_eq_some_iff.1 HX2.out).1
        have hzp := (Array.getElem?_eq_some_iff.1 hP2).1
        have HFin : Hid (parsFrom x.sorts.length [] (m.m.params.take (k + 1)) = false → macB x.sorts.length m.m = false) := fun h => by unfold macB; rw [parsFrom_no h]; simp
        clear hb2 hw2 hc1 hf1 hP2
        cases fb with
        | true =>
          have e0 : macB x.sorts.length m.m = false := HFin.out (by rw [HPS.out]; rfl)
          go_wp2_with fail
          go_ret
          first | exact ⟨rfl, fun e => (by cases e), fun _ => e0.symm, HB2.out⟩ | exact ⟨false, rfl, fun e => (by cases e), fun _ => e0.symm, HB2.out⟩
        | false =>
          cases hmn : mayNm p.name with
          | false =>
            have e0 : macB x.sorts.length m.m = false := HFin.out (by rw [HPS.out, hmn]; rfl)
            have HC := HNm _ _ hmn HPar.out.name
            clear hmn
            go_wp2_with (go_at_call 73; refine (HC.out _ HB2.out).mono ?_; rintro e w3 ⟨rfl, hb3⟩)
            go_ret
            first | exact ⟨rfl, fun e => (by cases e), fun _ => e0.symm, HB2.out.trans (hb3.mono HB2.out.size)⟩ | exact ⟨false, rfl, fun e => (by cases e), fun _ => e0.symm, HB2.out.trans (hb3.mono HB2.out.size)⟩
          | true =>
            have HC := HNm _ _ hmn HPar.out.name
            cases hts : thereA x.sorts.length p.sort with
            | false =>
              have e0 : macB x.sorts.length m.m = false := HFin.out (by rw [HPS.out, hmn, hts]; rfl)
              have HD := HS _ _ hts HPar.out.sort
              clear hmn hts
              go_wp2_with (first | (go_at_call 73; refine (HC.out _ HB2.out).mono ?_; rintro e w3 ⟨rfl, hb3⟩; obtain ⟨hc3, hf3⟩ := bcell hb3) | (go_at_call 75; refine (HD.out _ (HB2.out.trans (hb3.mono HB2.out.size))).mono ?_; rintro e w4 ⟨rfl, hb4⟩))
              go_ret
              first | exact ⟨rfl, fun e => (by cases e), fun _ => e0.symm, (HB2.out.trans (hb3.mono HB2.out.size)).trans (hb4.mono (Nat.le_trans HB2.out.size hb3.size))⟩ | exact ⟨false, rfl, fun e => (by cases e), fun _ => e0.symm, (HB2.out.trans (hb3.mono HB2.out.size)).trans (hb4.mono (Nat.le_trans HB2.out.size hb3.size))⟩
            | true =>
              have HPok : Hid (parsFrom x.sorts.length [] (m.m.params.take (k + 1)) = true) := by show _ = _; rw [HPS.out, hmn, hts]; rfl
              have HD := HS _ _ hts HPar.out.sort
              clear hmn hts
              go_wp2_with (first | (go_at_call 73; refine (HC.out _ HB2.out).mono ?_; rintro e w3 ⟨rfl, hb3⟩; obtain ⟨hc3, hf3⟩ := bcell hb3) | (go_at_call 75; refine (HD.out _ (HB2.out.trans (hb3.mono HB2.out.size))).mono ?_; rintro e w4 ⟨rfl, hb4⟩))
              have hn3 := hb3.size
              go_roundw
              case rel =>
                exact ⟨k + 1, by omega, by go_num, HPok, (HB2.out.trans (hb3.mono HB2.out.size)).trans (hb4.mono (Nat.le_trans HB2.out.size hb3.size)), ((hb4.block _ (by omega)).trans (hb3.block _ hz2)).trans HX2.out, ((hb4.block _ (by omega)).trans (hb3.block _ (by omega))).trans HY2.out⟩
              case measure => simp [intOf]; omega
      · obtain rfl : k = m.m.params.length := by omega
        rw [List.take_length] at HP
        go_wp2_with (go_at_call 78; refine (HMB.out _ HB.out).mono ?_; rintro e w2 ⟨r, rfl, hr1, hr2, hb2⟩)
        go_ret
        have e1 : macB x.sorts.length m.m = mayT m.m.body := by unfold macB; rw [decide_eq_true (by omega), HQ.out, HP.out]; rfl
        rw [e1]
        exact ⟨r, rfl, hr1, hr2, HB.out.trans (hb2.mono HB.out.size)⟩
theorem mayMacro_any (x : SigV) (m : MacV) (w : World) (hG : GS w) (hR : SigR w x) (hm : MacOk w w.heap.size m) (hl : x.sorts.length ≤ 100) :
    Calls Tryz.prog 65 #[.agg #[.slice x.sa x.sorts.length x.sc, .slice x.fa x.funs.length x.fc, .slice x.ma x.macs.length x.mc], .agg #[.string m.m.name, .slice m.pa m.m.params.length m.pc, .int .i64 m.m.res, .int .i8 m.m.body.kind, .string (bytesL m.m.body.text), .slice m.ba m.m.body.kids.length m.bc]] w fun e w' => ∃ r, e = .returned (.bool r) ∧ (r = true → macB x.sorts.length m.m = true) ∧ (SxK w m.m.body (bodyV m) → r = macB x.sorts.length m.m) ∧ Below w.heap.size w w' := mayMacro_aux x m m.pa rfl w hG hR hm hl
end Go.Proofs.YtbddghcdibdloaaGreatDoor
