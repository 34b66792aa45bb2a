/- Package sig's mayRest, may and Check. -/
import Derived.Test.YtbddghcdibdloaaGreatDoorSgK
import Derived.Test.YtbddghcdibdloaaGreatDoorSgI
namespace Go.Proofs.YtbddghcdibdloaaGreatDoor
open Go.RowKit
set_option linter.unusedVariables false
def restA (x : SigA) : Bool := x.funs.all (funB x.sorts.length) && x.macros.all (macB x.sorts.length)
theorem all_yes' {α : Type} {p : α → Bool} {l : List α} (h : ∀ j, j < l.length → ∀ y, l[j]? = some y → p y = true) : l.all p = true := by
  rw [List.all_eq_true]
  intro y hy
  obtain ⟨j, hj, e⟩ := List.getElem_of_mem hy
  exact h j hj y (by rw [List.getElem?_eq_getElem hj, e])
theorem all_no' {α : Type} {p : α → Bool} {l : List α} {y : α} {k : Nat} (h : l[k]? = some y) (hp : p y = false) : l.all p = false := by
  rw [List.all_eq_false]
  exact ⟨y, List.mem_of_getElem? h, by rw [hp]; decide⟩
def RestPost (w : World) (x : SigV) (e : Ending) (w' : World) : Prop := ∃ r, e = .returned (.bool r) ∧ (r = true → restA x.a = true) ∧ (SigK w x → r = restA x.a) ∧ Below w.heap.size w w'
set_option maxRecDepth 100000 in
set_option maxHeartbeats 2000000 in
theorem mayRest_aux (x : SigV) (fa ma : Option Addr) (hfa : x.fa = fa) (hma : x.ma = ma) (w : World) (hG : GS w) (hR : SigR w x) (hl : x.sorts.length ≤ 100) :
    Calls Tryz.prog 56 #[.agg #[.slice x.sa x.sorts.length x.sc, .slice fa x.funs.length x.fc, .slice ma x.macs.length x.mc]] w (RestPost w x) := by
  have HL1 : Hid (x.funs.length ≤ 9223372036854775807) := by have := hR.fl; have := hR.fm; simp only [maxLen] at this; show _ ≤ _; omega
  have HL2 : Hid (x.macs.length ≤ 9223372036854775807) := by have := hR.ml; have := hR.mm; simp only [maxLen] at this; show _ ≤ _; omega
  have HF : ∀ f, FunOk f → ∀ q, funB x.sorts.length f = q → Hid (∀ V, Below w.heap.size w V → Calls Tryz.prog 64 #[.agg #[.slice x.sa x.sorts.length x.sc, .slice fa x.funs.length x.fc, .slice ma x.macs.length x.mc], .agg #[.string f.name, .int .i64 f.len, .int .i64 f.a0, .int .i64 f.a1, .int .i64 f.a2, .int .i64 f.res]] V fun e w' => e = .returned (.bool q) ∧ Below V.heap.size V w') := fun f hf q hq V hV => by
    rw [← hfa, ← hma]; exact mayFun_any x f q V (hG.below hV) (hR.below hV) hf hl hq
  have HM : ∀ m, m ∈ x.macs → Hid (∀ V, Below w.heap.size w V → Calls Tryz.prog 65 #[.agg #[.slice x.sa x.sorts.length x.sc, .slice fa x.funs.length x.fc, .slice ma x.macs.length x.mc], .agg #[.string m.m.name, .slice m.pa m.m.params.length m.pc, .int .i64 m.m.res, .int .i8 m.m.body.kind, .string (bytesL m.m.body.text), .slice m.ba m.m.body.kids.length m.bc]] V fun e w' => ∃ r, e = .returned (.bool r) ∧ (r = true → macB x.sorts.length m.m = true) ∧ (SigK w x → r = macB x.sorts.length m.m) ∧ Below V.heap.size V w') := fun m hm V hV => by
    have hmo := (hR.mok m hm).below hV
    rw [← hfa, ← hma]
    refine (mayMacro_any x m V (hG.below hV) (hR.below hV) ⟨hmo.name, hmo.plen, hmo.pcap, hmo.pat.more hV.size, hmo.pok, hmo.res, hmo.body⟩ hl).mono ?_
    rintro e w' ⟨r, h1, h2, h3, h4⟩
    exact ⟨r, h1, h2, fun hk => h3 ((hk m hm).below hV), h4⟩
  have HR := Lib.hid hR
  have hb0 : Below w.heap.size w (w.alloc (.cells #[.slice x.sa x.sorts.length x.sc, .slice fa x.funs.length x.fc, .slice ma x.macs.length x.mc] 34)) := (Below.refl _ _).alloc (Nat.le_refl _) _
  have HB0 := Lib.hid hb0
  have HX0 := Lib.hid (heap_alloc_new w (.cells #[.slice x.sa x.sorts.length x.sc, .slice fa x.funs.length x.fc, .slice ma x.macs.length x.mc] 34))
  clear hG hR hl hb0
  go_enter Tryz.func56, Tryz.ntmps56
  go_wp2
  obtain ⟨W0, hW0⟩ : ∃ W0, W0 = w.alloc (.cells #[.slice x.sa x.sorts.length x.sc, .slice fa x.funs.length x.fc, .slice ma x.macs.length x.mc] 34) := ⟨_, rfl⟩
  rw [← hW0] at HB0 HX0 ⊢
  clear hW0
  go_loopw [10] (fun i wr => ∃ k : Nat, k ≤ x.funs.length ∧ i = .int .i64 k ∧ Hid (∀ j, j < k → ∀ y, x.funs[j]? = some y → funB x.sorts.length y = true) ∧ Hid (Below w.heap.size w wr) ∧ Hid (wr.heap[w.heap.size]? = some (.cells #[.slice x.sa x.sorts.length x.sc, .slice fa x.funs.length x.fc, .slice ma x.macs.length x.mc] 34 (0, 0)))) (fun i _ => x.funs.length - (intOf i).toNat)
  case atStart => exact ⟨0, Nat.zero_le _, rfl, fun j hj => by omega, HB0, HX0⟩
  case round =>
    obtain ⟨k, hk3, rfl, HP, HB, HX⟩ := hrel
    have hl1 := HL1.out
    have x0 := cell_of_row _ _ 0 _ _ _ HX.out
    have x1 := cell_of_row _ _ 1 _ _ _ HX.out
    have x2 := cell_of_row _ _ 2 _ _ _ HX.out
    simp only [List.getElem?_toArray, List.getElem?_cons_zero, List.getElem?_cons_succ] at x0 x1 x2
    have hz := (Array.getElem?_eq_some_iff.1 HX.out).1
    by_cases hlt : k < x.funs.length
    · obtain ⟨y, hy⟩ : ∃ y, x.funs[k]? = some y := ⟨_, List.getElem?_eq_getElem hlt⟩
      obtain ⟨g, o, ha, hg, hcell⟩ := (HR.out.fat.below HB.out) (by rw [len_flat funC_len]; omega)
      rw [hfa] at ha
      have q0 := hcell _ _ ((get_flat funC_len x.funs k 0 y hy (by omega)).trans rfl)
      have q1 := hcell _ _ ((get_flat funC_len x.funs k 1 y hy (by omega)).trans rfl)
      have q2 := hcell _ _ ((get_flat funC_len x.funs k 2 y hy (by omega)).trans rfl)
      have q3 := hcell _ _ ((get_flat funC_len x.funs k 3 y hy (by omega)).trans rfl)
      have q4 := hcell _ _ ((get_flat funC_len x.funs k 4 y hy (by omega)).trans rfl)
      have q5 := hcell _ _ ((get_flat funC_len x.funs k 5 y hy (by omega)).trans rfl)
      simp only [Nat.add_zero, ← Nat.add_assoc] at q0 q1 q2 q3 q4 q5
      have hfo := HR.out.fok y (List.mem_of_getElem? hy)
      have HBW : Hid (Below w.heap.size w (wr.alloc (.cells #[.string y.name, .int .i64 y.len, .int .i64 y.a0, .int .i64 y.a1, .int .i64 y.a2, .int .i64 y.res] 29))) := HB.out.alloc HB.out.size _
      cases hq : funB x.sorts.length y with
      | true =>
        have HC := HF y hfo _ hq
        have HP2 : Hid (∀ j, j < k + 1 → ∀ y, x.funs[j]? = some y → funB x.sorts.length y = true) := fun j hj z hz' => by
          by_cases hjk : j < k
          · exact HP.out j hjk z hz'
          · obtain rfl : j = k := by omega
            rw [hy] at hz'; cases hz'; exact hq
        clear hcell hy hq hfo
        subst ha
        go_wp2_with (go_at_call 64; refine (HC.out _ HBW.out).mono ?_; rintro e w1 ⟨rfl, hb1⟩)
        exact ⟨⟨k + 1, by omega, by go_num, HP2, HBW.out.trans (hb1.mono HBW.out.size), ((hb1.block _ (by simp; omega)).trans (Below.heap_alloc _ _ _ hz)).trans HX.out⟩, by simp [intOf]; omega⟩
      | false =>
        have HC := HF y hfo _ hq
        have e0 : restA x.a = false := by unfold restA; rw [show x.a.funs = x.funs from rfl, show x.a.sorts = x.sorts from rfl, all_no' hy hq]; rfl
        clear hcell hy hq hfo
        subst ha
        go_wp2_with (go_at_call 64; refine (HC.out _ HBW.out).mono ?_; rintro e w1 ⟨rfl, hb1⟩)
        go_ret
        exact ⟨false, rfl, fun e => (by cases e), fun _ => e0.symm, HBW.out.trans (hb1.mono HBW.out.size)⟩
    · obtain rfl : k = x.funs.length := by omega
      have HFA : Hid (x.funs.all (funB x.sorts.length) = true) := all_yes' HP.out
      have hl2 := HL2.out
      clear HF HP
      go_wp2
      go_loopw [22] (fun i wr => ∃ k : Nat, k ≤ x.macs.length ∧ i = .int .i64 k ∧ Hid (∀ j, j < k → ∀ y, x.macs[j]? = some y → macB x.sorts.length y.m = true) ∧ Hid (Below w.heap.size w wr) ∧ Hid (wr.heap[w.heap.size]? = some (.cells #[.slice x.sa x.sorts.length x.sc, .slice fa x.funs.length x.fc, .slice ma x.macs.length x.mc] 34 (0, 0)))) (fun i _ => x.macs.length - (intOf i).toNat)
      case atStart => exact ⟨0, Nat.zero_le _, rfl, fun j hj => by omega, HB, HX⟩
      case round =>
        obtain ⟨k, hk3, rfl, HP, HB, HX⟩ := hrel
        have x0 := cell_of_row _ _ 0 _ _ _ HX.out
        have x1 := cell_of_row _ _ 1 _ _ _ HX.out
        have x2 := cell_of_row _ _ 2 _ _ _ HX.out
        simp only [List.getElem?_toArray, List.getElem?_cons_zero, List.getElem?_cons_succ] at x0 x1 x2
        have hz := (Array.getElem?_eq_some_iff.1 HX.out).1
        by_cases hlt : k < x.macs.length
        · obtain ⟨y, hy⟩ : ∃ y, x.macs[k]? = some y := ⟨_, List.getElem?_eq_getElem hlt⟩
          obtain ⟨g, o, ha, hg, hcell⟩ := (HR.out.mat.below HB.out) (by rw [len_flat macC_len]; omega)
          rw [hma] at ha
          have q0 := hcell _ _ ((get_flat macC_len x.macs k 0 y hy (by omega)).trans rfl)
          have q1 := hcell _ _ ((get_flat macC_len x.macs k 1 y hy (by omega)).trans rfl)
          have q2 := hcell _ _ ((get_flat macC_len x.macs k 2 y hy (by omega)).trans rfl)
          have q3 := hcell _ _ ((get_flat macC_len x.macs k 3 y hy (by omega)).trans rfl)
          have q4 := hcell _ _ ((get_flat macC_len x.macs k 4 y hy (by omega)).trans rfl)
          have q5 := hcell _ _ ((get_flat macC_len x.macs k 5 y hy (by omega)).trans rfl)
          simp only [Nat.add_zero, ← Nat.add_assoc] at q0 q1 q2 q3 q4 q5
          have HC := HM y (List.mem_of_getElem? hy)
          have HBW : Hid (Below w.heap.size w (wr.alloc (.cells #[.string y.m.name, .slice y.pa y.m.params.length y.pc, .int .i64 y.m.res, .int .i8 y.m.body.kind, .string (bytesL y.m.body.text), .slice y.ba y.m.body.kids.length y.bc] 127))) := HB.out.alloc HB.out.size _
          have HY := Lib.hid hy
          clear hcell hy
          subst ha
          go_wp2_with (go_at_call 65; refine (HC.out _ HBW.out).mono ?_; rintro e w1 ⟨r, rfl, hr1, hr2, hb1⟩; have HR1 := Lib.hid (And.intro hr1 hr2); clear hr1 hr2; cases r)
          · have e0 : SigK w x → false = restA x.a := fun hk => by
              have := HR1.out.2 hk
              unfold restA
              rw [show x.a.macros = x.macs.map (·.m) from rfl, show x.a.sorts = x.sorts from rfl, all_no' (l := x.macs.map (·.m)) (k := k) (y := y.m) (by rw [List.getElem?_map, HY.out]; rfl) this.symm]
              simp
            go_ret
            exact ⟨false, rfl, fun e => (by cases e), e0, HBW.out.trans (hb1.mono HBW.out.size)⟩
          · have HP2 : Hid (∀ j, j < k + 1 → ∀ y, x.macs[j]? = some y → macB x.sorts.length y.m = true) := fun j hj z hz' => by
              by_cases hjk : j < k
              · exact HP.out j hjk z hz'
              · obtain rfl : j = k := by omega
                rw [HY.out] at hz'; cases hz'; exact HR1.out.1 (by simp)
            exact ⟨⟨k + 1, by omega, by go_num, HP2, HBW.out.trans (hb1.mono HBW.out.size), ((hb1.block _ (by simp; omega)).trans (Below.heap_alloc _ _ _ hz)).trans HX.out⟩, by simp [intOf]; omega⟩
        · obtain rfl : k = x.macs.length := by omega
          have e1 : restA x.a = true := by
            unfold restA
            rw [show x.a.macros = x.macs.map (·.m) from rfl, show x.a.sorts = x.sorts from rfl, show x.a.funs = x.funs from rfl, HFA.out, List.all_map, Bool.true_and]
            exact all_yes' (fun j hj y hy => HP.out j hj y hy)
          go_wp2
          go_ret
          exact ⟨true, rfl, fun _ => e1, fun _ => e1.symm, HB.out⟩
theorem mayRest_any (x : SigV) (w : World) (hG : GS w) (hR : SigR w x) (hl : x.sorts.length ≤ 100) :
    Calls Tryz.prog 56 #[.agg #[.slice x.sa x.sorts.length x.sc, .slice x.fa x.funs.length x.fc, .slice x.ma x.macs.length x.mc]] w (RestPost w x) := mayRest_aux x x.fa x.ma rfl rfl w hG hR hl
/-- A signature that may be. -/
def mayA (x : SigA) : Bool := fitsA x.sorts.length x.funs.length x.macros.length && (okFrom [] (namesA x) && restA x)
theorem names_len (x : SigA) : (namesA x).length = x.sorts.length + (x.funs.length + x.macros.length) := by simp [namesA]
theorem fitsA_le {a b c : Nat} (h : fitsA a b c = true) : a ≤ 4 ∧ b ≤ 12 ∧ c ≤ 12 := by
  unfold fitsA at h
  simp only [Bool.and_eq_true, decide_eq_true_eq] at h
  exact ⟨h.1.1, h.1.2, h.2⟩
def MayPost (w : World) (x : SigV) (e : Ending) (w' : World) : Prop := ∃ r, e = .returned (.bool r) ∧ (r = true → mayA x.a = true) ∧ (SigK w x → r = mayA x.a) ∧ Below w.heap.size w w'
theorem may_any (x : SigV) (w : World) (hG : GS w) (hR : SigR w x) :
    Calls Tryz.prog 46 #[.agg #[.slice x.sa x.sorts.length x.sc, .slice x.fa x.funs.length x.fc, .slice x.ma x.macs.length x.mc]] w (MayPost w x) := by
  have hb0 : Below w.heap.size w (w.alloc (.cells #[.slice x.sa x.sorts.length x.sc, .slice x.fa x.funs.length x.fc, .slice x.ma x.macs.length x.mc] 34)) := (Below.refl _ _).alloc (Nat.le_refl _) _
  have HB0 := Lib.hid hb0
  have HF : ∀ q, fitsA x.sorts.length x.funs.length x.macs.length = q → Hid (∀ V, Calls Tryz.prog 54 #[.agg #[.slice x.sa x.sorts.length x.sc, .slice x.fa x.funs.length x.fc, .slice x.ma x.macs.length x.mc]] V fun e w' => e = .returned (.bool q) ∧ Below V.heap.size V w') := fun q hq V => sigfits_any x q V hq
  have hfe : fitsA x.a.sorts.length x.a.funs.length x.a.macros.length = fitsA x.sorts.length x.funs.length x.macs.length := by simp [SigV.a]
  cases hf : fitsA x.sorts.length x.funs.length x.macs.length with
  | false =>
    have e0 : mayA x.a = false := by unfold mayA; rw [hfe, hf]; rfl
    have HC := HF _ hf
    clear HF hf hfe hG hR hb0
    go_enter Tryz.func46, Tryz.ntmps46
    go_wp2_with (go_at_call 54; refine (HC.out _).mono ?_; rintro e w1 ⟨rfl, hb1⟩)
    go_ret
    exact ⟨false, rfl, fun e => (by cases e), fun _ => e0.symm, HB0.out.trans (hb1.mono (by simp))⟩
  | true =>
    have hle := fitsA_le hf
    have hN : (namesA x.a).length ≤ 1000 := by rw [names_len]; simp [SigV.a]; omega
    have HC := HF _ hf
    have HN : ∀ q, okFrom [] (namesA x.a) = q → Hid (∀ V, Below w.heap.size w V → Calls Tryz.prog 55 #[.agg #[.slice x.sa x.sorts.length x.sc, .slice x.fa x.funs.length x.fc, .slice x.ma x.macs.length x.mc]] V fun e w' => e = .returned (.bool q) ∧ Below V.heap.size V w') := fun q hq V hV => mayNames_any x q V (hG.below hV) (hR.below hV) hN hq
    have HRs : Hid (∀ V, Below w.heap.size w V → Calls Tryz.prog 56 #[.agg #[.slice x.sa x.sorts.length x.sc, .slice x.fa x.funs.length x.fc, .slice x.ma x.macs.length x.mc]] V fun e w' => ∃ r, e = .returned (.bool r) ∧ (r = true → restA x.a = true) ∧ (SigK w x → r = restA x.a) ∧ Below V.heap.size V w') := fun V hV => by
      refine (mayRest_any x V (hG.below hV) (hR.below hV) (by omega)).mono ?_
      rintro e w' ⟨r, h1, h2, h3, h4⟩
      exact ⟨r, h1, h2, fun hk => h3 (hk.below hV), h4⟩
    cases hn : okFrom [] (namesA x.a) with
    | false =>
      have e0 : mayA x.a = false := by unfold mayA; rw [hn]; simp
      have HD := HN _ hn
      clear HF HN hf hfe hG hR hb0 hn hN
      go_enter Tryz.func46, Tryz.ntmps46
      go_wp2_with (first | (go_at_call 54; refine (HC.out _).mono ?_; rintro e w1 ⟨rfl, hb1⟩; obtain ⟨hc1, hf1⟩ := bcell hb1; have hn1 : w.heap.size < w1.heap.size := Nat.lt_of_lt_of_le (by simp) hb1.size; have hb1 := HB0.out.trans (hb1.mono (by simp))) | (go_at_call 55; refine (HD.out _ hb1).mono ?_; rintro e w2 ⟨rfl, hb2⟩))
      go_ret
      have hb2 := hb1.trans (hb2.mono hb1.size)
      exact ⟨false, rfl, fun e => (by cases e), fun _ => e0.symm, hb2⟩
    | true =>
      have HE : Hid (mayA x.a = restA x.a) := by show _ = _; unfold mayA; rw [hn, hfe, hf]; rfl
      have HD := HN _ hn
      clear HF HN hf hfe hG hR hb0 hn hN
      go_enter Tryz.func46, Tryz.ntmps46
      go_wp2_with (first | (go_at_call 54; refine (HC.out _).mono ?_; rintro e w1 ⟨rfl, hb1⟩; obtain ⟨hc1, hf1⟩ := bcell hb1; have hn1 : w.heap.size < w1.heap.size := Nat.lt_of_lt_of_le (by simp) hb1.size; have hb1 := HB0.out.trans (hb1.mono (by simp))) | (go_at_call 55; refine (HD.out _ hb1).mono ?_; rintro e w2 ⟨rfl, hb2⟩; obtain ⟨hc2, hf2⟩ := bcell hb2; have hb2 := hb1.trans (hb2.mono hb1.size)) | (go_at_call 56; refine (HRs.out _ hb2).mono ?_; rintro e w3 ⟨r, rfl, hr1, hr2, hb3⟩; have HR1 := Lib.hid (And.intro hr1 hr2); clear hr1 hr2; cases r))
      · go_ret
        exact ⟨false, rfl, fun e => (by cases e), fun hk => (HR1.out.2 hk).trans HE.out.symm, hb2.trans (hb3.mono hb2.size)⟩
      · go_ret
        exact ⟨true, rfl, fun _ => HE.out.trans (HR1.out.1 (by simp)), fun hk => (HR1.out.2 hk).trans HE.out.symm, hb2.trans (hb3.mono hb2.size)⟩
def CheckPost (w : World) (x : SigV) (e : Ending) (w' : World) : Prop := ∃ r : Int, e = .returned (.int .i64 r) ∧ (r = 0 → mayA x.a = true) ∧ (SigK w x → mayA x.a = true → r = 0) ∧ Below w.heap.size w w'
theorem Check_any (x : SigV) (w : World) (hG : GS w) (hR : SigR w x) :
    Calls Tryz.prog 39 #[.agg #[.slice x.sa x.sorts.length x.sc, .slice x.fa x.funs.length x.fc, .slice x.ma x.macs.length x.mc]] w (CheckPost w x) := by
  have hb0 : Below w.heap.size w (w.alloc (.cells #[.slice x.sa x.sorts.length x.sc, .slice x.fa x.funs.length x.fc, .slice x.ma x.macs.length x.mc] 34)) := (Below.refl _ _).alloc (Nat.le_refl _) _
  have HB0 := Lib.hid hb0
  have HC : Hid (∀ V, Below w.heap.size w V → Calls Tryz.prog 46 #[.agg #[.slice x.sa x.sorts.length x.sc, .slice x.fa x.funs.length x.fc, .slice x.ma x.macs.length x.mc]] V fun e w' => ∃ r, e = .returned (.bool r) ∧ (r = true → mayA x.a = true) ∧ (SigK w x → r = mayA x.a) ∧ Below V.heap.size V w') := fun V hV => by
    refine (may_any x V (hG.below hV) (hR.below hV)).mono ?_
    rintro e w' ⟨r, h1, h2, h3, h4⟩
    exact ⟨r, h1, h2, fun hk => h3 (hk.below hV), h4⟩
  clear hG hR hb0
  go_enter Tryz.func39, Tryz.ntmps39
  go_wp2_with (go_at_call 46; refine (HC.out _ HB0.out).mono ?_; rintro e w1 ⟨r, rfl, hr1, hr2, hb1⟩; have HR1 := Lib.hid (And.intro hr1 hr2); clear hr1 hr2; cases r)
  · go_ret
    have e1 : SigK w x → mayA x.a = true → (2 : Int) = 0 := fun hk hm => by have := HR1.out.2 hk; rw [hm] at this; cases this
    have hb2 := HB0.out.trans (hb1.mono (by simp))
    exact ⟨2, rfl, fun e => absurd e (by decide), e1, hb2⟩
  · go_ret
    have e0 : mayA x.a = true := HR1.out.1 (by simp)
    have hb2 := HB0.out.trans (hb1.mono (by simp))
    exact ⟨0, rfl, fun _ => e0, fun _ _ => rfl, hb2⟩
end Go.Proofs.YtbddghcdibdloaaGreatDoor
