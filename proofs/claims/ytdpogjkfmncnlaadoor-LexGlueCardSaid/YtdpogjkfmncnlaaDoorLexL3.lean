/- Two texts with a line's end between: the tokens of the first, then those of the second, as many bytes further on: the walk of the law LexGlue. -/
import Derived.Test.YtdpogjkfmncnlaaDoorLexWake
import Derived.Test.YtdpogjkfmncnlaaDoorLexFacts3
import Derived.Laws.StructEq
namespace Go.Proofs.YtdpogjkfmncnlaaDoor
open Go.RowKit
set_option linter.unusedVariables false
theorem glue_list (a b : ByteArray) : (a ++ (ByteArray.mk #[10]) ++ b).data.toList = a.data.toList ++ 10 :: b.data.toList := by simp
theorem glue_size (a b : ByteArray) : (a ++ (ByteArray.mk #[10]) ++ b).size = a.size + 1 + b.size := by simp [ByteArray.size_append]; rfl
/-- Each token lies within the text. -/
theorem allL_mem {l : List UInt8} {k : Nat} {t : Tok} (hk : k ≤ l.length) (h : t ∈ (allL l k).1) : t.pos ≤ l.length ∧ t.stop ≤ l.length := by
  obtain ⟨ts, p, e, ha⟩ : ∃ ts p e, allL l k = (ts, p, e) := ⟨_, _, _, rfl⟩
  rw [ha] at h
  simp only at h
  induction ts generalizing k with
  | nil => simp at h
  | cons x r ih =>
    obtain ⟨q1, q2, q3, q4, _⟩ := allL_cons hk ha
    rcases List.mem_cons.1 h with rfl | h
    · omega
    · exact ih q3 h q4
set_option maxRecDepth 100000 in
set_option maxHeartbeats 2000000 in
theorem LexGlue_walk (a b : ByteArray) (w : World) (hG : Globs w) :
    Calls Tryd.prog 5 #[.string a, .string b] w fun e w' => e = .returned (.bool true) ∧ Below w.heap.size w w' := by
  have HG := Lib.hid hG
  clear hG
  by_cases hbig : 2000 < a.size ∨ 2000 < b.size
  · have hcase : 2000 < a.size ∨ (a.size ≤ 2000 ∧ 2000 < b.size) := by omega
    clear hbig
    rcases hcase with h | ⟨h, h'⟩
    all_goals
      go_enter Tryd.func5, Tryd.ntmps5
      go_wp2_with fail
      refine (wakes_any _ HG.out).mono ?_
      rintro e w1 ⟨rfl, hb1⟩
      go_wp2
      go_ret
      exact ⟨rfl, hb1⟩
  · have hsa : a.size ≤ 2000 := by omega
    have hsb : b.size ≤ 2000 := by omega
    clear hbig
    have HLa : Hid (a.data.toList.length = a.size) := by show _ = _; simp
    have HLb : Hid (b.data.toList.length = b.size) := by show _ = _; simp
    obtain ⟨ta, pa, ea, ha⟩ : ∃ ts p ec, allL a.data.toList 0 = (ts, p, ec) := ⟨_, _, _, rfl⟩
    obtain ⟨tb, pb, eb, hb⟩ : ∃ ts p ec, allL b.data.toList 0 = (ts, p, ec) := ⟨_, _, _, rfl⟩
    have hta : ta.length ≤ a.size := by
      have := (allL_len (l := a.data.toList) _ 0 (Nat.le_refl _) (Nat.zero_le _)).2
      rw [ha, HLa.out] at this
      simpa using this
    have htb : tb.length ≤ b.size := by
      have := (allL_len (l := b.data.toList) _ 0 (Nat.le_refl _) (Nat.zero_le _)).2
      rw [hb, HLb.out] at this
      simpa using this
    have HA := Lib.hid ha
    have HB := Lib.hid hb
    clear ha hb
    by_cases hea : ea = 0
    · subst hea
      by_cases heb : eb = 0
      · subst heb
        have hz := glue_left HB.out 0 (Nat.zero_le _) HA.out
        rw [← glue_list, HLa.out] at hz
        obtain ⟨tz, htz⟩ : ∃ tz, tz = ta ++ tb.map (shiftT (a.size + 1)) := ⟨_, rfl⟩
        rw [← htz] at hz
        have hzl : tz.length ≤ ta.length + tb.length ∧ ta.length + tb.length ≤ tz.length := by rw [htz]; simp
        have HTZ := Lib.hid htz
        have hzs := glue_size a b
        obtain ⟨pz, hpz⟩ : ∃ pz, pz = (a ++ (ByteArray.mk #[10]) ++ b).data.toList.length := ⟨_, rfl⟩
        rw [← hpz] at hz
        have HC : Hid (∀ W : World, Globs W → Calls Tryd.prog 8 #[.string (a ++ (ByteArray.mk #[10]) ++ b)] W (AllRd tz (pz : Int) 0 W)) := fun W hW =>
          All_to (a ++ (ByteArray.mk #[10]) ++ b) tz pz 0 pz 0 W hW (by rw [hzs]; omega) hz rfl rfl
        clear hz hzs htz hpz
        go_enter Tryd.func5, Tryd.ntmps5
        go_wp2_with fail
        refine (All_to a ta pa 0 pa 0 _ HG.out (by omega) HA.out rfl rfl).mono ?_
        rintro en w1 ⟨Aa, capa, rfl, hcapa, hT1, hb1⟩
        have HG1 := Lib.hid (HG.out.below hb1)
        have HT1 := Lib.hid hT1
        clear hT1
        go_wp2_with fail
        refine (All_to b tb pb 0 pb 0 _ HG1.out (by omega) HB.out rfl rfl).mono ?_
        rintro en w2 ⟨Ab, capb, rfl, hcapb, hT2, hb2⟩
        have HG2 := Lib.hid (HG1.out.below hb2)
        have HT12 := Lib.hid (HT1.out.below hb2)
        have HT2 := Lib.hid hT2
        clear hT2
        go_wp2_with fail
        refine (HC.out _ HG2.out).mono ?_
        rintro en w3 ⟨Az, capz, rfl, hcapz, hT3, hb3⟩
        have HTa := Lib.hid (HT12.out.below hb3)
        have HTb := Lib.hid (HT2.out.below hb3)
        have HTz := Lib.hid hT3
        clear hT3
        have hbw : Below w.heap.size w w3 := (hb1.trans (hb2.mono hb1.size)).trans (hb3.mono (Nat.le_trans hb1.size hb2.size))
        have hn1 := eq_true_ (x := (tz.length : Int)) (y := (ta.length : Int) + tb.length) (by omega)
        have hn2 := ne_false (x := (tz.length : Int)) (y := (ta.length : Int) + tb.length) (by omega)
        go_wp2_with fail
        go_loopw [14] (fun i wr => ∃ k : Nat, k ≤ tz.length ∧ i = .int .i64 k ∧ Below w.heap.size w wr ∧ Hid (Below w3.heap.size w3 wr)) (fun i _ => tz.length - (intOf i).toNat)
        case atStart => exact ⟨0, Nat.zero_le _, rfl, hbw, Below.refl _ _⟩
        case round =>
          obtain ⟨k, hk, rfl, hbel, HW3⟩ := hrel
          by_cases hlt : k < tz.length
          · obtain ⟨gz, rfl, hgz, hcz⟩ := (HTz.out.below HW3.out) (by omega)
            obtain ⟨z0, z1, z2, z3⟩ := hcz k hlt
            clear hcz
            by_cases hka : k < ta.length
            · obtain ⟨ga, rfl, hga, hca⟩ := (HTa.out.below HW3.out) (by omega)
              obtain ⟨x0, x1, x2, x3⟩ := hca k hka
              clear hca
              have hzk : tz[k] = ta[k] := by simp only [HTZ.out]; rw [List.getElem_append_left hka]
              rw [hzk] at z0 z1 z2 z3
              clear hzk
              revert x0 x1 x2 x3 z0 z1 z2 z3
              generalize ta[k] = t
              obtain ⟨kd, tx, pos, stop⟩ := t
              intro x0 x1 x2 x3 z0 z1 z2 z3
              simp only at x0 x1 x2 x3 z0 z1 z2 z3
              have g1 : decide (k < ta.length) = true := by simp; omega
              go_wp2
              go_quiet (fail)
              go_wp2
              go_roundw
              case rel => exact ⟨k + 1, by omega, by go_num, below_drewN (hbel.alloc hbel.size _) _, below_drewN (HW3.out.alloc HW3.out.size _) _⟩
              case measure => simp [intOf]; omega
            · obtain ⟨gb, rfl, hgb, hcb⟩ := (HTb.out.below HW3.out) (by omega)
              obtain ⟨j, hj⟩ : ∃ j, k = ta.length + j := ⟨k - ta.length, by omega⟩
              subst hj
              have hjb : j < tb.length := by omega
              obtain ⟨y0, y1, y2, y3⟩ := hcb j hjb
              clear hcb
              have hzk : tz[ta.length + j] = shiftT (a.size + 1) tb[j] := by simp only [HTZ.out]; rw [List.getElem_append_right (by omega)]; simp
              rw [hzk] at z0 z1 z2 z3
              clear hzk
              have hbnd := (allL_mem (l := b.data.toList) (k := 0) (Nat.zero_le _) (t := tb[j]) (by rw [HB.out]; exact List.getElem_mem hjb))
              rw [HLb.out] at hbnd
              generalize tb[j] = t at y0 y1 y2 y3 z0 z1 z2 z3 hbnd
              obtain ⟨kd, tx, pos, stop⟩ := t
              simp only [shiftT] at y0 y1 y2 y3 z0 z1 z2 z3 hbnd
              obtain ⟨P, hP⟩ : ∃ P : Int, P = ((pos + (a.size + 1) : Nat) : Int) := ⟨_, rfl⟩
              obtain ⟨S, hS⟩ : ∃ S : Int, S = ((stop + (a.size + 1) : Nat) : Int) := ⟨_, rfl⟩
              rw [← hP] at z2
              rw [← hS] at z3
              have hP0 : 0 ≤ P ∧ P ≤ 5000 := by omega
              have hS0 : 0 ≤ S ∧ S ≤ 5000 := by omega
              have e1 := eq_true_ (x := P - a.size - 1) (y := (pos : Int)) (by omega)
              have e2 := eq_true_ (x := S - a.size - 1) (y := (stop : Int)) (by omega)
              clear hP hS hbnd
              have g1 : decide (ta.length + j < ta.length) = false := by simp
              have g2 : decide ((ta.length : Int) + j < ta.length) = false := by simp; omega
              have e3 : ((ta.length : Int) + j - ta.length) = (j : Int) := by omega
              go_wp2
              go_quiet (fail)
              go_wp2
              go_quiet (fail)
              go_wp2
              go_roundw
              case rel =>
                refine ⟨ta.length + j + 1, by omega, by go_num, ?_, ?_⟩
                · exact below_drewN (((below_drewN (hbel.alloc hbel.size _) _).setCell (p := ⟨wr.heap.size, 2, none⟩) hbel.size _).setCell (p := ⟨wr.heap.size, 3, none⟩) hbel.size _) _
                · exact below_drewN (((below_drewN (HW3.out.alloc HW3.out.size _) _).setCell (p := ⟨wr.heap.size, 2, none⟩) HW3.out.size _).setCell (p := ⟨wr.heap.size, 3, none⟩) HW3.out.size _) _
              case measure => simp [intOf]; omega
          · obtain rfl : k = tz.length := by omega
            have HGr := Lib.hid ((HG2.out.below hb3).below HW3.out)
            go_wp2_with fail
            refine (wakes_any _ HGr.out).mono ?_
            rintro e w5 ⟨rfl, hb5⟩
            go_wp2
            go_ret
            exact ⟨rfl, hbel.trans (hb5.mono hbel.size)⟩
      · have hne := ne_true (x := (eb : Int)) (y := 0) (by omega)
        clear heb
        go_enter Tryd.func5, Tryd.ntmps5
        go_wp2_with fail
        refine (All_to a ta pa 0 pa 0 _ HG.out (by omega) HA.out rfl rfl).mono ?_
        rintro en w1 ⟨Aa, capa, rfl, hcapa, hT1, hb1⟩
        have HG1 := Lib.hid (HG.out.below hb1)
        clear hT1
        go_wp2_with fail
        refine (All_to b tb pb eb pb eb _ HG1.out (by omega) HB.out rfl rfl).mono ?_
        rintro en w2 ⟨Ab, capb, rfl, hcapb, hT2, hb2⟩
        have HG2 := Lib.hid (HG1.out.below hb2)
        clear hT2
        go_wp2_with fail
        refine (wakes_any _ HG2.out).mono ?_
        rintro e w3 ⟨rfl, hb3⟩
        go_wp2
        go_ret
        exact ⟨rfl, (hb1.trans (hb2.mono hb1.size)).trans (hb3.mono (Nat.le_trans hb1.size hb2.size))⟩
    · have hne := ne_true (x := (ea : Int)) (y := 0) (by omega)
      clear hea
      go_enter Tryd.func5, Tryd.ntmps5
      go_wp2_with fail
      refine (All_to a ta pa ea pa ea _ HG.out (by omega) HA.out rfl rfl).mono ?_
      rintro en w1 ⟨Aa, capa, rfl, hcapa, hT1, hb1⟩
      have HG1 := Lib.hid (HG.out.below hb1)
      clear hT1
      go_wp2_with fail
      refine (All_to b tb pb eb pb eb _ HG1.out (by omega) HB.out rfl rfl).mono ?_
      rintro en w2 ⟨Ab, capb, rfl, hcapb, hT2, hb2⟩
      have HG2 := Lib.hid (HG1.out.below hb2)
      clear hT2
      go_wp2_with fail
      refine (wakes_any _ HG2.out).mono ?_
      rintro e w3 ⟨rfl, hb3⟩
      go_wp2
      go_ret
      exact ⟨rfl, (hb1.trans (hb2.mono hb1.size)).trans (hb3.mono (Nat.le_trans hb1.size hb2.size))⟩
theorem LexGlue_w (w : World) (a : ByteArray) (_ : a.size ≤ maxLen) (b : ByteArray) (_ : b.size ≤ maxLen) (hG : Globs w) :
    Calls Tryd.prog 5 #[.string a, .string b] w fun e w' => e = .returned (.bool true) ∧ Below w.heap.size w w' := LexGlue_walk a b w hG
end Go.Proofs.YtdpogjkfmncnlaaDoor
