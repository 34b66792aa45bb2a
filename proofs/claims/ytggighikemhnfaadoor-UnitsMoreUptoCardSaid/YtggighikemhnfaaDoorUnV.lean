/- What is given, put. -/
import Derived.Test.YtggighikemhnfaaDoorUnU
namespace Go.Proofs.YtggighikemhnfaaDoor.Tm
open Go.RowKit
set_option linter.unusedVariables false
def stG (ps : List Int) : USt := ⟨ps, fun _ => 0, [], [], -1⟩
def nilV : Value := .slice none 0 0
set_option maxRecDepth 100000 in
set_option maxHeartbeats 4000000 in
theorem give_any {W0 : World} {b : Nat} (gs : List Int) (a : Option Addr) (c : Nat) (R : List Int × Bool) (lv0 : Value) (w : World) (hG : IntsR W0 gs a c) (h : LookR W0 w b (stG []) [] nilV lv0) (hn : gs.length ≤ 800000) (hR : giveM [] gs = R) :
    Calls Tryd.prog 36 #[.pointer (some ⟨b, 0, none⟩), .slice a gs.length c] w fun e w' => e = .returned (.bool R.2) ∧ ∃ lv, LookR W0 w' b (stG R.1) R.1 nilV lv := by
  have HG := Lib.hid hG
  have H0 : Hid (giveM [] (gs.drop 0) = R) := by show _ = _; rw [List.drop_zero]; exact hR
  have HX0 : Hid (∃ lv, LookR W0 w b (stG []) [] nilV lv) := ⟨_, h⟩
  have c1 : gs.length ≤ 9223372036854775807 := by omega
  have HMay : Hid (∀ (x : Int) (r : Bool) (W : World), mayU x = r → Calls Tryd.prog 45 #[.int .i64 x] W fun e w' => e = .returned (.bool r) ∧ W = w') := fun x r W hr => may_any x r W hr
  have HVal : Hid (∀ (ps : List Int) (x v : Int) (W : World), (∃ lv, LookR W0 W b (stG ps) ps nilV lv) → I64 x → valL ps x = v → Calls Tryd.prog 39 #[.pointer (some ⟨b, 0, none⟩), .int .i64 x] W fun e w' => e = .returned (.int .i8 v) ∧ W = w') := fun ps x v W ⟨lv, pg, qv, xs, L, hX⟩ hx hv => val_any x v W hX hx hv
  have HPut : Hid (∀ (ps : List Int) (x : Int) (W : World), (∃ lv, LookR W0 W b (stG ps) ps nilV lv) → valL ps x = 0 → ps.length ≤ 800000 → Calls Tryd.prog 40 #[.pointer (some ⟨b, 0, none⟩), .int .i64 x] W fun e w' => e = .returned (.tuple #[]) ∧ Hid (∃ lv, LookR W0 w' b (stG (ps ++ [x])) (ps ++ [x]) nilV lv)) := fun ps x W ⟨lv, pg, qv, xs, L, hX⟩ hv hl =>
    put_any x [] W hX hv rfl List.nodup_nil (.inl rfl) (fun r hr => by cases hr) (by simp [stG]) (by simp [stG]) hl
  clear hG h hR
  go_enter Tryd.func36, Tryd.ntmps36
  go_wp2
  go_loopw [9] (fun iv wr => ∃ (i : Nat) (ps : List Int), i ≤ gs.length ∧ iv = .int .i64 i ∧ Hid (giveM ps (gs.drop i) = R) ∧ ps.length ≤ i ∧ Hid (∃ lv, LookR W0 wr b (stG ps) ps nilV lv)) (fun iv _ => gs.length - (intOf iv).toNat)
  case atStart => exact ⟨0, [], Nat.zero_le _, rfl, H0, Nat.le_refl _, HX0⟩
  case round =>
    clear H0 HX0
    obtain ⟨i, ps, hil, rfl, HE, hpl, HX⟩ := hrel
    by_cases hlt : i < gs.length
    · obtain ⟨x, hx⟩ : ∃ x, gs[i]? = some x := ⟨_, List.getElem?_eq_getElem hlt⟩
      have hbel : Below W0.heap.size W0 wr := by obtain ⟨lv, pg, qv, xs, L, hX⟩ := HX.out; exact hX.bel
      obtain ⟨g, o, rfl, hg, q0⟩ := (HG.out.below hbel).cell hx
      have hxI := HG.out.ok x (List.mem_of_getElem? hx)
      have hE := HE.out
      rw [drop_get hx] at hE
      unfold giveM at hE
      have hii : (i : Int) < (gs.length : Int) := by omega
      by_cases hm : mayU x = true
      · rw [if_pos hm] at hE
        have HM := Lib.hid (HMay.out x true wr hm)
        obtain ⟨v, hv⟩ : ∃ v, valL ps x = v := ⟨_, rfl⟩
        have HV := Lib.hid (HVal.out ps x v wr HX.out hxI hv)
        rw [hv] at hE
        by_cases h0 : v = 0
        · rw [if_pos h0] at hE
          subst h0
          have HP := Lib.hid (HPut.out ps x wr HX.out hv (by omega))
          have HE2 := Lib.hid hE
          clear hE HE hx hxI hm hv hbel HX
          go_wp2_with (first | (go_at_call 45; with_reducible refine HM.out.mono ?_; rintro e w1 ⟨rfl, rfl⟩) | (go_at_call 39; with_reducible refine HV.out.mono ?_; rintro e w1 ⟨rfl, rfl⟩) | (go_at_call 40; with_reducible refine HP.out.mono ?_; rintro e w2 ⟨rfl, HX2⟩))
          go_roundw
          case rel => exact ⟨i + 1, ps ++ [x], by omega, by go_num, HE2, by simp; omega, HX2⟩
          case measure => simp [intOf]; omega
        · have d0 : (v == 0) = false := eq_f h0
          rw [if_neg h0] at hE
          by_cases h2 : v = 2
          · have d2 : (v == 2) = true := eq_t h2
            rw [if_pos h2] at hE
            have HE2 := Lib.hid hE
            have HXr := HX
            clear hE HE hx hxI hm hv hbel h0 h2
            go_wp2_with (first | (go_at_call 45; with_reducible refine HM.out.mono ?_; rintro e w1 ⟨rfl, rfl⟩) | (go_at_call 39; with_reducible refine HV.out.mono ?_; rintro e w1 ⟨rfl, rfl⟩))
            go_ret
            refine ⟨ret_bool (by rw [← HE2.out]), ?_⟩
            rw [← HE2.out]
            exact HX.out
          · have d2 : (v == 2) = false := eq_f h2
            rw [if_neg h2] at hE
            have HE2 := Lib.hid hE
            clear hE HE hx hxI hm hv hbel h0 h2
            go_wp2_with (first | (go_at_call 45; with_reducible refine HM.out.mono ?_; rintro e w1 ⟨rfl, rfl⟩) | (go_at_call 39; with_reducible refine HV.out.mono ?_; rintro e w1 ⟨rfl, rfl⟩))
            go_roundw
            case rel => exact ⟨i + 1, ps, by omega, by go_num, HE2, by omega, HX⟩
            case measure => simp [intOf]; omega
      · rw [if_neg hm] at hE
        have HM := Lib.hid (HMay.out x false wr (by simpa using hm))
        have HE2 := Lib.hid hE
        clear hE HE hx hxI hm hbel
        go_wp2_with (first | (go_at_call 45; with_reducible refine HM.out.mono ?_; rintro e w1 ⟨rfl, rfl⟩))
        go_roundw
        case rel => exact ⟨i + 1, ps, by omega, by go_num, HE2, by omega, HX⟩
        case measure => simp [intOf]; omega
    · obtain rfl : i = gs.length := by omega
      have hE := HE.out
      rw [List.drop_of_length_le (Nat.le_refl _)] at hE
      unfold giveM at hE
      have HE2 := Lib.hid hE
      clear HE hE
      go_wp2
      go_ret
      refine ⟨ret_bool (by rw [← HE2.out]), ?_⟩
      rw [← HE2.out]
      exact HX.out
end Go.Proofs.YtggighikemhnfaaDoor.Tm
