/- gantrylaw14.ShapeTight answers true for every input and leaves its arguments as they were; under the package variables that it reads holding what the program's text lays in them; tied to the pruned copy of the project that holds the packages which the law loads. -/
import Derived.Test.YtfgpimhdjlmapaaGreatDoorRows
import Derived.Test.YtfgpimhdjlmapaaGreatDoorCards
import Derived.Test.YtfgpimhdjlmapaaGreatDoorTie
import Derived.Test.YtfgpimhdjlmapaaGreatDoorShGlobs
import Derived.Test.YtfgpimhdjlmapaaGreatDoorShTh
import Derived.ProofKit
import Derived.OpenShut
import Derived.ShutString
import Derived.Below
import Derived.LaidMore
import Derived.Stop.Joined
import Derived.SevenTiedAt
import Derived.Carry
import Derived.Test.YtfgpimhdjlmapaaGreatDoorHdZ
namespace Go.Proofs.YtfgpimhdjlmapaaGreatDoor
open Go.ChangeShapes Go.WideShapes Go.ChangeAt Go.RowKit
open Go.ChangeMaps (open_string shut_string)
open Tm (WB open_table open_ints laidL doorSteps door_met globs_of ShapeTight_c)
set_option linter.unusedVariables false
theorem ShapeTight_own : ownKnob Tryz.prog.godebug = none := by kernel_rfl
theorem ShapeTight_laid : laidOutB Tryz.prog = true := by kernel_rfl
set_option maxRecDepth 100000 in
theorem ShapeTight_lifted (os : Os) (started : os.Started) (H : Type) (enc : TypeId × Value → H) :
    ReturnsInHanded {} Tryz.checked os 4 .any (fun w args => (Rows.shapeTightSpec.pre enc Tryz.prog Tryz.f4 [] false w args ∧ laidMetH Tryz.prog laidL w) ∧ sizedMet enc Tryz.prog Tryz.f4 (OpenSpec.ofChange Rows.shapeTightSpec) false w args)
      (Rows.shapeTightSpec.post enc Tryz.prog Tryz.f4 false true false false) := by
  refine returnsInHanded_of_change_and (C := Tryz.checked) (X := fun w _ => laidMetH Tryz.prog laidL w) (fun _ _ _ hh h => h.of_heap hh) ShapeTight_own started (by kernel_rfl) Tryz.func4
    (ChangeSpec.witness_shaped (enc := enc) (C := Tryz.checked) (os := os) (X := fun w _ => laidMetH Tryz.prog laidL w) false (World.doorLaid Tryz.prog doorSteps os) #[.agg #[.slice none 0 0, .slice none 0 0, .slice none 0 0], .agg #[.slice none 0 0, .slice none 0 0], .agg #[.slice none 0 0], .slice none 0 0, .int .i64 0] 8 rfl (World.shaped_of_RefB (by kernel_rfl) (by kernel_rfl)) (by kernel_rfl) (by kernel_rfl) (by kernel_rfl) (door_met os _)) ?_
  intro W base args ds gs before hval0 hW _ hwt hL _
  have hval : ∀ (j : Nat) t v, Tryz.f4.params[j]? = some t → args[j]? = some v → Value.okWide Tryz.prog W .any base t v := hval0
  have hW' := hW
  obtain ⟨p, q, hA0, hV, rfl, hfz, hnd⟩ := hW
  have hA : DataW.TrodAll enc Tryz.prog W 0 (fun _ => true) true Tryz.f4.params.toList args.toList ds p := hA0
  rw [Tryz.params4] at hA hval
  obtain ⟨v0, vs0, d0, ds0, p0, q0, hargs, rfl, rfl, h0, r0⟩ := trodAll_cons hA
  obtain ⟨v1, vs1, d1, ds1, p1, q1, rfl, rfl, rfl, h1, r1⟩ := trodAll_cons r0
  obtain ⟨v2, vs2, d2, ds2, p2, q2, rfl, rfl, rfl, h2, r2⟩ := trodAll_cons r1
  obtain ⟨v3, vs3, d3, ds3, p3, q3, rfl, rfl, rfl, h3, r3⟩ := trodAll_cons r2
  obtain ⟨v4, vs4, d4, ds4, p4, q4, rfl, rfl, rfl, h4, r4⟩ := trodAll_cons r3
  obtain ⟨rfl, rfl, rfl⟩ := trodAll_nil r4
  obtain rfl : args = #[v0, v1, v2, v3, v4] := by cases args; simp_all
  obtain ⟨rfl, rfl⟩ := trodVars_none hV
  have h0k := h0
  obtain ⟨cs0, rfl, _⟩ := okWide_struct Tryz.underlying26 (hval 0 26 v0 rfl rfl)
  obtain ⟨fu0, hf0⟩ := h0
  have hB0 : WB 26 d0 := fun n hn => by simpa using List.all_eq_true.1 hwt n (DataW.weights_mem_each (j := 0) (t := 26) (d := d0) (by rw [Tryz.params4]; rfl) rfl n hn)
  obtain ⟨a0, hc0, w0, b0⟩ := open_sig hf0 (fun b off hb => hfz b off (by simp at hb ⊢; simp [hb]))
  obtain rfl : cs0 = #[.slice a0.sa a0.sorts.length a0.sc, .slice a0.fa a0.funs.length a0.fc, .slice a0.ma a0.macs.length a0.mc] := by have hc := hc0; cases cs0; simpa [Value.cells] using hc
  have hlt0 : ∀ x ∈ p0, x.block < W.heap.size := fun x hx => hW'.lt x (by simp; simp [hx])
  have h1k := h1
  obtain ⟨cs1, rfl, _⟩ := okWide_struct Tryz.underlying30 (hval 1 30 v1 rfl rfl)
  obtain ⟨fu1, hf1⟩ := h1
  obtain ⟨a1, hc1, w1⟩ := open_world hf1
  obtain rfl : cs1 = #[.slice a1.sa a1.sizes.length a1.sc, .slice a1.fa a1.funs.length a1.fc] := by have hc := hc1; cases cs1; simpa [Value.cells] using hc
  have hlt1 : ∀ x ∈ p1, x.block < W.heap.size := fun x hx => hW'.lt x (by simp; simp [hx])
  have h2k := h2
  obtain ⟨cs2, rfl, _⟩ := okWide_struct Tryz.underlying33 (hval 2 33 v2 rfl rfl)
  obtain ⟨fu2, hf2⟩ := h2
  obtain ⟨l2, a2, c2, hc2, w2⟩ := open_table hf2
  obtain rfl : cs2 = #[.slice a2 l2.length c2] := by have hc := hc2; cases cs2; simpa [Value.cells] using hc
  have hlt2 : ∀ x ∈ p2, x.block < W.heap.size := fun x hx => hW'.lt x (by simp; simp [hx])
  have h3k := h3
  obtain ⟨sa3, sl3, sc3, rfl, _⟩ := okWide_slice Tryz.underlying27 (hval 3 27 v3 rfl rfl)
  obtain ⟨fu3, hf3⟩ := h3
  have hB3 : WB 27 d3 := fun n hn => by simpa using List.all_eq_true.1 hwt n (DataW.weights_mem_each (j := 3) (t := 27) (d := d3) (by rw [Tryz.params4]; rfl) rfl n hn)
  obtain ⟨l3, a3, c3, hc3, w3, b3⟩ := open_ints hf3
  obtain ⟨rfl, rfl, rfl⟩ : sa3 = a3 ∧ sl3 = l3.length ∧ sc3 = c3 := by cases hc3; exact ⟨rfl, rfl, rfl⟩
  have hlt3 : ∀ x ∈ p3, x.block < W.heap.size := fun x hx => hW'.lt x (by simp; simp [hx])
  obtain ⟨a4, rfl, rfl, rfl, w4⟩ := open_int Tryz.underlying3 (hval 4 3 v4 rfl rfl) h4
  clear hA0 hval0
  refine (ShapeTight_c W a0 w0 a1 w1 l2 a2 c2 w2 l3 sa3 sc3 w3 a4 (i64_wf w4) (globs_of hL)).mono fun e W' ⟨he, bel⟩ => ?_
  subst he
  exact ⟨_, rfl, _, _, _, [], _, [], hW', trodAll_mk1 (shut_bool Tryz.underlying4 _), (trodAll_cons_mk (Below.trod ShapeTight_laid (by kernel_rfl) (of_decide_eq_true (by kernel_rfl)) h0k bel hlt0) (trodAll_cons_mk (Below.trod ShapeTight_laid (by kernel_rfl) (of_decide_eq_true (by kernel_rfl)) h1k bel hlt1) (trodAll_cons_mk (Below.trod ShapeTight_laid (by kernel_rfl) (of_decide_eq_true (by kernel_rfl)) h2k bel hlt2) (trodAll_cons_mk (Below.trod ShapeTight_laid (by kernel_rfl) (of_decide_eq_true (by kernel_rfl)) h3k bel hlt3) (trodAll_cons_mk (shut_int Tryz.underlying3 w4) trodAll_mk0))))), rfl, bel.frame _, fun h => by cases h⟩
theorem ShapeTight_row : Rows.ShapeTightSaid :=
  OpenClaim.holds_of_wide 4 Tryz.f4 rfl rfl rfl rfl rfl rfl rfl ⟨rfl, rfl, rfl, rfl, rfl⟩ rfl rfl rfl rfl rfl (by kernel_rfl) Tryz.func4 (by kernel_rfl)
    (of_decide_eq_true (by kernel_rfl)) (by unfold Func.isWrapper; first | (rw [if_pos (by decide +kernel)]; kernel_rfl) | (rw [if_neg (by decide +kernel)]; exact ⟨rfl, rfl⟩))
    (fun os started H enc _ => ShapeTight_lifted os started H enc)
/-- gantrylaw14.ShapeTight answers true for every input and leaves its arguments as they were; under the package variables that it reads holding what the program's text lays in them; tied to the pruned copy of the project that holds the packages which the law loads. -/
theorem ShapeTight_proved : Rows.ShapeTightCardSaid :=
  Claim7.holds_tied_plain_at .later [] [.data] true (true, "2b203fd3005d63b561760c12371602091a4b06a5a5cdf3a0339f24653935dbe7") false
    ShapeTight_row (fun _ h => by cases h) (by kernel_rfl) (fun _ h => by cases h) shapeTight_row_tie rfl ⟨rfl, rfl⟩ (by kernel_rfl) rfl
    (fun f fn hf hfn => by
      obtain rfl : f = 4 := Option.some.inj ((show Tryz.prog.funcNamed "gantry/gantrylaw14.ShapeTight" = some 4 by kernel_rfl).symm.trans hf) |>.symm
      obtain rfl : fn = Tryz.f4 := (Option.some.inj (Tryz.func4.symm.trans hfn)).symm
      exact ⟨by kernel_rfl, fun j t ht => by
        rw [Tryz.params4] at ht
        have hm : t ∈ [26, 30, 33, 27, 3] := by simpa using Array.mem_of_getElem? ht
        have hall : ([26, 30, 33, 27, 3].all fun u => !Tryz.prog.wantsStandIn u) = true := by kernel_rfl
        exact (show Tryz.prog.wantsStandIn t = false by simpa using List.all_eq_true.1 hall t hm)⟩)
    (by kernel_rfl)
#print axioms ShapeTight_proved
end Go.Proofs.YtfgpimhdjlmapaaGreatDoor
