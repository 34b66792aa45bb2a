/- gantrylaw17.RupTells answers true for every input and leaves its arguments as they were; under the package variable clause.turned holding what the program's text lays in it; tied to the pruned copy of the project that holds the packages which the law loads. -/
import Derived.Test.YtggighikemhnfaaDoorRows
import Derived.Test.YtggighikemhnfaaDoorCards
import Derived.Test.YtggighikemhnfaaDoorTie
import Derived.Test.YtggighikemhnfaaDoorZClGlobs
import Derived.Test.YtggighikemhnfaaDoorZRcJ
import Derived.ProofKit
import Derived.OpenShut
import Derived.ShutString
import Derived.Below
import Derived.LaidMore
import Derived.Stop.Joined
import Derived.SevenTiedAt
import Derived.Carry
import Derived.Test.YtggighikemhnfaaDoorZTmOpen
namespace Go.Proofs.YtggighikemhnfaaDoor
open Go.ChangeShapes Go.WideShapes Go.ChangeAt Go.RowKit
open Go.ChangeMaps (open_string shut_string)
open Tm (open_rows open_bools open_ints laidL doorSteps door_met globs_of RupTells_c i64_wf WB)
set_option linter.unusedVariables false
theorem RupTells_own : ownKnob Tryd.prog.godebug = none := by kernel_rfl
theorem RupTells_laid : laidOutB Tryd.prog = true := by kernel_rfl
set_option maxRecDepth 100000 in
theorem RupTells_lifted (os : Os) (started : os.Started) (H : Type) (enc : TypeId × Value → H) :
    ReturnsInHanded {} Tryd.checked os 6 .any (fun w args => (Rows.rupTellsSpec.pre enc Tryd.prog Tryd.f6 [] false w args ∧ laidMetH Tryd.prog laidL w) ∧ sizedMet enc Tryd.prog Tryd.f6 (OpenSpec.ofChange Rows.rupTellsSpec) false w args)
      (Rows.rupTellsSpec.post enc Tryd.prog Tryd.f6 false true false false) := by
  refine returnsInHanded_of_change_and (C := Tryd.checked) (X := fun w _ => laidMetH Tryd.prog laidL w) (fun _ _ _ hh h => h.of_heap hh) RupTells_own started (by kernel_rfl) Tryd.func6
    (ChangeSpec.witness_shaped (enc := enc) (C := Tryd.checked) (os := os) (X := fun w _ => laidMetH Tryd.prog laidL w) false (World.doorLaid Tryd.prog doorSteps os) #[.slice none 0 0, .slice none 0 0, .slice none 0 0] 8 rfl (World.shaped_of_RefB (by kernel_rfl) (by kernel_rfl)) (by kernel_rfl) (by kernel_rfl) (by kernel_rfl) (door_met os _)) ?_
  intro W base args ds gs before hval0 hW _ hwt hL _
  have hval : ∀ (j : Nat) t v, Tryd.f6.params[j]? = some t → args[j]? = some v → Value.okWide Tryd.prog W .any base t v := hval0
  have hW' := hW
  obtain ⟨p, q, hA0, hV, rfl, hfz, hnd⟩ := hW
  have hA : DataW.TrodAll enc Tryd.prog W 0 (fun _ => true) true Tryd.f6.params.toList args.toList ds p := hA0
  rw [Tryd.params6] at hA hval
  obtain ⟨v0, vs0, d0, ds0, p0, q0, hargs, rfl, rfl, h0, r0⟩ := trodAll_cons hA
  obtain ⟨v1, vs1, d1, ds1, p1, q1, rfl, rfl, rfl, h1, r1⟩ := trodAll_cons r0
  obtain ⟨v2, vs2, d2, ds2, p2, q2, rfl, rfl, rfl, h2, r2⟩ := trodAll_cons r1
  obtain ⟨rfl, rfl, rfl⟩ := trodAll_nil r2
  obtain rfl : args = #[v0, v1, v2] := by cases args; simp_all
  obtain ⟨rfl, rfl⟩ := trodVars_none hV
  have h0k := h0
  obtain ⟨sa0, sl0, sc0, rfl, _⟩ := okWide_slice Tryd.underlying22 (hval 0 22 v0 rfl rfl)
  obtain ⟨fu0, hf0⟩ := h0
  obtain ⟨l0, a0, c0, hc0, w0, _⟩ := open_rows hf0
  obtain ⟨rfl, rfl, rfl⟩ : sa0 = a0 ∧ sl0 = l0.length ∧ sc0 = c0 := by cases hc0; exact ⟨rfl, rfl, rfl⟩
  have hlt0 : ∀ x ∈ p0, x.block < W.heap.size := fun x hx => hW'.lt x (by simp; simp [hx])
  have h1k := h1
  obtain ⟨sa1, sl1, sc1, rfl, _⟩ := okWide_slice Tryd.underlying22 (hval 1 22 v1 rfl rfl)
  obtain ⟨fu1, hf1⟩ := h1
  obtain ⟨l1, a1, c1, hc1, w1, _⟩ := open_rows hf1
  obtain ⟨rfl, rfl, rfl⟩ : sa1 = a1 ∧ sl1 = l1.length ∧ sc1 = c1 := by cases hc1; exact ⟨rfl, rfl, rfl⟩
  have hlt1 : ∀ x ∈ p1, x.block < W.heap.size := fun x hx => hW'.lt x (by simp; simp [hx])
  have h2k := h2
  obtain ⟨sa2, sl2, sc2, rfl, _⟩ := okWide_slice Tryd.underlying23 (hval 2 23 v2 rfl rfl)
  obtain ⟨fu2, hf2⟩ := h2
  have hB2 : WB 23 d2 := fun n hn => by simpa using List.all_eq_true.1 hwt n (DataW.weights_mem_each (j := 2) (t := 23) (d := d2) (by rw [Tryd.params6]; rfl) rfl n hn)
  obtain ⟨l2, a2, c2, hc2, w2, b2⟩ := open_ints hf2
  obtain ⟨rfl, rfl, rfl⟩ : sa2 = a2 ∧ sl2 = l2.length ∧ sc2 = c2 := by cases hc2; exact ⟨rfl, rfl, rfl⟩
  have hlt2 : ∀ x ∈ p2, x.block < W.heap.size := fun x hx => hW'.lt x (by simp; simp [hx])
  clear hA0 hval0
  refine (RupTells_c W l0 sa0 sc0 w0 l1 sa1 sc1 w1 l2 sa2 sc2 w2 (globs_of hL)).mono fun e W' ⟨he, bel⟩ => ?_
  subst he
  exact ⟨_, rfl, _, _, _, [], _, [], hW', trodAll_mk1 (shut_bool Tryd.underlying4 _), (trodAll_cons_mk (Below.trod RupTells_laid (by kernel_rfl) (of_decide_eq_true (by kernel_rfl)) h0k bel hlt0) (trodAll_cons_mk (Below.trod RupTells_laid (by kernel_rfl) (of_decide_eq_true (by kernel_rfl)) h1k bel hlt1) (trodAll_cons_mk (Below.trod RupTells_laid (by kernel_rfl) (of_decide_eq_true (by kernel_rfl)) h2k bel hlt2) trodAll_mk0))), rfl, bel.frame _, fun h => by cases h⟩
theorem RupTells_row : Rows.RupTellsSaid :=
  OpenClaim.holds_of_wide 6 Tryd.f6 rfl rfl rfl rfl rfl rfl rfl ⟨rfl, rfl, rfl, rfl, rfl⟩ rfl rfl rfl rfl rfl (by kernel_rfl) Tryd.func6 (by kernel_rfl)
    (of_decide_eq_true (by kernel_rfl)) (by unfold Func.isWrapper; first | (rw [if_pos (by decide +kernel)]; kernel_rfl) | (rw [if_neg (by decide +kernel)]; exact ⟨rfl, rfl⟩))
    (fun os started H enc _ => RupTells_lifted os started H enc)
/-- gantrylaw17.RupTells answers true for every input and leaves its arguments as they were; under the package variable clause.turned holding what the program's text lays in it; tied to the pruned copy of the project that holds the packages which the law loads. -/
theorem RupTells_proved : Rows.RupTellsCardSaid :=
  Claim7.holds_tied_plain_at .later [] [.data] true (true, "ef958d7b4f1083a49634a6a009e468d1067731aa4f20c3ee596c02b8c1afc2da") true
    RupTells_row (fun _ h => by cases h) (by kernel_rfl) (fun _ h => by cases h) rupTells_row_tie rfl ⟨rfl, rfl⟩ (by kernel_rfl) rfl
    (fun f fn hf hfn => by
      obtain rfl : f = 6 := Option.some.inj ((show Tryd.prog.funcNamed "gantry/gantrylaw17.RupTells" = some 6 by kernel_rfl).symm.trans hf) |>.symm
      obtain rfl : fn = Tryd.f6 := (Option.some.inj (Tryd.func6.symm.trans hfn)).symm
      exact ⟨by kernel_rfl, fun j t ht => by
        rw [Tryd.params6] at ht
        have hm : t ∈ [22, 22, 23] := by simpa using Array.mem_of_getElem? ht
        have hall : ([22, 22, 23].all fun u => !Tryd.prog.wantsStandIn u) = true := by kernel_rfl
        exact (show Tryd.prog.wantsStandIn t = false by simpa using List.all_eq_true.1 hall t hm)⟩)
    (by kernel_rfl)
#print axioms RupTells_proved
end Go.Proofs.YtggighikemhnfaaDoor
