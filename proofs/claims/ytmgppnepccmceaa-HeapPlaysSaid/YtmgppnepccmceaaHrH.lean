/- HeapPlays. -/
import Derived.Test.YtmgppnepccmceaaHrG1
import Derived.Test.YtmgppnepccmceaaHrG2
import Derived.Test.YtmgppnepccmceaaHrG3
namespace Go.Proofs.Ytmgppnepccmceaa
open Go.RowKit
set_option linter.unusedVariables false
set_option maxRecDepth 100000 in
set_option maxHeartbeats 1000000 in
theorem HeapPlays_w (w : World) (n : Int) (hn : I64 n) (az : List ActA) (a : Option Addr) (c : Nat) (hA : ActsR w az a c) (x : Int) (hx : I64 x) :
    Calls Try.prog 3 #[.int .i64 n, .slice a az.length c, .int .i64 x] w fun e w' => e = .returned (.bool true) ∧ Below w.heap.size w w' := by
  have HWk := Lib.hid (wakes_any w)
  have hle := hA.le
  have hcm : c ≤ 9223372036854775807 := by have := hA.cap; simp only [maxLen] at this; omega
  obtain ⟨l, hl⟩ : ∃ l, az.length = l := ⟨_, rfl⟩
  have HLL := Lib.hid hl
  rw [hl] at hle ⊢
  have HA := Lib.hid hA
  clear hA hl
  by_cases h1 : 300 < l
  · have h1i : (300 : Int) < (l : Int) := by omega
    go_enter Try.func3, Try.ntmps3
    go_wp2_with fail
    with_reducible refine HWk.out.mono ?_
    rintro e w1 ⟨rfl, hb⟩
    go_wp2
    go_ret
    exact ⟨rfl, hb⟩
  · have h1i : ¬ (300 : Int) < (l : Int) := by omega
    by_cases h2 : n < 0
    · exact Plays_neg w n hn h2 az a c l HLL h1i hle hcm HA.out x hx
    · by_cases h3 : 65536 < n
      · exact Plays_big w n hn h3 az a c l HLL h1i hle hcm HA.out x hx
      · by_cases h4 : 300 < n
        · have h5 : n ≤ 65536 := by omega
          go_enter Try.func3, Try.ntmps3
          go_wp2_with fail
          with_reducible refine HWk.out.mono ?_
          rintro e w1 ⟨rfl, hb⟩
          go_wp2
          go_ret
          exact ⟨rfl, hb⟩
        · obtain ⟨m, rfl⟩ : ∃ m : Nat, n = (m : Int) := ⟨n.toNat, by omega⟩
          exact Plays_made w m (by omega) az a c l HLL h1i hle hcm HA.out x hx
end Go.Proofs.Ytmgppnepccmceaa
