/- Which of two entries is ahead; two that are swapped. -/
import Derived.Test.YtmgppnepccmceaaHpC
import Derived.BigQuiet
import Derived.Shelf.SlSortCmp.QuietGrown
namespace Go.Proofs.Ytmgppnepccmceaa
open Go.RowKit
set_option linter.unusedVariables false
/-- What nodes are had by: the least first. -/
def keyA (A : List Int) (x : Nat) : Int := (1099511627776 - A.getD x 0) * 1048576 + x
theorem getD_act {A : List Int} (h : ∀ a ∈ A, 0 ≤ a ∧ a ≤ 1099511627776) (x : Nat) : 0 ≤ A.getD x 0 ∧ A.getD x 0 ≤ 1099511627776 := by
  rw [List.getD_eq_getElem?_getD]
  cases e : A[x]? with
  | none => exact ⟨by simp, by simp⟩
  | some a => exact h a (List.mem_of_getElem? e)
theorem cmp_key {A : List Int} {x y : Nat} (hx : x < 1000) (hy : y < 1000) : decide (cmpN ((x : Int), A.getD x 0) ((y : Int), A.getD y 0) < 0) = decide (keyA A x < keyA A y) := by
  unfold cmpN orI Lib.compareInt keyA
  obtain ⟨a, ha⟩ : ∃ a, A.getD x 0 = a := ⟨_, rfl⟩
  obtain ⟨b, hb⟩ : ∃ b, A.getD y 0 = b := ⟨_, rfl⟩
  rw [ha, hb]
  dsimp only
  apply decide_eq_decide.2
  repeat' split
  all_goals omega
theorem key_inj {A : List Int} {x y : Nat} (hx : x < 1000) (hy : y < 1000) (e : keyA A x = keyA A y) : x = y := by
  unfold keyA at e
  omega
theorem key_lt {A : List Int} {x y : Nat} (hx : x < 1000) (hy : y < 1000) : keyA A x < keyA A y ↔ (A.getD y 0 < A.getD x 0 ∨ A.getD x 0 = A.getD y 0 ∧ x < y) := by
  unfold keyA
  omega
section
variable {w : World} {h t nb ib : Nat} {A : List Int} {pl : Nat → Int} {L : List Nat}
theorem ahead_any (H : HX w h t nb ib A pl L) {x y : Nat} (hx : x < A.length) (hy : y < A.length) {r : Bool} (hr : decide (keyA A x < keyA A y) = r) :
    Calls Try.prog 37 #[.pointer (some ⟨nb, x * 3, none⟩), .pointer (some ⟨nb, y * 3, none⟩)] w fun e w' => e = .returned (.bool r) ∧ ∃ q os, w' = Sort.grow (w.drewN q) os := by
  have hle := H.le
  rw [← cmp_key (by omega) (by omega)] at hr
  obtain ⟨c, hc⟩ : ∃ c, cmpN ((x : Int), A.getD x 0) ((y : Int), A.getD y 0) = c := ⟨_, rfl⟩
  have HC : Hid (∀ n os, Calls Try.prog 36 #[.agg #[.int .i32 x, .int .i64 (A.getD x 0)], .agg #[.int .i32 y, .int .i64 (A.getD y 0)]] (Sort.grow (w.drewN n) os) fun e w'' => e = .returned (.int .i64 c) ∧ ∃ p : GrownBy, w'' = Sort.grow (w.drewN p.n) p.os) := fun n os => by
    have := compare_any ((x : Int), A.getD x 0) ((y : Int), A.getD y 0) (Sort.grow (w.drewN n) os)
    rw [hc] at this
    exact Calls.grown_of this
  rw [hc] at hr
  have x0 : ∀ n os, (Sort.grow (w.drewN n) os).cell? ⟨nb, x * 3, none⟩ = some (.int .i32 x) := fun n os => (H.grown n os).id hx
  have x1 : ∀ n os, (Sort.grow (w.drewN n) os).cell? ⟨nb, x * 3 + 1, none⟩ = some (.int .i64 (A.getD x 0)) := fun n os => (H.grown n os).ac hx
  have y0 : ∀ n os, (Sort.grow (w.drewN n) os).cell? ⟨nb, y * 3, none⟩ = some (.int .i32 y) := fun n os => (H.grown n os).id hy
  have y1 : ∀ n os, (Sort.grow (w.drewN n) os).cell? ⟨nb, y * 3 + 1, none⟩ = some (.int .i64 (A.getD y 0)) := fun n os => (H.grown n os).ac hy
  have HR := Lib.hid hr
  obtain ⟨a, ha⟩ : ∃ a, A.getD x 0 = a := ⟨_, rfl⟩
  obtain ⟨b, hb⟩ : ∃ b, A.getD y 0 = b := ⟨_, rfl⟩
  rw [ha] at x1 HC
  rw [hb] at y1 HC
  have mixed : Try.prog.follows .mixedOrders = true := by kernel_rfl
  clear hr hc hx hy H ha hb
  go_enter Try.func37, Try.ntmps37
  go_wp2
  go_quiet_grown ((go_at_call 36; exact HC.out _ _))
  go_wp2
  go_ret
  exact ⟨ret_bool HR.out, _, _, rfl⟩
end
end Go.Proofs.Ytmgppnepccmceaa
