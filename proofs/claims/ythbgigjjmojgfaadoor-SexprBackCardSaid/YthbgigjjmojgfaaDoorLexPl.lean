/- Package lex's Plain, of a name of at most 100 bytes that is not reserved. -/
import Derived.Test.YthbgigjjmojgfaaDoorLexPa
import Derived.Test.YthbgigjjmojgfaaDoorLexPb
import Derived.Test.YthbgigjjmojgfaaDoorLexPc
namespace Go.Proofs.YthbgigjjmojgfaaDoor
open Go.RowKit
theorem Plain_any (s : ByteArray) (w : World) (hG : Globs w) (hs : s.size ≤ 100) (hr : resB s.data.toList = false) :
    Calls Tryd.prog 87 #[.string s] w fun e w' => e = .returned (.bool (plainB s.data.toList)) ∧ Below w.heap.size w w' := by
  by_cases h0 : s.size = 0
  · have hn : s.toList = [] := bytes_nil.2 h0
    have hem : s.toList.isEmpty = true := by rw [hn]; rfl
    have HP : Hid (plainB s.data.toList = false) := by show _ = _; rw [← ByteArray.toList_eq, hn]; rfl
    clear h0
    go_enter Tryd.func87, Tryd.ntmps87
    go_wp2
    go_quiet (fail)
    go_wp2
    go_ret
    exact ⟨ret_bool HP.out.symm, below_drewN (Below.refl _ _) _⟩
  · have hp : 0 < s.size := by omega
    have hd : s.data.toList = s[0] :: s.data.toList.drop 1 := by have := drop_cons s 0 hp; simpa using this
    have hpl : plainB s.data.toList = (s.data.toList.all isSign && !isDg s[0]) := by
      unfold plainB
      have e1 : s.data.toList.isEmpty = false := by rw [hd]; rfl
      have e2 : s.data.toList.head? = some s[0] := by rw [hd]; rfl
      rw [e1, e2]
      simp
    rw [hpl]
    cases ha : s.data.toList.all isSign with
    | false => exact Plain_a s w hG hp hs hr ha
    | true =>
      cases hdg : isDg s[0] with
      | true => exact Plain_b s w hG hp hs hr ha hdg
      | false => exact Plain_c s w hG hp hs hr ha hdg
end Go.Proofs.YthbgigjjmojgfaaDoor
