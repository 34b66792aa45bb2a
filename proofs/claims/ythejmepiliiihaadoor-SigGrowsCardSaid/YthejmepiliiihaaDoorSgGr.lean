/- What SigGrows calls. -/
import Derived.Test.YthejmepiliiihaaDoorSgTw
namespace Go.Proofs.YthejmepiliiihaaDoor
open Go.RowKit
set_option linter.unusedVariables false
/-- Cut back to x. -/
def CbPost (w : World) (x : SigV) (e : Ending) (w' : World) : Prop := ∃ z : SigV, e = .returned (.tuple #[.agg #[.slice z.sa z.sorts.length z.sc, .slice z.fa z.funs.length z.fc, .slice z.ma z.macs.length z.mc], .int .i64 0]) ∧ z.a = x.a ∧ SigR w' z ∧ Below w.heap.size w w'
theorem back_sort {x z : SigV} {s : ByteArray} (hz : z.a = ⟨x.sorts ++ [s], x.funs, x.a.macros⟩) : cutA z.a x.sorts.length x.funs.length x.macs.length = x.a := by
  rw [hz]
  have := cut_sort x.a s
  simpa [SigV.a] using this
theorem back_fun {x z : SigV} {f : FunA} (hz : z.a = ⟨x.sorts, x.funs ++ [f], x.a.macros⟩) : cutA z.a x.sorts.length x.funs.length x.macs.length = x.a := by
  rw [hz]
  have := cut_fun x.a f
  simpa [SigV.a] using this
theorem cut_back (x z : SigV) (w : World) (hG : GS w) (hR : SigR w z) (hK : SigK w z) (hT : Rows_ok z.a) (hm : mayA x.a = true) (hmz : mayA z.a = true) (hb : cutA z.a x.sorts.length x.funs.length x.macs.length = x.a) (h1 : x.sorts.length ≤ z.sorts.length) (h2 : x.funs.length ≤ z.funs.length) (h3 : x.macs.length ≤ z.macs.length) :
    Calls Tryd.prog 9 #[.agg #[.slice z.sa z.sorts.length z.sc, .slice z.fa z.funs.length z.fc, .slice z.ma z.macs.length z.mc], .int .i64 x.sorts.length, .int .i64 x.funs.length, .int .i64 x.macs.length] w (CbPost w x) := by
  refine (Cut_any z x.sorts.length x.funs.length x.macs.length w hG hR hK hT hmz (by rw [hb]; exact hm) h1 h2 h3).mono ?_
  rintro e w' ⟨c, rfl, hc, hR', hK', hb'⟩
  exact ⟨c, rfl, hc.trans hb, hR', hb'⟩
theorem check_ok (z : SigV) (w : World) (hG : GS w) (hR : SigR w z) (hK : SigK w z) (hm : mayA z.a = true) : Calls Tryd.prog 11 #[.agg #[.slice z.sa z.sorts.length z.sc, .slice z.fa z.funs.length z.fc, .slice z.ma z.macs.length z.mc]] w fun e w' => e = .returned (.int .i64 0) ∧ Below w.heap.size w w' := by
  refine (Check_any z w hG hR).mono ?_
  rintro e w' ⟨r, rfl, _, h, hb⟩
  have := h hK hm
  subst this
  exact ⟨rfl, hb⟩
theorem len_sort {x z : SigV} {s : ByteArray} (hz : z.a = ⟨x.sorts ++ [s], x.funs, x.a.macros⟩) : z.sorts = x.sorts ++ [s] ∧ x.sorts.length ≤ z.sorts.length ∧ x.funs.length ≤ z.funs.length ∧ x.macs.length ≤ z.macs.length := by
  simp only [SigV.a, SigA.mk.injEq] at hz
  obtain ⟨h1, h2, h3⟩ := hz
  have := congrArg List.length h3
  simp only [List.length_map] at this
  exact ⟨h1, by rw [h1]; simp, by rw [h2]; exact Nat.le_refl _, by omega⟩
theorem len_fun {x z : SigV} {f : FunA} (hz : z.a = ⟨x.sorts, x.funs ++ [f], x.a.macros⟩) : z.funs = x.funs ++ [f] ∧ x.sorts.length ≤ z.sorts.length ∧ x.funs.length ≤ z.funs.length ∧ x.macs.length ≤ z.macs.length := by
  simp only [SigV.a, SigA.mk.injEq] at hz
  obtain ⟨h1, h2, h3⟩ := hz
  have := congrArg List.length h3
  simp only [List.length_map] at this
  exact ⟨h2, by rw [h1]; exact Nat.le_refl _, by rw [h2]; simp, by omega⟩
/-- The sort that was added; and any other. -/
theorem sort_added {x z : SigV} {s : ByteArray} (w : World) (hG : GS w) (hR : SigR w z) (hz : z.a = ⟨x.sorts ++ [s], x.funs, x.a.macros⟩) (hmz : mayA z.a = true) (hf : freeA (memB (s, true) (namesA x.a)) s true = 0) : Calls Tryd.prog 8 #[.agg #[.slice z.sa z.sorts.length z.sc, .slice z.fa z.funs.length z.fc, .slice z.ma z.macs.length z.mc], .string s] w fun e w' => e = .returned (.tuple #[.int .i64 (2 + (x.sorts.length : Int)), .bool true]) ∧ Below w.heap.size w w' := by
  have := Sort_any z s w hG hR (by have := may_few hmz; omega)
  obtain ⟨_, q2, q3⟩ := freeA_zero hf
  obtain ⟨e1, e2⟩ := sort_new (l := x.sorts) (s := s) (mem_sorts (x := x.a) q2) q3
  rw [(len_sort hz).1, e1, e2] at this
  rw [(len_sort hz).1]
  exact this
theorem sort_other {x z : SigV} {s o : ByteArray} (w : World) (hG : GS w) (hR : SigR w z) (hz : z.a = ⟨x.sorts ++ [s], x.funs, x.a.macros⟩) (hmz : mayA z.a = true) : Calls Tryd.prog 8 #[.agg #[.slice z.sa z.sorts.length z.sc, .slice z.fa z.funs.length z.fc, .slice z.ma z.macs.length z.mc], .string o] w fun e w' => e = .returned (.tuple #[.int .i64 (sortI (x.sorts ++ [s]) o), .bool (sortB (x.sorts ++ [s]) o)]) ∧ Below w.heap.size w w' := by
  have := Sort_any z o w hG hR (by have := may_few hmz; omega)
  rw [(len_sort hz).1] at this
  rw [(len_sort hz).1]
  exact this
theorem fun_added {x z : SigV} {f : FunA} (w : World) (hR : SigR w z) (hz : z.a = ⟨x.sorts, x.funs ++ [f], x.a.macros⟩) (hf : freeA (memB (f.name, false) (namesA x.a)) f.name false = 0) : Calls Tryd.prog 13 #[.agg #[.slice z.sa z.sorts.length z.sc, .slice z.fa z.funs.length z.fc, .slice z.ma z.macs.length z.mc], .string f.name] w fun e w' => e = .returned (.tuple #[.int .i64 (x.funs.length : Int), .bool true]) ∧ Below w.heap.size w w' := by
  have := Fun_any z f.name w hR
  obtain ⟨_, q2, q3⟩ := freeA_zero hf
  have hn := fnd_new (l := x.funs.map (·.name)) (s := f.name) (mem_funs (x := x.a) q2)
  rw [List.length_map] at hn
  rw [(len_fun hz).1, List.map_append, List.map_cons, List.map_nil, hn.1, hn.2] at this
  rw [(len_fun hz).1]
  exact this
theorem fun_other {x z : SigV} {f : FunA} {o : ByteArray} (w : World) (hR : SigR w z) (hz : z.a = ⟨x.sorts, x.funs ++ [f], x.a.macros⟩) : Calls Tryd.prog 13 #[.agg #[.slice z.sa z.sorts.length z.sc, .slice z.fa z.funs.length z.fc, .slice z.ma z.macs.length z.mc], .string o] w fun e w' => e = .returned (.tuple #[.int .i64 (fndI (x.funs.map (·.name) ++ [f.name]) o), .bool (fndB (x.funs.map (·.name) ++ [f.name]) o)]) ∧ Below w.heap.size w w' := by
  have := Fun_any z o w hR
  rw [(len_fun hz).1, List.map_append, List.map_cons, List.map_nil] at this
  rw [(len_fun hz).1]
  exact this
end Go.Proofs.YthejmepiliiihaaDoor
