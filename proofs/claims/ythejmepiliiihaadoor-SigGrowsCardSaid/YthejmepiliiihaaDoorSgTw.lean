/- SigTwice. -/
import Derived.Test.YthejmepiliiihaaDoorSgWk
import Derived.Deep.RegionHeld3
import Derived.BigQuiet
namespace Go.Proofs.YthejmepiliiihaaDoor
open Go.RowKit
set_option linter.unusedVariables false
theorem sig_cells {V : World} {b : Nat} {x : SigV} (h : V.heap[b]? = some (.cells #[.slice x.sa x.sorts.length x.sc, .slice x.fa x.funs.length x.fc, .slice x.ma x.macs.length x.mc] 26 (0, 0))) : V.cell? ⟨b, 0, none⟩ = some (.slice x.sa x.sorts.length x.sc) ∧ V.cell? ⟨b, 1, none⟩ = some (.slice x.fa x.funs.length x.fc) ∧ V.cell? ⟨b, 2, none⟩ = some (.slice x.ma x.macs.length x.mc) := by
  have a0 := cell_of_row _ _ 0 _ _ _ h
  have a1 := cell_of_row _ _ 1 _ _ _ h
  have a2 := cell_of_row _ _ 2 _ _ _ h
  simp only [List.getElem?_toArray, List.getElem?_cons_zero, List.getElem?_cons_succ] at a0 a1 a2
  exact ⟨a0, a1, a2⟩
theorem fun_cells {V : World} {b : Nat} {f : FunA} (h : V.heap[b]? = some (.cells #[.string f.name, .int .i64 f.len, .int .i64 f.a0, .int .i64 f.a1, .int .i64 f.a2, .int .i64 f.res] 29 (0, 0))) : V.cell? ⟨b, 0, none⟩ = some (.string f.name) ∧ V.cell? ⟨b, 1, none⟩ = some (.int .i64 f.len) ∧ V.cell? ⟨b, 2, none⟩ = some (.int .i64 f.a0) ∧ V.cell? ⟨b, 3, none⟩ = some (.int .i64 f.a1) ∧ V.cell? ⟨b, 4, none⟩ = some (.int .i64 f.a2) ∧ V.cell? ⟨b, 5, none⟩ = some (.int .i64 f.res) := by
  have a0 := cell_of_row _ _ 0 _ _ _ h
  have a1 := cell_of_row _ _ 1 _ _ _ h
  have a2 := cell_of_row _ _ 2 _ _ _ h
  have a3 := cell_of_row _ _ 3 _ _ _ h
  have a4 := cell_of_row _ _ 4 _ _ _ h
  have a5 := cell_of_row _ _ 5 _ _ _ h
  simp only [List.getElem?_toArray, List.getElem?_cons_zero, List.getElem?_cons_succ] at a0 a1 a2 a3 a4 a5
  exact ⟨a0, a1, a2, a3, a4, a5⟩
/-- What AddSort answers, for the walks. -/
def SoPost (w : World) (x : SigV) (s : ByteArray) (e : Ending) (w' : World) : Prop := ∃ (z : SigV) (r : Int), e = .returned (.tuple #[.agg #[.slice z.sa z.sorts.length z.sc, .slice z.fa z.funs.length z.fc, .slice z.ma z.macs.length z.mc], .int .i64 r]) ∧ Below w.heap.size w w' ∧ (r = 0 → z.a = ⟨x.sorts ++ [s], x.funs, x.a.macros⟩ ∧ SigR w' z ∧ SigK w' z ∧ mayA x.a = true ∧ mayA z.a = true ∧ freeA (memB (s, true) (namesA x.a)) s true = 0)
def FoPost (w : World) (x : SigV) (f : FunA) (e : Ending) (w' : World) : Prop := ∃ (z : SigV) (r : Int), e = .returned (.tuple #[.agg #[.slice z.sa z.sorts.length z.sc, .slice z.fa z.funs.length z.fc, .slice z.ma z.macs.length z.mc], .int .i64 r]) ∧ Below w.heap.size w w' ∧ (r = 0 → z.a = ⟨x.sorts, x.funs ++ [f], x.a.macros⟩ ∧ SigR w' z ∧ SigK w' z ∧ mayA x.a = true ∧ mayA z.a = true ∧ freeA (memB (f.name, false) (namesA x.a)) f.name false = 0)
/-- Refused: whatever is handed back. -/
def NoPost (w : World) (k : Int) (e : Ending) (w' : World) : Prop := ∃ z : SigV, e = .returned (.tuple #[.agg #[.slice z.sa z.sorts.length z.sc, .slice z.fa z.funs.length z.fc, .slice z.ma z.macs.length z.mc], .int .i64 k]) ∧ Below w.heap.size w w'
theorem sort_so (x : SigV) (s : ByteArray) (w : World) (hG : GS w) (hR : SigR w x) (hs : s.size ≤ maxLen) (hT : Rows_ok x.a) : Calls Tryd.prog 7 #[.agg #[.slice x.sa x.sorts.length x.sc, .slice x.fa x.funs.length x.fc, .slice x.ma x.macs.length x.mc], .string s] w (SoPost w x s) := by
  refine (AddSort_any x s w hG hR hs hT).mono ?_
  rintro e w' ⟨z, r, rfl, hb, h0, _, _⟩
  refine ⟨z, r, rfl, hb, fun hr => ?_⟩
  obtain ⟨q1, q2, q3, q4, q5, q6, q7⟩ := h0 hr
  refine ⟨q1, q2, q3, q4, ?_, q5⟩
  rw [q1]
  exact mayA_sort (x := x.a) q4 q5 q6 q7
theorem fun_fo (x : SigV) (f : FunA) (w : World) (hG : GS w) (hR : SigR w x) (hf : FunOk f) (hT : Rows_ok x.a) : Calls Tryd.prog 12 #[.agg #[.slice x.sa x.sorts.length x.sc, .slice x.fa x.funs.length x.fc, .slice x.ma x.macs.length x.mc], .agg #[.string f.name, .int .i64 f.len, .int .i64 f.a0, .int .i64 f.a1, .int .i64 f.a2, .int .i64 f.res]] w (FoPost w x f) := by
  refine (AddFun_any x f w hG hR hf hT).mono ?_
  rintro e w' ⟨z, r, rfl, hb, h0, _, _⟩
  refine ⟨z, r, rfl, hb, fun hr => ?_⟩
  obtain ⟨q1, q2, q3, q4, q5, q6, q7⟩ := h0 hr
  refine ⟨q1, q2, q3, q4, ?_, q5⟩
  rw [q1]
  exact mayA_fun (x := x.a) q4 q5 q6 q7
theorem names_few {x : SigV} (h : mayA x.a = true) : (namesA x.a).length ≤ 1000 := by
  have := may_few h
  rw [names_len]
  simp [SigV.a]
  omega
theorem twice_sort {x z : SigV} {s : ByteArray} (hz : z.a = ⟨x.sorts ++ [s], x.funs, x.a.macros⟩) (hf : freeA (memB (s, true) (namesA x.a)) s true = 0) : freeA (memB (s, true) (namesA z.a)) s true = 32 := by
  rw [hz, show memB (s, true) (namesA ⟨x.sorts ++ [s], x.funs, x.a.macros⟩) = true from (names_sort x.a s true s).trans (by simp)]
  exact freeA_there (freeA_zero hf).1
theorem twice_sort' {x z : SigV} {s : ByteArray} (hz : z.a = ⟨x.sorts ++ [s], x.funs, x.a.macros⟩) : freeA (memB (s, false) (namesA z.a)) s false = freeA (memB (s, false) (namesA x.a)) s false := by
  rw [hz, show memB (s, false) (namesA ⟨x.sorts ++ [s], x.funs, x.a.macros⟩) = memB (s, false) (namesA x.a) from (names_sort x.a s false s).trans (by simp)]
theorem twice_fun {x z : SigV} {f : FunA} (hz : z.a = ⟨x.sorts, x.funs ++ [f], x.a.macros⟩) (hf : freeA (memB (f.name, false) (namesA x.a)) f.name false = 0) : freeA (memB (f.name, false) (namesA z.a)) f.name false = 32 := by
  rw [hz, show memB (f.name, false) (namesA ⟨x.sorts, x.funs ++ [f], x.a.macros⟩) = true from (names_fun x.a f false f.name).trans (by simp)]
  exact freeA_there (freeA_zero hf).1
theorem twice_fun' {x z : SigV} {f : FunA} (hz : z.a = ⟨x.sorts, x.funs ++ [f], x.a.macros⟩) : freeA (memB (f.name, true) (namesA z.a)) f.name true = freeA (memB (f.name, true) (namesA x.a)) f.name true := by
  rw [hz, show memB (f.name, true) (namesA ⟨x.sorts, x.funs ++ [f], x.a.macros⟩) = memB (f.name, true) (namesA x.a) from (names_fun x.a f true f.name).trans (by simp)]
theorem sort_no (x z : SigV) (s : ByteArray) (w : World) (hG : GS w) (hR : SigR w z) (hK : SigK w z) (hs : s.size ≤ maxLen) (hT : Rows_ok x.a) (hz : z.a = ⟨x.sorts ++ [s], x.funs, x.a.macros⟩) (hm : mayA z.a = true) (hf : freeA (memB (s, true) (namesA x.a)) s true = 0) : Calls Tryd.prog 7 #[.agg #[.slice z.sa z.sorts.length z.sc, .slice z.fa z.funs.length z.fc, .slice z.ma z.macs.length z.mc], .string s] w (NoPost w 32) := by
  refine (AddSort_any z s w hG hR hs (by rw [hz]; exact hT)).mono ?_
  rintro e w' ⟨z', r, rfl, hb, _, h1, _⟩
  have h32 := twice_sort hz hf
  have hr : r = 32 := (h1 hK hm (by show ¬ freeA (memB (s, true) (namesA z.a)) s true = 0; rw [h32]; decide)).trans h32
  subst hr
  exact ⟨z', rfl, hb⟩
theorem fun_no (x z : SigV) (f : FunA) (w : World) (hG : GS w) (hR : SigR w z) (hK : SigK w z) (hF : FunOk f) (hT : Rows_ok x.a) (hz : z.a = ⟨x.sorts, x.funs ++ [f], x.a.macros⟩) (hm : mayA z.a = true) (hf : freeA (memB (f.name, false) (namesA x.a)) f.name false = 0) : Calls Tryd.prog 12 #[.agg #[.slice z.sa z.sorts.length z.sc, .slice z.fa z.funs.length z.fc, .slice z.ma z.macs.length z.mc], .agg #[.string f.name, .int .i64 f.len, .int .i64 f.a0, .int .i64 f.a1, .int .i64 f.a2, .int .i64 f.res]] w (NoPost w 32) := by
  refine (AddFun_any z f w hG hR hF (by rw [hz]; exact hT)).mono ?_
  rintro e w' ⟨z', r, rfl, hb, _, h1, _⟩
  have h32 := twice_fun hz hf
  have hr : r = 32 := (h1 hK hm (by show ¬ freeA (memB (f.name, false) (namesA z.a)) f.name false = 0; rw [h32]; decide)).trans h32
  subst hr
  exact ⟨z', rfl, hb⟩
theorem mac_no (x z : SigV) (f : FunA) (w : World) (hG : GS w) (hR : SigR w z) (hK : SigK w z) (hF : FunOk f) (hT : Rows_ok x.a) (hz : z.a = ⟨x.sorts, x.funs ++ [f], x.a.macros⟩) (hm : mayA z.a = true) (hf : freeA (memB (f.name, false) (namesA x.a)) f.name false = 0) : Calls Tryd.prog 15 #[.agg #[.slice z.sa z.sorts.length z.sc, .slice z.fa z.funs.length z.fc, .slice z.ma z.macs.length z.mc], .agg #[.string f.name, .slice none 0 0, .int .i64 0, .int .i8 0, .string ⟨#[116, 114, 117, 101]⟩, .slice none 0 0]] w (NoPost w 32) := by
  refine (AddMacro_any z ⟨⟨f.name, [], 0, .node 0 [116, 114, 117, 101] []⟩, none, 0, none, 0⟩ w hG hR ⟨hF.name, Nat.le_refl _, Nat.zero_le _, fun h => absurd h (by simp), fun _ h => by simp at h, (show I64 0 from ⟨by decide, by decide⟩), ?_⟩ ?_ (by rw [hz]; exact hT)).mono ?_
  · exact ⟨none, 0, rfl, Nat.le_refl _, Nat.zero_le _, by decide, trivial⟩
  · unfold RowsT; simp
  rintro e w' ⟨z', r, rfl, hb, _, h1, _⟩
  have h32 := twice_fun hz hf
  have hr : r = 32 := (h1 hK hm (by show ¬ freeA (memB (f.name, false) (namesA z.a)) f.name false = 0; rw [h32]; decide)).trans h32
  subst hr
  exact ⟨z', rfl, hb⟩
end Go.Proofs.YthejmepiliiihaaDoor
