/- The examples that every law of package lex tries hold. -/
import Derived.Test.YtdpogjkfmncnlaaDoorLexAll
import Derived.Test.YtdpogjkfmncnlaaDoorLexFacts
namespace Go.Proofs.YtdpogjkfmncnlaaDoor
open Go.RowKit
/-- The slice at A reads as the tokens ts. -/
def TokAt (w : World) (A : Option Addr) (ts : List Tok) : Prop :=
  0 < ts.length → ∃ g, A = some ⟨g, 0, none⟩ ∧ g < w.heap.size ∧ ∀ i (h : i < ts.length), w.cell? ⟨g, i * 4, none⟩ = some (.int .i8 ts[i].kind) ∧ w.cell? ⟨g, i * 4 + 1, none⟩ = some (.string (bytesL ts[i].text)) ∧
    w.cell? ⟨g, i * 4 + 2, none⟩ = some (.int .i64 ts[i].pos) ∧ w.cell? ⟨g, i * 4 + 3, none⟩ = some (.int .i64 ts[i].stop)
theorem TokAt.below {w w' : World} {A : Option Addr} {ts : List Tok} (h : TokAt w A ts) (hb : Below w.heap.size w w') : TokAt w' A ts := by
  intro h0
  obtain ⟨g, e, hg, hc⟩ := h h0
  refine ⟨g, e, Nat.lt_of_lt_of_le hg hb.size, fun i hi => ?_⟩
  obtain ⟨c0, c1, c2, c3⟩ := hc i hi
  exact ⟨(hb.cell (p := ⟨g, _, none⟩) hg).trans c0, (hb.cell (p := ⟨g, _, none⟩) hg).trans c1, (hb.cell (p := ⟨g, _, none⟩) hg).trans c2, (hb.cell (p := ⟨g, _, none⟩) hg).trans c3⟩
theorem tokCells_at (ts : List Tok) (i : Nat) (h : i < ts.length) : (tokCells ts)[i * 4]? = some (.int .i8 ts[i].kind) ∧ (tokCells ts)[i * 4 + 1]? = some (.string (bytesL ts[i].text)) ∧
    (tokCells ts)[i * 4 + 2]? = some (.int .i64 ts[i].pos) ∧ (tokCells ts)[i * 4 + 3]? = some (.int .i64 ts[i].stop) := by
  induction ts generalizing i with
  | nil => simp at h
  | cons t r ih =>
    have hd : tokCells (t :: r) = (tokC t).toList ++ tokCells r := rfl
    cases i with
    | zero => rw [hd]; simp [tokC]
    | succ i =>
      have := ih i (by simpa using h)
      have e : ∀ j, (tokCells (t :: r))[(i + 1) * 4 + j]? = (tokCells r)[i * 4 + j]? := fun j => by
        rw [hd, List.getElem?_append_right (by simp [tokC]; omega)]
        congr 1
        simp [tokC]; omega
      have e0 := e 0
      simp only [Nat.add_zero] at e0
      rw [e0, e, e, e]
      simpa using this
/-- What All answers, where the plain facts say ts, p, e. -/
def AllRd (ts : List Tok) (p e : Int) (w : World) (en : Ending) (w' : World) : Prop :=
  ∃ A cap, en = .returned (.tuple #[.slice A ts.length cap, .int .i64 p, .int .i64 e]) ∧ ts.length ≤ cap ∧ TokAt w' A ts ∧ Below w.heap.size w w'
theorem All_to (s : ByteArray) (ts : List Tok) (p e : Nat) (pi ei : Int) (w : World) (hG : Globs w) (hs : s.size ≤ 1000000) (ha : allL s.data.toList 0 = (ts, p, e)) (hp : (p : Int) = pi) (he : (e : Int) = ei) :
    Calls Tryd.prog 8 #[.string s] w (AllRd ts pi ei w) := by
  subst hp; subst he
  refine (All_any s w hG hs).mono fun en w' ⟨v, h1, h2, h3⟩ => ?_
  rw [ha] at h1 h2
  simp only at h1 h2
  rcases h2.2 with ⟨rfl, h0⟩ | ⟨g, cap, cur, rfl, hb, hh, hc, _⟩
  · refine ⟨none, 0, by rw [h1, h0], by omega, fun h => by omega, h3⟩
  · refine ⟨some ⟨g, 0, none⟩, cap, h1, hc, fun _ => ⟨g, rfl, (Array.getElem?_eq_some_iff.1 hh).1, fun i hi => ?_⟩, h3⟩
    obtain ⟨c0, c1, c2, c3⟩ := tokCells_at ts i hi
    have hcell := h2.cells (g := g) rfl
    have hadd : ∀ j, (⟨g, 0, none⟩ : Addr).add j = ⟨g, j, none⟩ := fun j => by unfold Addr.add; split <;> simp_all
    have f := fun j u h => (hadd j) ▸ hcell j u h
    exact ⟨f _ _ c0, f _ _ c1, f _ _ c2, f _ _ c3⟩
def wk1 : List Tok := [⟨0, [], 0, 1⟩, ⟨2, [97], 1, 2⟩, ⟨2, [98, 32, 99], 3, 8⟩, ⟨3, [55], 9, 10⟩, ⟨4, [107], 11, 13⟩, ⟨1, [], 13, 14⟩]
theorem wk1_all : allL [40, 97, 32, 124, 98, 32, 99, 124, 32, 55, 32, 58, 107, 41] 0 = (wk1, 14, 0) := by decide +kernel
theorem wk2_all : allL [48, 48, 55] 0 = ([], 0, 20) := by decide +kernel
set_option maxHeartbeats 1000000 in
theorem wakes_any (w : World) (hG : Globs w) : Calls Tryd.prog 7 #[] w fun e w' => e = .returned (.bool true) ∧ Below w.heap.size w w' := by
  have HG := Lib.hid hG
  clear hG
  go_enter Tryd.func7, Tryd.ntmps7
  go_wp2_with fail
  refine (All_to _ wk1 14 0 14 0 _ HG.out (by decide) wk1_all rfl rfl).mono ?_
  rintro e w1 ⟨A1, cap1, rfl, hcap1, hT1, hb1⟩
  have HG1 := Lib.hid (HG.out.below hb1)
  have HT1 := Lib.hid hT1
  clear hT1
  rw [show wk1.length = 6 from rfl] at hcap1 ⊢
  go_wp2_with fail
  refine (All_to _ [] 0 20 0 20 _ HG1.out (by decide) wk2_all rfl rfl).mono ?_
  rintro e w2 ⟨A2, cap2, rfl, hcap2, hT2, hb2⟩
  obtain ⟨g, rfl, hg, hc⟩ := (HT1.out.below hb2) (by decide)
  have k2 : w2.cell? ⟨g, 9, none⟩ = some (.string ⟨#[98, 32, 99]⟩) := (hc 2 (by decide)).2.1
  have k3 : w2.cell? ⟨g, 12, none⟩ = some (.int .i8 3) := (hc 3 (by decide)).1
  have k4 : w2.cell? ⟨g, 17, none⟩ = some (.string ⟨#[107]⟩) := (hc 4 (by decide)).2.1
  clear hc hT2
  go_wp2
  go_ret
  exact ⟨rfl, hb1.trans (hb2.mono hb1.size)⟩
end Go.Proofs.YtdpogjkfmncnlaaDoor
