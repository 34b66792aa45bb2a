/- slices.Clone over ints, over what functions are, over rows; package value's anew. -/
import Derived.Test.YtfhcmhlbidjjgaaDoorVaK
import Derived.Lib.LazyBuf
import Derived.Maps.AppendAt
import Derived.Laws.Append
namespace Go.Proofs.YtfhcmhlbidjjgaaDoor
open Go.RowKit
set_option linter.unusedVariables false
theorem below_grown_at {A B : World} {n : Nat} (hn : n ≤ A.heap.size) (h : A.grownBy B (some n)) : Below n A B := ⟨h.os, h.tape, h.output, h.size, fun i hi => h.block i (by omega) (by simp; omega)⟩
theorem info_in : (Tryd.prog.info? 3).map (fun i => (i.zero, i.size, i.bytes)) = some (some (.int .i64 0), 1, 8) := by kernel_rfl
theorem info_fv : (Tryd.prog.info? 62).map (fun i => (i.zero, i.size, i.bytes)) = some (some (.agg #[.slice none 0 0, .int .i64 0]), 2, 32) := by kernel_rfl
theorem Clone_in0 (sa : Option Addr) (sc : Nat) (w : World) : Calls Tryd.prog 29 #[.slice sa 0 sc] w (RepPost w) := by
  obtain ⟨i0, hi, hz0, hz1, hz2⟩ := info_parts info_in
  have hown0 : (w.alloc (.cells #[] 3)).ownsRow w.heap.size 3 1 (.slice (some ⟨w.heap.size, 0, none⟩) 0 0) 0 [] := World.ownsRow_lit (base := w.heap.size) (e := 3) (size := 1) w #[] 0 (Nat.le_refl _) (by simp [maxLen]) rfl
  have HB0 : Hid (Below w.heap.size w (w.alloc (.cells #[] 3))) := (Below.refl _ _).alloc (Nat.le_refl _) _
  have hnl := fun (W : World) => Lib.run_eql_slice_nil (P := Tryd.prog) W 41 3 sa 0 sc 0 0 Tryd.underlying41
  cases sa with
  | none =>
    simp only [Option.isNone_none] at hnl
    go_enter Tryd.func29, Tryd.ntmps29
    go_wp2
    go_ret
    exact ⟨_, _, rfl, Below.refl _ _⟩
  | some ad =>
    have HO := Lib.hid hown0
    simp only [Option.isNone_some] at hnl
    clear hown0
    go_enter Tryd.func29, Tryd.ntmps29
    go_wp2_with (at_builtin; refine wpList_append_own_at _ rfl _ _ 41 rfl w.heap.size 3 i0 _ 1 8 Tryd.underlying41 hi hz0 hz1 hz2 rfl (by decide) _ 0 [] rfl HO.out ad 0 sc [] rfl rfl (fun j u h => by simp at h) (fun u h => by simp at h) (by omega) (by omega) (by simp) ?_; intro v' w1 hown' hgrow hnil hloc; clear hnil hloc)
    go_ret
    obtain ⟨A, c, hv, _, _⟩ : ∃ A c, v' = .slice A 0 c ∧ 0 ≤ c ∧ c ≤ maxLen := by
      rcases hown'.2 with ⟨rfl, _⟩ | ⟨g', cap, cur, rfl, hb, _, h1, h2, _⟩
      · exact ⟨_, _, rfl, Nat.le_refl _, Nat.zero_le _⟩
      · exact ⟨_, _, rfl, h1, h2⟩
    subst hv
    exact ⟨A, c, rfl, HB0.out.trans (below_grown_at (by simp) hgrow)⟩
def FvPost (w : World) (v : Value) (e : Ending) (w' : World) : Prop := ∃ g c, e = .returned (.slice (some ⟨g, 0, none⟩) 1 c) ∧ w.heap.size ≤ g ∧ FvR w' g v ∧ Below w.heap.size w w'
theorem Clone_fv (fb fc : Nat) (w : World) (hF : FvR w fb (.slice none 0 0)) (hfc : 1 ≤ fc) : Calls Tryd.prog 30 #[.slice (some ⟨fb, 0, none⟩) 1 fc] w (FvPost w (.slice none 0 0)) := by
  obtain ⟨i0, hi, hz0, hz1, hz2⟩ := info_parts info_fv
  have hown0 : (w.alloc (.cells #[] 62)).ownsRow w.heap.size 62 2 (.slice (some ⟨w.heap.size, 0, none⟩) 0 0) 0 [] := World.ownsRow_lit (base := w.heap.size) (e := 62) (size := 2) w #[] 0 (Nat.le_refl _) (by simp [maxLen]) rfl
  have hb0 : Below w.heap.size w (w.alloc (.cells #[] 62)) := (Below.refl _ _).alloc (Nat.le_refl _) _
  have hnl := fun (W : World) => Lib.run_eql_slice_nil (P := Tryd.prog) W 42 62 (some ⟨fb, 0, none⟩) 1 fc 0 0 Tryd.underlying42
  obtain ⟨c0, c1⟩ := (hF.below hF.lt hb0).cells
  have HC : Hid (∀ j u, ([.slice none 0 0, .int .i64 0] : List Value)[j]? = some u → (w.alloc (.cells #[] 62)).cell? ((⟨fb, 0, none⟩ : Addr).add j) = some u) := fun j u hu => by
    rw [Addr.add_lit]
    match j, hu with
    | 0, hu => cases hu; exact c0
    | 1, hu => cases hu; exact c1
    | j + 2, hu => simp at hu
  have HO := Lib.hid hown0
  have HB0 := Lib.hid hb0
  simp only [Option.isNone_some] at hnl
  clear hown0 c0 c1 hF hb0
  go_enter Tryd.func30, Tryd.ntmps30
  go_wp2_with (at_builtin; refine wpList_append_own_at _ rfl _ _ 42 rfl w.heap.size 62 i0 _ 2 32 Tryd.underlying42 hi hz0 hz1 hz2 rfl (by decide) _ 0 [] rfl HO.out ⟨fb, 0, none⟩ 1 fc [.slice none 0 0, .int .i64 0] rfl rfl HC.out (by simp [Value.oneCell']) (by simp [maxLen]) (by omega) (by simp) ?_; intro v' w1 hown' hgrow hnil hloc; clear hnil hloc)
  go_ret
  rcases hown'.2 with ⟨_, h⟩ | ⟨g', cap, cur, hv, hb, hg, h1, h2, h3, h4⟩
  · simp at h
  · have e0 : cur[0]? = some (.slice none 0 0) := by
      have := congrArg (fun l => l[0]?) h4
      simpa using this
    have e1 : cur[1]? = some (.int .i64 0) := by
      have := congrArg (fun l => l[1]?) h4
      simpa using this
    exact ⟨g', cap, by rw [hv]; rfl, hb, ⟨cur, hg, e0, e1⟩, HB0.out.trans (below_grown_at (by simp) hgrow)⟩
theorem Clone_rw0 (w : World) : Calls Tryd.prog 31 #[.slice none 0 0] w fun e w' => e = .returned (.slice none 0 0) ∧ w = w' := by
  have hnl := fun (W : World) => Lib.run_eql_slice_nil (P := Tryd.prog) W 60 75 none 0 0 0 0 Tryd.underlying60
  simp only [Option.isNone_none] at hnl
  go_enter Tryd.func31, Tryd.ntmps31
  go_wp2
  go_ret
  exact ⟨rfl, rfl⟩
end Go.Proofs.YtfhcmhlbidjjgaaDoor
