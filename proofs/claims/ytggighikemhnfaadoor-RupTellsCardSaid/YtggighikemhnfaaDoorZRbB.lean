/- rup's negs, Follows: the run of what is given, negated. -/
import Derived.Test.YtggighikemhnfaaDoorZRaD
namespace Go.Proofs.YtggighikemhnfaaDoor.Tm
open Go.RowKit Go.Lib
set_option linter.unusedVariables false
theorem giveM_filter : ∀ (gs ps : List Int), giveM ps gs = giveM ps (gs.filter mayU)
  | [], ps => rfl
  | x :: g, ps => by
    by_cases hm : mayU x = true
    · rw [List.filter_cons_of_pos hm]
      unfold giveM
      rw [if_pos hm, if_pos hm, giveM_filter g, giveM_filter g]
    · rw [List.filter_cons_of_neg hm]
      conv => lhs; unfold giveM
      rw [if_neg hm]
      exact giveM_filter g ps
theorem RunRel.filter {cls : List (List Int)} {gs gs' r : List Int} {e : Int} (h : RunRel cls gs r e) (hf : gs.filter mayU = gs'.filter mayU) : RunRel cls gs' r e := by
  unfold RunRel at h ⊢
  rw [giveM_filter gs'] at *
  rw [giveM_filter gs] at h
  rw [← hf]
  exact h
/-- What follows by units alone. -/
def Fol (cls : List (List Int)) (c : List Int) : Prop := ∃ r k, RunRel cls (c.map negM) r k ∧ k ≠ -1
theorem fol_of {cls : List (List Int)} {c r : List Int} {k : Int} (h : RunRel cls (c.map negM) r k) : Fol cls c ↔ k ≠ -1 := by
  refine ⟨fun ⟨r', k', h1, h2⟩ => ?_, fun e => ⟨r, k, h, e⟩⟩
  rw [(h.same h1).2]
  exact h2
theorem made_int (k : Nat) : madeCells (Value.int .i64 0).cells (k * 1) = Array.replicate k (Value.int .i64 0) := by
  apply Array.ext
  · simp [size_madeCells]
  · intro i h1 h2
    simp [madeCells, Value.cells, Nat.mod_one]
theorem make_int (k : Nat) (hk : k ≤ 1000000) (w : World) : (Instr.makeSlice 23 (.int .i64 k) (.int .i64 k)).run Tryd.prog w = .ok (.slice (some ⟨w.heap.size, 0, none⟩) k k) (w.alloc (.cells (Array.replicate k (Value.int .i64 0)) 3)) := by
  obtain ⟨i0, hi, hz0, hz1, hz2⟩ := info_parts info_int
  have := run_make (P := Tryd.prog) w 23 3 i0 _ Tryd.underlying23 hi hz0 .i64 .i64 k k (by omega) (by omega) (by rw [hz2]; omega) (by omega)
  rw [hz1] at this
  rw [Int.toNat_natCast, made_int] at this
  exact this
def nL (xs : List Int) (i : Nat) : List Int := (xs.take i).map negM ++ List.replicate (xs.length - i) 0
theorem nL_len (xs : List Int) {i : Nat} (hi : i ≤ xs.length) : (nL xs i).length = xs.length := by simp [nL]; omega
theorem nL_step {xs : List Int} {i : Nat} {x : Int} (h : xs[i]? = some x) : (nL xs i).set i (negM x) = nL xs (i + 1) := by
  have hi := (List.getElem?_eq_some_iff.1 h).1
  unfold nL
  rw [List.set_append_right _ _ (by simp; omega), List.take_add_one, h, List.map_append]
  have e : i - ((xs.take i).map negM).length = 0 := by simp; omega
  rw [e, show xs.length - i = (xs.length - (i + 1)) + 1 by omega, List.replicate_succ, List.set_cons_zero]
  simp
theorem ints_set {w : World} {b : Nat} {vs : List Int} {ty : TypeId} (h : w.heap[b]? = some (.cells ⟨vs.map (Value.int .i64)⟩ ty (0, 0))) (i : Nat) (x : Int) : (w.setCell ⟨b, i, none⟩ (.int .i64 x)).heap[b]? = some (.cells ⟨(vs.set i x).map (Value.int .i64)⟩ ty (0, 0)) := by
  simp [World.setCell, Array.getElem?_modify, h, List.map_set]
theorem ints_cell {w : World} {b : Nat} {vs : List Int} {ty : TypeId} (h : w.heap[b]? = some (.cells ⟨vs.map (Value.int .i64)⟩ ty (0, 0))) {i : Nat} {x : Int} (hx : vs[i]? = some x) : w.cell? ⟨b, i, none⟩ = some (.int .i64 x) := by
  rw [cell_of_row w b i _ _ _ h, ← Array.getElem?_toList]
  simp [hx]
set_option maxRecDepth 100000 in
theorem negs_any (xs : List Int) (a : Option Addr) (c : Nat) (w : World) (hA : IntsR w xs a c) (hl : xs.length ≤ 1000) :
    Calls Tryd.prog 50 #[.slice a xs.length c] w fun e w' => ∃ a' c', e = .returned (.slice a' (xs.map negM).length c') ∧ Hid (IntsR w' (xs.map negM) a' c' ∧ Below w.heap.size w w') := by
  have HA : Hid (∀ V, Below w.heap.size w V → IntsR V xs a c) := fun V hV => hA.below hV
  have HOk := Lib.hid hA.ok
  have l1 : xs.length ≤ c := hA.le
  have c1 : xs.length ≤ 9223372036854775807 := by omega
  have hmk := fun W => make_int xs.length (by omega) W
  have HNg : Hid (∀ x W, I64 x → Calls Tryd.prog 62 #[.int .i64 x] W fun e w' => e = .returned (.int .i64 (negM x)) ∧ W = w') := fun x W hx => Neg_any x W hx
  have HR0 : Hid ((w.alloc (.cells (Array.replicate xs.length (Value.int .i64 0)) 3)).heap[w.heap.size]? = some (.cells ⟨(nL xs 0).map (Value.int .i64)⟩ 3 (0, 0)) ∧ Below w.heap.size w (w.alloc (.cells (Array.replicate xs.length (Value.int .i64 0)) 3))) := ⟨by
    have : nL xs 0 = List.replicate xs.length 0 := by simp [nL]
    rw [this, List.map_replicate]
    exact (heap_alloc_new w _).trans (by simp [← List.toArray_replicate]), (Below.refl _ w).alloc (Nat.le_refl _) _⟩
  clear hA
  go_enter Tryd.func50, Tryd.ntmps50
  go_wp2
  go_loopw [11] (fun iv w2 => ∃ k : Nat, k ≤ xs.length ∧ iv = .int .i64 k ∧ Hid (w2.heap[w.heap.size]? = some (.cells ⟨(nL xs k).map (Value.int .i64)⟩ 3 (0, 0)) ∧ Below w.heap.size w w2)) (fun iv _ => xs.length - (intOf iv).toNat)
  case atStart => exact ⟨0, Nat.zero_le _, rfl, HR0⟩
  case round =>
    clear HR0
    rename World => w2
    obtain ⟨k, hkl, rfl, HR⟩ := hrel
    by_cases hlt : k < xs.length
    · have hlt2 : (k : Int) < (xs.length : Int) := by omega
      obtain ⟨x, hx⟩ : ∃ x, xs[k]? = some x := ⟨_, List.getElem?_eq_getElem hlt⟩
      obtain ⟨g, o, rfl, hg, q0⟩ := (HA.out w2 HR.out.2).cell hx
      have hxI := HOk.out x (List.mem_of_getElem? hx)
      have HNx := Lib.hid (HNg.out x w2 hxI)
      obtain ⟨y, hy⟩ : ∃ y, (nL xs k)[k]? = some y := ⟨_, List.getElem?_eq_getElem (by rw [nL_len xs hkl]; exact hlt)⟩
      have r0 := ints_cell HR.out.1 hy
      have f0 := row_frozen HR.out.1 k
      have hbs : w.heap.size < w2.heap.size := (Array.getElem?_eq_some_iff.1 HR.out.1).1
      have HN : Hid ((w2.setCell ⟨w.heap.size, k, none⟩ (.int .i64 (negM x))).heap[w.heap.size]? = some (.cells ⟨(nL xs (k + 1)).map (Value.int .i64)⟩ 3 (0, 0)) ∧ Below w.heap.size w (w2.setCell ⟨w.heap.size, k, none⟩ (.int .i64 (negM x)))) := ⟨by rw [← nL_step hx]; exact ints_set HR.out.1 k _, below_set HR.out.2 (Nat.le_refl _) _⟩
      clear hx hy hxI
      go_wp2_with (first | (go_at_call 62; with_reducible refine HNx.out.mono ?_; rintro e w1 ⟨rfl, rfl⟩))
      go_roundw
      case rel => exact ⟨k + 1, by omega, by go_num, HN⟩
      case measure => simp [intOf]; omega
    · obtain rfl : k = xs.length := by omega
      have HE : Hid (IntsR w2 (xs.map negM) (some ⟨w.heap.size, 0, none⟩) xs.length ∧ Below w.heap.size w w2) := by
        have h1 := HR.out.1
        have e : nL xs xs.length = xs.map negM := by simp [nL]
        rw [e] at h1
        have h2 := ints_row h1 (fun y hy => by obtain ⟨x, hx, rfl⟩ := List.mem_map.1 hy; exact negM_i64 (HOk.out x hx)) (by rw [List.length_map]; omega)
        rw [List.length_map] at h2
        exact ⟨h2, HR.out.2⟩
      go_wp2
      go_ret
      exact ⟨some ⟨w.heap.size, 0, none⟩, xs.length, by rw [List.length_map]; rfl, HE⟩
theorem Follows_any (rs : List RowD) (a : Option Addr) (c : Nat) (xs : List Int) (b : Option Addr) (d : Nat) (cls : List (List Int)) (w : World) (hcl : rs.map (·.xs) = cls) (hG : GC w) (hR : RowsR w rs a c) (hA : IntsR w xs b d) (hl : rs.length ≤ 1000) (hf : cls.flatten.length ≤ 600000) (hxl : xs.length ≤ 1000) :
    Calls Tryd.prog 24 #[.slice a rs.length c, .slice b xs.length d] w fun e w' => (∃ q : Bool, e = .returned (.bool q) ∧ (q = true ↔ Fol cls xs)) ∧ Below w.heap.size w w' := by
  have HN := Lib.hid (negs_any xs b d w hA hxl)
  have HC : Hid (∀ V a' c', Below w.heap.size w V → IntsR V (xs.map negM) a' c' → Calls Tryd.prog 17 #[.slice a rs.length c, .slice a' (xs.map negM).length c'] V fun e w' => (∃ q : Bool, e = .returned (.bool q) ∧ (q = true ↔ Fol cls xs)) ∧ Hid (Below V.heap.size V w')) := fun V a' c' hV hI => by
    refine (Closes_any rs a c _ a' c' cls V hcl (hG.below hV) (hR.below hV) hI hl hf (by rw [List.length_map]; omega)).mono ?_
    rintro e w' ⟨⟨r, k, q, h1, h2, h3⟩, h4⟩
    refine ⟨⟨q, h2, ?_⟩, h4⟩
    rw [fol_of h1, h3]
    simp
  clear hG hR hA hcl
  go_enter Tryd.func24, Tryd.ntmps24
  go_wp2_with fail
  with_reducible refine HN.out.mono ?_
  rintro e w1 ⟨a', c', rfl, HX⟩
  have hC1 := HC.out w1 a' c' HX.out.2 HX.out.1
  rw [List.length_map] at hC1
  have HC1 := Lib.hid hC1
  clear hC1
  go_wp2_with fail
  with_reducible refine HC1.out.mono ?_
  rintro e w2 ⟨⟨q, rfl, hq⟩, HB⟩
  have HQ := Lib.hid hq
  clear hq
  go_wp2_with fail
  go_ret
  exact ⟨⟨q, rfl, HQ.out⟩, ball HX.out.2 HB.out⟩
end Go.Proofs.YtggighikemhnfaaDoor.Tm
