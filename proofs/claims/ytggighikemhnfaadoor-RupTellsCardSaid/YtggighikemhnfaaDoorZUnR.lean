/- What stores and the queue do to a run. -/
import Derived.Test.YtggighikemhnfaaDoorZUnP
namespace Go.Proofs.YtggighikemhnfaaDoor.Tm
open Go.RowKit
set_option linter.unusedVariables false
theorem flat_set {xs : List RowV} {k o : Nat} {x x' : RowV} {v : Value} (hk : xs[k]? = some x) (ho : o < 5) (he : rowVC x' = (rowVC x).set o v) : (xs.set k x').flatMap rowVC = (xs.flatMap rowVC).set (k * 5 + o) v := by
  induction xs generalizing k with
  | nil => simp at hk
  | cons y r ih =>
    cases k with
    | zero =>
      simp at hk
      subst hk
      rw [List.set_cons_zero, List.flatMap_cons, List.flatMap_cons, he, Nat.zero_mul, Nat.zero_add, List.set_append_left _ _ (by rw [rowVC_len]; exact ho)]
    | succ j =>
      rw [List.set_cons_succ, List.flatMap_cons, List.flatMap_cons, ih (by simpa using hk), List.set_append_right _ _ (by rw [rowVC_len]; omega), rowVC_len, show (j + 1) * 5 + o - 5 = j * 5 + o by omega]
/-- A row's cells. -/
structure RowAt (w : World) (rb k : Nat) (x : RowV) : Prop where
  c0 : w.cell? ⟨rb, k * 5, none⟩ = some (.slice x.a x.r.rest.length x.c)
  c1 : w.cell? ⟨rb, k * 5 + 1, none⟩ = some (.int .i64 x.r.w0)
  c2 : w.cell? ⟨rb, k * 5 + 2, none⟩ = some (.int .i64 x.r.w1)
  c3 : w.cell? ⟨rb, k * 5 + 3, none⟩ = some (.int .i64 x.r.n0)
  c4 : w.cell? ⟨rb, k * 5 + 4, none⟩ = some (.int .i64 x.r.n1)
  lt : rb < w.heap.size
  fz : ∀ i, w.frozen? ⟨rb, i, none⟩ = false
section
variable {W0 w : World} {b : Nat} {s : USt} {ls : List Int} {pg : Nat → Option Nat} {qv lv : Value} {xs : List RowV} {L : List Int} {rb rc n : Nat}
theorem RunX.rowAt (h : RunX W0 w b s ls pg (.slice (some ⟨rb, 0, none⟩) n rc) qv lv xs L) {k : Nat} {x : RowV} (hk : xs[k]? = some x) : RowAt w rb k x := by
  have hlt := (List.getElem?_eq_some_iff.1 hk).1
  obtain ⟨a, c, e, _, _, h3, _⟩ := own_at h.rows
  cases e
  have hpos : 0 < (xs.flatMap rowVC).length := by rw [len_flat rowVC_len]; omega
  obtain ⟨g, o, e2, hg, hc⟩ := h3 hpos
  cases e2
  have key : ∀ j, j < 5 → ∀ v, (rowVC x)[j]? = some v → w.cell? ⟨rb, k * 5 + j, none⟩ = some v := fun j hj v hv => by
    have := hc (k * 5 + j) v (by rw [get_flat rowVC_len xs k j x hk hj]; exact hv)
    rw [Nat.zero_add] at this
    exact this
  obtain ⟨cur, hcur⟩ := own_type h.rows (g := rb) rfl
  exact ⟨key 0 (by omega) _ rfl, key 1 (by omega) _ rfl, key 2 (by omega) _ rfl, key 3 (by omega) _ rfl, key 4 (by omega) _ rfl, hg, fun i => by simp [World.frozen?, hcur]⟩
theorem RunX.setRow (h : RunX W0 w b s ls pg (.slice (some ⟨rb, 0, none⟩) n rc) qv lv xs L) {k o : Nat} {x x' : RowV} {v : Value} (hk : xs[k]? = some x) (ho : o < 5) (he : rowVC x' = (rowVC x).set o v) (hI : IntsR W0 x'.r.rest x'.a x'.c) :
    RunX W0 (w.setCell ⟨rb, k * 5 + o, none⟩ v) b { s with rows := s.rows.set k x'.r } ls pg (.slice (some ⟨rb, 0, none⟩) n rc) qv lv (xs.set k x') L := by
  have hlt := (List.getElem?_eq_some_iff.1 hk).1
  have hne := h.rv_ne (g := rb) rfl
  have hrb := own_lt h.rows (g := rb) rfl
  have hold : ∀ g, g ≠ rb → (w.setCell ⟨rb, k * 5 + o, none⟩ v).heap[g]? = w.heap[g]? := fun g hg => Below.heap_setCell _ _ _ _ hg
  refine ⟨h.bel.setCell hrb.1 _, h.hb, h.gc, h.box.heap (hold b (fun e => hne.1 e.symm)), fun j g hg => ?_, h.inj, h.nop, ?_, ?_, fun y hy => ?_, ⟨own_move h.qu.row (fun g hg => hold g (fun e => hne.2.2.1 (by rw [← e]; exact hg))), h.qu.heap, h.qu.perm⟩, own_move h.lits (fun g hg => hold g (fun e => hne.2.2.2 (by rw [← e]; exact hg))), h.apart, h.may, h.cons⟩
  · obtain ⟨g1, g2, g3⟩ := h.pages j g hg
    exact ⟨g1, g2, (hold g (fun e => hne.2.1 j g hg e.symm)).trans g3⟩
  · rw [List.length_set, flat_set hk ho he]
    refine ⟨by rw [List.length_set]; exact h.rows.1, .inr ?_⟩
    rcases h.rows.2 with ⟨e, _⟩ | ⟨g', cap, cur, e, h1, h2, h3, h4, h5, h6⟩
    · cases e
    · cases e
      refine ⟨rb, rc, cur.setIfInBounds (k * 5 + o) v, rfl, h1, heap_setCell_same w rb _ _ _ _ h2, h3, h4, by simpa using h5, ?_⟩
      rw [Array.toList_setIfInBounds, List.take_set, h6]
  · rw [List.map_set, h.rws]
  · rcases List.mem_or_eq_of_mem_set hy with hy | rfl
    · exact h.rest y hy
    · exact hI
end
theorem IntsR.drop {w : World} {xs : List Int} {g o c k : Nat} (h : IntsR w xs (some ⟨g, o, none⟩) c) (hk : k ≤ xs.length) : IntsR w (xs.drop k) (some ⟨g, o + k, none⟩) (c - k) := by
  have hle := h.le
  refine ⟨by rw [List.length_drop]; omega, by have := h.cap; omega, fun h0 => ?_, fun x hx => h.ok x (List.mem_of_mem_drop hx)⟩
  obtain ⟨g', o', e, hg, hc⟩ := h.tat (by simp at h0 ⊢; omega)
  cases e
  refine ⟨g, o + k, rfl, hg, fun i v hv => ?_⟩
  rw [List.map_drop, List.getElem?_drop] at hv
  have := hc (k + i) v hv
  rw [Nat.add_assoc]
  exact this
def SeekO (W0 w' : World) (b : Nat) (s : USt) (ls : List Int) (pg : Nat → Option Nat) (rb n rc : Nat) (qv lv : Value) (xs : List RowV) (L : List Int) (k : Nat) (x : RowV) (rest : List Int) : Prop :=
  ∃ a c, RunX W0 w' b { s with rows := s.rows.set k { x.r with rest := rest } } ls pg (.slice (some ⟨rb, 0, none⟩) n rc) qv lv (xs.set k ⟨{ x.r with rest := rest }, a, c⟩) L
theorem seek_any {W0 : World} {b : Nat} {s : USt} {ls : List Int} {pg : Nat → Option Nat} {rb n rc : Nat} {qv lv : Value} {xs : List RowV} {L : List Int} (k : Nat) (x : RowV) (o : Int) (w : World) (h : RunX W0 w b s ls pg (.slice (some ⟨rb, 0, none⟩) n rc) qv lv xs L) (hk : xs[k]? = some x) :
    Calls Tryd.prog 72 #[.pointer (some ⟨b, 0, none⟩), .pointer (some ⟨rb, k * 5, none⟩), .int .i64 o] w fun e w' => match seekM s.ps o x.r.rest with
      | (some y, rest) => e = .returned (.tuple #[.int .i64 y, .bool true]) ∧ SeekO W0 w' b s ls pg rb n rc qv lv xs L k x rest
      | (none, _) => e = .returned (.tuple #[.int .i64 (-1), .bool false]) ∧ SeekO W0 w' b s ls pg rb n rc qv lv xs L k x [] := by
  have hmx := List.mem_of_getElem? hk
  have hI := h.rest x hmx
  have hIw := (hI.below h.bel)
  obtain ⟨c0, _, _, _, _, hlt, hfz⟩ := h.rowAt hk
  have f0 := hfz (k * 5)
  have l1 : x.r.rest.length ≤ x.c := hI.le
  have c1 : x.r.rest.length ≤ 9223372036854775807 := by have := hI.cap; simp only [maxLen] at this; omega
  have c2 : x.c ≤ 9223372036854775807 := by have := hI.cap; simp only [maxLen] at this; omega
  have HV : Hid (∀ y v, I64 y → valL s.ps y = v → Calls Tryd.prog 39 #[.pointer (some ⟨b, 0, none⟩), .int .i64 y] w fun e w' => e = .returned (.int .i8 v) ∧ w = w') := fun y v hy hv => val_any y v w h hy hv
  have HNil : Hid (SeekO W0 (w.setCell ⟨rb, k * 5, none⟩ (.slice none 0 0)) b s ls pg rb n rc qv lv xs L k x []) := by
    have := h.setRow (o := 0) (x' := ⟨{ x.r with rest := [] }, none, 0⟩) (v := .slice none 0 0) hk (by omega) rfl (IntsR.nil _ _ (Nat.zero_le _) _)
    exact ⟨none, 0, this⟩
  have HTk : Hid (∀ i a c, IntsR W0 (x.r.rest.drop (i + 1)) a c → SeekO W0 (w.setCell ⟨rb, k * 5, none⟩ (.slice a (x.r.rest.drop (i + 1)).length c)) b s ls pg rb n rc qv lv xs L k x (x.r.rest.drop (i + 1))) := fun i a c hI' => by
    have := h.setRow (o := 0) (x' := ⟨{ x.r with rest := x.r.rest.drop (i + 1) }, a, c⟩) (v := .slice a (x.r.rest.drop (i + 1)).length c) hk (by omega) rfl hI'
    exact ⟨a, c, this⟩
  have HI0 := Lib.hid hI
  have HIw := Lib.hid hIw
  obtain ⟨rest, hrest⟩ : ∃ rest, x.r.rest = rest := ⟨_, rfl⟩
  rw [hrest] at c0 l1 c1 HTk HI0 HIw ⊢
  have hE0 : seekM s.ps o (rest.drop 0) = seekM s.ps o rest := by rw [List.drop_zero]
  have HE0 := Lib.hid hE0
  obtain ⟨E, hE⟩ : ∃ E : Option Int × List Int, seekM s.ps o rest = E := ⟨_, rfl⟩
  rw [hE] at HE0 ⊢
  obtain ⟨aa, haa⟩ : ∃ aa, x.a = aa := ⟨_, rfl⟩
  rw [haa] at c0 HI0 HIw
  clear h hI hIw hfz hmx hrest hE0 hE haa
  go_enter Tryd.func72, Tryd.ntmps72
  go_wp2
  go_loopw [15] (fun iv wr => ∃ i : Nat, i ≤ rest.length ∧ iv = .int .i64 i ∧ Hid (seekM s.ps o (rest.drop i) = E) ∧ wr = w) (fun iv _ => rest.length - (intOf iv).toNat)
  case atStart => exact ⟨0, Nat.zero_le _, rfl, HE0, rfl⟩
  case round =>
    clear HE0
    obtain ⟨i, hil, rfl, HE, rfl⟩ := hrel
    by_cases hlt2 : i < rest.length
    · obtain ⟨y, hy⟩ : ∃ y, rest[i]? = some y := ⟨_, List.getElem?_eq_getElem hlt2⟩
      have hyI := HI0.out.ok y (List.mem_of_getElem? hy)
      obtain ⟨g, og, rfl, hg, q0⟩ := HIw.out.cell hy
      have hIa := HI0.out
      have hE := HE.out
      rw [drop_get hy] at hE
      unfold seekM at hE
      obtain ⟨v, hv⟩ : ∃ v, valL s.ps y = v := ⟨_, rfl⟩
      have HVx := Lib.hid (HV.out y v hyI hv)
      rw [hv] at hE
      have hii : (i : Int) < (rest.length : Int) := by omega
      clear HE hv hy hyI
      by_cases hyo : y = o
      · have e1 : (y != o) = false := ne_f hyo
        rw [if_neg (fun e => e.1 hyo)] at hE
        have HE2 := Lib.hid hE
        clear hE hyo hIa
        go_wp2
        go_roundw
        case rel => exact ⟨i + 1, by omega, by go_num, HE2, trivial⟩
        case measure => simp [intOf]; omega
      · have e1 : (y != o) = true := ne_t hyo
        by_cases hv2 : v = 2
        · have e2 : (v != 2) = false := ne_f hv2
          rw [if_neg (fun e => e.2 hv2)] at hE
          have HE2 := Lib.hid hE
          clear hE hyo hv2 hIa
          go_wp2_with (first | (go_at_call 39; refine HVx.out.mono ?_; rintro e w1 ⟨rfl, rfl⟩))
          go_roundw
          case rel => exact ⟨i + 1, by omega, by go_num, HE2, trivial⟩
          case measure => simp [intOf]; omega
        · have e2 : (v != 2) = true := ne_t hv2
          rw [if_pos ⟨hyo, hv2⟩] at hE
          subst hE
          by_cases hc : i + 1 = x.c
          · have hnil : rest.drop (i + 1) = [] := List.drop_of_length_le (by omega)
            have HT := HTk.out i (some ⟨g, og, none⟩) 0 (by rw [hnil]; exact IntsR.nil _ _ (Nat.zero_le _) _)
            rw [hnil] at HT
            have HT2 : Hid (SeekO W0 (wr.setCell ⟨rb, k * 5, none⟩ (.slice (some ⟨g, og, none⟩) 0 0)) b s ls pg rb n rc qv lv xs L k x (List.drop x.c rest)) := by
              show SeekO _ _ _ _ _ _ _ _ _ _ _ _ _ _ _ _
              rw [← hc, hnil]
              exact HT
            have hlr : rest.length = i + 1 := by omega
            clear HT hnil HTk hIa hyo hv2
            go_wp2_with (first | (go_at_call 39; refine HVx.out.mono ?_; rintro e w1 ⟨rfl, rfl⟩))
            go_ret2
            exact ⟨rfl, HT2.out⟩
          · have HT := HTk.out i (some ⟨g, og + (i + 1), none⟩) (x.c - (i + 1)) (hIa.drop (by omega))
            rw [List.length_drop] at HT
            have HT2 := Lib.hid HT
            clear HT HTk hIa hyo hv2
            go_wp2_with (first | (go_at_call 39; refine HVx.out.mono ?_; rintro e w1 ⟨rfl, rfl⟩))
            go_ret2
            exact ⟨rfl, HT2.out⟩
    · obtain rfl : i = rest.length := by omega
      have hE := HE.out
      rw [List.drop_of_length_le (Nat.le_refl _)] at hE
      unfold seekM at hE
      subst hE
      clear HE
      go_wp2
      go_ret2
      exact ⟨rfl, HNil.out⟩
end Go.Proofs.YtggighikemhnfaaDoor.Tm
namespace Go.Proofs.YtggighikemhnfaaDoor.Tm
open Go.RowKit
set_option linter.unusedVariables false
section
variable {W0 w : World} {b : Nat} {s : USt} {ls : List Int} {pg : Nat → Option Nat} {rv qv lv : Value} {xs : List RowV} {L : List Int}
theorem RunX.setC (h : RunX W0 w b s ls pg rv qv lv xs L) (c : Int) : RunX W0 (w.setCell ⟨b, 1028, none⟩ (.int .i64 c)) b { s with conf := c } ls pg rv qv lv xs L := by
  have hold : ∀ g, g ≠ b → (w.setCell ⟨b, 1028, none⟩ (.int .i64 c)).heap[g]? = w.heap[g]? := fun g hg => Below.heap_setCell _ _ _ _ hg
  refine ⟨h.bel.setCell h.hb _, h.hb, h.gc, h.box.setc c, fun j g hg => ?_, h.inj, h.nop, own_move h.rows (fun g hg => hold g (h.rv_ne hg).1), h.rws, h.rest, ⟨own_move h.qu.row (fun g hg => hold g (h.qv_ne hg).1), h.qu.heap, h.qu.perm⟩, own_move h.lits (fun g hg => hold g (h.lv_ne hg).1), h.apart, h.may, h.cons⟩
  obtain ⟨g1, g2, g3⟩ := h.pages j g hg
  exact ⟨g1, g2, (hold g (h.pg_ne hg)).trans g3⟩
theorem pgH_set {heads : Int → Int} {k j : Nat} {y z : Int} (hj : j < 1024) (hy : y = ((1024 * k + j : Nat) : Int)) : pgH (fun u => if u = y then z else heads u) k = (pgH heads k).set j z := by
  unfold pgH
  rw [map_range_set]
  apply List.map_congr_left
  intro i hi
  show (if ((1024 * k + i : Nat) : Int) = y then z else heads ((1024 * k + i : Nat) : Int)) = if i = j then z else heads ((1024 * k + i : Nat) : Int)
  by_cases e : i = j
  · rw [if_pos e, if_pos (by rw [hy, e])]
  · rw [if_neg e, if_neg (by omega)]
theorem pgH_other {heads : Int → Int} {k k' : Nat} {y z : Int} (hy : y / 1024 = (k : Int)) (hk : k' ≠ k) : pgH (fun u => if u = y then z else heads u) k' = pgH heads k' := by
  unfold pgH
  apply List.map_congr_left
  intro i hi
  have := List.mem_range.1 hi
  show (if ((1024 * k' + i : Nat) : Int) = y then z else heads ((1024 * k' + i : Nat) : Int)) = heads ((1024 * k' + i : Nat) : Int)
  rw [if_neg (by omega)]
theorem pgC_set {s : USt} {k j : Nat} {y z : Int} (hj : j < 1024) (hy : y = ((1024 * k + j : Nat) : Int)) : (pgC s k).setIfInBounds (512 + j) (.int .i64 z) = pgC { s with heads := fun u => if u = y then z else s.heads u } k := by
  unfold pgC
  dsimp only
  rw [pgH_set hj hy, List.setIfInBounds_toArray, List.set_append_right _ _ (by rw [List.length_map, pgN_len]; omega), List.length_map, pgN_len, show 512 + j - 512 = j by omega, List.map_set]
theorem pgC_other {s : USt} {k k' : Nat} {y z : Int} (hy : y / 1024 = (k : Int)) (hk : k' ≠ k) : pgC { s with heads := fun u => if u = y then z else s.heads u } k' = pgC s k' := by
  unfold pgC
  dsimp only
  rw [pgH_other hy hk]
theorem head_cell {w : World} {g : Nat} {s : USt} {k j : Nat} {y : Int} (h : w.heap[g]? = some (.cells (pgC s k) 88 (0, 0))) (hj : j < 1024) (hy : y = ((1024 * k + j : Nat) : Int)) : w.cell? ⟨g, 512 + j, none⟩ = some (.int .i64 (s.heads y)) ∧ w.frozen? ⟨g, 512 + j, none⟩ = false ∧ g < w.heap.size := by
  refine ⟨?_, by simp [World.frozen?, h], (Array.getElem?_eq_some_iff.1 h).1⟩
  rw [cell_of_row w g _ _ _ _ h, ← Array.getElem?_toList]
  show (_ ++ _ : List Value)[512 + j]? = _
  rw [List.getElem?_append_right (by rw [List.length_map, pgN_len]; omega), List.length_map, pgN_len, show 512 + j - 512 = j by omega, List.getElem?_map]
  unfold pgH
  rw [List.getElem?_map, List.getElem?_range hj, hy]; rfl
theorem RunX.setH (h : RunX W0 w b s ls pg rv qv lv xs L) {k j g : Nat} {y z : Int} (hp : pg k = some g) (hj : j < 1024) (hy : y = ((1024 * k + j : Nat) : Int)) : RunX W0 (w.setCell ⟨g, 512 + j, none⟩ (.int .i64 z)) b { s with heads := fun u => if u = y then z else s.heads u } ls pg rv qv lv xs L := by
  obtain ⟨g1, g2, g3⟩ := h.pages k g hp
  have hold : ∀ i, i ≠ g → (w.setCell ⟨g, 512 + j, none⟩ (.int .i64 z)).heap[i]? = w.heap[i]? := fun i hi => Below.heap_setCell _ _ _ _ hi
  refine ⟨h.bel.setCell g2 _, h.hb, h.gc, h.box.heap (hold b (fun e => h.pg_ne hp e.symm)), fun k' g' hg' => ?_, h.inj, fun k' hk' => ⟨fun x h0 hx => ?_, (h.nop k' hk').2⟩, own_move h.rows (fun i hi => hold i ((h.rv_ne hi).2.1 k g hp)), h.rws, h.rest, ⟨own_move h.qu.row (fun i hi => hold i ((h.qv_ne hi).2 k g hp)), h.qu.heap, h.qu.perm⟩, own_move h.lits (fun i hi => hold i ((h.lv_ne hi).2 k g hp)), h.apart, h.may, h.cons⟩
  · obtain ⟨e1, e2, e3⟩ := h.pages k' g' hg'
    by_cases ek : k' = k
    · subst ek
      rw [hp] at hg'
      cases hg'
      exact ⟨g1, g2, (heap_setCell_same w g _ _ _ _ g3).trans (by rw [pgC_set hj hy])⟩
    · have hgg : g' ≠ g := fun e => ek (h.inj _ _ _ (by rw [← e]; exact hg') hp)
      exact ⟨e1, e2, (hold g' hgg).trans (e3.trans (by rw [pgC_other (k := k) (by omega) ek]))⟩
  · show (if x = y then z else s.heads x) = 0
    rw [if_neg (fun e => by
      have : k = k' := by omega
      subst this
      rw [hp] at hk'; cases hk')]
    exact (h.nop k' hk').1 x h0 hx
theorem RunX.push {w' : World} {g cap t : Nat} {L' : List Int} (h : RunX W0 w b s ls pg rv qv lv xs L) (hO : HPushO w w' W0.heap.size b pg rv qv lv s.conf g cap s.q t L') : RunX W0 w' b { s with q := t :: s.q } ls pg rv (.slice (some ⟨g, 0, none⟩) L'.length cap) lv xs L' := by
  have hW := h.bel.size
  have hold : ∀ i, i < w.heap.size → i ≠ b → qv.ownBlock ≠ some i → w'.heap[i]? = w.heap[i]? := fun i h1 h2 h3 => hO.gw.keep i h1 ⟨h2, fun e => h3 e.symm⟩
  have hq0 : ∀ i, i < W0.heap.size → qv.ownBlock ≠ some i := fun i hi e => by have := (own_lt h.qu.row e).1; omega
  have hb := h.hb
  refine ⟨⟨hO.gw.os.trans h.bel.os, hO.gw.tape.trans h.bel.tape, hO.gw.output.trans h.bel.output, by have := hO.gw.size; omega, fun i hi => (hold i (by omega) (by omega) (hq0 i hi)).trans (h.bel.block i hi)⟩, h.hb, h.gc, hO.box, fun j p hp => ?_, h.inj, h.nop, own_move h.rows (fun i hi => hold i (own_lt h.rows hi).2 (h.rv_ne hi).1 (h.rv_ne hi).2.2.1), h.rws, h.rest, hO.qu, own_move h.lits (fun i hi => hold i (own_lt h.lits hi).2 (h.lv_ne hi).1 (fun e => h.apart i e hi)), fun i hi e => ?_, h.may, h.cons⟩
  · obtain ⟨g1, g2, g3⟩ := h.pages j p hp
    exact ⟨g1, g2, (hold p (Array.getElem?_eq_some_iff.1 g3).1 (h.pg_ne hp) (fun e => (h.qv_ne e).2 j p hp rfl)).trans g3⟩
  · obtain rfl : g = i := by simpa [Value.ownBlock] using hi
    rcases hO.at_ with e2 | e2
    · exact h.apart g e2 e
    · have := (own_lt h.lits e).2; omega
theorem RunX.pop {w' : World} {g cap t : Nat} {L' : List Int} (h : RunX W0 w b s ls pg rv (.slice (some ⟨g, 0, none⟩) L.length cap) lv xs L) (hO : PopO w w' W0.heap.size b pg rv lv s.conf g cap s.q t L') : RunX W0 w' b { s with q := s.q.erase t } ls pg rv (.slice (some ⟨g, 0, none⟩) L'.length cap) lv xs L' := by
  have hW := h.bel.size
  have hg0 := own_lt h.qu.row (g := g) rfl
  have hold : ∀ i, i ≠ b → i ≠ g → w'.heap[i]? = w.heap[i]? := fun i h2 h3 => hO.kp.keep i ⟨h2, h3⟩
  have hb := h.hb
  refine ⟨⟨hO.kp.os.trans h.bel.os, hO.kp.tape.trans h.bel.tape, hO.kp.output.trans h.bel.output, by rw [hO.kp.size]; exact hW, fun i hi => (hold i (by omega) (by omega)).trans (h.bel.block i hi)⟩, h.hb, h.gc, hO.box, fun j p hp => ?_, h.inj, h.nop, own_move h.rows (fun i hi => hold i (h.rv_ne hi).1 (fun e => (h.rv_ne hi).2.2.1 (by rw [e]; rfl))), h.rws, h.rest, hO.qu, own_move h.lits (fun i hi => hold i (h.lv_ne hi).1 (fun e => h.apart g rfl (by rw [← e]; exact hi))), fun i hi e => ?_, h.may, h.cons⟩
  · obtain ⟨g1, g2, g3⟩ := h.pages j p hp
    exact ⟨g1, g2, (hold p (h.pg_ne hp) (fun e => (h.qv_ne (g := g) rfl).2 j p hp e.symm)).trans g3⟩
  · obtain rfl : g = i := by simpa [Value.ownBlock] using hi
    exact h.apart g rfl e
theorem RunX.same {s' : USt} {ls' : List Int} (h : RunX W0 w b s ls pg rv qv lv xs L) (e : s = s') (e' : ls = ls') : RunX W0 w b s' ls' pg rv qv lv xs L := by rw [← e, ← e']; exact h
theorem RunX.rowOf (h : RunX W0 w b s ls pg rv qv lv xs L) {k : Nat} {x : RowV} (hk : xs[k]? = some x) : s.rows[k]? = some x.r := by rw [← h.rws, List.getElem?_map, hk]; rfl
theorem RunX.getRow (h : RunX W0 w b s ls pg rv qv lv xs L) {k : Nat} (hk : k < s.rows.length) : ∃ x, xs[k]? = some x := by
  have : k < xs.length := by rw [← h.rws, List.length_map] at hk; exact hk
  exact ⟨_, List.getElem?_eq_getElem this⟩
end
end Go.Proofs.YtggighikemhnfaaDoor.Tm
