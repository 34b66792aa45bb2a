/- The run's rows; seek. -/
import Derived.Test.YtggighikemhnfaaDoorUnP
namespace Go.Proofs.YtggighikemhnfaaDoor.Tm
open Go.RowKit
set_option linter.unusedVariables false
theorem flat_set {xs : List RowV} {k o : Nat} {x x' : RowV} {v : Value} (hk : xs[k]? = some x) (ho : o < 5) (he : rowVC x' = (rowVC x).set o v) : (xs.set k x').flatMap rowVC = (xs.flatMap rowVC).set (k * 5 + o) v := by
  induction xs generalizing k with
  | nil => simp at hk
  | cons y r ih =>
    cases k with
    | zero =>
      simp at hk
      subst hk
      rw [List.set_cons_zero, List.flatMap_cons, List.flatMap_cons, he, Nat.zero_mul, Nat.zero_add, List.set_append_left _ _ (by rw [rowVC_len]; exact ho)]
    | succ j =>
      rw [List.set_cons_succ, List.flatMap_cons, List.flatMap_cons, ih (by simpa using hk), List.set_append_right _ _ (by rw [rowVC_len]; omega), rowVC_len, show (j + 1) * 5 + o - 5 = j * 5 + o by omega]
/-- A row's cells. -/
structure RowAt (w : World) (rb k : Nat) (x : RowV) : Prop where
  c0 : w.cell? ⟨rb, k * 5, none⟩ = some (.slice x.a x.r.rest.length x.c)
  c1 : w.cell? ⟨rb, k * 5 + 1, none⟩ = some (.int .i64 x.r.w0)
  c2 : w.cell? ⟨rb, k * 5 + 2, none⟩ = some (.int .i64 x.r.w1)
  c3 : w.cell? ⟨rb, k * 5 + 3, none⟩ = some (.int .i64 x.r.n0)
  c4 : w.cell? ⟨rb, k * 5 + 4, none⟩ = some (.int .i64 x.r.n1)
  lt : rb < w.heap.size
  fz : ∀ i, w.frozen? ⟨rb, i, none⟩ = false
section
variable {W0 w : World} {b : Nat} {s : USt} {ls : List Int} {pg : Nat → Option Nat} {qv lv : Value} {xs : List RowV} {L : List Int} {rb rc n : Nat}
theorem RunX.rowAt (h : RunX W0 w b s ls pg (.slice (some ⟨rb, 0, none⟩) n rc) qv lv xs L) {k : Nat} {x : RowV} (hk : xs[k]? = some x) : RowAt w rb k x := by
  have hlt := (List.getElem?_eq_some_iff.1 hk).1
  obtain ⟨a, c, e, _, _, h3, _⟩ := own_at h.rows
  cases e
  have hpos : 0 < (xs.flatMap rowVC).length := by rw [len_flat rowVC_len]; omega
  obtain ⟨g, o, e2, hg, hc⟩ := h3 hpos
  cases e2
  have key : ∀ j, j < 5 → ∀ v, (rowVC x)[j]? = some v → w.cell? ⟨rb, k * 5 + j, none⟩ = some v := fun j hj v hv => by
    have := hc (k * 5 + j) v (by rw [get_flat rowVC_len xs k j x hk hj]; exact hv)
    rw [Nat.zero_add] at this
    exact this
  obtain ⟨cur, hcur⟩ := own_type h.rows (g := rb) rfl
  exact ⟨key 0 (by omega) _ rfl, key 1 (by omega) _ rfl, key 2 (by omega) _ rfl, key 3 (by omega) _ rfl, key 4 (by omega) _ rfl, hg, fun i => by simp [World.frozen?, hcur]⟩
theorem RunX.setRow (h : RunX W0 w b s ls pg (.slice (some ⟨rb, 0, none⟩) n rc) qv lv xs L) {k o : Nat} {x x' : RowV} {v : Value} (hk : xs[k]? = some x) (ho : o < 5) (he : rowVC x' = (rowVC x).set o v) (hI : IntsR W0 x'.r.rest x'.a x'.c) :
    RunX W0 (w.setCell ⟨rb, k * 5 + o, none⟩ v) b { s with rows := s.rows.set k x'.r } ls pg (.slice (some ⟨rb, 0, none⟩) n rc) qv lv (xs.set k x') L := by
  have hlt := (List.getElem?_eq_some_iff.1 hk).1
  have hne := h.rv_ne (g := rb) rfl
  have hrb := own_lt h.rows (g := rb) rfl
  have hold : ∀ g, g ≠ rb → (w.setCell ⟨rb, k * 5 + o, none⟩ v).heap[g]? = w.heap[g]? := fun g hg => Below.heap_setCell _ _ _ _ hg
  refine ⟨h.bel.setCell hrb.1 _, h.hb, h.gc, h.box.heap (hold b (fun e => hne.1 e.symm)), fun j g hg => ?_, h.inj, h.nop, ?_, ?_, fun y hy => ?_, ⟨own_move h.qu.row (fun g hg => hold g (fun e => hne.2.2.1 (by rw [← e]; exact hg))), h.qu.heap, h.qu.perm⟩, own_move h.lits (fun g hg => hold g (fun e => hne.2.2.2 (by rw [← e]; exact hg))), h.apart, h.may, h.cons⟩
  · obtain ⟨g1, g2, g3⟩ := h.pages j g hg
    exact ⟨g1, g2, (hold g (fun e => hne.2.1 j g hg e.symm)).trans g3⟩
  · rw [List.length_set, flat_set hk ho he]
    refine ⟨by rw [List.length_set]; exact h.rows.1, .inr ?_⟩
    rcases h.rows.2 with ⟨e, _⟩ | ⟨g', cap, cur, e, h1, h2, h3, h4, h5, h6⟩
    · cases e
    · cases e
      refine ⟨rb, rc, cur.setIfInBounds (k * 5 + o) v, rfl, h1, heap_setCell_same w rb _ _ _ _ h2, h3, h4, by simpa using h5, ?_⟩
      rw [Array.toList_setIfInBounds, List.take_set, h6]
  · rw [List.map_set, h.rws]
  · rcases List.mem_or_eq_of_mem_set hy with hy | rfl
    · exact h.rest y hy
    · exact hI
end
theorem IntsR.drop {w : World} {xs : List Int} {g o c k : Nat} (h : IntsR w xs (some ⟨g, o, none⟩) c) (hk : k ≤ xs.length) : IntsR w (xs.drop k) (some ⟨g, o + k, none⟩) (c - k) := by
  have hle := h.le
  refine ⟨by rw [List.length_drop]; omega, by have := h.cap; omega, fun h0 => ?_, fun x hx => h.ok x (List.mem_of_mem_drop hx)⟩
  obtain ⟨g', o', e, hg, hc⟩ := h.tat (by simp at h0 ⊢; omega)
  cases e
  refine ⟨g, o + k, rfl, hg, fun i v hv => ?_⟩
  rw [List.map_drop, List.getElem?_drop] at hv
  have := hc (k + i) v hv
  rw [Nat.add_assoc]
  exact this
def SeekO (W0 w' : World) (b : Nat) (s : USt) (ls : List Int) (pg : Nat → Option Nat) (rb n rc : Nat) (qv lv : Value) (xs : List RowV) (L : List Int) (k : Nat) (x : RowV) (rest : List Int) : Prop :=
  ∃ a c, RunX W0 w' b { s with rows := s.rows.set k { x.r with rest := rest } } ls pg (.slice (some ⟨rb, 0, none⟩) n rc) qv lv (xs.set k ⟨{ x.r with rest := rest }, a, c⟩) L
theorem seek_any {W0 : World} {b : Nat} {s : USt} {ls : List Int} {pg : Nat → Option Nat} {rb n rc : Nat} {qv lv : Value} {xs : List RowV} {L : List Int} (k : Nat) (x : RowV) (o : Int) (w : World) (h : RunX W0 w b s ls pg (.slice (some ⟨rb, 0, none⟩) n rc) qv lv xs L) (hk : xs[k]? = some x) :
    Calls Tryd.prog 72 #[.pointer (some ⟨b, 0, none⟩), .pointer (some ⟨rb, k * 5, none⟩), .int .i64 o] w fun e w' => match seekM s.ps o x.r.rest with
      | (some y, rest) => e = .returned (.tuple #[.int .i64 y, .bool true]) ∧ SeekO W0 w' b s ls pg rb n rc qv lv xs L k x rest
      | (none, _) => e = .returned (.tuple #[.int .i64 (-1), .bool false]) ∧ SeekO W0 w' b s ls pg rb n rc qv lv xs L k x [] := by
  have hmx := List.mem_of_getElem? hk
  have hI := h.rest x hmx
  have hIw := (hI.below h.bel)
  obtain ⟨c0, _, _, _, _, hlt, hfz⟩ := h.rowAt hk
  have f0 := hfz (k * 5)
  have l1 : x.r.rest.length ≤ x.c := hI.le
  have c1 : x.r.rest.length ≤ 9223372036854775807 := by have := hI.cap; simp only [maxLen] at this; omega
  have c2 : x.c ≤ 9223372036854775807 := by have := hI.cap; simp only [maxLen] at this; omega
  have HV : Hid (∀ y v, I64 y → valL s.ps y = v → Calls Tryd.prog 39 #[.pointer (some ⟨b, 0, none⟩), .int .i64 y] w fun e w' => e = .returned (.int .i8 v) ∧ w = w') := fun y v hy hv => val_any y v w h hy hv
  have HNil : Hid (SeekO W0 (w.setCell ⟨rb, k * 5, none⟩ (.slice none 0 0)) b s ls pg rb n rc qv lv xs L k x []) := by
    have := h.setRow (o := 0) (x' := ⟨{ x.r with rest := [] }, none, 0⟩) (v := .slice none 0 0) hk (by omega) rfl (IntsR.nil _ _ (Nat.zero_le _) _)
    exact ⟨none, 0, this⟩
  have HTk : Hid (∀ i a c, IntsR W0 (x.r.rest.drop (i + 1)) a c → SeekO W0 (w.setCell ⟨rb, k * 5, none⟩ (.slice a (x.r.rest.drop (i + 1)).length c)) b s ls pg rb n rc qv lv xs L k x (x.r.rest.drop (i + 1))) := fun i a c hI' => by
    have := h.setRow (o := 0) (x' := ⟨{ x.r with rest := x.r.rest.drop (i + 1) }, a, c⟩) (v := .slice a (x.r.rest.drop (i + 1)).length c) hk (by omega) rfl hI'
    exact ⟨a, c, this⟩
  have HI0 := Lib.hid hI
  have HIw := Lib.hid hIw
  obtain ⟨rest, hrest⟩ : ∃ rest, x.r.rest = rest := ⟨_, rfl⟩
  rw [hrest] at c0 l1 c1 HTk HI0 HIw ⊢
  have hE0 : seekM s.ps o (rest.drop 0) = seekM s.ps o rest := by rw [List.drop_zero]
  have HE0 := Lib.hid hE0
  obtain ⟨E, hE⟩ : ∃ E : Option Int × List Int, seekM s.ps o rest = E := ⟨_, rfl⟩
  rw [hE] at HE0 ⊢
  obtain ⟨aa, haa⟩ : ∃ aa, x.a = aa := ⟨_, rfl⟩
  rw [haa] at c0 HI0 HIw
  clear h hI hIw hfz hmx hrest hE0 hE haa
  go_enter Tryd.func72, Tryd.ntmps72
  go_wp2
  go_loopw [15] (fun iv wr => ∃ i : Nat, i ≤ rest.length ∧ iv = .int .i64 i ∧ Hid (seekM s.ps o (rest.drop i) = E) ∧ wr = w) (fun iv _ => rest.length - (intOf iv).toNat)
  case atStart => exact ⟨0, Nat.zero_le _, rfl, HE0, rfl⟩
  case round =>
    clear HE0
    obtain ⟨i, hil, rfl, HE, rfl⟩ := hrel
    by_cases hlt2 : i < rest.length
    · obtain ⟨y, hy⟩ : ∃ y, rest[i]? = some y := ⟨_, List.getElem?_eq_getElem hlt2⟩
      have hyI := HI0.out.ok y (List.mem_of_getElem? hy)
      obtain ⟨g, og, rfl, hg, q0⟩ := HIw.out.cell hy
      have hIa := HI0.out
      have hE := HE.out
      rw [drop_get hy] at hE
      unfold seekM at hE
      obtain ⟨v, hv⟩ : ∃ v, valL s.ps y = v := ⟨_, rfl⟩
      have HVx := Lib.hid (HV.out y v hyI hv)
      rw [hv] at hE
      have hii : (i : Int) < (rest.length : Int) := by omega
      clear HE hv hy hyI
      by_cases hyo : y = o
      · have e1 : (y != o) = false := ne_f hyo
        rw [if_neg (fun e => e.1 hyo)] at hE
        have HE2 := Lib.hid hE
        clear hE hyo hIa
        go_wp2
        go_roundw
        case rel => exact ⟨i + 1, by omega, by go_num, HE2, trivial⟩
        case measure => simp [intOf]; omega
      · have e1 : (y != o) = true := ne_t hyo
        by_cases hv2 : v = 2
        · have e2 : (v != 2) = false := ne_f hv2
          rw [if_neg (fun e => e.2 hv2)] at hE
          have HE2 := Lib.hid hE
          clear hE hyo hv2 hIa
          go_wp2_with (first | (go_at_call 39; refine HVx.out.mono ?_; rintro e w1 ⟨rfl, rfl⟩))
          go_roundw
          case rel => exact ⟨i + 1, by omega, by go_num, HE2, trivial⟩
          case measure => simp [intOf]; omega
        · have e2 : (v != 2) = true := ne_t hv2
          rw [if_pos ⟨hyo, hv2⟩] at hE
          subst hE
          by_cases hc : i + 1 = x.c
          · have hnil : rest.drop (i + 1) = [] := List.drop_of_length_le (by omega)
            have HT := HTk.out i (some ⟨g, og, none⟩) 0 (by rw [hnil]; exact IntsR.nil _ _ (Nat.zero_le _) _)
            rw [hnil] at HT
            have HT2 : Hid (SeekO W0 (wr.setCell ⟨rb, k * 5, none⟩ (.slice (some ⟨g, og, none⟩) 0 0)) b s ls pg rb n rc qv lv xs L k x (List.drop x.c rest)) := by
              show SeekO _ _ _ _ _ _ _ _ _ _ _ _ _ _ _ _
              rw [← hc, hnil]
              exact HT
            have hlr : rest.length = i + 1 := by omega
            clear HT hnil HTk hIa hyo hv2
            go_wp2_with (first | (go_at_call 39; refine HVx.out.mono ?_; rintro e w1 ⟨rfl, rfl⟩))
            go_ret2
            exact ⟨rfl, HT2.out⟩
          · have HT := HTk.out i (some ⟨g, og + (i + 1), none⟩) (x.c - (i + 1)) (hIa.drop (by omega))
            rw [List.length_drop] at HT
            have HT2 := Lib.hid HT
            clear HT HTk hIa hyo hv2
            go_wp2_with (first | (go_at_call 39; refine HVx.out.mono ?_; rintro e w1 ⟨rfl, rfl⟩))
            go_ret2
            exact ⟨rfl, HT2.out⟩
    · obtain rfl : i = rest.length := by omega
      have hE := HE.out
      rw [List.drop_of_length_le (Nat.le_refl _)] at hE
      unfold seekM at hE
      subst hE
      clear HE
      go_wp2
      go_ret2
      exact ⟨rfl, HNil.out⟩
end Go.Proofs.YtggighikemhnfaaDoor.Tm
