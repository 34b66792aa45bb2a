/- New. -/
import Derived.Test.YtmgppnepccmceaaHpM
import Derived.Laws.MakeOwn
import Derived.Lib.JoinLaws
namespace Go.Proofs.Ytmgppnepccmceaa
open Go.RowKit
set_option linter.unusedVariables false
theorem info_parts {P : Program} {T : TypeId} {z : Value} {s b : Nat} (h : (P.info? T).map (fun i => (i.zero, i.size, i.bytes)) = some (some z, s, b)) : ∃ i, P.info? T = some i ∧ i.zero = some z ∧ i.size = s ∧ i.bytes = b := by
  obtain ⟨i, hi, e⟩ := Option.map_eq_some_iff.1 h
  simp only [Prod.mk.injEq] at e
  exact ⟨i, hi, e.1, e.2.1, e.2.2⟩
theorem info_ent : (Try.prog.info? 54).map (fun i => (i.zero, i.size, i.bytes)) = some (some (.agg #[.int .i32 0, .int .i64 0, .int .i32 0]), 3, 24) := by kernel_rfl
theorem info_ptr : (Try.prog.info? 60).map (fun i => (i.zero, i.size, i.bytes)) = some (some (.pointer none), 1, 8) := by kernel_rfl
/-- The first i entries are laid. -/
def fillE (i k : Nat) : List Value := if k < i then [.int .i32 k, .int .i64 0, .int .i32 (-1)] else [.int .i32 0, .int .i64 0, .int .i32 0]
theorem fillE_len (i k : Nat) : (fillE i k).length = 3 := by unfold fillE; split <;> rfl
def fillC (n i : Nat) : List Value := (List.range n).flatMap (fillE i)
theorem fillC_len (n i : Nat) : (fillC n i).length = n * 3 := by unfold fillC; rw [len_flat (fillE_len i), List.length_range]
theorem fillC_get {n i x j : Nat} (hx : x < n) (hj : j < 3) : (fillC n i)[x * 3 + j]? = (fillE i x)[j]? := get_flat (fillE_len i) _ _ _ _ (List.getElem?_range hx) hj
theorem fill_ext {n i : Nat} {l : List Value} (hl : l.length = n * 3) (h : ∀ x j, x < n → j < 3 → l[x * 3 + j]? = (fillE i x)[j]?) : l = fillC n i := by
  apply List.ext_getElem?
  intro k
  by_cases hk : k < n * 3
  · have e : k = k / 3 * 3 + k % 3 := by omega
    rw [e, h _ _ (by omega) (by omega), fillC_get (by omega) (by omega)]
  · rw [List.getElem?_eq_none (by omega), List.getElem?_eq_none (by rw [fillC_len]; omega)]
theorem made_ent (n : Nat) : madeCells (Value.agg #[.int .i32 0, .int .i64 0, .int .i32 0]).cells (n * 3) = ⟨fillC n 0⟩ := by
  apply Array.ext'
  refine fill_ext (by rw [Array.length_toList, size_madeCells]) (fun x j hx hj => ?_)
  rw [Array.getElem?_toList]
  have hm : (x * 3 + j) % 3 = j := by omega
  have hi : x * 3 + j < n * 3 := by omega
  have hk : (madeCells (Value.agg #[.int .i32 0, .int .i64 0, .int .i32 0]).cells (n * 3))[x * 3 + j]? = some ((Value.agg #[.int .i32 0, .int .i64 0, .int .i32 0]).cells[(x * 3 + j) % 3]!) := by
    unfold madeCells
    rw [Array.getElem?_map, Array.getElem?_range, if_pos hi]
    rfl
  rw [hk, hm]
  unfold fillE
  rw [if_neg (by omega)]
  rcases (show j = 0 ∨ j = 1 ∨ j = 2 by omega) with e | e | e <;> subst e <;> rfl
theorem make_ent (n : Nat) (hn : n ≤ 300) (w : World) : (Instr.makeSlice 46 (.int .i64 n) (.int .i64 n)).run Try.prog w = .ok (.slice (some ⟨w.heap.size, 0, none⟩) n n) (w.alloc (.cells ⟨fillC n 0⟩ 54)) := by
  obtain ⟨i0, hi, hz0, hz1, hz2⟩ := info_parts info_ent
  have := run_make (P := Try.prog) w 46 54 i0 _ Try.underlying46 hi hz0 .i64 .i64 n n (by omega) (by omega) (by rw [hz2]; omega) (by omega)
  rw [hz1] at this
  rw [Int.toNat_natCast, made_ent] at this
  exact this
theorem make_ptr (n : Nat) (hn : n ≤ 300) (w : World) : (Instr.makeSlice 47 (.int .i64 0) (.int .i64 n)).run Try.prog w = .ok (.slice (some ⟨w.heap.size, 0, none⟩) 0 n) (w.alloc (.cells (Array.replicate n (.pointer none)) 60)) := by
  have := run_make_room (P := Try.prog) 47 60 (.pointer none) 8 Try.underlying47 info_ptr rfl .i64 .i64 n (by omega) (by omega) w
  have e : madeCells #[Value.pointer none] n = Array.replicate n (.pointer none) := by
    apply Array.ext'
    apply List.ext_getElem?
    intro k
    rw [Array.getElem?_toList]
    rw [Array.getElem?_toList, Array.getElem?_replicate]
    by_cases hk : k < n
    · rw [if_pos hk]
      simp [madeCells, hk, Nat.mod_one]
    · rw [if_neg hk, Array.getElem?_eq_none (by rw [size_madeCells]; omega)]
  rw [e] at this
  exact this
theorem fill_step {n i : Nat} (hi : i < n) : (((fillC n i).set (i * 3) (.int .i32 i)).set (i * 3 + 1) (.int .i64 0)).set (i * 3 + 2) (.int .i32 (-1)) = fillC n (i + 1) := by
  refine fill_ext (by rw [List.length_set, List.length_set, List.length_set, fillC_len]) (fun x j hx hj => ?_)
  rw [List.getElem?_set, List.getElem?_set, List.getElem?_set]
  simp only [List.length_set, fillC_len]
  by_cases e : x = i
  · subst e
    have hf : fillE (x + 1) x = [.int .i32 x, .int .i64 0, .int .i32 (-1)] := by unfold fillE; rw [if_pos (by omega)]
    rw [hf]
    rcases (show j = 0 ∨ j = 1 ∨ j = 2 by omega) with e | e | e <;> subst e
    · rw [if_neg (by omega), if_neg (by omega), if_pos (by omega), if_pos (by omega)]; rfl
    · rw [if_neg (by omega), if_pos (by omega), if_pos (by omega)]; rfl
    · rw [if_pos (by omega), if_pos (by omega)]; rfl
  · rw [if_neg (by omega), if_neg (by omega), if_neg (by omega), fillC_get hx hj]
    unfold fillE
    by_cases h : x < i
    · rw [if_pos h, if_pos (by omega)]
    · rw [if_neg h, if_neg (by omega)]
theorem fill_end (n : Nat) : fillC n n = entC (List.replicate n 0) (fun _ => -1) := by
  refine ent_ext (A := List.replicate n 0) (by rw [fillC_len, List.length_replicate]) rfl (fun x j hx hj => ?_)
  rw [List.length_replicate] at hx
  rw [fillC_get hx hj]
  unfold fillE entV
  rw [if_pos hx, List.getD_eq_getElem?_getD, List.getElem?_replicate, if_pos hx]
  rfl
/-- Three cells stored. -/
theorem fill_set {w : World} {nb n i : Nat} (h : w.heap[nb]? = some (.cells ⟨fillC n i⟩ 54 (0, 0))) (hi : i < n) : (((w.setCell ⟨nb, i * 3, none⟩ (.int .i32 i)).setCell ⟨nb, i * 3 + 1, none⟩ (.int .i64 0)).setCell ⟨nb, i * 3 + 2, none⟩ (.int .i32 (-1))).heap[nb]? = some (.cells ⟨fillC n (i + 1)⟩ 54 (0, 0)) := by
  have e := heap_setCell_same _ nb (i * 3 + 2) _ _ (.int .i32 (-1)) (heap_setCell_same _ nb (i * 3 + 1) _ _ (.int .i64 0) (heap_setCell_same w nb (i * 3) _ _ (.int .i32 i) h))
  rw [List.setIfInBounds_toArray, List.setIfInBounds_toArray, List.setIfInBounds_toArray, fill_step hi] at e
  exact e
theorem three_new (w : World) (a b c : Obj) : (((w.alloc a).alloc b).alloc c).drew.heap[w.heap.size]? = some a ∧ (((w.alloc a).alloc b).alloc c).drew.heap[w.heap.size + 1]? = some b ∧ (((w.alloc a).alloc b).alloc c).drew.heap[w.heap.size + 1 + 1]? = some c ∧ Below w.heap.size w (((w.alloc a).alloc b).alloc c).drew := by
  have z1 : (w.alloc a).heap.size = w.heap.size + 1 := by simp
  have z2 : ((w.alloc a).alloc b).heap.size = w.heap.size + 1 + 1 := by simp
  have h1 := heap_alloc_new w a
  have h2 := heap_alloc_new (w.alloc a) b
  have h3 := heap_alloc_new ((w.alloc a).alloc b) c
  rw [z1] at h2
  rw [z2] at h3
  refine ⟨?_, ?_, h3, ?_⟩
  · exact (Below.heap_alloc ((w.alloc a).alloc b) c _ (by omega)).trans ((Below.heap_alloc (w.alloc a) b _ (by omega)).trans h1)
  · exact (Below.heap_alloc ((w.alloc a).alloc b) c _ (by omega)).trans h2
  · exact ((((Below.refl _ w).alloc (Nat.le_refl _) _).alloc (by omega) _).alloc (by omega) _).drew
/-- What New answers. -/
def NewP (n : Nat) (w : World) (e : Ending) (w' : World) : Prop := ∃ h t nb ib, e = .returned (.pointer (some ⟨h, 0, none⟩)) ∧ HX w' h t nb ib (List.replicate n 0) (plc []) [] ∧ w.heap.size ≤ h ∧ w.heap.size ≤ t ∧ w.heap.size ≤ nb ∧ w.heap.size ≤ ib ∧ Below w.heap.size w w'
theorem New_bad (n : Int) (w : World) (hn : n < 0 ∨ 65536 < n) : Calls Try.prog 9 #[.int .i64 n] w fun e w' => e = .returned (.pointer none) ∧ w = w' := by
  by_cases h : n < 0
  · go_enter Try.func9, Try.ntmps9
    go_wp2
    go_ret
    exact ⟨rfl, rfl⟩
  · have h2 : 65536 < n := by omega
    go_enter Try.func9, Try.ntmps9
    go_wp2
    go_ret
    exact ⟨rfl, rfl⟩
set_option maxRecDepth 100000 in
set_option maxHeartbeats 1000000 in
theorem New_any (n : Nat) (w : World) (hn : n ≤ 300) : Calls Try.prog 9 #[.int .i64 n] w fun e w' => NewP n w e w' := by
  have hm1 := fun W => make_ent n hn W
  have hm2 := fun W => make_ptr n hn W
  go_enter Try.func9, Try.ntmps9
  go_wp2
  go_region
  · obtain ⟨W, hW⟩ : ∃ W, (((w.alloc (.cells ⟨fillC n 0⟩ 54)).alloc (.cells (Array.replicate n (.pointer none)) 60)).alloc (.cells #[.slice (some ⟨w.heap.size, 0, none⟩) n n, .slice (some ⟨w.heap.size + 1, 0, none⟩) 0 n] 49)).drew = W := ⟨_, rfl⟩
    obtain ⟨q1, q2, q3, q4⟩ := three_new w (.cells ⟨fillC n 0⟩ 54) (.cells (Array.replicate n (.pointer none)) 60) (.cells #[.slice (some ⟨w.heap.size, 0, none⟩) n n, .slice (some ⟨w.heap.size + 1, 0, none⟩) 0 n] 49)
    rw [hW] at q1 q2 q3 q4
    have s1 : W.heap[w.heap.size + 1 + 1]? = some (.cells #[.slice (some ⟨w.heap.size, 0, none⟩) n n, .slice (some ⟨w.heap.size + 1, 0, none⟩) 0 n] 49 (0, 0)) := q3
    have s2 : W.heap[w.heap.size]? = some (.cells ⟨fillC n 0⟩ 54 (0, 0)) := q1
    have s3 : W.heap[w.heap.size + 1]? = some (.cells (Array.replicate n (.pointer none)) 60 (0, 0)) := q2
    have HB : Hid (Below w.heap.size w W) := q4
    have HS := Lib.hid (show W.heap[w.heap.size + 1 + 1]? = _ ∧ W.heap[w.heap.size]? = _ ∧ W.heap[w.heap.size + 1]? = _ from ⟨s1, s2, s3⟩)
    rw [hW]
    clear hW s1 s2 s3 q1 q2 q3 q4
    obtain ⟨tb, htb⟩ : ∃ x, w.heap.size + 1 + 1 = x := ⟨_, rfl⟩
    rw [htb] at HS ⊢
    obtain ⟨ib, hib⟩ : ∃ x, w.heap.size + 1 = x := ⟨_, rfl⟩
    rw [hib] at HS ⊢
    obtain ⟨nb, hnb⟩ : ∃ x, w.heap.size = x := ⟨_, rfl⟩
    rw [hnb] at HS ⊢
    have o1 : w.heap.size ≤ tb := by omega
    have o2 : w.heap.size ≤ nb := by omega
    have o3 : w.heap.size ≤ ib := by omega
    have o4 : tb ≠ nb := by omega
    have o5 : ib ≠ nb := by omega
    have o6 : tb ≠ ib := by omega
    clear htb hnb hib
    go_wp2
    go_loopw [18] (fun iv wr => ∃ i : Nat, iv = .int .i64 i ∧ i ≤ n ∧ Hid (wr.heap[tb]? = some (.cells #[.slice (some ⟨nb, 0, none⟩) n n, .slice (some ⟨ib, 0, none⟩) 0 n] 49 (0, 0)) ∧ wr.heap[nb]? = some (.cells ⟨fillC n i⟩ 54 (0, 0)) ∧ wr.heap[ib]? = some (.cells (Array.replicate n (.pointer none)) 60 (0, 0)) ∧ Below w.heap.size w wr)) (fun iv _ => n - (intOf iv).toNat)
    case atStart => exact ⟨0, rfl, by omega, HS.out.1, HS.out.2.1, HS.out.2.2, HB.out⟩
    case round =>
      clear HS HB
      obtain ⟨i, rfl, hi, HR⟩ := hrel
      by_cases hin : i < n
      · have c0 : wr.cell? ⟨tb, 0, none⟩ = some (.slice (some ⟨nb, 0, none⟩) n n) := by rw [cell_of_row wr _ _ _ _ _ HR.out.1]; rfl
        have e : ∀ j, j < 3 → ∃ v, wr.cell? ⟨nb, i * 3 + j, none⟩ = some v := fun j hj => by
          rw [cell_of_row wr _ _ _ _ _ HR.out.2.1, ← Array.getElem?_toList]
          exact ⟨_, List.getElem?_eq_getElem (by show i * 3 + j < (fillC n i).length; rw [fillC_len]; omega)⟩
        have f : ∀ j, wr.frozen? ⟨nb, j, none⟩ = false := fun j => by simp [World.frozen?, HR.out.2.1]
        obtain ⟨v0, e0⟩ := e 0 (by omega)
        obtain ⟨v1, e1⟩ := e 1 (by omega)
        obtain ⟨v2, e2⟩ := e 2 (by omega)
        rw [Nat.add_zero] at e0
        have f0 := f (i * 3)
        have f1 := f (i * 3 + 1)
        have f2 := f (i * 3 + 2)
        have hb := (Array.getElem?_eq_some_iff.1 HR.out.2.1).1
        have hini : (i : Int) < (n : Int) := by omega
        have HN : Hid ((((wr.setCell ⟨nb, i * 3, none⟩ (.int .i32 i)).setCell ⟨nb, i * 3 + 1, none⟩ (.int .i64 0)).setCell ⟨nb, i * 3 + 2, none⟩ (.int .i32 (-1))).heap[tb]? = some (.cells #[.slice (some ⟨nb, 0, none⟩) n n, .slice (some ⟨ib, 0, none⟩) 0 n] 49 (0, 0)) ∧ (((wr.setCell ⟨nb, i * 3, none⟩ (.int .i32 i)).setCell ⟨nb, i * 3 + 1, none⟩ (.int .i64 0)).setCell ⟨nb, i * 3 + 2, none⟩ (.int .i32 (-1))).heap[nb]? = some (.cells ⟨fillC n (i + 1)⟩ 54 (0, 0)) ∧ (((wr.setCell ⟨nb, i * 3, none⟩ (.int .i32 i)).setCell ⟨nb, i * 3 + 1, none⟩ (.int .i64 0)).setCell ⟨nb, i * 3 + 2, none⟩ (.int .i32 (-1))).heap[ib]? = some (.cells (Array.replicate n (.pointer none)) 60 (0, 0)) ∧ Below w.heap.size w (((wr.setCell ⟨nb, i * 3, none⟩ (.int .i32 i)).setCell ⟨nb, i * 3 + 1, none⟩ (.int .i64 0)).setCell ⟨nb, i * 3 + 2, none⟩ (.int .i32 (-1)))) := by
          obtain ⟨r1, r2, r3, r4⟩ := HR.out
          have hs : ∀ k, k ≠ nb → (((wr.setCell ⟨nb, i * 3, none⟩ (.int .i32 i)).setCell ⟨nb, i * 3 + 1, none⟩ (.int .i64 0)).setCell ⟨nb, i * 3 + 2, none⟩ (.int .i32 (-1))).heap[k]? = wr.heap[k]? := fun k hk =>
            (Below.heap_setCell _ _ _ _ hk).trans ((Below.heap_setCell _ _ _ _ hk).trans (Below.heap_setCell _ _ _ _ hk))
          exact ⟨(hs _ (by omega)).trans r1, fill_set r2 hin, (hs _ (by omega)).trans r3, ((r4.setCell (show w.heap.size ≤ nb by omega) _).setCell (show w.heap.size ≤ nb by omega) _).setCell (show w.heap.size ≤ nb by omega) _⟩
        clear HR e f
        go_wp2
        go_roundw
        case rel => exact ⟨i + 1, by go_num, by omega, HN⟩
        case measure => simp [intOf]; omega
      · have hni : ¬ (i : Int) < (n : Int) := by omega
        have hin' : i = n := by omega
        subst hin'
        have HE : Hid (HX (wr.alloc (.cells #[.pointer (some ⟨tb, 0, none⟩)] 56)) wr.heap.size (tb) (nb) (ib) (List.replicate i 0) (plc []) [] ∧ w.heap.size ≤ wr.heap.size ∧ Below w.heap.size w (wr.alloc (.cells #[.pointer (some ⟨tb, 0, none⟩)] 56))) := by
          obtain ⟨r1, r2, r3, r4⟩ := HR.out
          have l1 := (Array.getElem?_eq_some_iff.1 r1).1
          have l2 := (Array.getElem?_eq_some_iff.1 r2).1
          have l3 := (Array.getElem?_eq_some_iff.1 r3).1
          have hs : ∀ k, k < wr.heap.size → (wr.alloc (.cells #[.pointer (some ⟨tb, 0, none⟩)] 56)).heap[k]? = wr.heap[k]? := fun k hk => Below.heap_alloc _ _ _ hk
          refine ⟨⟨heap_alloc_new _ _, (hs _ l1).trans (by rw [List.length_replicate]; exact r1), (hs _ (by omega)).trans (by rw [r2, fill_end, entC_congr (pm := plc []) (fun x _ => (plc_out (by simp)).symm)]), ⟨List.replicate i (.pointer none), (hs _ (by omega)).trans (r3.trans (by congr 2)), by rw [List.length_replicate, List.length_replicate]; simp⟩, by rw [List.length_replicate]; exact hn, fun x hx => (by cases hx), fun a ha => by rw [(List.mem_replicate.1 ha).2]; exact ⟨Int.le_refl _, by omega⟩⟩, by omega, r4.alloc (by omega) _⟩
        clear HR
        go_wp2
        go_ret
        exact ⟨_, _, _, _, rfl, HE.out.1, HE.out.2.1, o1, o2, o3, HE.out.2.2⟩
  · obtain ⟨W, hW⟩ : ∃ W, (((w.alloc (.cells (Array.replicate n (.pointer none)) 60)).alloc (.cells ⟨fillC n 0⟩ 54)).alloc (.cells #[.slice (some ⟨w.heap.size + 1, 0, none⟩) n n, .slice (some ⟨w.heap.size, 0, none⟩) 0 n] 49)).drew = W := ⟨_, rfl⟩
    obtain ⟨q1, q2, q3, q4⟩ := three_new w (.cells (Array.replicate n (.pointer none)) 60) (.cells ⟨fillC n 0⟩ 54) (.cells #[.slice (some ⟨w.heap.size + 1, 0, none⟩) n n, .slice (some ⟨w.heap.size, 0, none⟩) 0 n] 49)
    rw [hW] at q1 q2 q3 q4
    have s1 : W.heap[w.heap.size + 1 + 1]? = some (.cells #[.slice (some ⟨w.heap.size + 1, 0, none⟩) n n, .slice (some ⟨w.heap.size, 0, none⟩) 0 n] 49 (0, 0)) := q3
    have s2 : W.heap[w.heap.size + 1]? = some (.cells ⟨fillC n 0⟩ 54 (0, 0)) := q2
    have s3 : W.heap[w.heap.size]? = some (.cells (Array.replicate n (.pointer none)) 60 (0, 0)) := q1
    have HB : Hid (Below w.heap.size w W) := q4
    have HS := Lib.hid (show W.heap[w.heap.size + 1 + 1]? = _ ∧ W.heap[w.heap.size + 1]? = _ ∧ W.heap[w.heap.size]? = _ from ⟨s1, s2, s3⟩)
    rw [hW]
    clear hW s1 s2 s3 q1 q2 q3 q4
    obtain ⟨tb, htb⟩ : ∃ x, w.heap.size + 1 + 1 = x := ⟨_, rfl⟩
    rw [htb] at HS ⊢
    obtain ⟨nb, hnb⟩ : ∃ x, w.heap.size + 1 = x := ⟨_, rfl⟩
    rw [hnb] at HS ⊢
    obtain ⟨ib, hib⟩ : ∃ x, w.heap.size = x := ⟨_, rfl⟩
    rw [hib] at HS ⊢
    have o1 : w.heap.size ≤ tb := by omega
    have o2 : w.heap.size ≤ nb := by omega
    have o3 : w.heap.size ≤ ib := by omega
    have o4 : tb ≠ nb := by omega
    have o5 : ib ≠ nb := by omega
    have o6 : tb ≠ ib := by omega
    clear htb hnb hib
    go_wp2
    go_loopw [18] (fun iv wr => ∃ i : Nat, iv = .int .i64 i ∧ i ≤ n ∧ Hid (wr.heap[tb]? = some (.cells #[.slice (some ⟨nb, 0, none⟩) n n, .slice (some ⟨ib, 0, none⟩) 0 n] 49 (0, 0)) ∧ wr.heap[nb]? = some (.cells ⟨fillC n i⟩ 54 (0, 0)) ∧ wr.heap[ib]? = some (.cells (Array.replicate n (.pointer none)) 60 (0, 0)) ∧ Below w.heap.size w wr)) (fun iv _ => n - (intOf iv).toNat)
    case atStart => exact ⟨0, rfl, by omega, HS.out.1, HS.out.2.1, HS.out.2.2, HB.out⟩
    case round =>
      clear HS HB
      obtain ⟨i, rfl, hi, HR⟩ := hrel
      by_cases hin : i < n
      · have c0 : wr.cell? ⟨tb, 0, none⟩ = some (.slice (some ⟨nb, 0, none⟩) n n) := by rw [cell_of_row wr _ _ _ _ _ HR.out.1]; rfl
        have e : ∀ j, j < 3 → ∃ v, wr.cell? ⟨nb, i * 3 + j, none⟩ = some v := fun j hj => by
          rw [cell_of_row wr _ _ _ _ _ HR.out.2.1, ← Array.getElem?_toList]
          exact ⟨_, List.getElem?_eq_getElem (by show i * 3 + j < (fillC n i).length; rw [fillC_len]; omega)⟩
        have f : ∀ j, wr.frozen? ⟨nb, j, none⟩ = false := fun j => by simp [World.frozen?, HR.out.2.1]
        obtain ⟨v0, e0⟩ := e 0 (by omega)
        obtain ⟨v1, e1⟩ := e 1 (by omega)
        obtain ⟨v2, e2⟩ := e 2 (by omega)
        rw [Nat.add_zero] at e0
        have f0 := f (i * 3)
        have f1 := f (i * 3 + 1)
        have f2 := f (i * 3 + 2)
        have hb := (Array.getElem?_eq_some_iff.1 HR.out.2.1).1
        have hini : (i : Int) < (n : Int) := by omega
        have HN : Hid ((((wr.setCell ⟨nb, i * 3, none⟩ (.int .i32 i)).setCell ⟨nb, i * 3 + 1, none⟩ (.int .i64 0)).setCell ⟨nb, i * 3 + 2, none⟩ (.int .i32 (-1))).heap[tb]? = some (.cells #[.slice (some ⟨nb, 0, none⟩) n n, .slice (some ⟨ib, 0, none⟩) 0 n] 49 (0, 0)) ∧ (((wr.setCell ⟨nb, i * 3, none⟩ (.int .i32 i)).setCell ⟨nb, i * 3 + 1, none⟩ (.int .i64 0)).setCell ⟨nb, i * 3 + 2, none⟩ (.int .i32 (-1))).heap[nb]? = some (.cells ⟨fillC n (i + 1)⟩ 54 (0, 0)) ∧ (((wr.setCell ⟨nb, i * 3, none⟩ (.int .i32 i)).setCell ⟨nb, i * 3 + 1, none⟩ (.int .i64 0)).setCell ⟨nb, i * 3 + 2, none⟩ (.int .i32 (-1))).heap[ib]? = some (.cells (Array.replicate n (.pointer none)) 60 (0, 0)) ∧ Below w.heap.size w (((wr.setCell ⟨nb, i * 3, none⟩ (.int .i32 i)).setCell ⟨nb, i * 3 + 1, none⟩ (.int .i64 0)).setCell ⟨nb, i * 3 + 2, none⟩ (.int .i32 (-1)))) := by
          obtain ⟨r1, r2, r3, r4⟩ := HR.out
          have hs : ∀ k, k ≠ nb → (((wr.setCell ⟨nb, i * 3, none⟩ (.int .i32 i)).setCell ⟨nb, i * 3 + 1, none⟩ (.int .i64 0)).setCell ⟨nb, i * 3 + 2, none⟩ (.int .i32 (-1))).heap[k]? = wr.heap[k]? := fun k hk =>
            (Below.heap_setCell _ _ _ _ hk).trans ((Below.heap_setCell _ _ _ _ hk).trans (Below.heap_setCell _ _ _ _ hk))
          exact ⟨(hs _ (by omega)).trans r1, fill_set r2 hin, (hs _ (by omega)).trans r3, ((r4.setCell (show w.heap.size ≤ nb by omega) _).setCell (show w.heap.size ≤ nb by omega) _).setCell (show w.heap.size ≤ nb by omega) _⟩
        clear HR e f
        go_wp2
        go_roundw
        case rel => exact ⟨i + 1, by go_num, by omega, HN⟩
        case measure => simp [intOf]; omega
      · have hni : ¬ (i : Int) < (n : Int) := by omega
        have hin' : i = n := by omega
        subst hin'
        have HE : Hid (HX (wr.alloc (.cells #[.pointer (some ⟨tb, 0, none⟩)] 56)) wr.heap.size (tb) (nb) (ib) (List.replicate i 0) (plc []) [] ∧ w.heap.size ≤ wr.heap.size ∧ Below w.heap.size w (wr.alloc (.cells #[.pointer (some ⟨tb, 0, none⟩)] 56))) := by
          obtain ⟨r1, r2, r3, r4⟩ := HR.out
          have l1 := (Array.getElem?_eq_some_iff.1 r1).1
          have l2 := (Array.getElem?_eq_some_iff.1 r2).1
          have l3 := (Array.getElem?_eq_some_iff.1 r3).1
          have hs : ∀ k, k < wr.heap.size → (wr.alloc (.cells #[.pointer (some ⟨tb, 0, none⟩)] 56)).heap[k]? = wr.heap[k]? := fun k hk => Below.heap_alloc _ _ _ hk
          refine ⟨⟨heap_alloc_new _ _, (hs _ l1).trans (by rw [List.length_replicate]; exact r1), (hs _ (by omega)).trans (by rw [r2, fill_end, entC_congr (pm := plc []) (fun x _ => (plc_out (by simp)).symm)]), ⟨List.replicate i (.pointer none), (hs _ (by omega)).trans (r3.trans (by congr 2)), by rw [List.length_replicate, List.length_replicate]; simp⟩, by rw [List.length_replicate]; exact hn, fun x hx => (by cases hx), fun a ha => by rw [(List.mem_replicate.1 ha).2]; exact ⟨Int.le_refl _, by omega⟩⟩, by omega, r4.alloc (by omega) _⟩
        clear HR
        go_wp2
        go_ret
        exact ⟨_, _, _, _, rfl, HE.out.1, HE.out.2.1, o1, o2, o3, HE.out.2.2⟩
end Go.Proofs.Ytmgppnepccmceaa
