/- The Sort of what has Args of some sorts. -/
import Derived.Test.YtdeobdepepjbmaaDoorTyA
import Derived.BigQuiet
namespace Go.Proofs.YtdeobdepepjbmaaDoor.Tm
open Go.RowKit
set_option linter.unusedVariables false
theorem info_int : (Tryd.prog.info? 3).map (fun i => (i.zero, i.size, i.bytes)) = some (some (.int .i64 0), 1, 8) := by kernel_rfl
theorem one_news {w : World} {v : Value} {b : Nat} {ty : TypeId} (h : w.heap[b]? = some (.cells #[v] ty (0, 0))) : ∀ j u, [v][j]? = some u → w.cell? ((⟨b, 0, none⟩ : Addr).add j) = some u := fun j u hu => by
  rw [Addr.add_lit, Nat.zero_add, cell_of_row w b j _ _ _ h, ← Array.getElem?_toList]
  exact hu
theorem of_arg {r : RuleA} {l : List Int} {p : Int × Int} (h : ofA r l = p) (hn : ¬ (l.length : Int) = r.many) : p = (0, 2) := by
  rw [← h]; unfold ofA; rw [if_neg hn]
theorem of_bad {r : RuleA} {l : List Int} {p : Int × Int} (h : ofA r l = p) (hn : (l.length : Int) = r.many) (hk : okL r l = false) : p = (0, 33) := by
  rw [← h]; unfold ofA; rw [if_pos hn, hk]; rfl
theorem of_unlike {r : RuleA} {l : List Int} {p : Int × Int} (h : ofA r l = p) (hn : (l.length : Int) = r.many) (hk : okL r l = true) (ha : alikeB (freeL r l l.length) = false) : p = (0, 33) := by
  rw [← h]; unfold ofA; rw [if_pos hn, hk, ha]; rfl
theorem of_free {r : RuleA} {l : List Int} {p : Int × Int} (h : ofA r l = p) (hn : (l.length : Int) = r.many) (hk : okL r l = true) (ha : alikeB (freeL r l l.length) = true) (hs : r.sort = -1) {x : Int} (hx : (freeL r l l.length)[0]? = some x) : p = (x, 0) := by
  have e : (freeL r l l.length).headD 0 = x := by
    cases hl : freeL r l l.length with
    | nil => rw [hl] at hx; simp at hx
    | cons a t => rw [hl] at hx; simpa using hx
  rw [← h]; unfold ofA; rw [if_pos hn, hk, ha, if_pos rfl, if_pos rfl, if_pos hs, e]
theorem of_fix {r : RuleA} {l : List Int} {p : Int × Int} (h : ofA r l = p) (hn : (l.length : Int) = r.many) (hk : okL r l = true) (ha : alikeB (freeL r l l.length) = true) (hs : ¬ r.sort = -1) : p = (r.sort, 0) := by
  rw [← h]; unfold ofA; rw [if_pos hn, hk, ha, if_pos rfl, if_pos rfl, if_neg hs]
theorem free_some {r : RuleA} {l : List Int} (hk : ∀ j, j < l.length → okA r (l.getD j 0) j = true) {i : Nat} (hi : i < l.length) (hr : rArg r i = -1) : 0 < (freeL r l l.length).length := by
  have h := hk i hi
  unfold okA at h
  rw [Bool.and_eq_true, decide_eq_true_eq] at h
  have hm : l.getD i 0 ∈ freeL r l l.length := List.mem_map.2 ⟨i, List.mem_filter.2 ⟨List.mem_range.2 hi, by unfold thA; rw [hr]; simpa using h.1⟩, rfl⟩
  exact List.length_pos_of_mem hm
theorem freeL_i64 {r : RuleA} {l : List Int} (h : ∀ x ∈ l, I64 x) (k : Nat) : ∀ x ∈ freeL r l k, I64 x := by
  intro x hx
  unfold freeL at hx
  obtain ⟨i, hi, rfl⟩ := List.mem_map.1 hx
  by_cases hl : i < l.length
  · rw [List.getD_eq_getElem?_getD, List.getElem?_eq_getElem hl]
    exact h _ (List.getElem_mem hl)
  · rw [List.getD_eq_getElem?_getD, List.getElem?_eq_none (by omega)]
    exact ⟨by simp, by simp⟩
theorem th_yes {r : RuleA} {x q : Int} {k : Nat} (h : 0 ≤ x) (hq : rArg r k = q) (h1 : q = -1) : thA r x k = true := by
  unfold thA; rw [hq, h1]; simpa using h
theorem th_no {r : RuleA} {x q : Int} {k : Nat} (hq : rArg r k = q) (h1 : ¬ q = -1) : thA r x k = false := by
  unfold thA; rw [hq]; simp [h1]
theorem ok_free {r : RuleA} {x q : Int} {k : Nat} (h : 0 ≤ x) (hq : rArg r k = q) (h1 : q = -1) : okA r x k = true := by
  unfold okA; rw [hq, h1]; simpa using h
theorem ok_same {r : RuleA} {x q : Int} {k : Nat} (h : 0 ≤ x) (hq : rArg r k = q) (h1 : q = x) : okA r x k = true := by
  unfold okA; rw [hq, h1]; simp [h]
theorem ok_not {r : RuleA} {x q : Int} {k : Nat} (hq : rArg r k = q) (h1 : ¬ q = -1) (h2 : ¬ q = x) : okA r x k = false := by
  unfold okA; rw [hq]; simp [h1, h2]
theorem ok_neg {r : RuleA} {x : Int} {k : Nat} (h : x < 0) : okA r x k = false := by
  unfold okA; rw [decide_eq_false (by omega)]; rfl
theorem rArg_cell {V : World} {b : Nat} {r : RuleA} {ty : TypeId} (h : V.heap[b]? = some (.cells #[.int .i64 r.many, .int .i64 r.a0, .int .i64 r.a1, .int .i64 r.a2, .int .i64 r.sort] ty (0, 0))) (k : Nat) (hk : k < 3) : V.cell? ⟨b, 1 + k, none⟩ = some (.int .i64 (rArg r k)) := by
  have hk : k = 0 ∨ k = 1 ∨ k = 2 := by omega
  rcases hk with rfl | rfl | rfl
  · exact (cell_of_row _ _ 1 _ _ _ h).trans rfl
  · exact (cell_of_row _ _ 2 _ _ _ h).trans rfl
  · exact (cell_of_row _ _ 3 _ _ _ h).trans rfl
theorem rArg_ok {r : RuleA} (h : RuleOk r) (k : Nat) : I64 (rArg r k) := by
  unfold rArg
  split
  · exact h.a0
  · exact h.a1
  · exact h.a2
set_option maxRecDepth 100000 in
set_option maxHeartbeats 4000000 in
theorem of_any (r : RuleA) (l : List Int) (a : Option Addr) (c : Nat) (p : Int × Int) (w : World) (hA : IntsR w l a c) (hr : RuleOk r) (hl : l.length ≤ 1000) (hm : r.many ≤ 3) (hs : r.sort = -1 → ∃ i : Nat, (i : Int) < r.many ∧ rArg r i = -1) (hp : ofA r l = p) :
    Calls Tryd.prog 20 #[.agg #[.int .i64 r.many, .int .i64 r.a0, .int .i64 r.a1, .int .i64 r.a2, .int .i64 r.sort], .slice a l.length c] w fun e w' => e = .returned (.tuple #[.int .i64 p.1, .int .i64 p.2]) ∧ Below w.heap.size w w' := by
  obtain ⟨i0, hi, hz0, hz1, hz2⟩ := info_parts info_int
  obtain ⟨W0, hW0⟩ : ∃ W0, W0 = w.alloc (.cells #[.int .i64 r.many, .int .i64 r.a0, .int .i64 r.a1, .int .i64 r.a2, .int .i64 r.sort] 61) := ⟨_, rfl⟩
  have hB0 : Below w.heap.size w W0 := by rw [hW0]; exact (Below.refl _ w).alloc (Nat.le_refl _) _
  have hsz : W0.heap.size = w.heap.size + 1 := by rw [hW0]; simp
  have hX0 : W0.heap[w.heap.size]? = some (.cells #[.int .i64 r.many, .int .i64 r.a0, .int .i64 r.a1, .int .i64 r.a2, .int .i64 r.sort] 61 (0, 0)) := by rw [hW0]; exact heap_alloc_new w _
  have HA0 := Lib.hid (hA.below hB0)
  have HB0 := Lib.hid hB0
  have HX : Hid (∀ V, Below W0.heap.size W0 V → V.heap[w.heap.size]? = some (.cells #[.int .i64 r.many, .int .i64 r.a0, .int .i64 r.a1, .int .i64 r.a2, .int .i64 r.sort] 61 (0, 0))) := fun V hV => (hV.block _ (by omega)).trans hX0
  have HLI := Lib.hid hA.ok
  have hlc := hA.le
  have hcm : c ≤ 9223372036854775807 := by have := hA.cap; unfold maxLen at this; omega
  have HP := Lib.hid hp
  have HS := Lib.hid hs
  have HR := Lib.hid hr
  clear hA hB0 hp hs hr
  by_cases hn : (l.length : Int) = r.many
  rotate_left
  · obtain rfl := of_arg HP.out hn
    have e0 := ne_t hn
    have hc0 := (cell_of_row _ _ 0 _ _ _ hX0).trans (show _ = some (.int .i64 r.many) from rfl)
    clear hn hX0
    have HW := Lib.hid hW0
    clear hW0
    go_enter Tryd.func20, Tryd.ntmps20
    go_wp2_with fail
    go_ret2
    rw [← HW.out]
    exact ⟨rfl, HB0.out⟩
  have e0 := ne_f hn
  have HN := Lib.hid hn
  have hl3 : l.length ≤ 3 := by omega
  clear hn
  have hc0 := (cell_of_row _ _ 0 _ _ _ hX0).trans (show _ = some (.int .i64 r.many) from rfl)
  clear hX0
  go_enter Tryd.func20, Tryd.ntmps20
  go_wp2_with fail
  rw [← hW0]
  clear hW0 hc0 e0
  go_loopw [6, 16] (fun v i wr => ∃ (k : Nat) (F : List Int) (av : Option Addr) (cv : Nat), k ≤ l.length ∧ i = .int .i64 k ∧ v = .slice av F.length cv ∧ Hid (F = freeL r l k) ∧ Hid (∀ j, j < k → okA r (l.getD j 0) j = true) ∧ Hid (Below W0.heap.size W0 wr) ∧ Hid (wr.ownsRow W0.heap.size 3 1 (.slice av F.length cv) F.length (F.map (Value.int .i64)))) (fun _ i _ => l.length - (intOf i).toNat)
  case atStart => exact ⟨0, [], none, 0, Nat.zero_le _, rfl, rfl, rfl, fun j hj => by omega, Below.refl _ _, World.ownsRow_nil _ _ _ _⟩
  case round =>
    obtain ⟨k, F, av, cv, hk, rfl, rfl, HF, HOk, HW, HO⟩ := hrel
    have hFl : F.length ≤ k := by rw [HF.out]; exact freeL_len r l k
    by_cases hlt : k < l.length
    · obtain ⟨x, hx⟩ : ∃ x, l[k]? = some x := ⟨_, List.getElem?_eq_getElem hlt⟩
      obtain ⟨g, o, rfl, _, hck⟩ := (HA0.out.below HW.out).cell hx
      have hgx : l.getD k 0 = x := by rw [List.getD_eq_getElem?_getD, hx]; rfl
      obtain ⟨q, hq⟩ : ∃ q, rArg r k = q := ⟨_, rfl⟩
      have hcq := rArg_cell (HX.out wr HW.out) k (by omega)
      rw [hq] at hcq
      have HXk := Lib.hid hx
      have HQ := Lib.hid hq
      have HGX := Lib.hid hgx
      clear hx hq hgx
      by_cases hx0 : x < 0
      · obtain rfl := of_bad HP.out HN.out (okL_no HXk.out (ok_neg hx0))
        go_wp2
        go_ret2
        exact ⟨rfl, HB0.out.trans (HW.out.mono HB0.out.size)⟩
      by_cases hq1 : q = -1
      · have e1 := eq_t hq1
        have HN2 : Hid (F ++ [x] = freeL r l (k + 1)) := by show _ = _; rw [freeL_yes HXk.out (th_yes (by omega) HQ.out hq1), ← HF.out]
        have HOk2 : Hid (∀ j, j < k + 1 → okA r (l.getD j 0) j = true) := fun j hj => by
          by_cases h : j < k
          · exact HOk.out j h
          · obtain rfl : j = k := by omega
            rw [HGX.out]; exact ok_free (by omega) HQ.out hq1
        have hw1 := HW.out.size
        clear hq1
        go_wp2_with (at_builtin; refine wpList_append_own_at _ rfl _ _ 28 rfl W0.heap.size 3 i0 _ 1 8 Tryd.underlying28 hi hz0 hz1 hz2 rfl (by decide) _ F.length (F.map (Value.int .i64)) rfl (own_heap HO.out (fun k _ hk => Below.heap_alloc _ _ _ hk)) ⟨wr.heap.size, 0, none⟩ 1 1 [.int .i64 x] rfl rfl (one_news (heap_alloc_new wr (.cells #[.int .i64 x] 3))) (fun u hu => by simp at hu; subst hu; rfl) (by simp only [maxLen]; omega) (by omega) (by simp; omega) ?_; intro v' w3 hown' hgrow hnil hloc; clear hnil; have HOF := Lib.hid hown'; have HGr := Lib.hid hgrow; obtain ⟨av', cv', rfl, _⟩ := own_at HOF.out; clear hown' hgrow hloc)
        go_roundw
        case rel =>
          refine ⟨k + 1, F ++ [x], av', cv', by omega, by go_num, by rw [List.length_append]; rfl, HN2, HOk2, ?_, ?_⟩
          · refine (HW.out.alloc hw1 _).grown HGr.out (by simp; omega) (fun k e => ?_)
            rcases own_at HO.out with ⟨a2, c2, e2, _, _, _, hg2⟩
            cases e2
            cases F with
            | nil =>
              rcases HO.out.2 with ⟨e3, _⟩ | ⟨g, cap, cur, e3, h1, _⟩
              · cases e3; cases e
              · cases e3; cases e; exact h1
            | cons x r =>
              obtain ⟨g, rfl, h1, _⟩ := hg2 (by simp)
              cases e; exact h1
          · rw [List.length_append, List.map_append]
            exact HOF.out
        case measure => simp [intOf]; omega
      · have e1 := eq_f hq1
        by_cases hqx : q = x
        · have e2 := ne_f hqx
          have HN2 : Hid (F = freeL r l (k + 1)) := by show _ = _; rw [freeL_no HXk.out (th_no HQ.out hq1)]; exact HF.out
          have HOk2 : Hid (∀ j, j < k + 1 → okA r (l.getD j 0) j = true) := fun j hj => by
            by_cases h : j < k
            · exact HOk.out j h
            · obtain rfl : j = k := by omega
              rw [HGX.out]; exact ok_same (by omega) HQ.out hqx
          clear hqx hq1
          go_wp2
          go_roundw
          case rel => exact ⟨k + 1, F, av, cv, by omega, by go_num, rfl, HN2, HOk2, HW, HO⟩
          case measure => simp [intOf]; omega
        · have e2 := ne_t hqx
          obtain rfl := of_bad HP.out HN.out (okL_no HXk.out (ok_not HQ.out hq1 hqx))
          clear hqx hq1
          go_wp2
          go_ret2
          exact ⟨rfl, HB0.out.trans (HW.out.mono HB0.out.size)⟩
    · obtain rfl : k = l.length := by omega
      have HIR : Hid (IntsR wr F av cv) := by
        obtain ⟨a2, c2, e2, h1, h2, h3, _⟩ := own_at HO.out
        cases e2
        exact ⟨h1, h2, h3, by rw [HF.out]; exact freeL_i64 HLI.out _⟩
      have HOkL : Hid (okL r l = true) := okL_yes HOk.out
      obtain ⟨q, hq⟩ : ∃ q, alikeB F = q := ⟨_, rfl⟩
      have HAl : Hid (F.length ≤ 1000 → Calls Tryd.prog 33 #[.slice av F.length cv] wr fun e w' => e = .returned (.bool q) ∧ w' = wr) := fun h => alike_any F av cv q wr HIR.out hq h
      have hsz' := HX.out wr HW.out
      have hcs := (cell_of_row _ _ 4 _ _ _ hsz').trans (show _ = some (.int .i64 r.sort) from rfl)
      clear hsz'
      have HFq : Hid (alikeB (freeL r l l.length) = q) := by show _ = _; rw [← HF.out]; exact hq
      clear hq
      cases q with
      | false =>
        obtain rfl := of_unlike HP.out HN.out HOkL.out HFq.out
        go_wp2_with (go_at_call 33; refine (HAl.out (by omega)).mono ?_; rintro e w1 ⟨rfl, rfl⟩)
        go_ret2
        exact ⟨rfl, HB0.out.trans (HW.out.mono HB0.out.size)⟩
      | true =>
        by_cases hs1 : r.sort = -1
        · have e1 := eq_t hs1
          obtain ⟨i, hi1, hi2⟩ := HS.out hs1
          have hpos : 0 < F.length := by rw [HF.out]; exact free_some HOk.out (by have := HN.out; omega) hi2
          obtain ⟨y, hy⟩ : ∃ y, F[0]? = some y := ⟨_, List.getElem?_eq_getElem hpos⟩
          obtain ⟨g, o, rfl, _, hcy⟩ := HIR.out.cell hy
          rw [Nat.add_zero] at hcy
          obtain rfl := of_free HP.out HN.out HOkL.out HFq.out hs1 (by rw [← HF.out]; exact hy)
          clear hs1 hy hi1 hi2
          go_wp2_with (go_at_call 33; refine (HAl.out (by omega)).mono ?_; rintro e w1 ⟨rfl, rfl⟩)
          go_ret2
          exact ⟨rfl, HB0.out.trans (HW.out.mono HB0.out.size)⟩
        · have e1 := eq_f hs1
          obtain rfl := of_fix HP.out HN.out HOkL.out HFq.out hs1
          clear hs1
          go_wp2_with (go_at_call 33; refine (HAl.out (by omega)).mono ?_; rintro e w1 ⟨rfl, rfl⟩)
          go_ret2
          exact ⟨rfl, HB0.out.trans (HW.out.mono HB0.out.size)⟩
end Go.Proofs.YtdeobdepepjbmaaDoor.Tm
