/- Package term's Reach, Tree, Depth; the document's Ints. -/
import Derived.Test.YtdjiebiobdhihaaDoorTmS
import Derived.Test.YtdjiebiobdhihaaDoorTmJ
import Derived.Deep.RegionHeld3
import Derived.BigQuiet
namespace Go.Proofs.YtdjiebiobdhihaaDoor
open Go.RowKit
set_option linter.unusedVariables false
/-- The places that are marked, as far as j. -/
def idxL (bs : List Bool) (j : Nat) : List Int := ((List.range j).filter (fun i => bs.getD i false)).map (fun (i : Nat) => (i : Int))
def reachL (l : List NodeA) (rs : List Int) : List Int := idxL (reachB l rs) l.length
theorem idxL_len (bs : List Bool) (j : Nat) : (idxL bs j).length ≤ j := by
  unfold idxL
  rw [List.length_map]
  have := List.length_filter_le (fun i => bs.getD i false) (List.range j)
  rwa [List.length_range] at this
theorem idxL_yes {bs : List Bool} {j : Nat} (h : bs[j]? = some true) : idxL bs (j + 1) = idxL bs j ++ [(j : Int)] := by
  unfold idxL
  rw [List.range_succ, List.filter_append, List.map_append]
  simp [List.getD_eq_getElem?_getD, h]
theorem idxL_no {bs : List Bool} {j : Nat} (h : bs[j]? = some false) : idxL bs (j + 1) = idxL bs j := by
  unfold idxL
  rw [List.range_succ, List.filter_append, List.map_append]
  simp [List.getD_eq_getElem?_getD, h]
theorem one_news {w : World} {v : Value} {b : Nat} {ty : TypeId} (h : w.heap[b]? = some (.cells #[v] ty (0, 0))) : ∀ j u, [v][j]? = some u → w.cell? ((⟨b, 0, none⟩ : Addr).add j) = some u := fun j u hu => by
  rw [Addr.add_lit, Nat.zero_add, cell_of_row w b j _ _ _ h, ← Array.getElem?_toList]
  exact hu
/-- Integers lie in a slice. -/
structure IntsR (w : World) (xs : List Int) (a : Option Addr) (c : Nat) : Prop where
  le : xs.length ≤ c
  cap : c ≤ maxLen
  tat : At w w.heap.size (xs.map (Value.int .i64)) a
  ok : ∀ x ∈ xs, I64 x
theorem IntsR.below {w w' : World} {xs : List Int} {a : Option Addr} {c : Nat} (h : IntsR w xs a c) (hb : Below w.heap.size w w') : IntsR w' xs a c :=
  ⟨h.le, h.cap, (h.tat.below hb).more hb.size, h.ok⟩
theorem IntsR.cell {w : World} {xs : List Int} {a : Option Addr} {c k : Nat} {x : Int} (h : IntsR w xs a c) (hk : xs[k]? = some x) : ∃ g o : Nat, a = some ⟨g, o, none⟩ ∧ g < w.heap.size ∧ w.cell? ⟨g, o + k, none⟩ = some (.int .i64 x) := by
  have hlt := (List.getElem?_eq_some_iff.1 hk).1
  obtain ⟨g, o, e, hg, hc⟩ := h.tat (by simp; omega)
  exact ⟨g, o, e, hg, hc k _ (by rw [List.getElem?_map, hk]; rfl)⟩
def ReachPost (w : World) (l : List NodeA) (rs : List Int) (e : Ending) (w' : World) : Prop :=
  ∃ L a c, L = reachL l rs ∧ e = .returned (.slice a L.length c) ∧ IntsR w' L a c ∧ Below w.heap.size w w'
theorem idxL_i64 (bs : List Bool) (j : Nat) (hj : j ≤ 1000) : ∀ x ∈ idxL bs j, I64 x := by
  intro x hx
  unfold idxL at hx
  obtain ⟨i, hi, rfl⟩ := List.mem_map.1 hx
  have := List.mem_range.1 (List.mem_filter.1 hi).1
  exact ⟨by omega, by omega⟩
set_option maxRecDepth 100000 in
set_option maxHeartbeats 4000000 in
theorem Reach_any (l : List NodeA) (a : Option Addr) (c : Nat) (rs : List Int) (ra : Option Addr) (rc : Nat) (w : World) (hA : TabR w l a c) (hl : l.length ≤ 1000) (hR : IntsR w rs ra rc) (hrm : rs.length ≤ 1000000) :
    Calls Tryd.prog 14 #[.agg #[.slice a l.length c], .slice ra rs.length rc] w (ReachPost w l rs) := by
  obtain ⟨i0, hi, hz0, hz1, hz2⟩ := info_parts info_int
  obtain ⟨W0, hW0⟩ : ∃ W0, W0 = w.alloc (.cells #[.slice a l.length c] 24) := ⟨_, rfl⟩
  have hB0 : Below w.heap.size w W0 := by rw [hW0]; exact (Below.refl _ w).alloc (Nat.le_refl _) _
  obtain ⟨bs, hbs⟩ : ∃ bs, reachB l rs = bs := ⟨_, rfl⟩
  have HRe : Hid (Calls Tryd.prog 25 #[.agg #[.slice a l.length c], .slice ra rs.length rc] W0 fun e w' => e = .returned (.slice (some ⟨W0.heap.size + 1, 0, none⟩) l.length l.length) ∧ w'.heap[W0.heap.size + 1]? = some (.cells (boolRow bs) 4 (0, 0)) ∧ Below W0.heap.size W0 w') := by
    rw [← hbs]
    exact callsIn_wide.1 (reached_in l a c rs ra rc W0 (hA.below hB0) hl (hR.below hB0).tat hR.le hrm hR.ok)
  have HL : Hid (reachL l rs = idxL bs l.length) := by show _ = _; unfold reachL; rw [hbs]
  have HBl : Hid (bs.length = l.length) := by
    show _ = _
    rw [← hbs]
    unfold reachB
    have : ∀ (k : Nat) (b : List Bool), (downL l k b).length = b.length := fun k => by
      induction k with
      | zero => intro b; rfl
      | succ k ih => intro b; unfold downL; rw [ih, stepR_len]
    rw [this, markL_len]
  have HB0 := Lib.hid hB0
  clear hA hR hB0 hbs
  go_enter Tryd.func14, Tryd.ntmps14
  go_wp2_with (go_at_call 25; rw [← hW0]; clear hW0; refine HRe.out.mono ?_; rintro e w1 ⟨rfl, hr1, hb1⟩; have HR1 := Lib.hid hr1; clear hr1)
  obtain ⟨S, hS⟩ : ∃ S, S = W0.heap.size + 1 := ⟨_, rfl⟩
  rw [← hS] at HR1 ⊢
  have HB1 : Hid (Below w.heap.size w w1) := HB0.out.trans (hb1.mono HB0.out.size)
  clear hS hb1 HRe
  go_loopw [5, 12] (fun v i wr => ∃ (j : Nat) (L : List Int) (av : Option Addr) (cv : Nat), j ≤ l.length ∧ i = .int .i64 j ∧ v = .slice av L.length cv ∧ Hid (L = idxL bs j) ∧ Hid (Below w1.heap.size w1 wr) ∧ Hid (wr.ownsRow w1.heap.size 3 1 (.slice av L.length cv) L.length (L.map (Value.int .i64)))) (fun _ i _ => l.length - (intOf i).toNat)
  case atStart => exact ⟨0, [], none, 0, Nat.zero_le _, rfl, rfl, rfl, Below.refl _ _, World.ownsRow_nil _ _ _ _⟩
  case round =>
    obtain ⟨j, L, av, cv, hj, rfl, rfl, HLj, HW, HO⟩ := hrel
    by_cases hlt : j < l.length
    · obtain ⟨b, hb⟩ : ∃ b, bs[j]? = some b := ⟨_, List.getElem?_eq_getElem (by rw [HBl.out]; exact hlt)⟩
      have xj := bool_cell ((HW.out.block S (Array.getElem?_eq_some_iff.1 HR1.out).1).trans HR1.out) hb
      have HBj := Lib.hid hb
      have hLl : L.length ≤ j := by rw [HLj.out]; exact idxL_len bs j
      clear hb
      cases b with
      | false =>
        have HN : Hid (L = idxL bs (j + 1)) := by show _ = _; rw [idxL_no HBj.out]; exact HLj.out
        go_wp2
        go_roundw
        case rel => exact ⟨j + 1, L, av, cv, by omega, by go_num, rfl, HN, HW, HO⟩
        case measure => simp [intOf]; omega
      | true =>
        have HN : Hid (L ++ [(j : Int)] = idxL bs (j + 1)) := by show _ = _; rw [idxL_yes HBj.out, ← HLj.out]
        have hw1 := HW.out.size
        go_wp2_with (at_builtin; refine wpList_append_own_at _ rfl _ _ 39 rfl w1.heap.size 3 i0 _ 1 8 Tryd.underlying39 hi hz0 hz1 hz2 rfl (by decide) _ L.length (L.map (Value.int .i64)) rfl (own_heap HO.out (fun k _ hk => Below.heap_alloc _ _ _ hk)) ⟨wr.heap.size, 0, none⟩ 1 1 [.int .i64 j] rfl rfl (one_news (heap_alloc_new wr (.cells #[.int .i64 j] 3))) (fun u hu => by simp at hu; subst hu; rfl) (by simp only [maxLen]; omega) (by omega) (by simp; omega) ?_; intro v' w3 hown' hgrow hnil hloc; clear hnil; have HOF := Lib.hid hown'; have HGr := Lib.hid hgrow; obtain ⟨av', cv', rfl, _⟩ := own_at HOF.out; clear hown' hgrow hloc)
        go_roundw
        case rel =>
          refine ⟨j + 1, L ++ [(j : Int)], av', cv', by omega, by go_num, by rw [List.length_append]; rfl, HN, ?_, ?_⟩
          · refine (HW.out.alloc hw1 _).grown HGr.out (by simp; omega) (fun k e => ?_)
            rcases own_at HO.out with ⟨a2, c2, e2, _, _, _, hg2⟩
            cases e2
            cases L with
            | nil =>
              rcases HO.out.2 with ⟨e3, _⟩ | ⟨g, cap, cur, e3, h1, _⟩
              · cases e3; cases e
              · cases e3; cases e; exact h1
            | cons x r =>
              obtain ⟨g, rfl, h1, _⟩ := hg2 (by simp)
              cases e; exact h1
          · rw [List.length_append, List.map_append]
            exact HOF.out
        case measure => simp [intOf]; omega
    · obtain rfl : j = l.length := by omega
      have HIR : Hid (IntsR wr L av cv) := by
        obtain ⟨a2, c2, e2, h1, h2, h3, _⟩ := own_at HO.out
        cases e2
        exact ⟨h1, h2, h3, by rw [HLj.out]; exact idxL_i64 _ _ hl⟩
      go_wp2
      go_ret
      exact ⟨L, av, cv, by rw [HL.out]; exact HLj.out, rfl, HIR.out, HB1.out.trans (HW.out.mono HB1.out.size)⟩
end Go.Proofs.YtdjiebiobdhihaaDoor
