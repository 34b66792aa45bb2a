/- slices.Equal over nodes; New, the program's and the document's. -/
import Derived.Test.YtaiabpbcipnjaaaDoorTmG
import Derived.Test.YtaiabpbcipnjaaaDoorTmD
import Derived.Deep.RegionHeld3
import Derived.BigQuiet
import Derived.Maps.AppendAt
namespace Go.Proofs.YtaiabpbcipnjaaaDoor.Tm
open Go.RowKit
set_option linter.unusedVariables false
theorem TabR.drew {w : World} {l : List NodeA} {a : Option Addr} {c : Nat} (h : TabR w l a c) : TabR w.drew l a c := ⟨h.le, h.cap, h.tat, h.ok⟩
set_option maxRecDepth 100000 in
set_option maxHeartbeats 2000000 in
theorem Equal_any (l m : List NodeA) (a b : Option Addr) (c d : Nat) (w : World) (hA : TabR w l a c) (hB : TabR w m b d) :
    Calls Tryd.prog 45 #[.slice a l.length c, .slice b m.length d] w fun e w' => e = .returned (.bool (decide (l = m))) ∧ Below w.heap.size w w' := by
  obtain ⟨r, hr⟩ : ∃ r, decide (l = m) = r := ⟨_, rfl⟩
  rw [hr]
  have HT : Hid (l = m → r = true) := fun h => by rw [← hr]; exact decide_eq_true h
  have HF : Hid (¬ l = m → r = false) := fun h => by rw [← hr]; exact decide_eq_false h
  have HA := Lib.hid hA
  have HB := Lib.hid hB
  have l1 : l.length ≤ c := hA.le
  have l2 : m.length ≤ d := hB.le
  have c1 : l.length ≤ 9223372036854775807 := by have := hA.cap; simp only [maxLen] at this; omega
  have c2 : m.length ≤ 9223372036854775807 := by have := hB.cap; simp only [maxLen] at this; omega
  clear hA hB hr
  by_cases hl : l.length = m.length
  · have hne : ((l.length : Int) != (m.length : Int)) = false := ne_f (by omega)
    have HL := Lib.hid hl
    clear hl
    go_enter Tryd.func45, Tryd.ntmps45
    go_wp2
    go_loopw [13] (fun i wr => ∃ k : Nat, k ≤ l.length ∧ i = .int .i64 k ∧ Hid (Below w.heap.size w wr) ∧ Hid (l.take k = m.take k)) (fun i _ => l.length - (intOf i).toNat)
    case atStart => exact ⟨0, Nat.zero_le _, rfl, Below.refl _ _, by show _ = _; simp⟩
    case round =>
      obtain ⟨k, hkl, rfl, HW, HE⟩ := hrel
      by_cases hlt : k < l.length
      · have hlt2 : k < m.length := by have := HL.out; omega
        obtain ⟨x, hx⟩ : ∃ x, l[k]? = some x := ⟨_, List.getElem?_eq_getElem hlt⟩
        obtain ⟨y, hy⟩ : ∃ y, m[k]? = some y := ⟨_, List.getElem?_eq_getElem hlt2⟩
        obtain ⟨g, o, rfl, hg, q0, q1, q2, q3, q4, q5, q6, q7⟩ := (HA.out.below HW.out).node hx
        obtain ⟨g', o', rfl, hg', r0, r1, r2, r3, r4, r5, r6, r7⟩ := (HB.out.below HW.out).node hy
        have hq := eqi_node x y (HA.out.ok x (List.mem_of_getElem? hx)) (HB.out.ok y (List.mem_of_getElem? hy))
        have hq0 := eq_node x y (HA.out.ok x (List.mem_of_getElem? hx)) (HB.out.ok y (List.mem_of_getElem? hy))
        have HXY := Lib.hid (And.intro hx hy)
        clear hx hy
        by_cases hxy : x = y
        · rw [decide_eq_true hxy] at hq hq0
          have HE2 : Hid (l.take (k + 1) = m.take (k + 1)) := by
            show _ = _
            rw [take_snoc HXY.out.1, take_snoc HXY.out.2, HE.out, hxy]
          clear hxy
          go_wp2
          go_quiet (fail)
          go_wp2
          go_roundw
          case rel => exact ⟨k + 1, by omega, by go_num, below_drewN HW.out, HE2⟩
          case measure => simp [intOf]; omega
        · rw [decide_eq_false hxy] at hq hq0
          have hf : r = false := HF.out (fun h => hxy (by have h1 := HXY.out.1; rw [h, HXY.out.2] at h1; exact (Option.some.inj h1).symm))
          subst hf
          clear hxy
          go_wp2
          go_quiet (fail)
          go_wp2
          go_ret
          exact ⟨rfl, below_drewN HW.out⟩
      · obtain rfl : k = l.length := by omega
        have ht : r = true := HT.out (by have := HE.out; rw [List.take_length, HL.out, List.take_length] at this; exact this)
        subst ht
        go_wp2
        go_ret
        exact ⟨rfl, HW.out⟩
  · have hf : r = false := HF.out (fun h => hl (by rw [h]))
    subst hf
    have hne : ((l.length : Int) != (m.length : Int)) = true := ne_t (by omega)
    clear hl
    go_enter Tryd.func45, Tryd.ntmps45
    go_wp2
    go_ret
    exact ⟨rfl, Below.refl _ _⟩
def newC : Array Value := #[.int .i8 0, .int .i8 0, .int .i64 0, .int .i64 0, .int .i64 0, .int .i64 0, .int .i64 0, .int .i64 0, .int .i8 10, .int .i8 0, .int .i64 0, .int .i64 0, .int .i64 0, .int .i64 1, .int .i64 0, .int .i64 0]
theorem new_tab {w : World} {b : Nat} {ty : TypeId} (h : w.heap[b]? = some (.cells newC ty (0, 0))) : TabR w newL (some ⟨b, 0, none⟩) 2 := by
  refine ⟨Nat.le_refl _, by decide, fun _ => ⟨b, 0, rfl, (Array.getElem?_eq_some_iff.1 h).1, fun i v hv => ?_⟩, fun n hn => ?_⟩
  · rw [Nat.zero_add, cell_of_row w b i _ _ _ h, ← hv, ← Array.getElem?_toList]
    rfl
  · simp only [newL, List.mem_cons, List.not_mem_nil, or_false] at hn
    rcases hn with rfl | rfl
    · exact ⟨⟨by decide, by decide⟩, ⟨by decide, by decide⟩, ⟨by decide, by decide⟩, ⟨by decide, by decide⟩, ⟨by decide, by decide⟩, ⟨by decide, by decide⟩, ⟨by decide, by decide⟩, ⟨by decide, by decide⟩⟩
    · exact ⟨⟨by decide, by decide⟩, ⟨by decide, by decide⟩, ⟨by decide, by decide⟩, ⟨by decide, by decide⟩, ⟨by decide, by decide⟩, ⟨by decide, by decide⟩, ⟨by decide, by decide⟩, ⟨by decide, by decide⟩⟩
theorem New_any (w : World) : Calls Tryd.prog 44 #[] w fun e w' => e = .returned (.agg #[.slice (some ⟨w.heap.size + 1, 0, none⟩) 2 2]) ∧ TabR w' newL (some ⟨w.heap.size + 1, 0, none⟩) 2 ∧ Below w.heap.size w w' := by
  go_enter Tryd.func44, Tryd.ntmps44
  go_wp2
  have hb := heap_alloc_new (w.alloc (.cells #[.slice (some ⟨w.heap.size + 1, 0, none⟩) 2 2] 24)) (.cells newC 34)
  refine bodyPost_ret (v := .agg #[.slice (some ⟨w.heap.size + 1, 0, none⟩) 2 2]) (by simp [results, Tryd.results44, go_sem]) rfl ⟨rfl, ?_, ?_⟩
  · refine new_tab (ty := 34) ?_
    rw [World.size_alloc] at hb
    exact hb
  · exact ((Below.refl _ w).alloc (Nat.le_refl _) _).alloc (by simp) _
theorem RNew_any (w : World) : Calls Tryd.prog 16 #[] w fun e w' => e = .returned (.agg #[.slice (some ⟨w.heap.size + 1, 0, none⟩) 2 2]) ∧ TabR w' newL (some ⟨w.heap.size + 1, 0, none⟩) 2 ∧ Below w.heap.size w w' := by
  go_enter Tryd.func16, Tryd.ntmps16
  go_wp2
  have hb := heap_alloc_new (w.alloc (.cells #[.slice (some ⟨w.heap.size + 1, 0, none⟩) 2 2] 24)) (.cells newC 34)
  refine bodyPost_ret (v := .agg #[.slice (some ⟨w.heap.size + 1, 0, none⟩) 2 2]) (by simp [results, Tryd.results16, go_sem]) rfl ⟨rfl, ?_, ?_⟩
  · refine new_tab (ty := 34) ?_
    rw [World.size_alloc] at hb
    exact hb
  · exact ((Below.refl _ w).alloc (Nat.le_refl _) _).alloc (by simp) _
end Go.Proofs.YtaiabpbcipnjaaaDoor.Tm
