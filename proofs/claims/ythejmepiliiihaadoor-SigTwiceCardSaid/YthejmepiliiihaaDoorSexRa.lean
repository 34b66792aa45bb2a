/- The document's Same. -/
import Derived.Test.YthejmepiliiihaaDoorSexRd
import Derived.Deep.RegionHeld3
import Derived.Test.YthejmepiliiihaaDoorSexMay
namespace Go.Proofs.YthejmepiliiihaaDoor
open Go.RowKit
set_option linter.unusedVariables false
set_option maxHeartbeats 4000000 in
theorem RSame_n : ∀ (n : Nat) (t : Tree) (va vb : Value) (w : World), szT t ≤ n → Sx w t va → Sx w t vb →
    Calls Tryd.prog 38 #[va, vb] w fun e w' => e = .returned (.bool true) ∧ Below w.heap.size w w' := by
  intro n
  induction n with
  | zero => intro t va vb w hn; rw [szT_kids] at hn; omega
  | succ n ih =>
    intro t va vb w hn hra hrb
    have hkid : ∀ c ∈ t.kids, szT c ≤ n := fun c hc => by
      have := szL_mem hc
      rw [szT_kids] at hn
      omega
    obtain ⟨a, cap, rfl, hl, hc, hs, hk⟩ := hra.parts
    obtain ⟨b, cap', rfl, hl', hc', hs', hk'⟩ := hrb.parts
    have HK := Lib.hid hk
    have HK' := Lib.hid hk'
    have HIH : Hid (∀ c ∈ t.kids, ∀ (va vb : Value) (W : World), Sx W c va → Sx W c vb → Calls Tryd.prog 38 #[va, vb] W fun e w' => e = .returned (.bool true) ∧ Below W.heap.size W w') := fun c hcm va vb W h1 h2 => ih c va vb W (hkid c hcm) h1 h2
    have hkm : t.kids.length ≤ 9223372036854775807 := by simp only [maxLen] at hc; omega
    have n1 : (t.kind != t.kind) = false := by simp
    clear hra hrb hk hk' ih hkid hn
    go_enter Tryd.func38, Tryd.ntmps38
    go_wp2
    obtain ⟨W0, hW0⟩ : ∃ W0, W0 = (w.alloc (.cells #[.int .i8 t.kind, .string (bytesL t.text), .slice a t.kids.length cap] 47)).alloc (.cells #[.int .i8 t.kind, .string (bytesL t.text), .slice b t.kids.length cap'] 47) := ⟨_, rfl⟩
    rw [← hW0]
    have HB0 : Hid (Below w.heap.size w W0) := by show Below _ _ _; rw [hW0]; exact ((Below.refl _ _).alloc (Nat.le_refl _) _).alloc (by simp) _
    have HX0 : Hid (W0.heap[w.heap.size]? = some (.cells #[.int .i8 t.kind, .string (bytesL t.text), .slice a t.kids.length cap] 47 (0, 0))) := by show _ = _; rw [hW0]; exact (Below.heap_alloc _ _ _ (by simp)).trans (heap_alloc_new w _)
    have HY0 : Hid (W0.heap[w.heap.size + 1]? = some (.cells #[.int .i8 t.kind, .string (bytesL t.text), .slice b t.kids.length cap'] 47 (0, 0))) := by
      show _ = _; rw [hW0]
      have := heap_alloc_new (w.alloc (.cells #[.int .i8 t.kind, .string (bytesL t.text), .slice a t.kids.length cap] 47)) (.cells #[.int .i8 t.kind, .string (bytesL t.text), .slice b t.kids.length cap'] 47)
      rw [World.size_alloc] at this
      exact this
    clear hW0
    go_loopw [5] (fun i wr => ∃ k : Nat, k ≤ t.kids.length ∧ i = .int .i64 k ∧ Hid (Below w.heap.size w wr) ∧ Hid (wr.heap[w.heap.size]? = some (.cells #[.int .i8 t.kind, .string (bytesL t.text), .slice a t.kids.length cap] 47 (0, 0))) ∧ Hid (wr.heap[w.heap.size + 1]? = some (.cells #[.int .i8 t.kind, .string (bytesL t.text), .slice b t.kids.length cap'] 47 (0, 0)))) (fun i _ => t.kids.length - (intOf i).toNat)
    case atStart => exact ⟨0, Nat.zero_le _, rfl, HB0, HX0, HY0⟩
    case round =>
      obtain ⟨k, hkl, rfl, HB, HX, HY⟩ := hrel
      have x2 := cell_of_row _ _ 2 _ _ _ HX.out
      have y2 := cell_of_row _ _ 2 _ _ _ HY.out
      simp only [List.getElem?_toArray, List.getElem?_cons_zero, List.getElem?_cons_succ] at x2 y2
      have hzw : w.heap.size + 1 < wr.heap.size := (Array.getElem?_eq_some_iff.1 HY.out).1
      have hzw0 : w.heap.size < wr.heap.size := by omega
      by_cases hlt : k < t.kids.length
      · obtain ⟨c, hcc⟩ : ∃ c, t.kids[k]? = some c := ⟨_, List.getElem?_eq_getElem hlt⟩
        have hks : SxL wr t.kids a := SxL.below HK.out HB.out
        have hks' : SxL wr t.kids b := SxL.below HK'.out HB.out
        obtain ⟨g, o, rfl, _, hg, _, _⟩ := hks.addr (by omega)
        obtain ⟨g', o', rfl, _, hg', _, _⟩ := hks'.addr (by omega)
        obtain ⟨_, v0, v1, v2, c0, c1, c2, hrt⟩ := hks.get t.kids g o k c hcc
        obtain ⟨ca, cc, hv, _, _, _, _⟩ := hrt.parts
        simp only [Value.agg.injEq, Array.mk.injEq, List.cons.injEq, and_true] at hv
        obtain ⟨rfl, rfl, rfl⟩ := hv
        obtain ⟨_, v0, v1, v2, d0, d1, d2, hrt'⟩ := hks'.get t.kids g' o' k c hcc
        obtain ⟨da, dc, hv, _, _, _, _⟩ := hrt'.parts
        simp only [Value.agg.injEq, Array.mk.injEq, List.cons.injEq, and_true] at hv
        obtain ⟨rfl, rfl, rfl⟩ := hv
        have c2' : wr.cell? ⟨g, o + k * 3 + 2, none⟩ = some (.slice ca c.kids.length cc) := c2
        have d2' : wr.cell? ⟨g', o' + k * 3 + 2, none⟩ = some (.slice da c.kids.length dc) := d2
        have HCALL : Hid (∀ W : World, Below wr.heap.size wr W → Calls Tryd.prog 38 #[.agg #[.int .i8 c.kind, .string (bytesL c.text), .slice ca c.kids.length cc], .agg #[.int .i8 c.kind, .string (bytesL c.text), .slice da c.kids.length dc]] W fun e w' => e = .returned (.bool true) ∧ Below W.heap.size W w') := fun W hW => HIH.out c (List.mem_of_getElem? hcc) _ _ W (hrt.sx.below hW) (hrt'.sx.below hW)
        have H0 := Lib.hid (And.intro x2 (And.intro y2 (And.intro c0 (And.intro c1 (And.intro c2' (And.intro d0 (And.intro d1 d2')))))))
        clear hks hks' hrt hrt' hcc c2 d2
        go_wp2
        clear x2 y2 c0 c1 c2' d0 d1 d2'
        go_region_held3 (fun w' => w'.cell? ⟨w.heap.size, 2, none⟩ = some (.slice (some ⟨g, o, none⟩) t.kids.length cap) ∧ w'.cell? ⟨w.heap.size + 1, 2, none⟩ = some (.slice (some ⟨g', o', none⟩) t.kids.length cap') ∧ w'.cell? ⟨g, o + k * 3, none⟩ = some (.int .i8 c.kind) ∧ w'.cell? ⟨g, o + k * 3 + 1, none⟩ = some (.string (bytesL c.text)) ∧ w'.cell? ⟨g, o + k * 3 + 2, none⟩ = some (.slice ca c.kids.length cc) ∧ w'.cell? ⟨g', o' + k * 3, none⟩ = some (.int .i8 c.kind) ∧ w'.cell? ⟨g', o' + k * 3 + 1, none⟩ = some (.string (bytesL c.text)) ∧ w'.cell? ⟨g', o' + k * 3 + 2, none⟩ = some (.slice da c.kids.length dc))
          (first | exact H0.out | exact ⟨(hc1 _ _ hzw0).trans H0.out.1, (hc1 _ _ hzw).trans H0.out.2.1, (hc1 _ _ hg).trans H0.out.2.2.1, (hc1 _ _ hg).trans H0.out.2.2.2.1, (hc1 _ _ hg).trans H0.out.2.2.2.2.1, (hc1 _ _ hg').trans H0.out.2.2.2.2.2.1, (hc1 _ _ hg').trans H0.out.2.2.2.2.2.2.1, (hc1 _ _ hg').trans H0.out.2.2.2.2.2.2.2⟩ | go_keep)
          (first | (go_at_call 38; refine (HCALL.out _ (by first | exact (Below.refl _ _).drew | exact Below.refl _ _)).mono ?_; rintro e w2 ⟨rfl, hb2⟩; obtain ⟨hc1, hf1⟩ := bcell hb2))
        have hw2 : Below wr.heap.size wr w2 := (Below.refl _ wr).drew.trans (hb2.mono (Nat.le_refl _))
        have HX2 := Lib.hid ((hw2.block _ hzw0).trans HX.out)
        have HY2 := Lib.hid ((hw2.block _ hzw).trans HY.out)
        have HB2 : Hid (Below w.heap.size w w2) := HB.out.trans (hw2.mono (by omega))
        clear hb2 hw2 hc1 hf1
        go_wp2_with fail
        go_roundw
        case rel => exact ⟨k + 1, by omega, by go_num, HB2.out, HX2.out, HY2.out⟩
        case measure => simp [intOf]; omega
      · obtain rfl : k = t.kids.length := by omega
        go_wp2
        go_ret
        exact ⟨rfl, HB.out⟩
theorem RSame_any (t : Tree) (va vb : Value) (w : World) (ha : Sx w t va) (hb : Sx w t vb) :
    Calls Tryd.prog 38 #[va, vb] w fun e w' => e = .returned (.bool true) ∧ Below w.heap.size w w' := RSame_n _ t va vb w (Nat.le_refl _) ha hb
end Go.Proofs.YthejmepiliiihaaDoor
