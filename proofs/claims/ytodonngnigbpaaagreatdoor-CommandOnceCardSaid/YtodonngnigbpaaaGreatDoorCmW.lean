/- The document's Same of package sexpr, of any two expressions. -/
import Derived.Test.YtodonngnigbpaaaGreatDoorCmS
import Derived.Test.YtodonngnigbpaaaGreatDoorCmO4
import Derived.Test.YtodonngnigbpaaaGreatDoorSexRa
import Derived.Deep.RegionHeld3
namespace Go.Proofs.YtodonngnigbpaaaGreatDoor
open Go.RowKit
set_option linter.unusedVariables false
theorem node_eq {a b : Tree} (h1 : a.kind = b.kind) (h2 : a.text = b.text) (h3 : a.kids = b.kids) : a = b := by
  cases a
  cases b
  simp only [Tree.kind, Tree.text, Tree.kids] at h1 h2 h3
  subst h1
  subst h2
  subst h3
  rfl
set_option maxRecDepth 100000 in
set_option maxHeartbeats 4000000 in
theorem RSame2_n : ∀ (n : Nat) (ta tb : Tree) (va vb : Value) (w : World), szT ta ≤ n → Sx w ta va → Sx w tb vb →
    Calls Tryz.prog 12 #[va, vb] w fun e w' => (∃ r, e = .returned (.bool r) ∧ (r = true ↔ ta = tb)) ∧ Below w.heap.size w w' := by
  intro n
  induction n with
  | zero => intro t tb va vb w hn; rw [szT_kids] at hn; omega
  | succ n ih =>
    intro t tb va vb w hn hra hrb
    have hkid : ∀ c ∈ t.kids, szT c ≤ n := fun c hc => by
      have := szL_mem hc
      rw [szT_kids] at hn
      omega
    obtain ⟨a, cap, rfl, hl, hc, hs, hk⟩ := hra.parts
    obtain ⟨b, cap', rfl, hl', hc', hs', hk'⟩ := hrb.parts
    have HK := Lib.hid hk
    have HK' := Lib.hid hk'
    have HIH : Hid (∀ c ∈ t.kids, ∀ (d : Tree) (va vb : Value) (W : World), Sx W c va → Sx W d vb → Calls Tryz.prog 12 #[va, vb] W fun e w' => (∃ r, e = .returned (.bool r) ∧ (r = true ↔ c = d)) ∧ Below W.heap.size W w') := fun c hcm d va vb W h1 h2 => ih c d va vb W (hkid c hcm) h1 h2
    have hkm : t.kids.length ≤ 9223372036854775807 := by simp only [maxLen] at hc; omega
    have hkm' : tb.kids.length ≤ 9223372036854775807 := by simp only [maxLen] at hc'; omega
    obtain ⟨W0, hW0⟩ : ∃ W0, W0 = (w.alloc (.cells #[.int .i8 t.kind, .string (bytesL t.text), .slice a t.kids.length cap] 35)).alloc (.cells #[.int .i8 tb.kind, .string (bytesL tb.text), .slice b tb.kids.length cap'] 35) := ⟨_, rfl⟩
    obtain ⟨hX0, hY0, hB0⟩ := two_new w (.cells #[.int .i8 t.kind, .string (bytesL t.text), .slice a t.kids.length cap] 35) (.cells #[.int .i8 tb.kind, .string (bytesL tb.text), .slice b tb.kids.length cap'] 35)
    rw [← hW0] at hX0 hY0 hB0
    have HX0 := Lib.hid hX0
    have HY0 := Lib.hid hY0
    have HB0 := Lib.hid hB0
    have HL := Lib.hid hW0
    clear hra hrb hk hk' ih hkid hn hW0 hX0 hY0 hB0
    by_cases q1 : t.kind = tb.kind
    · by_cases q2 : t.text = tb.text
      · by_cases q3 : t.kids.length = tb.kids.length
        · have n1 := ne_false (x := t.kind) (y := tb.kind) q1
          have n2 := sl_yes q2
          have n3 := ne_false (x := (t.kids.length : Int)) (y := (tb.kids.length : Int)) (by omega)
          have HEQ : Hid (t.kids = tb.kids → t = tb) := fun h => node_eq q1 q2 h
          have HLN := Lib.hid q3
          clear q1 q2 q3
          go_enter Tryz.func12, Tryz.ntmps12
          go_wp2
          rw [← HL.out]
          clear HL
          go_loopw [5] (fun i wr => ∃ k : Nat, k ≤ t.kids.length ∧ i = .int .i64 k ∧ Hid (Below w.heap.size w wr) ∧ Hid (wr.heap[w.heap.size]? = some (.cells #[.int .i8 t.kind, .string (bytesL t.text), .slice a t.kids.length cap] 35 (0, 0))) ∧ Hid (wr.heap[w.heap.size + 1]? = some (.cells #[.int .i8 tb.kind, .string (bytesL tb.text), .slice b tb.kids.length cap'] 35 (0, 0))) ∧ Hid (t.kids.take k = tb.kids.take k)) (fun i _ => t.kids.length - (intOf i).toNat)
          case atStart => exact ⟨0, Nat.zero_le _, rfl, HB0.out, HX0.out, HY0.out, by show _ = _; simp⟩
          case round =>
            obtain ⟨k, hkl, rfl, HB, HX, HY, HE⟩ := hrel
            have x2 := cell_of_row _ _ 2 _ _ _ HX.out
            have y2 := cell_of_row _ _ 2 _ _ _ HY.out
            simp only [List.getElem?_toArray, List.getElem?_cons_zero, List.getElem?_cons_succ] at x2 y2
            have hzw : w.heap.size + 1 < wr.heap.size := (Array.getElem?_eq_some_iff.1 HY.out).1
            have hzw0 : w.heap.size < wr.heap.size := by omega
            by_cases hlt : k < t.kids.length
            · have hlt2 : k < tb.kids.length := by have := HLN.out; omega
              obtain ⟨c, hcc⟩ : ∃ c, t.kids[k]? = some c := ⟨_, List.getElem?_eq_getElem hlt⟩
              obtain ⟨f, hff⟩ : ∃ f, tb.kids[k]? = some f := ⟨_, List.getElem?_eq_getElem hlt2⟩
              have hks : SxL wr t.kids a := SxL.below HK.out HB.out
              have hks' : SxL wr tb.kids b := SxL.below HK'.out HB.out
              obtain ⟨g, o, rfl, _, hg, _, _⟩ := hks.addr (by omega)
              obtain ⟨g', o', rfl, _, hg', _, _⟩ := hks'.addr (by omega)
              obtain ⟨_, v0, v1, v2, c0, c1, c2, hrt⟩ := hks.get t.kids g o k c hcc
              obtain ⟨ca, cc, hv, _, _, _, _⟩ := hrt.parts
              simp only [Value.agg.injEq, Array.mk.injEq, List.cons.injEq, and_true] at hv
              obtain ⟨rfl, rfl, rfl⟩ := hv
              obtain ⟨_, v0, v1, v2, d0, d1, d2, hrt'⟩ := hks'.get tb.kids g' o' k f hff
              obtain ⟨da, dc, hv, _, _, _, _⟩ := hrt'.parts
              simp only [Value.agg.injEq, Array.mk.injEq, List.cons.injEq, and_true] at hv
              obtain ⟨rfl, rfl, rfl⟩ := hv
              have c2' : wr.cell? ⟨g, o + k * 3 + 2, none⟩ = some (.slice ca c.kids.length cc) := c2
              have d2' : wr.cell? ⟨g', o' + k * 3 + 2, none⟩ = some (.slice da f.kids.length dc) := d2
              have HCALL : Hid (∀ W : World, Below wr.heap.size wr W → Calls Tryz.prog 12 #[.agg #[.int .i8 c.kind, .string (bytesL c.text), .slice ca c.kids.length cc], .agg #[.int .i8 f.kind, .string (bytesL f.text), .slice da f.kids.length dc]] W fun e w' => (∃ r, e = .returned (.bool r) ∧ (r = true ↔ c = f)) ∧ Below W.heap.size W w') := fun W hW => HIH.out c (List.mem_of_getElem? hcc) f _ _ W (hrt.sx.below hW) (hrt'.sx.below hW)
              have H0 := Lib.hid (And.intro x2 (And.intro y2 (And.intro c0 (And.intro c1 (And.intro c2' (And.intro d0 (And.intro d1 d2')))))))
              have HXY := Lib.hid (And.intro hcc hff)
              clear hks hks' hrt hrt' hcc hff c2 d2
              go_wp2
              clear x2 y2 c0 c1 c2' d0 d1 d2'
              go_region_held3 (fun w' => w'.cell? ⟨w.heap.size, 2, none⟩ = some (.slice (some ⟨g, o, none⟩) t.kids.length cap) ∧ w'.cell? ⟨w.heap.size + 1, 2, none⟩ = some (.slice (some ⟨g', o', none⟩) tb.kids.length cap') ∧ w'.cell? ⟨g, o + k * 3, none⟩ = some (.int .i8 c.kind) ∧ w'.cell? ⟨g, o + k * 3 + 1, none⟩ = some (.string (bytesL c.text)) ∧ w'.cell? ⟨g, o + k * 3 + 2, none⟩ = some (.slice ca c.kids.length cc) ∧ w'.cell? ⟨g', o' + k * 3, none⟩ = some (.int .i8 f.kind) ∧ w'.cell? ⟨g', o' + k * 3 + 1, none⟩ = some (.string (bytesL f.text)) ∧ w'.cell? ⟨g', o' + k * 3 + 2, none⟩ = some (.slice da f.kids.length dc))
                (first | exact H0.out | exact ⟨(hc1 _ _ hzw0).trans H0.out.1, (hc1 _ _ hzw).trans H0.out.2.1, (hc1 _ _ hg).trans H0.out.2.2.1, (hc1 _ _ hg).trans H0.out.2.2.2.1, (hc1 _ _ hg).trans H0.out.2.2.2.2.1, (hc1 _ _ hg').trans H0.out.2.2.2.2.2.1, (hc1 _ _ hg').trans H0.out.2.2.2.2.2.2.1, (hc1 _ _ hg').trans H0.out.2.2.2.2.2.2.2⟩ | go_keep)
                (first | (go_at_call 12; refine (HCALL.out _ (by first | exact (Below.refl _ _).drew | exact Below.refl _ _)).mono ?_; rintro e w2 ⟨⟨r, rfl, hr⟩, hb2⟩; have HR := Lib.hid hr; clear hr; obtain ⟨hc1, hf1⟩ := bcell hb2))
              have hw2 : Below wr.heap.size wr w2 := (Below.refl _ wr).drew.trans (hb2.mono (Nat.le_refl _))
              have HX2 := Lib.hid ((hw2.block _ hzw0).trans HX.out)
              have HY2 := Lib.hid ((hw2.block _ hzw).trans HY.out)
              have HB2 : Hid (Below w.heap.size w w2) := HB.out.trans (hw2.mono (by omega))
              clear hb2 hw2 hc1 hf1
              cases r with
              | true =>
                have HE2 : Hid (t.kids.take (k + 1) = tb.kids.take (k + 1)) := by
                  show _ = _
                  rw [take_snoc HXY.out.1, take_snoc HXY.out.2, HE.out, HR.out.1 rfl]
                go_wp2_with fail
                go_roundw
                case rel => exact ⟨k + 1, by omega, by go_num, HB2.out, HX2.out, HY2.out, HE2.out⟩
                case measure => simp [intOf]; omega
              | false =>
                have HN : Hid (¬ t = tb) := fun h => by
                  have h1 := HXY.out.1
                  rw [h, HXY.out.2] at h1
                  have := HR.out.2 (Option.some.inj h1).symm
                  cases this
                go_wp2
                go_ret
                exact ⟨⟨false, rfl, fun h => (by cases h), fun h => absurd h HN.out⟩, HB2.out⟩
            · obtain rfl : k = t.kids.length := by omega
              have HT : Hid (t.kids = tb.kids) := by have := HE.out; rw [List.take_length, HLN.out, List.take_length] at this; exact this
              go_wp2
              go_ret
              exact ⟨⟨true, rfl, fun _ => HEQ.out HT.out, fun _ => rfl⟩, HB.out⟩
        · have n1 := ne_false (x := t.kind) (y := tb.kind) q1
          have n2 := sl_yes q2
          have n3 := ne_true (x := (t.kids.length : Int)) (y := (tb.kids.length : Int)) (by omega)
          have HN : Hid (¬ t = tb) := fun h => q3 (by rw [h])
          clear q1 q2 q3
          go_enter Tryz.func12, Tryz.ntmps12
          go_wp2
          rw [← HL.out]
          go_ret
          exact ⟨⟨false, rfl, fun h => (by cases h), fun h => absurd h HN.out⟩, HB0.out⟩
      · have n1 := ne_false (x := t.kind) (y := tb.kind) q1
        have n2 := sl_no q2
        have HN : Hid (¬ t = tb) := fun h => q2 (by rw [h])
        clear q1 q2
        go_enter Tryz.func12, Tryz.ntmps12
        go_wp2
        rw [← HL.out]
        go_ret
        exact ⟨⟨false, rfl, fun h => (by cases h), fun h => absurd h HN.out⟩, HB0.out⟩
    · have n1 := ne_true (x := t.kind) (y := tb.kind) q1
      have HN : Hid (¬ t = tb) := fun h => q1 (by rw [h])
      clear q1
      go_enter Tryz.func12, Tryz.ntmps12
      go_wp2
      rw [← HL.out]
      go_ret
      exact ⟨⟨false, rfl, fun h => (by cases h), fun h => absurd h HN.out⟩, HB0.out⟩
theorem RSame2_any (ta tb : Tree) (va vb : Value) (w : World) (ha : Sx w ta va) (hb : Sx w tb vb) :
    Calls Tryz.prog 12 #[va, vb] w fun e w' => (∃ r, e = .returned (.bool r) ∧ (r = true ↔ ta = tb)) ∧ Below w.heap.size w w' := RSame2_n _ ta tb va vb w (Nat.le_refl _) ha hb
end Go.Proofs.YtodonngnigbpaaaGreatDoor
