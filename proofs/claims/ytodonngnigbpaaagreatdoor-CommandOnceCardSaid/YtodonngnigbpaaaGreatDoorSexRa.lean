/- The document's All. -/
import Derived.Test.YtodonngnigbpaaaGreatDoorSexRp
import Derived.Deep.RegionHeld3
import Derived.Test.YtodonngnigbpaaaGreatDoorSexRl
namespace Go.Proofs.YtodonngnigbpaaaGreatDoor
open Go.RowKit
set_option linter.unusedVariables false
set_option maxHeartbeats 4000000 in
theorem RDepth_n : ∀ (n : Nat) (t : Tree) (v : Value) (w : World), szT t ≤ n → dT t ≤ 1000000 → Sx w t v →
    Calls Tryz.prog 14 #[v] w fun e w' => e = .returned (.int .i64 (dT t : Nat)) ∧ Below w.heap.size w w' := by
  intro n
  induction n with
  | zero => intro t v w hn; rw [szT_kids] at hn; omega
  | succ n ih =>
    intro t v w hn hd hr
    have hkid : ∀ c ∈ t.kids, szT c ≤ n := fun c hc => by
      have := szL_mem hc
      rw [szT_kids] at hn
      omega
    obtain ⟨a, cap, rfl, hl, hc, hs, hk⟩ := hr.parts
    have HK := Lib.hid hk
    have HB0 : Hid (Below w.heap.size w (w.alloc (.cells #[.int .i8 t.kind, .string (bytesL t.text), .slice a t.kids.length cap] 35))) := (Below.refl _ _).alloc (Nat.le_refl _) _
    have HX0 : Hid ((w.alloc (.cells #[.int .i8 t.kind, .string (bytesL t.text), .slice a t.kids.length cap] 35)).heap[w.heap.size]? = some (.cells #[.int .i8 t.kind, .string (bytesL t.text), .slice a t.kids.length cap] 35 (0, 0))) := heap_alloc_new w _
    by_cases h3 : t.kind = 3
    · have e1 := ne_false h3
      have hdt : dT t = dL t.kids + 1 := by cases t with | node k s l => simp only [Tree.kind] at h3; simp only [dT, h3, if_true, Tree.kids]
      have HDT := Lib.hid hdt
      have hdl : dL t.kids ≤ 999999 := by omega
      have HDL := Lib.hid hdl
      obtain ⟨kids, hkids⟩ : ∃ kids, kids = t.kids := ⟨_, rfl⟩
      rw [← hkids] at HK HB0 HX0 HDT HDL hkid hl ⊢
      have HIH : Hid (∀ c ∈ kids, ∀ (v : Value) (W : World), Sx W c v → Calls Tryz.prog 14 #[v] W fun e w' => e = .returned (.int .i64 (dT c : Nat)) ∧ Below W.heap.size W w') := fun c hc v W hv => ih c v W (hkid c hc) (by
        have : ∀ (l : List Tree), c ∈ l → dT c ≤ dL l := by
          intro l
          induction l with
          | nil => intro h; simp at h
          | cons a r ih2 =>
            intro h
            simp only [dL]
            rcases List.mem_cons.1 h with rfl | h
            · omega
            · have := ih2 h; omega
        have := this kids hc; have := HDL.out; omega) hv
      rw [h3] at HB0 HX0 ⊢
      have hkm : kids.length ≤ 9223372036854775807 := by simp only [maxLen] at hc; omega
      have e2 : ((3 : Int) != 3) = false := rfl
      clear hr hk h3 hdt hdl ih hkid hkids hn hd e1
      go_enter Tryz.func14, Tryz.ntmps14
      go_wp2
      obtain ⟨W0, hW0⟩ : ∃ W0, W0 = w.alloc (.cells #[.int .i8 3, .string (bytesL t.text), .slice a kids.length cap] 35) := ⟨_, rfl⟩
      rw [← hW0] at HB0 HX0 ⊢
      clear hW0
      go_loopw [3, 4] (fun d i wr => ∃ k : Nat, k ≤ kids.length ∧ i = .int .i64 k ∧ d = .int .i64 (dL (kids.take k) : Nat) ∧ Hid (Below w.heap.size w wr) ∧ Hid (wr.heap[w.heap.size]? = some (.cells #[.int .i8 3, .string (bytesL t.text), .slice a kids.length cap] 35 (0, 0)))) (fun _ i _ => kids.length - (intOf i).toNat)
      case atStart => exact ⟨0, Nat.zero_le _, rfl, rfl, HB0, HX0⟩
      case round =>
        obtain ⟨k, hkl, rfl, rfl, HB, HX⟩ := hrel
        have x2 := cell_of_row _ _ 2 _ _ _ HX.out
        simp only [List.getElem?_toArray, List.getElem?_cons_zero, List.getElem?_cons_succ] at x2
        by_cases hlt : k < kids.length
        · obtain ⟨c, hcc⟩ : ∃ c, kids[k]? = some c := ⟨_, List.getElem?_eq_getElem hlt⟩
          have hks : SxL wr kids a := SxL.below HK.out HB.out
          obtain ⟨g, o, rfl, _, hg, _, _⟩ := hks.addr (by omega)
          obtain ⟨_, v0, v1, v2, c0, c1, c2, hrt⟩ := hks.get kids g o k c hcc
          obtain ⟨ca, cc, hv, _, _, _, _⟩ := hrt.parts
          simp only [Value.agg.injEq, Array.mk.injEq, List.cons.injEq, and_true] at hv
          obtain ⟨rfl, rfl, rfl⟩ := hv
          have c2' : wr.cell? ⟨g, o + k * 3 + 2, none⟩ = some (.slice ca c.kids.length cc) := c2
          have HNX := Lib.hid (dL_take hcc)
          have HCALL := Lib.hid (HIH.out c (List.mem_of_getElem? hcc) _ wr hrt.sx)
          obtain ⟨d, hd⟩ : ∃ d, dL (kids.take k) = d := ⟨_, rfl⟩
          obtain ⟨m, hm⟩ : ∃ m, dT c = m := ⟨_, rfl⟩
          rw [hm] at HCALL
          rw [hd, hm] at HNX
          rw [hd]
          have hzw : w.heap.size < wr.heap.size := (Array.getElem?_eq_some_iff.1 HX.out).1
          clear hks hrt hd hm hcc
          go_wp2_with fail
          refine HCALL.out.mono ?_
          rintro e w2 ⟨rfl, hb2⟩
          have HX2 := Lib.hid ((hb2.block _ hzw).trans HX.out)
          have HB2 : Hid (Below w.heap.size w w2) := HB.out.trans (hb2.mono (by omega))
          clear hb2
          go_wp2_with fail
          go_roundw
          case rel => exact ⟨k + 1, by omega, by go_num, by rw [HNX.out]; first | done | (congr 1; omega), HB2.out, HX2.out⟩
          case measure => simp [intOf]; omega
        · obtain rfl : k = kids.length := by omega
          have hall : kids.take kids.length = kids := List.take_length
          rw [hall]
          obtain ⟨d, hd⟩ : ∃ d, dL kids = d := ⟨_, rfl⟩
          rw [hd] at HDT HDL ⊢
          have hd9 := HDL.out
          have hw1 : IntKind.i64.wrap ((d : Int) + 1) = (d : Int) + 1 := by rw [IntKind.wrap_i64]; omega
          clear hd hall
          go_wp2
          go_ret
          exact ⟨by rw [HDT.out]; rfl, HB.out⟩
    · have e1 := ne_true h3
      have hdt : dT t = 0 := by cases t with | node k s l => simp only [Tree.kind] at h3; simp only [dT, h3, if_false]
      have HDT := Lib.hid hdt
      clear hr hk h3 hdt ih hkid hn hd
      go_enter Tryz.func14, Tryz.ntmps14
      go_wp2
      go_ret
      exact ⟨by rw [HDT.out]; rfl, HB0.out⟩
theorem RDepth_any (t : Tree) (v : Value) (w : World) (hd : dT t ≤ 1000000) (hr : Sx w t v) :
    Calls Tryz.prog 14 #[v] w fun e w' => e = .returned (.int .i64 (dT t : Nat)) ∧ Below w.heap.size w w' := RDepth_n _ t v w (Nat.le_refl _) hd hr
set_option maxHeartbeats 4000000 in
theorem RSame_n : ∀ (n : Nat) (t : Tree) (va vb : Value) (w : World), szT t ≤ n → Sx w t va → Sx w t vb →
    Calls Tryz.prog 12 #[va, vb] w fun e w' => e = .returned (.bool true) ∧ Below w.heap.size w w' := by
  intro n
  induction n with
  | zero => intro t va vb w hn; rw [szT_kids] at hn; omega
  | succ n ih =>
    intro t va vb w hn hra hrb
    have hkid : ∀ c ∈ t.kids, szT c ≤ n := fun c hc => by
      have := szL_mem hc
      rw [szT_kids] at hn
      omega
    obtain ⟨a, cap, rfl, hl, hc, hs, hk⟩ := hra.parts
    obtain ⟨b, cap', rfl, hl', hc', hs', hk'⟩ := hrb.parts
    have HK := Lib.hid hk
    have HK' := Lib.hid hk'
    have HIH : Hid (∀ c ∈ t.kids, ∀ (va vb : Value) (W : World), Sx W c va → Sx W c vb → Calls Tryz.prog 12 #[va, vb] W fun e w' => e = .returned (.bool true) ∧ Below W.heap.size W w') := fun c hcm va vb W h1 h2 => ih c va vb W (hkid c hcm) h1 h2
    have hkm : t.kids.length ≤ 9223372036854775807 := by simp only [maxLen] at hc; omega
    have n1 : (t.kind != t.kind) = false := by simp
    clear hra hrb hk hk' ih hkid hn
    go_enter Tryz.func12, Tryz.ntmps12
    go_wp2
    obtain ⟨W0, hW0⟩ : ∃ W0, W0 = (w.alloc (.cells #[.int .i8 t.kind, .string (bytesL t.text), .slice a t.kids.length cap] 35)).alloc (.cells #[.int .i8 t.kind, .string (bytesL t.text), .slice b t.kids.length cap'] 35) := ⟨_, rfl⟩
    rw [← hW0]
    have HB0 : Hid (Below w.heap.size w W0) := by show Below _ _ _; rw [hW0]; exact ((Below.refl _ _).alloc (Nat.le_refl _) _).alloc (by simp) _
    have HX0 : Hid (W0.heap[w.heap.size]? = some (.cells #[.int .i8 t.kind, .string (bytesL t.text), .slice a t.kids.length cap] 35 (0, 0))) := by show _ = _; rw [hW0]; exact (Below.heap_alloc _ _ _ (by simp)).trans (heap_alloc_new w _)
    have HY0 : Hid (W0.heap[w.heap.size + 1]? = some (.cells #[.int .i8 t.kind, .string (bytesL t.text), .slice b t.kids.length cap'] 35 (0, 0))) := by
      show _ = _; rw [hW0]
      have := heap_alloc_new (w.alloc (.cells #[.int .i8 t.kind, .string (bytesL t.text), .slice a t.kids.length cap] 35)) (.cells #[.int .i8 t.kind, .string (bytesL t.text), .slice b t.kids.length cap'] 35)
      rw [World.size_alloc] at this
      exact this
    clear hW0
    go_loopw [5] (fun i wr => ∃ k : Nat, k ≤ t.kids.length ∧ i = .int .i64 k ∧ Hid (Below w.heap.size w wr) ∧ Hid (wr.heap[w.heap.size]? = some (.cells #[.int .i8 t.kind, .string (bytesL t.text), .slice a t.kids.length cap] 35 (0, 0))) ∧ Hid (wr.heap[w.heap.size + 1]? = some (.cells #[.int .i8 t.kind, .string (bytesL t.text), .slice b t.kids.length cap'] 35 (0, 0)))) (fun i _ => t.kids.length - (intOf i).toNat)
    case atStart => exact ⟨0, Nat.zero_le _, rfl, HB0, HX0, HY0⟩
    case round =>
      obtain ⟨k, hkl, rfl, HB, HX, HY⟩ := hrel
      have x2 := cell_of_row _ _ 2 _ _ _ HX.out
      have y2 := cell_of_row _ _ 2 _ _ _ HY.out
      simp only [List.getElem?_toArray, List.getElem?_cons_zero, List.getElem?_cons_succ] at x2 y2
      have hzw : w.heap.size + 1 < wr.heap.size := (Array.getElem?_eq_some_iff.1 HY.out).1
      have hzw0 : w.heap.size < wr.heap.size := by omega
      by_cases hlt : k < t.kids.length
      · obtain ⟨c, hcc⟩ : ∃ c, t.kids[k]? = some c := ⟨_, List.getElem?_eq_getElem hlt⟩
        have hks : SxL wr t.kids a := SxL.below HK.out HB.out
        have hks' : SxL wr t.kids b := SxL.below HK'.out HB.out
        obtain ⟨g, o, rfl, _, hg, _, _⟩ := hks.addr (by omega)
        obtain ⟨g', o', rfl, _, hg', _, _⟩ := hks'.addr (by omega)
        obtain ⟨_, v0, v1, v2, c0, c1, c2, hrt⟩ := hks.get t.kids g o k c hcc
        obtain ⟨ca, cc, hv, _, _, _, _⟩ := hrt.parts
        simp only [Value.agg.injEq, Array.mk.injEq, List.cons.injEq, and_true] at hv
        obtain ⟨rfl, rfl, rfl⟩ := hv
        obtain ⟨_, v0, v1, v2, d0, d1, d2, hrt'⟩ := hks'.get t.kids g' o' k c hcc
        obtain ⟨da, dc, hv, _, _, _, _⟩ := hrt'.parts
        simp only [Value.agg.injEq, Array.mk.injEq, List.cons.injEq, and_true] at hv
        obtain ⟨rfl, rfl, rfl⟩ := hv
        have c2' : wr.cell? ⟨g, o + k * 3 + 2, none⟩ = some (.slice ca c.kids.length cc) := c2
        have d2' : wr.cell? ⟨g', o' + k * 3 + 2, none⟩ = some (.slice da c.kids.length dc) := d2
        have HCALL : Hid (∀ W : World, Below wr.heap.size wr W → Calls Tryz.prog 12 #[.agg #[.int .i8 c.kind, .string (bytesL c.text), .slice ca c.kids.length cc], .agg #[.int .i8 c.kind, .string (bytesL c.text), .slice da c.kids.length dc]] W fun e w' => e = .returned (.bool true) ∧ Below W.heap.size W w') := fun W hW => HIH.out c (List.mem_of_getElem? hcc) _ _ W (hrt.sx.below hW) (hrt'.sx.below hW)
        have H0 := Lib.hid (And.intro x2 (And.intro y2 (And.intro c0 (And.intro c1 (And.intro c2' (And.intro d0 (And.intro d1 d2')))))))
        clear hks hks' hrt hrt' hcc c2 d2
        go_wp2
        clear x2 y2 c0 c1 c2' d0 d1 d2'
        go_region_held3 (fun w' => w'.cell? ⟨w.heap.size, 2, none⟩ = some (.slice (some ⟨g, o, none⟩) t.kids.length cap) ∧ w'.cell? ⟨w.heap.size + 1, 2, none⟩ = some (.slice (some ⟨g', o', none⟩) t.kids.length cap') ∧ w'.cell? ⟨g, o + k * 3, none⟩ = some (.int .i8 c.kind) ∧ w'.cell? ⟨g, o + k * 3 + 1, none⟩ = some (.string (bytesL c.text)) ∧ w'.cell? ⟨g, o + k * 3 + 2, none⟩ = some (.slice ca c.kids.length cc) ∧ w'.cell? ⟨g', o' + k * 3, none⟩ = some (.int .i8 c.kind) ∧ w'.cell? ⟨g', o' + k * 3 + 1, none⟩ = some (.string (bytesL c.text)) ∧ w'.cell? ⟨g', o' + k * 3 + 2, none⟩ = some (.slice da c.kids.length dc))
          (first | exact H0.out | exact ⟨(hc1 _ _ hzw0).trans H0.out.1, (hc1 _ _ hzw).trans H0.out.2.1, (hc1 _ _ hg).trans H0.out.2.2.1, (hc1 _ _ hg).trans H0.out.2.2.2.1, (hc1 _ _ hg).trans H0.out.2.2.2.2.1, (hc1 _ _ hg').trans H0.out.2.2.2.2.2.1, (hc1 _ _ hg').trans H0.out.2.2.2.2.2.2.1, (hc1 _ _ hg').trans H0.out.2.2.2.2.2.2.2⟩ | go_keep)
          (first | (go_at_call 12; refine (HCALL.out _ (by first | exact (Below.refl _ _).drew | exact Below.refl _ _)).mono ?_; rintro e w2 ⟨rfl, hb2⟩; obtain ⟨hc1, hf1⟩ := bcell hb2))
        have hw2 : Below wr.heap.size wr w2 := (Below.refl _ wr).drew.trans (hb2.mono (Nat.le_refl _))
        have HX2 := Lib.hid ((hw2.block _ hzw0).trans HX.out)
        have HY2 := Lib.hid ((hw2.block _ hzw).trans HY.out)
        have HB2 : Hid (Below w.heap.size w w2) := HB.out.trans (hw2.mono (by omega))
        clear hb2 hw2 hc1 hf1
        go_wp2_with fail
        go_roundw
        case rel => exact ⟨k + 1, by omega, by go_num, HB2.out, HX2.out, HY2.out⟩
        case measure => simp [intOf]; omega
      · obtain rfl : k = t.kids.length := by omega
        go_wp2
        go_ret
        exact ⟨rfl, HB.out⟩
theorem RSame_any (t : Tree) (va vb : Value) (w : World) (ha : Sx w t va) (hb : Sx w t vb) :
    Calls Tryz.prog 12 #[va, vb] w fun e w' => e = .returned (.bool true) ∧ Below w.heap.size w w' := RSame_n _ t va vb w (Nat.le_refl _) ha hb
end Go.Proofs.YtodonngnigbpaaaGreatDoor
namespace Go.Proofs.YtodonngnigbpaaaGreatDoor
open Go.RowKit
set_option linter.unusedVariables false
theorem RdOut.set {B : Nat} {w : World} {rb i : Nat} {u : Value} {t : Tree} {v : Value} (h : RdOut B w t v) (hr : rb < B) : RdOut B (w.setCell ⟨rb, i, none⟩ u) t v := by
  obtain ⟨K, h1, h2, h3⟩ := h
  have hk : ∀ b, K b → (w.setCell ⟨rb, i, none⟩ u).heap[b]? = w.heap[b]? := fun b hb => Below.heap_setCell _ _ _ _ (by have := (h1 b hb).1; show b ≠ rb; omega)
  exact ⟨K, fun b hb => ⟨(h1 b hb).1, by simpa [World.setCell] using (h1 b hb).2⟩, fun b hb => by obtain ⟨cs, hc⟩ := h2 b hb; exact ⟨cs, (hk b hb).trans hc⟩, Rd.keep (fun b hb _ => hk b (Classical.not_not.1 hb)) t v h3⟩
theorem RdOut.mono' {B B' : Nat} {w : World} {t : Tree} {v : Value} (h : RdOut B w t v) (hb : B' ≤ B) : RdOut B' w t v := by
  obtain ⟨K, h1, h2, h3⟩ := h
  exact ⟨K, fun b hk => ⟨Nat.le_trans hb (h1 b hk).1, (h1 b hk).2⟩, h2, h3⟩
theorem RRead_neg (s : ByteArray) (at_ : Int) (w : World) (ha : at_ < 0) :
    Calls Tryz.prog 8 #[.string s, .int .i64 at_] w (ReadPost w ⟨emptyT, 0, 2⟩) := by
  have e1 : decide (at_ < 0) = true := by simp [ha]
  go_enter Tryz.func8, Tryz.ntmps8
  go_wp2
  have hh := heap_alloc_new w (.cells #[.int .i8 0, .string ⟨#[]⟩, .slice none 0 0] 35)
  have c0 := cell_of_row _ _ 0 _ _ _ hh
  have c1 := cell_of_row _ _ 1 _ _ _ hh
  have c2 := cell_of_row _ _ 2 _ _ _ hh
  exact bodyPost_ret (v := .tuple #[.agg #[.int .i8 0, .string ⟨#[]⟩, .slice none 0 0], .int .i64 0, .int .i64 2]) (by simp [results, Tryz.results8, go_sem, c0, c1, c2]) rfl ⟨_, rfl, RdOut.empty _ _, (Below.refl _ _).alloc (Nat.le_refl _) _⟩
set_option maxHeartbeats 8000000 in
theorem RRead_nat (s : ByteArray) (at_ : Int) (p : Nat) (X : RdR) (w : World) (hs : s.size < 900000) (ha : 0 ≤ at_) (hp : clampN at_ s.size = p) (hX : readL s.data.toList p = X) :
    Calls Tryz.prog 8 #[.string s, .int .i64 at_] w (ReadPost w X) := by
  have HL : Hid (s.data.toList.length = s.size) := by show _ = _; simp
  have e1 : decide (at_ < 0) = false := by simp; omega
  have ha2 : ¬ at_ < 0 := by omega
  obtain ⟨W1, hW1⟩ : ∃ W1, W1 = w.alloc (.cells #[.int .i8 0, .string ⟨#[]⟩, .slice none 0 0] 35) := ⟨_, rfl⟩
  have HB1 : Hid (Below w.heap.size w W1) := by show Below _ _ _; rw [hW1]; exact (Below.refl _ _).alloc (Nat.le_refl _) _
  have HC1 : Hid (W1.heap[w.heap.size]? = some (.cells #[.int .i8 0, .string ⟨#[]⟩, .slice none 0 0] 35 (0, 0))) := by show _ = _; rw [hW1]; exact heap_alloc_new w _
  have hz1 : w.heap.size < W1.heap.size := by rw [hW1]; simp
  have HRd := Lib.hid (fun W => read_any s hs (s.size + 1) at_ p W hp (by omega))
  have HX := Lib.hid hX
  have HHs := Lib.hid hs
  clear hs hX hp
  go_enter Tryz.func8, Tryz.ntmps8
  go_wp2_with fail
  rw [← hW1]
  clear hW1
  refine (HRd.out _).mono ?_
  rintro e w2 ⟨y, v, hrel, rfl, ho, hb2⟩
  obtain ⟨ya, yc, rfl⟩ := ho.parts
  have hC2 : w2.heap[w.heap.size]? = some (.cells #[.int .i8 0, .string ⟨#[]⟩, .slice none 0 0] 35 (0, 0)) := (hb2.block _ hz1).trans HC1.out
  have HC2 := Lib.hid hC2
  have hz2 : w.heap.size < w2.heap.size := by have := hb2.size; omega
  have n1 : ¬ w.heap.size = w2.heap.size := by omega
  have n2 : ¬ w2.heap.size = w.heap.size := by omega
  have HB2 : Hid (Below w.heap.size w w2) := HB1.out.trans (hb2.mono (by omega))
  have HRel := Lib.hid hrel
  have HO := Lib.hid ho
  have HXX := Lib.hid (HX.out.symm.trans (rel_read hrel))
  have HBX : Hid (Below w2.heap.size w2 (w2.alloc (.cells #[.int .i8 y.t.kind, .string (bytesL y.t.text), .slice ya y.t.kids.length yc] 35))) := (Below.refl _ _).alloc (Nat.le_refl _) _
  have HXB : Hid ((w2.alloc (.cells #[.int .i8 y.t.kind, .string (bytesL y.t.text), .slice ya y.t.kids.length yc] 35)).heap[w2.heap.size]? = some (.cells #[.int .i8 y.t.kind, .string (bytesL y.t.text), .slice ya y.t.kids.length yc] 35 (0, 0))) := heap_alloc_new w2 _
  have k0 := cell_of_row _ _ 0 _ _ _ hC2
  have k1 := cell_of_row _ _ 1 _ _ _ hC2
  have k2 := cell_of_row _ _ 2 _ _ _ hC2
  have kf : ∀ i, w2.frozen? ⟨w.heap.size, i, none⟩ = false := fun i => frozen_of_row w2 _ i _ _ hC2
  simp only [List.getElem?_toArray, List.getElem?_cons_zero, List.getElem?_cons_succ] at k0 k1 k2
  by_cases hy : y.err = 0
  · have hdt : dT y.t < 900000 := by
      have h1 := hrel.dep hy
      have h2 := (hrel.good hy).2.1
      rw [HL.out] at h2
      have := HHs.out
      omega
    have e2 := eq_true_ (x := (y.err : Int)) (y := 0) (by omega)
    have HDp : Hid (∀ W : World, Below w2.heap.size w2 W → Calls Tryz.prog 14 #[.agg #[.int .i8 y.t.kind, .string (bytesL y.t.text), .slice ya y.t.kids.length yc]] W fun e w' => e = .returned (.int .i64 (dT y.t : Nat)) ∧ Below W.heap.size W w') := fun W hW => RDepth_any y.t _ W (by omega) ((HO.out.keep hW).use.elim fun _ h => h.2.1.sx)
    have HY := Lib.hid hy
    by_cases h60 : dT y.t ≤ 60
    · have e3 : decide ((dT y.t : Int) > 60) = false := by simp; omega
      have e4 : decide (60 < (dT y.t : Int)) = false := by simp; omega
      have HX2 : Hid (X = ⟨y.t, y.stop, 0⟩) := by show _ = _; rw [HXX.out, if_pos hy, if_pos h60]
      clear ho hb2 hC2 hrel hy hdt h60 k0 k1 k2 kf
      go_wp2_with fail
      refine (HDp.out _ HBX.out).mono ?_
      rintro e w3 ⟨rfl, hb3⟩
      have hw3 : Below w2.heap.size w2 w3 := HBX.out.trans (hb3.mono HBX.out.size)
      have hX3 : w3.heap[w2.heap.size]? = some (.cells #[.int .i8 y.t.kind, .string (bytesL y.t.text), .slice ya y.t.kids.length yc] 35 (0, 0)) := (hb3.block _ (by simp)).trans HXB.out
      have hC3 : w3.heap[w.heap.size]? = some (.cells #[.int .i8 0, .string ⟨#[]⟩, .slice none 0 0] 35 (0, 0)) := (hw3.block _ hz2).trans HC2.out
      have HC3 := Lib.hid hC3
      have HW3 := Lib.hid hw3
      have x0 := cell_of_row _ _ 0 _ _ _ hX3
      have x1 := cell_of_row _ _ 1 _ _ _ hX3
      have x2 := cell_of_row _ _ 2 _ _ _ hX3
      have k0 := cell_of_row _ _ 0 _ _ _ hC3
      have k1 := cell_of_row _ _ 1 _ _ _ hC3
      have k2 := cell_of_row _ _ 2 _ _ _ hC3
      have kf : ∀ i, w3.frozen? ⟨w.heap.size, i, none⟩ = false := fun i => frozen_of_row w3 _ i _ _ hC3
      simp only [List.getElem?_toArray, List.getElem?_cons_zero, List.getElem?_cons_succ] at k0 k1 k2 x0 x1 x2
      have HB3 : Hid (Below w.heap.size w w3) := HB2.out.trans (hw3.mono (by omega))
      clear hb3 hw3 hX3 hC3
      go_wp2
      have h9 := rb_set (i := 2) (v := .slice ya y.t.kids.length yc) (rb_set (i := 1) (v := .string (bytesL y.t.text)) (rb_set (i := 0) (v := .int .i8 y.t.kind) (w := w3) (cur := #[.int .i8 0, .string ⟨#[]⟩, .slice none 0 0]) (rb := w.heap.size) HC3.out))
      have r0 := cell_of_row _ _ 0 _ _ _ h9
      have r1 := cell_of_row _ _ 1 _ _ _ h9
      have r2 := cell_of_row _ _ 2 _ _ _ h9
      exact bodyPost_ret (v := .tuple #[.agg #[.int .i8 y.t.kind, .string (bytesL y.t.text), .slice ya y.t.kids.length yc], .int .i64 y.stop, .int .i64 y.err]) (by simp [results, Tryz.results8, go_sem, r0, r1, r2]) rfl ⟨_, by rw [HX2.out, HY.out], by rw [HX2.out]; exact ((((HO.out.keep HW3.out).set hz1).set hz1).set hz1).mono' (by omega), below_put3 HB3.out _ _ _⟩
    · have e3 : decide ((dT y.t : Int) > 60) = true := by simp; omega
      have e4 : decide (60 < (dT y.t : Int)) = true := by simp; omega
      have HX2 : Hid (X = ⟨emptyT, y.stop, 22⟩) := by show _ = _; rw [HXX.out, if_pos hy, if_neg h60]
      clear ho hb2 hC2 hrel hy hdt h60 k0 k1 k2 kf
      go_wp2_with fail
      refine (HDp.out _ HBX.out).mono ?_
      rintro e w3 ⟨rfl, hb3⟩
      have hw3 : Below w2.heap.size w2 w3 := HBX.out.trans (hb3.mono HBX.out.size)
      have hC3 : w3.heap[w.heap.size]? = some (.cells #[.int .i8 0, .string ⟨#[]⟩, .slice none 0 0] 35 (0, 0)) := (hw3.block _ hz2).trans HC2.out
      have HC3 := Lib.hid hC3
      have k0 := cell_of_row _ _ 0 _ _ _ hC3
      have k1 := cell_of_row _ _ 1 _ _ _ hC3
      have k2 := cell_of_row _ _ 2 _ _ _ hC3
      have kf : ∀ i, w3.frozen? ⟨w.heap.size, i, none⟩ = false := fun i => frozen_of_row w3 _ i _ _ hC3
      simp only [List.getElem?_toArray, List.getElem?_cons_zero, List.getElem?_cons_succ] at k0 k1 k2
      have HB3 : Hid (Below w.heap.size w w3) := HB2.out.trans (hw3.mono (by omega))
      clear hb3 hw3 hC3
      go_wp2
      have h9 := rb_set (i := 2) (v := .slice none 0 0) (rb_set (i := 1) (v := .string ⟨#[]⟩) (rb_set (i := 0) (v := .int .i8 0) (w := w3) (cur := #[.int .i8 0, .string ⟨#[]⟩, .slice none 0 0]) (rb := w.heap.size) HC3.out))
      have r0 := cell_of_row _ _ 0 _ _ _ h9
      have r1 := cell_of_row _ _ 1 _ _ _ h9
      have r2 := cell_of_row _ _ 2 _ _ _ h9
      exact bodyPost_ret (v := .tuple #[.agg #[.int .i8 0, .string ⟨#[]⟩, .slice none 0 0], .int .i64 y.stop, .int .i64 22]) (by simp [results, Tryz.results8, go_sem, r0, r1, r2]) rfl ⟨_, by rw [HX2.out]; first | done | rfl, by rw [HX2.out]; exact RdOut.empty _ _, below_put3 HB3.out _ _ _⟩
  · have e2 := eq_false (x := (y.err : Int)) (y := 0) (by omega)
    have HX2 : Hid (X = ⟨y.t, y.stop, y.err⟩) := by show _ = _; rw [HXX.out, if_neg hy, hrel.emp hy]
    clear ho hb2 hC2 hrel hy
    go_wp2
    have h9 := rb_set (i := 2) (v := .slice ya y.t.kids.length yc) (rb_set (i := 1) (v := .string (bytesL y.t.text)) (rb_set (i := 0) (v := .int .i8 y.t.kind) (w := w2) (cur := #[.int .i8 0, .string ⟨#[]⟩, .slice none 0 0]) (rb := w.heap.size) HC2.out))
    have h10 := fun o => (Below.heap_alloc _ o _ (by simp [World.setCell]; omega)).trans h9
    have r0 := fun o => cell_of_row _ _ 0 _ _ _ (h10 o)
    have r1 := fun o => cell_of_row _ _ 1 _ _ _ (h10 o)
    have r2 := fun o => cell_of_row _ _ 2 _ _ _ (h10 o)
    exact bodyPost_ret (v := .tuple #[.agg #[.int .i8 y.t.kind, .string (bytesL y.t.text), .slice ya y.t.kids.length yc], .int .i64 y.stop, .int .i64 y.err]) (by simp [results, Tryz.results8, go_sem, r0, r1, r2]) rfl ⟨_, by rw [HX2.out], by rw [HX2.out]; exact (((((HO.out.set hz1).set hz1).set hz1).mono' (by omega)).keep ((Below.refl _ _).alloc (Nat.le_refl _) _)), (below_put3 HB2.out _ _ _).alloc (by simp [World.setCell]; omega) _⟩
end Go.Proofs.YtodonngnigbpaaaGreatDoor
namespace Go.Proofs.YtodonngnigbpaaaGreatDoor
open Go.RowKit
set_option linter.unusedVariables false
/-- The document's Read, in parts. -/
theorem rread_at (s : ByteArray) (k : Nat) (X : RdR) (hs : s.size < 900000) (hk : k ≤ s.size) (hX : readL s.data.toList k = X) (W : World) :
    Calls Tryz.prog 8 #[.string s, .int .i64 k] W fun e w' => ∃ a cap, e = .returned (.tuple #[.agg #[.int .i8 X.t.kind, .string (bytesL X.t.text), .slice a X.t.kids.length cap], .int .i64 X.stop, .int .i64 X.err]) ∧ RdOut W.heap.size w' X.t (.agg #[.int .i8 X.t.kind, .string (bytesL X.t.text), .slice a X.t.kids.length cap]) ∧ Below W.heap.size W w' := by
  refine (RRead_nat s k k X W hs (by omega) (clampN_nat hk) hX).mono ?_
  rintro e w' ⟨v, rfl, h1, h2⟩
  obtain ⟨a, cap, rfl⟩ := h1.parts
  exact ⟨a, cap, rfl, h1, h2⟩
end Go.Proofs.YtodonngnigbpaaaGreatDoor
