/- ref16's wide and put: int8 rows of one's own. -/
import Derived.Test.YtggighikemhnfaaDoorZUoF
import Derived.Test.YtggighikemhnfaaDoorZClN
import Derived.Deep.AppendLies
namespace Go.Proofs.YtggighikemhnfaaDoor.Tm
open Go.RowKit Go.Lib
set_option linter.unusedVariables false
def Row8 (w : World) (base : Nat) (L : List Int) (v : Value) : Prop := w.ownsRow base 31 1 v L.length (L.map (Value.int .i8))
theorem row8_own {w : World} {base g cap : Nat} {L : List Int} (h : Row8 w base L (.slice (some ⟨g, 0, none⟩) L.length cap)) : ∃ cur, w.heap[g]? = some (.cells cur 31 (0, 0)) ∧ base ≤ g ∧ L.length ≤ cap ∧ cap ≤ maxLen ∧ cur.size = cap ∧ cur.toList.take L.length = L.map (.int .i8) := by
  rcases h.2 with ⟨e, _⟩ | ⟨g', cap', cur, e, h1, h2, h3, h4, h5, h6⟩
  · cases e
  · cases e
    rw [Nat.mul_one] at h5 h6
    exact ⟨cur, h2, h1, h3, h4, h5, h6⟩
theorem row8_cell {w : World} {base g cap : Nat} {L : List Int} {x : Int} (h : Row8 w base L (.slice (some ⟨g, 0, none⟩) L.length cap)) {i : Nat} (hi : L[i]? = some x) : w.cell? ⟨g, i, none⟩ = some (.int .i8 x) := by
  have hlt := (List.getElem?_eq_some_iff.1 hi).1
  obtain ⟨a, c, e, _, _, h3, _⟩ := own_at h
  cases e
  obtain ⟨g', o', e2, _, hc⟩ := h3 (by simp; omega)
  cases e2
  have := hc i (.int .i8 x) (by rw [List.getElem?_map, hi]; rfl)
  rw [Nat.zero_add] at this
  exact this
theorem row8_set {w : World} {base g cap : Nat} {L : List Int} (h : Row8 w base L (.slice (some ⟨g, 0, none⟩) L.length cap)) {i : Nat} (hi : i < L.length) (x : Int) : Row8 (w.setCell ⟨g, i, none⟩ (.int .i8 x)) base (L.set i x) (.slice (some ⟨g, 0, none⟩) L.length cap) := by
  obtain ⟨cur, h2, h1, h3, h4, h5, h6⟩ := row8_own h
  unfold Row8
  rw [List.length_set]
  refine ⟨by simp, .inr ⟨g, cap, cur.setIfInBounds i (.int .i8 x), rfl, h1, ?_, h3, h4, by simp; omega, ?_⟩⟩
  · rw [heap_setCell_same w g i _ _ _ h2]
  · rw [Nat.mul_one, List.map_set, ← h6]
    simp [List.take_set]
theorem row8_fz {w : World} {base g cap : Nat} {L : List Int} (h : Row8 w base L (.slice (some ⟨g, 0, none⟩) L.length cap)) (i : Nat) : w.frozen? ⟨g, i, none⟩ = false ∧ g < w.heap.size ∧ base ≤ g := by
  obtain ⟨cur, h2, h3, _⟩ := row8_own h
  exact ⟨by simp [World.frozen?, h2], (Array.getElem?_eq_some_iff.1 h2).1, h3⟩
theorem below_set {B g o : Nat} {w w' : World} (h : Below B w w') (hg : B ≤ g) (v : Value) : Below B w (w'.setCell ⟨g, o, none⟩ v) :=
  ⟨h.os, h.tape, h.output, by simpa using h.size, fun k hk => (Below.heap_setCell _ _ _ _ (fun e => by simp at e; omega)).trans (h.block k hk)⟩
/-- Blocks of other types than int8's stay as they are. -/
def Kp8 (w w' : World) : Prop := ∀ (g : Nat) (cs : Array Value) (t : TypeId) (fz : Nat × Nat), t ≠ 31 → w.heap[g]? = some (.cells cs t fz) → w'.heap[g]? = some (.cells cs t fz)
theorem Kp8.refl (w : World) : Kp8 w w := fun _ _ _ _ _ h => h
theorem Kp8.trans {w w1 w2 : World} (h : Kp8 w w1) (k : Kp8 w1 w2) : Kp8 w w2 := fun g cs t fz ht hg => k g cs t fz ht (h g cs t fz ht hg)
theorem kp8_set {w w' : World} (h : Kp8 w w') {g o : Nat} {cur : Array Value} (hg : w'.heap[g]? = some (.cells cur 31 (0, 0))) (v : Value) : Kp8 w (w'.setCell ⟨g, o, none⟩ v) := fun g2 cs t fz ht h2 => by
  have h3 := h g2 cs t fz ht h2
  refine (Below.heap_setCell _ _ _ _ (fun e => ?_)).trans h3
  simp at e
  subst e
  rw [hg] at h3
  injection h3 with h3
  injection h3 with _ h4
  exact ht h4.symm
theorem kp8_grown {w w' w9 : World} {o : Obj} {b n : Nat} {v : Value} {L : List Value} (h : Kp8 w w') (hown : w'.ownsRow b 31 1 v n L) (hg : (w'.alloc o).grownBy w9 v.ownBlock) : Kp8 w w9 := fun g cs t fz ht h2 => by
  have h3 := h g cs t fz ht h2
  have hlt := (Array.getElem?_eq_some_iff.1 h3).1
  refine (hg.block g (by simp; omega) (fun e => ?_)).trans ((heap_alloc_old w' o hlt).trans h3)
  rcases hown.2 with ⟨rfl, _⟩ | ⟨g', cap, cur, rfl, _, hgg, _⟩
  · cases e
  · simp only [Value.ownBlock, Option.some.injEq] at e
    subst e
    rw [h3] at hgg
    injection hgg with h5
    injection h5 with _ h6
    exact ht h6
set_option maxRecDepth 100000 in
theorem wide_any (B : Nat) (L : List Int) (v : Value) (n : Nat) (w : World) (hB : B ≤ w.heap.size) (hR : Row8 w B L v) (hL : L.length ≤ 1000000) (hn : n ≤ 1000000) :
    Calls Tryd.prog 65 #[v, .int .i64 n] w fun e w' => ∃ a c, e = .returned (.slice a (L ++ List.replicate (n + 1 - L.length) (0 : Int)).length c) ∧ Hid (Row8 w' B (L ++ List.replicate (n + 1 - L.length) 0) (.slice a (L ++ List.replicate (n + 1 - L.length) (0 : Int)).length c) ∧ Below B w w' ∧ Kp8 w w') := by
  obtain ⟨i8, hi_, hz0, hz1, hz2⟩ := info_parts info_i8
  obtain ⟨a, c, rfl, hlc, hcm, _⟩ := own_at hR
  have HR : Hid (Row8 w B L (.slice a L.length c) ∧ Below B w w ∧ Kp8 w w) := ⟨hR, Below.refl _ _, Kp8.refl _⟩
  have HB := Lib.hid hB
  have HL := Lib.hid hL
  clear hR hB hL
  go_enter Tryd.func65, Tryd.ntmps65
  go_wp2
  go_loopg [0] (n + 1 - L.length) (fun N v wr => ∃ (M : List Int) (a : Option Addr) (c : Nat), v = .slice a M.length c ∧ M.length ≤ c ∧ c ≤ 9223372036854775807 ∧ Hid (N = n + 1 - M.length) ∧ Hid (∃ j, M = L ++ List.replicate j 0 ∧ (j = 0 ∨ M.length ≤ n + 1)) ∧ Hid (Row8 wr B M (.slice a M.length c) ∧ Below B w wr ∧ Kp8 w wr))
  case atStart => exact ⟨L, a, c, rfl, hlc, (by simp only [maxLen] at hcm; omega), rfl, ⟨0, by simp, .inl rfl⟩, HR⟩
  case round =>
    clear HR hlc hcm
    obtain ⟨M, a, c, rfl, hlc, hcm, HN, HJ, HR⟩ := hrel
    by_cases hlt : M.length ≤ n
    · have hown := HR.out.1
      have HLen : Hid (M.length + 1 = (M ++ [(0 : Int)]).length) := by show _ = _; simp
      go_wp2_with (at_builtin; refine wpList_append_lies _ rfl _ _ 29 rfl B 31 i8 _ 1 1 Tryd.underlying29 hi_ hz0 hz1 hz2 rfl (by decide) (Value.slice a M.length c) M.length (M.map (Value.int .i8)) (by rfl) (World.ownsRow.alloc hown _) ⟨wr.heap.size, 0, none⟩ 1 1 [.int .i8 0] (by rfl) rfl (World.news_of_block (B := wr.heap.size) (cs := #[.int .i8 0]) (t := 31) (fr := (0, 0)) (heap_alloc_new wr _)) (by simp [Value.oneCell']) (by omega) (by simp only [maxLen]; omega) (by omega) (by have := HR.out.2.1.size; have := HB.out; simp; omega) _ rfl ?_; intro g9 c9 w9 hown9 hgrow9 hat9 hlt9)
      have hR9 : Row8 w9 B (M ++ [0]) (.slice (some ⟨g9, 0, none⟩) (M ++ [(0 : Int)]).length c9) := by
        unfold Row8
        rw [← HLen.out, List.map_append]
        exact hown9
      have hB9 : Below B w w9 := (HR.out.2.1.alloc (Nat.le_trans HB.out HR.out.2.1.size) (.cells #[.int .i8 0] 31)).grown hgrow9 (by have := HR.out.2.1.size; have := HB.out; simp; omega) (fun k e => (own_lt hown e).1)
      obtain ⟨_, _, e9, k9, m9, _⟩ := own_at hR9
      cases e9
      have HR9 : Hid (Row8 w9 B (M ++ [0]) (.slice (some ⟨g9, 0, none⟩) (M ++ [(0 : Int)]).length c9) ∧ Below B w w9 ∧ Kp8 w w9) := ⟨hR9, hB9, kp8_grown HR.out.2.2 hown hgrow9⟩
      have HJ9 : Hid (∃ j, M ++ [0] = L ++ List.replicate j 0 ∧ (j = 0 ∨ (M ++ [(0 : Int)]).length ≤ n + 1)) := by
        obtain ⟨j, hj, h⟩ := HJ.out
        refine ⟨j + 1, ?_, .inr (by simp; omega)⟩
        rw [List.replicate_succ', ← List.append_assoc, ← hj]
      clear hown9 hgrow9 hat9 hlt9 hown hR9 hB9
      go_roundg (n + 1 - (M ++ [(0 : Int)]).length)
      case measure => rw [HN.out, ← HLen.out]; omega
      case rel => exact ⟨M ++ [0], some ⟨g9, 0, none⟩, c9, by rw [← HLen.out], k9, (by simp only [maxLen] at m9; omega), rfl, HJ9, HR9⟩
    · have HE : Hid (M = L ++ List.replicate (n + 1 - L.length) 0) := by
        obtain ⟨j, hj, h⟩ := HJ.out
        show _ = _
        have hl : M.length = L.length + j := by rw [hj]; simp
        rw [hj]
        congr 2
        omega
      go_wp2
      go_ret
      refine ⟨a, c, ?_, ?_⟩
      · rw [← HE.out]; rfl
      · rw [← HE.out]; exact HR
def putL (L : List Int) (x : Int) : List Int := (L ++ List.replicate (x.toNat / 2 + 1 - L.length) 0).set (x.toNat / 2) (if x % 2 = 1 then 2 else 1)
set_option maxRecDepth 100000 in
theorem put8_kp (B : Nat) (L : List Int) (v : Value) (x : Int) (w : World) (hB : B ≤ w.heap.size) (hR : Row8 w B L v) (hL : L.length ≤ 1000000) (h0 : 0 ≤ x) (h1 : x ≤ 1048576) :
    Calls Tryd.prog 43 #[v, .int .i64 x] w fun e w' => ∃ a c, e = .returned (.slice a (putL L x).length c) ∧ Hid (Row8 w' B (putL L x) (.slice a (putL L x).length c) ∧ Below B w w' ∧ Kp8 w w') := by
  obtain ⟨n, hn⟩ : ∃ n, x.toNat / 2 = n := ⟨_, rfl⟩
  have hxn : x / 2 = (n : Int) := by omega
  have HW := Lib.hid (wide_any B L v n w hB hR hL (by omega))
  obtain ⟨M, hM⟩ : ∃ M, L ++ List.replicate (n + 1 - L.length) (0 : Int) = M := ⟨_, rfl⟩
  have HMl : Hid (n < M.length) := by show _ < _; rw [← hM]; simp; omega
  have HPl : Hid (putL L x = M.set n (if x % 2 = 1 then 2 else 1)) := by show _ = _; unfold putL; rw [hn, hM]
  rw [hM] at HW
  clear hB hR hL hn hM
  go_enter Tryd.func43, Tryd.ntmps43
  go_wp2_with fail
  with_reducible refine HW.out.mono ?_
  rintro e w1 ⟨a, c, rfl, HR1⟩
  have hnl := HMl.out
  obtain ⟨_, _, e1, k1, m1, _, hp⟩ := own_at HR1.out.1
  obtain ⟨g, rfl, _, _⟩ := hp (by omega)
  cases e1
  obtain ⟨y, hy⟩ : ∃ y, M[n]? = some y := ⟨_, List.getElem?_eq_getElem hnl⟩
  have c1 := row8_cell HR1.out.1 hy
  obtain ⟨f1, hg, hBg⟩ := row8_fz HR1.out.1 n
  have l1 : M.length ≤ 9223372036854775807 := by simp only [maxLen] at m1; omega
  have hB1 := below_set (o := n) HR1.out.2.1 hBg (.int .i8 1)
  obtain ⟨cur1, hcur1, _⟩ := row8_own HR1.out.1
  have hK1 := kp8_set (o := n) HR1.out.2.2 hcur1 (.int .i8 1)
  obtain ⟨cur2, hcur2, _⟩ := row8_own (show Row8 _ B (M.set n 1) (.slice (some ⟨g, 0, none⟩) (M.set n 1).length c) from by rw [List.length_set]; exact row8_set HR1.out.1 hnl 1)
  have hR1 := row8_set HR1.out.1 hnl 1
  by_cases hodd : x % 2 = 1
  · have d1 : (x % 2 == 1) = true := eq_t hodd
    rw [if_pos hodd] at HPl
    have hR2 := row8_set (i := n) (by rw [List.length_set]; exact hR1) (by rw [List.length_set]; exact hnl) 2
    rw [List.length_set, List.set_set] at hR2
    have HE : Hid (Row8 _ B (M.set n 2) (.slice (some ⟨g, 0, none⟩) M.length c) ∧ Below B w _ ∧ Kp8 w _) := ⟨hR2, below_set (o := n) hB1 hBg (.int .i8 2), kp8_set (o := n) hK1 hcur2 (.int .i8 2)⟩
    have HLn : Hid ((putL L x).length = M.length) := by show _ = _; rw [HPl.out, List.length_set]
    clear hodd hB1 hR1 hR2 hy hBg k1 m1 HW hK1 hcur1 hcur2
    go_wp2
    go_ret
    refine ⟨some ⟨g, 0, none⟩, c, ?_, ?_⟩
    · rw [HLn.out]; rfl
    · rw [HLn.out, HPl.out]; exact HE
  · have d1 : (x % 2 == 1) = false := eq_f hodd
    rw [if_neg hodd] at HPl
    have HE : Hid (Row8 _ B (M.set n 1) (.slice (some ⟨g, 0, none⟩) M.length c) ∧ Below B w _ ∧ Kp8 w _) := ⟨hR1, hB1, hK1⟩
    have HLn : Hid ((putL L x).length = M.length) := by show _ = _; rw [HPl.out, List.length_set]
    clear hodd hB1 hR1 hy hBg k1 m1 HW hK1 hcur1 hcur2
    go_wp2
    go_ret
    refine ⟨some ⟨g, 0, none⟩, c, ?_, ?_⟩
    · rw [HLn.out]; rfl
    · rw [HLn.out, HPl.out]; exact HE
end Go.Proofs.YtggighikemhnfaaDoor.Tm
