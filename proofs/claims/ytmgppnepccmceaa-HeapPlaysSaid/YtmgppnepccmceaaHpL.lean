/- Halve. -/
import Derived.Test.YtmgppnepccmceaaHpK
namespace Go.Proofs.Ytmgppnepccmceaa
open Go.RowKit
set_option linter.unusedVariables false
def halfA (A : List Int) : List Int := A.map (· / 2)
/-- The first i are halved. -/
def halfTo (A : List Int) (i : Nat) : List Int := (A.take i).map (· / 2) ++ A.drop i
theorem halfTo_len (A : List Int) (i : Nat) : (halfTo A i).length = A.length := by
  unfold halfTo
  rw [List.length_append, List.length_map, List.length_take, List.length_drop]
  omega
theorem halfTo_zero (A : List Int) : halfTo A 0 = A := rfl
theorem halfTo_end (A : List Int) {i : Nat} (h : A.length ≤ i) : halfTo A i = halfA A := by
  unfold halfTo halfA
  rw [List.take_of_length_le h, List.drop_eq_nil_of_le h, List.append_nil]
theorem halfTo_at (A : List Int) {i : Nat} (h : i < A.length) : (halfTo A i).getD i 0 = A.getD i 0 := by
  unfold halfTo
  rw [List.getD_eq_getElem?_getD, List.getElem?_append_right (by rw [List.length_map, List.length_take]; omega), List.length_map, List.length_take, List.getElem?_drop, show i + (i - min i A.length) = i by omega, List.getD_eq_getElem?_getD]
theorem halfTo_set (A : List Int) {i : Nat} (h : i < A.length) : (halfTo A i).set i (A.getD i 0 / 2) = halfTo A (i + 1) := by
  apply List.ext_getElem?
  intro k
  unfold halfTo
  rw [List.getElem?_set]
  have l1 : ((A.take i).map (· / 2)).length = i := by rw [List.length_map, List.length_take]; omega
  have l2 : ((A.take (i + 1)).map (· / 2)).length = i + 1 := by rw [List.length_map, List.length_take]; omega
  by_cases e : i = k
  · subst e
    rw [if_pos rfl, if_pos (by rw [List.length_append, l1, List.length_drop]; omega), List.getElem?_append_left (by omega), List.getElem?_map, List.getElem?_take, if_pos (by omega), List.getD_eq_getElem?_getD, List.getElem?_eq_getElem h]
    rfl
  · rw [if_neg e]
    by_cases hk : k < i
    · rw [List.getElem?_append_left (by omega), List.getElem?_append_left (by omega), List.getElem?_map, List.getElem?_map, List.getElem?_take, List.getElem?_take, if_pos hk, if_pos (by omega)]
    · rw [List.getElem?_append_right (by omega), List.getElem?_append_right (by omega), l1, l2, List.getElem?_drop, List.getElem?_drop, show i + (k - i) = k by omega, show i + 1 + (k - (i + 1)) = k by omega]
theorem halfA_len (A : List Int) : (halfA A).length = A.length := by unfold halfA; rw [List.length_map]
theorem halve_nil (w : World) : Calls Try.prog 17 #[.pointer none] w fun e w' => e = .returned (.tuple #[]) ∧ w = w' := by
  have HM := Lib.hid (made_nil w)
  go_enter Try.func17, Try.ntmps17
  go_wp2_with (first | (go_at_call 34; with_reducible refine HM.out.mono ?_; rintro e w1 ⟨rfl, rfl⟩))
  refine bodyPost_ret (results_none rfl _ _ _) rfl ?_
  exact ⟨rfl, rfl⟩
section
variable {w : World} {h t nb ib : Nat} {A : List Int} {pl : Nat → Int} {L : List Nat}
set_option maxRecDepth 100000 in
set_option maxHeartbeats 1000000 in
theorem Halve_any (H : HX w h t nb ib A (plc L) L) (hn : L.Nodup) :
    Calls Try.prog 17 #[.pointer (some ⟨h, 0, none⟩)] w fun e w' => e = .returned (.tuple #[]) ∧ HpP w h t nb ib (halfA A) L w' := by
  have hle := H.le
  have hll := H.lens
  have c := H.head
  obtain ⟨c0, c1, _⟩ := H.tree
  have HM := Lib.hid (made_any H)
  have H0 : Hid (HX w h t nb ib (halfTo A 0) (plc L) L ∧ Gr (Oth t nb ib) w w) := ⟨H, Gr.refl _ _⟩
  have HACT := Lib.hid H.act
  obtain ⟨n, hnA⟩ : ∃ n, A.length = n := ⟨_, rfl⟩
  have HNA := Lib.hid hnA
  rw [hnA] at c0 c1
  have hn3 : n ≤ 300 := by omega
  have hLn : L.length ≤ n := by omega
  clear H hle hll hnA
  go_enter Try.func17, Try.ntmps17
  go_wp2_with (first | (go_at_call 34; with_reducible refine HM.out.mono ?_; rintro e w1 ⟨rfl, rfl⟩))
  go_loopw [15] (fun iv wr => ∃ i : Nat, iv = .int .i64 i ∧ i ≤ n ∧ Hid (HX wr h t nb ib (halfTo A i) (plc L) L ∧ Gr (Oth t nb ib) w wr)) (fun iv _ => n - (intOf iv).toNat)
  case atStart => exact ⟨0, rfl, by omega, H0⟩
  case round =>
    clear c c0 c1
    obtain ⟨i, rfl, hi, HR⟩ := hrel
    have c := HR.out.1.head
    obtain ⟨c0, c1, _⟩ := HR.out.1.tree
    rw [halfTo_len, HNA.out] at c0 c1
    by_cases hin : i < n
    · have hiA : i < (halfTo A i).length := by rw [halfTo_len, HNA.out]; exact hin
      have e1 := HR.out.1.ac hiA
      have f1 := (HR.out.1.cell (j := 1) hiA (by omega) rfl).2
      rw [halfTo_at A (by rw [HNA.out]; exact hin)] at e1
      obtain ⟨a0, a1⟩ := getD_act HACT.out i
      have HN : Hid (HX (wr.setCell ⟨nb, i * 3 + 1, none⟩ (.int .i64 (A.getD i 0 / 2))) h t nb ib (halfTo A (i + 1)) (plc L) L ∧ Gr (Oth t nb ib) w (wr.setCell ⟨nb, i * 3 + 1, none⟩ (.int .i64 (A.getD i 0 / 2)))) := by
        have := HR.out.1.setA hiA (v := A.getD i 0 / 2) (by omega) (by omega)
        rw [halfTo_set A (by rw [HNA.out]; exact hin)] at this
        exact ⟨this, HR.out.2.set (fun _ e => e.2.1 rfl) _⟩
      obtain ⟨a, ha⟩ : ∃ a, A.getD i 0 = a := ⟨_, rfl⟩
      rw [ha] at e1 a0 a1 HN
      have hini : (i : Int) < (n : Int) := by omega
      clear HR hiA ha
      go_wp2
      go_roundw
      case rel => exact ⟨i + 1, by go_num, by omega, HN⟩
      case measure => simp [intOf]; omega
    · have hni : ¬ (i : Int) < (n : Int) := by omega
      have hin' : i = n := by omega
      subst hin'
      have H1 : Hid (∃ L', L'.Perm L ∧ HeapN (L'.map (keyA (halfA A))) 0 ∧ HX wr h t nb ib (halfA A) (plc L') L' ∧ Gr (Oth t nb ib) w wr) := by
        rw [← halfTo_end A (i := i) (by rw [HNA.out]; exact Nat.le_refl _)]
        exact ⟨L, List.Perm.refl _, fun k h0 hk => absurd hk (by omega), HR.out.1, HR.out.2⟩
      have hl3 : (L.length : Int) ≤ 300 := by omega
      clear HR
      go_wp2
      go_loopw [44] (fun pv wr => ∃ p : Nat, pv = .int .i32 p ∧ p ≤ L.length ∧ Hid (∃ L', L'.Perm L ∧ HeapN (L'.map (keyA (halfA A))) p ∧ HX wr h t nb ib (halfA A) (plc L') L' ∧ Gr (Oth t nb ib) w wr)) (fun pv _ => L.length - (intOf pv).toNat)
      case atStart => exact ⟨0, rfl, by omega, H1⟩
      case round =>
        clear c c0 c1 H1
        obtain ⟨p, rfl, hp, HR⟩ := hrel
        obtain ⟨L', l1, l2, l3, l4⟩ := HR.out
        have hl1 := l1.length_eq
        by_cases hpL : p < L.length
        · have c := l3.head
          obtain ⟨c0, c1, _⟩ := l3.tree
          have hpL' : p < L'.length := by omega
          have e1 := (l3.inc hpL').1
          rw [halfA_len, HNA.out] at c0 c1
          rw [hl1] at c1
          obtain ⟨x, hx⟩ : ∃ x, nodeAt L' p = x := ⟨_, rfl⟩
          rw [hx] at e1
          have HU : Hid (Calls Try.prog 30 #[.pointer (some ⟨t, 0, none⟩), .pointer (some ⟨nb, x * 3, none⟩)] wr.drew fun e w' => e = .returned (.tuple #[]) ∧ Hid (∃ L', L'.Perm L ∧ HeapN (L'.map (keyA (halfA A))) (p + 1) ∧ HX w' h t nb ib (halfA A) (plc L') L' ∧ Gr (Oth t nb ib) w w')) :=
            (up_n l3.drew (l1.nodup_iff.2 hn) (n := p + 1) hpL' (Nat.lt_succ_self p) hx ⟨fun i h0 hi hne => l2 i h0 (by omega), fun h0 i h1 h2 h3 => by omega⟩).mono fun _ _ ⟨e1, L2, a1, a2, a3, a4⟩ => ⟨e1, L2, a1.trans l1, a2, a3, l4.drew.trans a4⟩
          have hpi : (p : Int) < (L.length : Int) := by omega
          clear HR l1 l2 l3 l4 hl1 hx
          go_wp2_with fail
          go_still_tail 14, (by kernel_rfl)
          change wpList _ _ _ _ _ wr.drew
          go_wp2_with (first | (go_at_call 30; with_reducible refine HU.out.mono ?_; rintro e w2 ⟨rfl, HW⟩))
          go_roundw
          case rel => exact ⟨p + 1, by go_num, by omega, HW⟩
          case measure => simp [intOf]; omega
        · have hpe : p = L.length := by omega
          subst hpe
          have HE : Hid (HpP w h t nb ib (halfA A) L wr) := ⟨L', l1, by rw [hl1]; exact l2, l3, l4⟩
          clear HR l1 l2 l3 l4 hl1
          go_wp2
          go_end0
          exact ⟨rfl, HE.out⟩
end
end Go.Proofs.Ytmgppnepccmceaa
