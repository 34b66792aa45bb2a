/- The document's heap: halved, how many, popped. -/
import Derived.Test.YtmgppnepccmceaaHrB
namespace Go.Proofs.Ytmgppnepccmceaa
open Go.RowKit
set_option linter.unusedVariables false
section
variable {w : World} {g ab bb : Nat} {s : St}
set_option maxHeartbeats 1000000 in
theorem RHalve_q (H : RQ w g ab bb s) : Calls Try.prog 18 #[.pointer (some ⟨g, 0, none⟩)] w fun e w' => e = .returned (.tuple #[]) ∧ Hid (RQ w' g ab bb (halfS s) ∧ Gr (Ot2 ab bb) w w') := by
  obtain ⟨I, H, hnd, hI⟩ := H
  have H0 : Hid (RX w g ab bb (halfTo s.A 0) I ∧ Gr (Ot2 ab bb) w w) := ⟨H, Gr.refl _ _⟩
  have HACT := Lib.hid H.act
  have hle := H.le
  obtain ⟨n, hnA⟩ : ∃ n, s.A.length = n := ⟨_, rfl⟩
  have HNA := Lib.hid hnA
  have HI := Lib.hid (show s.S.Nodup ∧ ∀ x, I.getD x false = true ↔ x ∈ s.S from ⟨hnd, hI⟩)
  rw [hnA] at hle
  clear H hnA hI hnd
  go_enter Try.func18, Try.ntmps18
  go_wp2
  go_loopw [2] (fun iv wr => ∃ i : Nat, iv = .int .i64 i ∧ i ≤ n ∧ Hid (RX wr g ab bb (halfTo s.A i) I ∧ Gr (Ot2 ab bb) w wr)) (fun iv _ => n - (intOf iv).toNat)
  case atStart => exact ⟨0, rfl, by omega, H0⟩
  case round =>
    clear H0
    obtain ⟨i, rfl, hi, HR⟩ := hrel
    obtain ⟨cb, c0, c1⟩ := HR.out.1.head
    rw [halfTo_len, HNA.out] at c0
    by_cases hin : i < n
    · have hiA : i < (halfTo s.A i).length := by rw [halfTo_len, HNA.out]; exact hin
      obtain ⟨e1, f1⟩ := HR.out.1.acell hiA
      rw [halfTo_at s.A (by rw [HNA.out]; exact hin)] at e1
      obtain ⟨a0, a1⟩ := getD_act HACT.out i
      obtain ⟨_, b2, _⟩ := HR.out.1.blk
      have HN : Hid (RX (wr.setCell ⟨ab, i, none⟩ (.int .i64 (s.A.getD i 0 / 2))).drew g ab bb (halfTo s.A (i + 1)) I ∧ Gr (Ot2 ab bb) w (wr.setCell ⟨ab, i, none⟩ (.int .i64 (s.A.getD i 0 / 2))).drew) := by
        have := HR.out.1.setA i (v := s.A.getD i 0 / 2) (by omega) (by omega)
        rw [halfTo_set s.A (by rw [HNA.out]; exact hin)] at this
        exact ⟨this.gr (P := fun _ => True) (Gr.refl _ _).drew trivial trivial trivial, (HR.out.2.set (fun _ e => e.1 rfl) _).drew⟩
      obtain ⟨a, ha⟩ : ∃ a, s.A.getD i 0 = a := ⟨_, rfl⟩
      rw [ha] at e1 a0 a1 HN
      have hini : (i : Int) < (n : Int) := by omega
      clear HR hiA ha
      go_wp2_with fail
      go_region
      all_goals go_wp2
      all_goals go_roundw
      all_goals first | exact ⟨i + 1, by go_num, by omega, HN⟩ | (simp [intOf]; omega)
    · have hni : ¬ (i : Int) < (n : Int) := by omega
      have HE : Hid (RQ wr g ab bb (halfS s) ∧ Gr (Ot2 ab bb) w wr) := by
        have h1 := HR.out
        rw [halfTo_end s.A (i := i) (by rw [HNA.out]; omega)] at h1
        exact ⟨⟨I, h1.1, HI.out⟩, h1.2⟩
      clear HR
      go_wp2
      go_end0
      exact ⟨rfl, HE.out⟩
end
def cntB (I : List Bool) (i : Nat) : Nat := ((List.range i).filter (fun x => I.getD x false)).length
theorem cntB_le (I : List Bool) (i : Nat) : cntB I i ≤ i := by
  unfold cntB
  have := List.length_filter_le (fun x => I.getD x false) (List.range i)
  rw [List.length_range] at this
  exact this
theorem cntB_step {I : List Bool} {i : Nat} {v : Bool} (h : I.getD i false = v) : cntB I (i + 1) = cntB I i + (if v then 1 else 0) := by
  unfold cntB
  rw [List.range_succ, List.filter_append, List.length_append]
  have e : (List.filter (fun x => I.getD x false) [i]).length = if v then 1 else 0 := by
    rw [List.filter_cons, h]
    cases v <;> rfl
  rw [e]
theorem cntB_all {I : List Bool} {S : List Nat} {n : Nat} (hnd : S.Nodup) (hI : ∀ x, I.getD x false = true ↔ x ∈ S) (hl : ∀ x ∈ S, x < n) : cntB I n = S.length := by
  unfold cntB
  refine len_eqv (List.Pairwise.filter _ List.nodup_range) hnd (fun z => ?_)
  rw [List.mem_filter, List.mem_range]
  exact ⟨fun h => (hI z).1 h.2, fun h => ⟨hl z h, (hI z).2 h⟩⟩
section
variable {w : World} {g ab bb : Nat} {s : St}
theorem RLen_q (H : RQ w g ab bb s) : Calls Try.prog 20 #[.pointer (some ⟨g, 0, none⟩)] w fun e w' => e = .returned (.int .i64 s.S.length) ∧ w = w' := by
  have hmem : ∀ z, z ∈ s.S → z < s.A.length := fun z hz => rq_mem H hz
  obtain ⟨I, H, hnd, hI⟩ := H
  obtain ⟨cb, c0, c1⟩ := H.head
  have hle := H.le
  have HE := Lib.hid (cntB_all (n := s.A.length) hnd hI hmem)
  have HX1 := Lib.hid H
  obtain ⟨n, hnA⟩ : ∃ n, s.A.length = n := ⟨_, rfl⟩
  have HNA := Lib.hid hnA
  rw [hnA] at hle c1 HE
  clear H hnA hI hnd hmem c0
  go_enter Try.func20, Try.ntmps20
  go_wp2
  go_loopw [3, 4] (fun cv iv wr => ∃ i : Nat, i ≤ n ∧ iv = .int .i64 i ∧ cv = .int .i64 (cntB I i : Nat) ∧ wr = w) (fun _ iv _ => n - (intOf iv).toNat)
  case atStart => exact ⟨0, by omega, rfl, rfl, rfl⟩
  case round =>
    obtain ⟨i, hi, rfl, rfl, rfl⟩ := hrel
    have hc := cntB_le I i
    by_cases hin : i < n
    · obtain ⟨e1, f1⟩ := HX1.out.bcell (x := i) (by rw [HNA.out]; exact hin)
      have hini : (i : Int) < (n : Int) := by omega
      cases hv : I.getD i false with
      | false =>
        rw [hv] at e1
        have hs : cntB I i = cntB I (i + 1) := by rw [cntB_step hv]; rfl
        clear hv
        obtain ⟨m, hm⟩ : ∃ m, cntB I i = m := ⟨_, rfl⟩
        rw [hm] at hs hc ⊢
        clear hm
        go_wp2
        go_roundw
        case rel => exact ⟨i + 1, by omega, by go_num, by rw [← hs], trivial⟩
        case measure => simp [intOf]; omega
      | true =>
        rw [hv] at e1
        have hs : cntB I i + 1 = cntB I (i + 1) := by rw [cntB_step hv]; rfl
        clear hv
        obtain ⟨m, hm⟩ : ∃ m, cntB I i = m := ⟨_, rfl⟩
        rw [hm] at hs hc ⊢
        clear hm
        go_wp2
        go_roundw
        case rel => exact ⟨i + 1, by omega, by go_num, by rw [← hs]; go_num, trivial⟩
        case measure => simp [intOf]; omega
    · have hni : ¬ (i : Int) < (n : Int) := by omega
      obtain rfl : i = n := by omega
      have HF : Hid ((cntB I i : Int) = s.S.length) := by show _ = _; rw [HE.out]
      clear HE
      obtain ⟨m, hm⟩ : ∃ m, cntB I i = m := ⟨_, rfl⟩
      rw [hm] at HF hc ⊢
      clear hm
      go_wp2
      go_ret
      exact ⟨ret_int HF.out, rfl⟩
end
end Go.Proofs.Ytmgppnepccmceaa
