/- Package value's places. -/
import Derived.Test.YtfhcmhlbidjjgaaDoorVaM
import Derived.Test.YtfhcmhlbidjjgaaDoorSgH
namespace Go.Proofs.YtfhcmhlbidjjgaaDoor
open Go.RowKit
set_option linter.unusedVariables false
def PlPost (w : World) (l : List RowA) (e : Ending) (w' : World) : Prop := Below w.heap.size w w' ∧ ∃ b, w.heap.size ≤ b ∧ e = .returned (.map (some b)) ∧ MapP w' b l
/-- No two rows have the same arguments. -/
def Uniq (l : List RowA) : Prop := ∀ (k : Nat) r, l[k]? = some r → r.key ∉ (l.take k).map RowA.key
set_option maxRecDepth 100000 in
set_option maxHeartbeats 2000000 in
theorem places_any (l : List RowA) (a : Option Addr) (c : Nat) (w : World) (hA : At w w.heap.size (l.flatMap frC) a) (hl : l.length ≤ 1000) (hc : l.length ≤ c) (hok : ∀ r ∈ l, FrOk r) (hu : Uniq l) :
    Calls Tryd.prog 16 #[.slice a l.length c] w (PlPost w l) := by
  have hmm := make_pl
  obtain ⟨b, hb⟩ : ∃ b, b = w.heap.size := ⟨_, rfl⟩
  have HMp : Hid (MapP (w.alloc (.map #[] 0)) b []) := ⟨.map [], by rw [hb]; exact World.ownsMap_made (H := Unit) w Tryd.prog 57 (plainElem Tryd.prog 3), fun y _ => rfl, fun k y hk => by simp at hk, rfl⟩
  have HA := Lib.hid hA
  have HOk := Lib.hid hok
  have HU := Lib.hid hu
  have HQ := Lib.hid hb
  clear hA hok hu
  go_enter Tryd.func16, Tryd.ntmps16
  go_wp2
  rw [← hb]
  clear hb
  go_loopw [11] (fun i wr => ∃ k : Nat, k ≤ l.length ∧ i = .int .i64 k ∧ Hid (Below b w wr) ∧ Hid (MapP wr b (l.take k))) (fun i _ => l.length - (intOf i).toNat)
  case atStart => exact ⟨0, Nat.zero_le _, rfl, by rw [HQ.out]; exact (Below.refl _ _).alloc (Nat.le_refl _) _, HMp⟩
  case round =>
    obtain ⟨k, hkl, rfl, HW, HMI⟩ := hrel
    by_cases hlt : k < l.length
    · obtain ⟨y, hy⟩ : ∃ y, l[k]? = some y := ⟨_, List.getElem?_eq_getElem hlt⟩
      have HWw : Hid (Below w.heap.size w wr) := by rw [← HQ.out]; exact HW.out
      obtain ⟨g, o, rfl, hg, hcell⟩ := (HA.out.below HWw.out) (by rw [len_flat frC_len]; omega)
      have q0 := hcell _ _ ((get_flat frC_len l k 0 y hy (by omega)).trans rfl)
      have q1 := hcell _ _ ((get_flat frC_len l k 1 y hy (by omega)).trans rfl)
      have q2 := hcell _ _ ((get_flat frC_len l k 2 y hy (by omega)).trans rfl)
      have q3 := hcell _ _ ((get_flat frC_len l k 3 y hy (by omega)).trans rfl)
      simp only [Nat.add_zero, ← Nat.add_assoc] at q0 q1 q2 q3
      have hyo : FrOk y := HOk.out y (List.mem_of_getElem? hy)
      obtain ⟨D, hown, hhas, hat, hsz⟩ := HMI.out
      have hbw : b < wr.heap.size := hown.lt
      have HO : Hid ((wr.alloc (.cells #[.int .i64 y.a0, .int .i64 y.a1, .int .i64 y.a2, .int .i64 y.val] 75)).ownsMap (H := Unit) Tryd.prog 57 (plainElem Tryd.prog 3) b (l.take k).length D) := hown.alloc _
      have HK : Hid (keyOf Tryd.prog 57 (.agg #[.int .i64 y.a0, .int .i64 y.a1, .int .i64 y.a2]) = some (kt y.key)) := kt_is y.key hyo.key
      have HY := Lib.hid (And.intro hy (And.intro hyo (And.intro hhas (And.intro hat (And.intro hsz (And.intro hown.isMap (hown.tidy lawTu)))))))
      have hlen : (l.take k).length = k := by rw [List.length_take]; omega
      have HL := Lib.hid hlen
      have HW64 : Hid ((Lit.int .i64 k).wf = true) := wf64 ⟨by omega, by omega⟩
      clear hown hhas hat hy hyo hcell hsz hlen
      go_wp2_with (at_mapUpdate; refine wpList_mapUpdate_own _ rfl _ _ _ 64 rfl 57 3 lawTu underPl _ b (l.take k).length D rfl HO.out (by rw [HL.out]; simp only [maxLen]; omega) _ _ _ rfl rfl HK.out _ [] (plainElem_int Tryd.underlying3 HW64.out) ?_; intro w4 hown4 hgrow4)
      go_roundw
      case rel =>
        obtain ⟨hy, hyo, hhas, hat, hsz, hmap, hti⟩ := HY.out
        refine ⟨k + 1, by omega, by go_num, ?_, ?_⟩
        · exact (HW.out.alloc (by omega) _).grown hgrow4 (by simp; omega) (fun j e => by cases e; exact Nat.le_refl _)
        · rw [take_snoc hy]
          refine MapP.put (fun n hn => HOk.out n (List.mem_of_mem_take hn)) hyo (HU.out k y hy) hhas hat hsz hmap hti ?_
          rw [HL.out] at hown4 ⊢
          exact hown4
      case measure => simp [intOf]; omega
    · obtain rfl : k = l.length := by omega
      have HMl : Hid (MapP wr b l) := by have := HMI.out; rw [List.take_length] at this; exact this
      go_wp2
      go_ret
      exact ⟨by rw [← HQ.out]; exact HW.out, b, by rw [HQ.out]; exact Nat.le_refl _, rfl, HMl.out⟩
end Go.Proofs.YtfhcmhlbidjjgaaDoor
