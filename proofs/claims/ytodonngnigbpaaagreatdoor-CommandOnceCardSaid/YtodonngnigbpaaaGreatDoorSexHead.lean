/- Package sexpr's Head; what Read answers, handed on. -/
import Derived.Test.YtodonngnigbpaaaGreatDoorSexMay
import Derived.Test.YtodonngnigbpaaaGreatDoorSexReadW
namespace Go.Proofs.YtodonngnigbpaaaGreatDoor
open Go.RowKit
theorem RdOut.keep {B : Nat} {w w' : World} {t : Tree} {v : Value} (h : RdOut B w t v) (hb : Below w.heap.size w w') : RdOut B w' t v := by
  obtain ⟨K, h1, h2, h3⟩ := h
  exact ⟨K, fun b hk => ⟨(h1 b hk).1, Nat.lt_of_lt_of_le (h1 b hk).2 hb.size⟩, fun b hk => by obtain ⟨cs, hc⟩ := h2 b hk; exact ⟨cs, (hb.block b (h1 b hk).2).trans hc⟩, Rd.keep (fun b _ hlt => hb.block b hlt) t v h3⟩
theorem RdOut.use {B : Nat} {w : World} {t : Tree} {v : Value} (h : RdOut B w t v) : ∃ bad : Nat → Prop, (∀ b, ¬ bad b → b < w.heap.size) ∧ Rd w bad t v ∧ Clean w bad := by
  obtain ⟨K, h1, h2, h3⟩ := h
  exact ⟨fun b => ¬ K b, fun b hb => (h1 b (Classical.not_not.1 hb)).2, h3, fun b hb _ => by obtain ⟨cs, hc⟩ := h2 b (Classical.not_not.1 hb); exact ⟨cs, _, hc⟩⟩
theorem RdOut.parts {B : Nat} {w : World} {t : Tree} {v : Value} (h : RdOut B w t v) : ∃ a cap, v = .agg #[.int .i8 t.kind, .string (bytesL t.text), .slice a t.kids.length cap] := by
  obtain ⟨K, h1, h2, h3⟩ := h
  obtain ⟨a, cap, hv, _⟩ := h3.parts
  exact ⟨a, cap, hv⟩
def headT (t : Tree) : List UInt8 := if t.kind = 3 then (match t.kids with | y :: _ => if y.kind = 0 then y.text else [] | [] => []) else []
theorem Head_is (t : Tree) (v : Value) (x : ByteArray) (w : World) (hr : Sx w t v) (hx : bytesL (headT t) = x) :
    Calls Tryz.prog 21 #[v] w fun e w' => e = .returned (.string x) ∧ Below w.heap.size w w' := by
  obtain ⟨a, cap, rfl, hl, hc, hs, hk⟩ := hr.parts
  have HX := Lib.hid hx
  have hb0 : Below w.heap.size w (w.alloc (.cells #[.int .i8 t.kind, .string (bytesL t.text), .slice a t.kids.length cap] 35)) := (Below.refl _ _).alloc (Nat.le_refl _) _
  have HB0 := Lib.hid hb0
  have HK := Lib.hid hk
  clear hr hx hb0 hk
  by_cases h3 : t.kind = 3
  · rw [h3] at HB0 ⊢
    have hor : t.kids = [] ∨ ∃ y r, t.kids = y :: r := by
      cases t.kids with
      | nil => exact .inl rfl
      | cons y r => exact .inr ⟨y, r, rfl⟩
    rcases hor with hkids | ⟨y, r, hkids⟩
    · skip
      have HE : Hid (x = ⟨#[]⟩) := by show _ = _; rw [← HX.out]; unfold headT; rw [if_pos h3, hkids]; rfl
      rw [hkids] at HB0 ⊢
      simp only [List.length_nil] at HB0 ⊢
      clear hkids h3
      go_enter Tryz.func21, Tryz.ntmps21
      go_wp2_with fail
      refine (listed_yes (bytesL t.text) a 0 cap _).mono ?_
      rintro e w1 ⟨rfl, hb1⟩
      go_wp2
      go_ret
      exact ⟨by rw [HE.out]; first | done | rfl, HB0.out.trans (hb1.mono HB0.out.size)⟩
    · obtain ⟨g, o, rfl, hg, hgl, _, _⟩ := HK.out.addr (by rw [hkids]; simp)
      obtain ⟨_, v0, v1, v2, c0, c1, c2, hrt⟩ := HK.out.get t.kids g o 0 y (by rw [hkids]; rfl)
      obtain ⟨ya, yc, hv, _, _, _, _⟩ := hrt.parts
      simp only [Value.agg.injEq, Array.mk.injEq, List.cons.injEq, and_true] at hv
      obtain ⟨rfl, rfl, rfl⟩ := hv
      simp only [Nat.zero_mul, Nat.add_zero] at c0 c1 c2
      have hlen : 0 < t.kids.length := by rw [hkids]; simp
      have e1 := eq_false (x := (t.kids.length : Int)) (y := 0) (by omega)
      by_cases hy : y.kind = 0
      · have HE : Hid (x = bytesL y.text) := by show _ = _; rw [← HX.out]; unfold headT; rw [if_pos h3, hkids]; simp [hy]
        rw [hy] at c0
        clear hkids h3 hy hrt
        go_enter Tryz.func21, Tryz.ntmps21
        go_wp2_with fail
        refine (listed_yes (bytesL t.text) (some ⟨g, o, none⟩) t.kids.length cap _).mono ?_
        rintro e w1 ⟨rfl, hb1⟩
        have hbw : Below w.heap.size w w1 := HB0.out.trans (hb1.mono HB0.out.size)
        have d0 := (hbw.cell (p := ⟨g, o, none⟩) hgl).trans c0
        have d1 := (hbw.cell (p := ⟨g, o + 1, none⟩) hgl).trans c1
        have HBW := Lib.hid hbw
        clear hbw hb1 c0 c1 c2
        go_wp2
        go_ret
        exact ⟨by rw [HE.out]; first | done | rfl, HBW.out⟩
      · have HE : Hid (x = ⟨#[]⟩) := by show _ = _; rw [← HX.out]; unfold headT; rw [if_pos h3, hkids]; simp [hy, bytesL]
        have e2 := ne_true (x := y.kind) (y := 0) hy
        clear hkids h3 hy hrt
        go_enter Tryz.func21, Tryz.ntmps21
        go_wp2_with fail
        refine (listed_yes (bytesL t.text) (some ⟨g, o, none⟩) t.kids.length cap _).mono ?_
        rintro e w1 ⟨rfl, hb1⟩
        have hbw : Below w.heap.size w w1 := HB0.out.trans (hb1.mono HB0.out.size)
        have d0 := (hbw.cell (p := ⟨g, o, none⟩) hgl).trans c0
        have HBW := Lib.hid hbw
        clear hbw hb1 c0 c1 c2
        go_wp2
        go_ret
        exact ⟨by rw [HE.out]; first | done | rfl, HBW.out⟩
  · have HE : Hid (x = ⟨#[]⟩) := by show _ = _; rw [← HX.out]; unfold headT; rw [if_neg h3]; rfl
    go_enter Tryz.func21, Tryz.ntmps21
    go_wp2_with fail
    refine (listed_no t.kind (bytesL t.text) a _ cap _ h3).mono ?_
    rintro e w1 ⟨rfl, hb1⟩
    go_wp2
    go_ret
    exact ⟨by rw [HE.out]; first | done | rfl, HB0.out.trans (hb1.mono HB0.out.size)⟩
end Go.Proofs.YtodonngnigbpaaaGreatDoor
