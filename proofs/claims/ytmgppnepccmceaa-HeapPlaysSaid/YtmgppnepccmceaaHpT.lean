/- A heap behind acts. -/
import Derived.Test.YtmgppnepccmceaaHpR
import Derived.StillTailTactics
namespace Go.Proofs.Ytmgppnepccmceaa
open Go.RowKit
set_option linter.unusedVariables false
/-- A row of cells lies at an address, in a block below B. -/
def At (w : World) (B : Nat) (L : List Value) (a : Option Addr) : Prop :=
  0 < L.length → ∃ g o : Nat, a = some ⟨g, o, none⟩ ∧ g < B ∧ ∀ (i : Nat) (v : Value), L[i]? = some v → w.cell? ⟨g, o + i, none⟩ = some v
structure ActA where
  do_ : Int
  node : Int
  by_ : Int
def actC (x : ActA) : List Value := [.int .i64 x.do_, .int .i64 x.node, .int .i64 x.by_]
structure ActsR (w : World) (az : List ActA) (a : Option Addr) (c : Nat) : Prop where
  le : az.length ≤ c
  cap : c ≤ maxLen
  tat : At w w.heap.size (az.flatMap actC) a
theorem ActsR.below {w w' : World} {az : List ActA} {a : Option Addr} {c : Nat} (h : ActsR w az a c) (hb : Below w.heap.size w w') : ActsR w' az a c :=
  ⟨h.le, h.cap, fun h0 => by
    obtain ⟨g, o, e, hg, hc⟩ := h.tat h0
    exact ⟨g, o, e, Nat.lt_of_lt_of_le hg hb.size, fun i v hv => (hb.cell (p := ⟨g, o + i, none⟩) hg).trans (hc i v hv)⟩⟩
theorem ActsR.at_ {w : World} {az : List ActA} {a : Option Addr} {c k : Nat} {x : ActA} (h : ActsR w az a c) (hk : az[k]? = some x) : ∃ g o : Nat, a = some ⟨g, o, none⟩ ∧ g < w.heap.size ∧ w.cell? ⟨g, o + k * 3, none⟩ = some (.int .i64 x.do_) ∧ w.cell? ⟨g, o + k * 3 + 1, none⟩ = some (.int .i64 x.node) ∧ w.cell? ⟨g, o + k * 3 + 2, none⟩ = some (.int .i64 x.by_) := by
  have hlt := (List.getElem?_eq_some_iff.1 hk).1
  have hf : (az.flatMap actC).length = az.length * 3 := len_flat (n := 3) (fun _ => rfl) az
  obtain ⟨g, o, e, hg, hc⟩ := h.tat (by rw [hf]; omega)
  have hget : ∀ j, j < 3 → (az.flatMap actC)[k * 3 + j]? = (actC x)[j]? := fun j hj => get_flat (n := 3) (fun _ => rfl) az k j x hk hj
  refine ⟨g, o, e, hg, ?_, ?_, ?_⟩
  · exact hc (k * 3) _ (hget 0 (by omega))
  · have := hc (k * 3 + 1) _ (hget 1 (by omega))
    rw [← Nat.add_assoc] at this
    exact this
  · have := hc (k * 3 + 2) _ (hget 2 (by omega))
    rw [← Nat.add_assoc] at this
    exact this
def stepS (s : St) (x : ActA) : St := if x.do_ = 0 then putS s x.node else if x.do_ = 1 then popS s else if x.do_ = 2 then bumpS s x.node x.by_ else if x.do_ = 3 then halfS s else s
def runS (s : St) (az : List ActA) : St := az.foldl stepS s
theorem runS_step (s : St) (az : List ActA) {i : Nat} {x : ActA} (hx : az[i]? = some x) : runS s (az.take (i + 1)) = stepS (runS s (az.take i)) x := by
  unfold runS
  rw [List.take_add_one, hx, List.foldl_append]
  rfl
theorem putS_len (s : St) (x : Int) : (putS s x).A.length = s.A.length := by unfold putS; split <;> rfl
theorem popS_A (s : St) : (popS s).A = s.A := by unfold popS; split <;> rfl
theorem bumpS_len (s : St) (x b : Int) : (bumpS s x b).A.length = s.A.length := by
  unfold bumpS
  split
  · exact List.length_set ..
  · rfl
theorem halfS_len (s : St) : (halfS s).A.length = s.A.length := halfA_len _
theorem stepS_len (s : St) (x : ActA) : (stepS s x).A.length = s.A.length := by
  unfold stepS
  split
  · exact putS_len _ _
  · split
    · rw [popS_A]
    · split
      · exact bumpS_len _ _ _
      · split
        · exact halfS_len _
        · rfl
theorem runS_lenA : ∀ (az : List ActA) (s : St), (runS s az).A.length = s.A.length
  | [], s => rfl
  | x :: r, s => (runS_lenA r (stepS s x)).trans (stepS_len s x)
def s0 (n : Nat) : St := ⟨List.replicate n 0, []⟩
theorem runS_len (n : Nat) (az : List ActA) : (runS (s0 n) az).A.length = n := (runS_lenA az _).trans List.length_replicate
/-- What behind answers. -/
def BehindP (n : Nat) (az : List ActA) (w : World) (e : Ending) (w' : World) : Prop := ∃ h t nb ib, e = .returned (.pointer (some ⟨h, 0, none⟩)) ∧ HQ w' h t nb ib (runS (s0 n) az) ∧ w.heap.size ≤ h ∧ w.heap.size ≤ t ∧ w.heap.size ≤ nb ∧ w.heap.size ≤ ib ∧ Below w.heap.size w w'
set_option maxRecDepth 100000 in
set_option maxHeartbeats 1000000 in
theorem behind_any (n : Nat) (az : List ActA) (a : Option Addr) (c : Nat) (w : World) (hn : n ≤ 300) (hl : az.length ≤ 300) (hA : ActsR w az a c) :
    Calls Try.prog 28 #[.int .i64 n, .slice a az.length c] w fun e w' => BehindP n az w e w' := by
  have HN := Lib.hid (New_q n w hn)
  have HA := Lib.hid hA
  obtain ⟨l, hll⟩ : ∃ l, az.length = l := ⟨_, rfl⟩
  have HLL := Lib.hid hll
  rw [hll] at hl ⊢
  have mixed : Try.prog.follows .mixedOrders = true := by kernel_rfl
  clear hA hll
  go_enter Try.func28, Try.ntmps28
  go_wp2_with fail
  with_reducible refine HN.out.mono ?_
  rintro e w1 ⟨h, t, nb, ib, rfl, HQ0⟩
  have HB := Lib.hid (show w.heap.size ≤ h ∧ w.heap.size ≤ t ∧ w.heap.size ≤ nb ∧ w.heap.size ≤ ib ∧ Below w.heap.size w w1 from HQ0.out.2)
  have HR0 : Hid (HQ w1 h t nb ib (runS (s0 n) (az.take 0)) ∧ Gr (Oth t nb ib) w1 w1) := ⟨HQ0.out.1, Gr.refl _ _⟩
  clear HQ0 HN
  go_wp2_with fail
  go_loopw [6] (fun iv wr => ∃ i : Nat, iv = .int .i64 i ∧ i ≤ l ∧ Hid (HQ wr h t nb ib (runS (s0 n) (az.take i)) ∧ Gr (Oth t nb ib) w1 wr)) (fun iv _ => l - (intOf iv).toNat)
  case atStart => exact ⟨0, rfl, by omega, HR0⟩
  case round =>
    clear HR0
    obtain ⟨i, rfl, hi, HR⟩ := hrel
    by_cases hin : i < l
    · obtain ⟨x, hx⟩ : ∃ x, az[i]? = some x := ⟨_, List.getElem?_eq_getElem (by rw [HLL.out]; exact hin)⟩
      have hbw : Below w.heap.size w wr := below_gr HB.out.2.2.2.2 HR.out.2 HB.out.2.1 HB.out.2.2.1 HB.out.2.2.2.1
      obtain ⟨g, o, rfl, hg, e0, e1, e2⟩ := (HA.out.below hbw).at_ hx
      have HS : Hid (∀ w2, HQ w2 h t nb ib (stepS (runS (s0 n) (az.take i)) x) ∧ Gr (Oth t nb ib) wr w2 → HQ w2 h t nb ib (runS (s0 n) (az.take (i + 1))) ∧ Gr (Oth t nb ib) w1 w2) := fun w2 h2 => by
        rw [runS_step _ _ hx]
        exact ⟨h2.1, HR.out.2.trans h2.2⟩
      have hini : (i : Int) < (l : Int) := by omega
      obtain ⟨d, y, b⟩ := x
      dsimp only at e0 e1 e2
      have HQ1 := Lib.hid HR.out.1
      clear HR hbw hx
      obtain ⟨s, hs⟩ : ∃ s, runS (s0 n) (az.take i) = s := ⟨_, rfl⟩
      rw [hs] at HQ1 HS
      clear hs
      by_cases d0 : d = 0
      · subst d0
        have hst : stepS s ⟨0, y, b⟩ = putS s y := by unfold stepS; dsimp only; rw [if_pos rfl]
        rw [hst] at HS
        have C := Lib.hid (Put_q HQ1.out y)
        clear hst
        go_wp2_with fail
        with_reducible refine C.out.mono ?_
        rintro e w2 ⟨rfl, HW⟩
        have HN2 := Lib.hid (HS.out _ HW.out)
        go_wp2
        go_roundw
        case rel => exact ⟨i + 1, by go_num, by omega, HN2⟩
        case measure => simp [intOf]; omega
      · by_cases d1 : d = 1
        · subst d1
          have hst : stepS s ⟨1, y, b⟩ = popS s := by unfold stepS; dsimp only; rw [if_neg (by decide), if_pos rfl]
          rw [hst] at HS
          have C := Lib.hid (Pop_q HQ1.out)
          clear hst d0
          go_wp2_with fail
          with_reducible refine C.out.mono ?_
          rintro e w2 ⟨rfl, HW⟩
          have HN2 := Lib.hid (HS.out _ HW.out)
          go_wp2
          go_roundw
          case rel => exact ⟨i + 1, by go_num, by omega, HN2⟩
          case measure => simp [intOf]; omega
        · by_cases d2 : d = 2
          · subst d2
            have hst : stepS s ⟨2, y, b⟩ = bumpS s y b := by unfold stepS; dsimp only; rw [if_neg (by decide), if_neg (by decide), if_pos rfl]
            rw [hst] at HS
            have C : Hid (Calls Try.prog 15 #[.pointer (some ⟨h, 0, none⟩), .int .i64 y, .int .i64 b] wr.drew fun e w' => e = .returned (.int .i64 (bumpE s.A.length y b)) ∧ Hid (HQ w' h t nb ib (bumpS s y b) ∧ Gr (Oth t nb ib) wr.drew w')) := Bump_q (HQ1.out.gr (P := fun _ => True) (Gr.refl _ wr).drew trivial trivial trivial trivial) y b
            clear hst d0 d1
            go_wp2_with fail
            go_still_tail 11, (by kernel_rfl)
            change wpList _ _ _ _ _ wr.drew
            go_wp2_with fail
            with_reducible refine C.out.mono ?_
            rintro e w2 ⟨rfl, HW⟩
            have HN2 := Lib.hid (HS.out _ ⟨HW.out.1, (Gr.refl _ wr).drew.trans HW.out.2⟩)
            go_wp2
            go_roundw
            case rel => exact ⟨i + 1, by go_num, by omega, HN2⟩
            case measure => simp [intOf]; omega
          · by_cases d3 : d = 3
            · subst d3
              have hst : stepS s ⟨3, y, b⟩ = halfS s := by unfold stepS; dsimp only; rw [if_neg (by decide), if_neg (by decide), if_neg (by decide), if_pos rfl]
              rw [hst] at HS
              have C := Lib.hid (Halve_q HQ1.out)
              clear hst d0 d1 d2
              go_wp2_with fail
              with_reducible refine C.out.mono ?_
              rintro e w2 ⟨rfl, HW⟩
              have HN2 := Lib.hid (HS.out _ HW.out)
              go_wp2
              go_roundw
              case rel => exact ⟨i + 1, by go_num, by omega, HN2⟩
              case measure => simp [intOf]; omega
            · have hst : stepS s ⟨d, y, b⟩ = s := by unfold stepS; dsimp only; rw [if_neg d0, if_neg d1, if_neg d2, if_neg d3]
              rw [hst] at HS
              have HN2 := Lib.hid (HS.out wr ⟨HQ1.out, Gr.refl _ _⟩)
              have q0 : (d == 0) = false := by simp [d0]
              have q1 : (d == 1) = false := by simp [d1]
              have q2 : (d == 2) = false := by simp [d2]
              have q3 : (d == 3) = false := by simp [d3]
              clear hst d0 d1 d2 d3
              go_wp2
              go_roundw
              case rel => exact ⟨i + 1, by go_num, by omega, HN2⟩
              case measure => simp [intOf]; omega
    · have hni : ¬ (i : Int) < (l : Int) := by omega
      have HE : Hid (HQ wr h t nb ib (runS (s0 n) az) ∧ Gr (Oth t nb ib) w1 wr) := by
        have := HR.out
        rw [List.take_of_length_le (by rw [HLL.out]; omega)] at this
        exact this
      clear HR
      go_wp2
      go_ret
      exact ⟨_, _, _, _, rfl, HE.out.1, HB.out.1, HB.out.2.1, HB.out.2.2.1, HB.out.2.2.2.1, below_gr HB.out.2.2.2.2 HE.out.2 HB.out.2.1 HB.out.2.2.1 HB.out.2.2.2.1⟩
end Go.Proofs.Ytmgppnepccmceaa
