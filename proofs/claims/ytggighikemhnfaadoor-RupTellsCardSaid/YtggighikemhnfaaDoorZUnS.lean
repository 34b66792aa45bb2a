/- A look at a slot, in memory. -/
import Derived.Test.YtggighikemhnfaaDoorZUnR
namespace Go.Proofs.YtggighikemhnfaaDoor.Tm
open Go.RowKit
set_option linter.unusedVariables false
def LookO (W0 w' : World) (b : Nat) (s : USt) (ls : List Int) (rb n rc : Nat) (lv : Value) : Prop := ∃ pg qv xs L, RunX W0 w' b s ls pg (.slice (some ⟨rb, 0, none⟩) n rc) qv lv xs L

/-- What a look at a slot that watches by its first answers. -/
theorem look_eq0 {s : USt} {m : Nat} {r : URow} (hr : s.rows[m]? = some r) : lookM s (2 * m) =
    if valL s.ps r.w1 = 1 then s else
    match seekM s.ps r.w1 r.rest with
    | (some y, rest) => { s with rows := s.rows.set m ⟨rest, y, r.w1, (s.heads y), r.n1⟩, heads := fun u => if u = y then ((2 * m : Nat) : Int) + 1 else s.heads u }
    | (none, _) =>
      if valL s.ps r.w1 = 0 then { s with rows := s.rows.set m { r with rest := [] }, q := sib (2 * m) :: s.q }
      else { s with rows := s.rows.set m { r with rest := [] }, conf := if s.conf = -1 ∨ (m : Int) < s.conf then (m : Int) else s.conf } := by
  unfold lookM
  rw [show (2 * m) / 2 = m by omega, hr, show (2 * m) % 2 = 0 by omega]
  rfl
set_option maxRecDepth 100000 in
set_option maxHeartbeats 8000000 in
theorem look_any0 {W0 : World} {b : Nat} {s : USt} {ls : List Int} {pg : Nat → Option Nat} {rb n rc : Nat} {qv lv : Value} {xs : List RowV} {L : List Int} (t m : Nat) (ht : t = 2 * m) (x : RowV) (w : World) (h : RunX W0 w b s ls pg (.slice (some ⟨rb, 0, none⟩) n rc) qv lv xs L) (hk : xs[m]? = some x) (hqn : s.q.length ≤ 800000) (hm : m ≤ 800000) (hI0 : I64 x.r.w1) (hrow : ∀ y ∈ x.r.rest, I64 y) :
    Calls Tryd.prog 58 #[.pointer (some ⟨b, 0, none⟩), .int .i64 t] w fun e w' => e = .returned (.tuple #[]) ∧ LookO W0 w' b (lookM s t) ls rb n rc lv := by
  obtain ⟨r0, r1, r2, r3, r4, rlt, rfz⟩ := h.rowAt hk
  obtain ⟨b0, b1, b2, b3, blt, bfz⟩ := h.box.cells
  have hmx := (List.getElem?_eq_some_iff.1 hk).1
  have hro := h.rowOf hk
  have hmn : (m : Int) < (n : Int) := by
    obtain ⟨a, c, e, h1, _⟩ := own_at h.rows
    cases e
    omega
  have hnc : n ≤ 9223372036854775807 := by
    obtain ⟨a, c, e, h1, h2, _⟩ := own_at h.rows
    cases e
    simp only [maxLen] at h2
    omega
  have hLE := look_eq0 (s := s) (m := m) hro
  rw [← ht] at hLE
  have hth : ((t : Nat) : Int) / 2 = (m : Int) := by omega
  have hta : bits .and .i64 (t : Int) 1 = 0 := by rw [i64_and1 _ ⟨by omega, by omega⟩]; omega
  have hxo : bits .xor .i64 0 1 = 1 := by rw [i64_xor1 _ ⟨by decide, by decide⟩]; decide
  have hsx : bits .xor .i64 (t : Int) 1 = ((sib t : Nat) : Int) := by
    rw [i64_xor1 _ ⟨by omega, by omega⟩]
    unfold negM sib
    split <;> split <;> omega
  have hti : (t : Int) ≤ 2000000 := by omega
  obtain ⟨v, hv⟩ : ∃ v, valL s.ps x.r.w1 = v := ⟨_, rfl⟩
  have HV : Hid (Calls Tryd.prog 39 #[.pointer (some ⟨b, 0, none⟩), .int .i64 x.r.w1] w fun e w' => e = .returned (.int .i8 v) ∧ w = w') := val_any x.r.w1 v w h hI0 hv
  rw [hv] at hLE
  have HLE := Lib.hid hLE
  have HX := Lib.hid h
  have HSk := Lib.hid (seek_any m x x.r.w1 w h hk)
  clear hLE h hmx hro
  by_cases hv1 : v = 1
  · have e1 : (v == 1) = true := eq_t hv1
    have HR : Hid (LookO W0 w b (lookM s t) ls rb n rc lv) := by
      have := HLE.out
      rw [if_pos hv1] at this
      show LookO _ _ _ _ _ _ _ _ _
      rw [this]
      exact ⟨_, _, _, _, HX.out⟩
    clear hv hv1 ht
    go_enter Tryd.func58, Tryd.ntmps58
    go_wp2_with (first | (go_at_call 39; refine HV.out.mono ?_; rintro e w1 ⟨rfl, rfl⟩))
    refine bodyPost_ret (results_none rfl _ _ _) rfl ?_
    exact ⟨rfl, HR.out⟩
  · have e1 : (v == 1) = false := eq_f hv1
    have hSk := HSk.out
    have hLE2 := HLE.out
    rw [if_neg hv1] at hLE2
    obtain ⟨E, hE⟩ : ∃ E, seekM s.ps x.r.w1 x.r.rest = E := ⟨_, rfl⟩
    rw [hE] at hSk hLE2
    obtain ⟨o, rest⟩ := E
    cases o with
    | some y =>
      obtain ⟨y1, y2, pre, y3, _⟩ := seekM_some hE
      have hym := valL_may y2
      obtain ⟨y0, y9⟩ := mayU_iff.1 hym
      obtain ⟨k, hkk⟩ : ∃ k : Nat, y / 1024 = (k : Int) := ⟨(y / 1024).toNat, by omega⟩
      obtain ⟨jj, hjj⟩ : ∃ jj : Nat, y % 1024 = (jj : Int) := ⟨(y % 1024).toNat, by omega⟩
      have hyk : y = ((1024 * k + jj : Nat) : Int) := by omega
      have hand : bits .and .i64 y 1023 = (jj : Int) := (i64_and1023 y y0 (by omega)).trans hjj
      have hjl : (jj : Int) < 1024 := by omega
      dsimp only at hSk hLE2
      have HS2 := Lib.hid hSk
      have HLE2 := Lib.hid hLE2
      have HP : Hid (∀ w1 a c, RunX W0 w1 b { s with rows := s.rows.set m { x.r with rest := rest } } ls pg (.slice (some ⟨rb, 0, none⟩) n rc) qv lv (xs.set m ⟨{ x.r with rest := rest }, a, c⟩) L → Calls Tryd.prog 63 #[.pointer (some ⟨b, 0, none⟩), .int .i64 y] w1 fun e w' => ∃ g, e = .returned (.pointer (some ⟨g, 0, none⟩)) ∧ PageO W0 w' b { s with rows := s.rows.set m { x.r with rest := rest } } ls k g (.slice (some ⟨rb, 0, none⟩) n rc) qv lv (xs.set m ⟨{ x.r with rest := rest }, a, c⟩) L) := fun w1 a c h1 => page_any y k w1 h1 hym hkk
      have HYk := Lib.hid hyk
      clear hyk
      have hxl := (List.getElem?_eq_some_iff.1 hk).1
      have HGet : Hid (∀ z : RowV, (xs.set m z)[m]? = some z) := fun z => by rw [List.getElem?_set]; simp [hxl]
      clear hLE2 hSk HSk HLE hE hv hv1 hym y0 y9 y1 y2 y3 hkk hjj ht
      go_enter Tryd.func58, Tryd.ntmps58
      go_wp2_with (first | (go_at_call 39; refine HV.out.mono ?_; rintro e w1 ⟨rfl, rfl⟩))
      with_reducible refine HS2.out.mono ?_
      rintro e w1 ⟨rfl, a, c, hX1⟩
      have HP1 := Lib.hid (HP.out _ _ _ hX1)
      clear hX1
      go_wp2_with fail
      with_reducible refine HP1.out.mono ?_
      rintro e w2 ⟨g, rfl, pg', hpg, hX2⟩
      have hc := head_cell (hX2.pages k g hpg).2.2 (by omega : jj < 1024) HYk.out
      obtain ⟨h1, h2, h3⟩ := hc
      obtain ⟨r0, r1, r2, r3, r4, rlt, rfz⟩ := hX2.rowAt (HGet.out _)
      have f1 := rfz (m * 5 + 1)
      have f2 := rfz (m * 5 + 3)
      have hgr : g ≠ rb := fun e => (hX2.rv_ne (g := rb) rfl).2.1 k g hpg e.symm
      have hgr' : rb ≠ g := fun e => hgr e.symm
      have HX2 := Lib.hid (And.intro hpg hX2)
      clear hpg hX2 rfz
      dsimp only at h1 r0 r1 r2 r3 r4
      obtain ⟨hd, hhd⟩ : ∃ hd, s.heads y = hd := ⟨_, rfl⟩
      rw [hhd] at h1
      have HHd := Lib.hid hhd
      clear hhd
      have HEnd : Hid (LookO W0 ((((w2.setCell ⟨rb, m * 5 + 1, none⟩ (.int .i64 y)).setCell ⟨rb, m * 5 + 3, none⟩ (.int .i64 hd)).drew).setCell ⟨g, 512 + jj, none⟩ (.int .i64 ((t : Int) + 1))) b (lookM s t) ls rb n rc lv) := by
        have hX := HX2.out.2
        have hI := hX.rest _ (List.mem_of_getElem? (HGet.out ⟨{ x.r with rest := rest }, a, c⟩))
        have E1 := hX.setRow (k := m) (o := 1) (x' := ⟨⟨rest, y, x.r.w1, x.r.n0, x.r.n1⟩, a, c⟩) (v := .int .i64 y) (HGet.out _) (by omega) rfl hI
        rw [List.set_set, List.set_set] at E1
        have E2 := E1.setRow (k := m) (o := 3) (x' := ⟨⟨rest, y, x.r.w1, hd, x.r.n1⟩, a, c⟩) (v := .int .i64 hd) (HGet.out _) (by omega) rfl hI
        rw [List.set_set, List.set_set] at E2
        have E4 := (E2.drewN 1).setH (z := (t : Int) + 1) HX2.out.1 (by omega) HYk.out
        refine ⟨_, _, _, _, E4.same ?_ rfl⟩
        rw [HLE2.out, ← HHd.out]
      go_wp2_with fail
      go_region
      go_wp2
      refine bodyPost_ret (results_none rfl _ _ _) rfl ?_
      exact ⟨rfl, HEnd.out⟩
    | none =>
      dsimp only at hSk hLE2
      have HS2 := Lib.hid hSk
      have HV2 : Hid (∀ w1 a c, RunX W0 w1 b { s with rows := s.rows.set m { x.r with rest := [] } } ls pg (.slice (some ⟨rb, 0, none⟩) n rc) qv lv (xs.set m ⟨{ x.r with rest := [] }, a, c⟩) L → Calls Tryd.prog 39 #[.pointer (some ⟨b, 0, none⟩), .int .i64 x.r.w1] w1 fun e w' => e = .returned (.int .i8 v) ∧ w1 = w') := fun w1 a c h1 => val_any x.r.w1 v w1 h1 hI0 hv
      have hLl : L.length ≤ 900000 := by rw [qu_len HX.out.qu]; omega
      by_cases hv0 : v = 0
      · have e2 : (v == 0) = true := eq_t hv0
        rw [if_pos hv0] at hLE2
        have HLE2 := Lib.hid hLE2
        have HPu : Hid (∀ w1 a c, RunX W0 w1 b { s with rows := s.rows.set m { x.r with rest := [] } } ls pg (.slice (some ⟨rb, 0, none⟩) n rc) qv lv (xs.set m ⟨{ x.r with rest := [] }, a, c⟩) L → Calls Tryd.prog 73 #[.iface 84 (.pointer (some ⟨b, 1026, none⟩)), .iface 3 (.int .i64 ((sib t : Nat) : Int))] w1 fun e w' => e = .returned (.tuple #[]) ∧ LookO W0 w' b (lookM s t) ls rb n rc lv) := fun w1 a c h1 => by
          refine (hPush_any W0.heap.size b pg (.slice (some ⟨rb, 0, none⟩) n rc) qv lv s.conf s.q (sib t) L w1 h1.box h1.qu (fun e => (h1.qv_ne e.symm).1 rfl) h1.bel.size hLl).mono ?_
          rintro e w' ⟨g, cap, L', rfl, hO⟩
          refine ⟨rfl, _, _, _, _, (h1.push hO).same ?_ rfl⟩
          rw [HLE2.out]
        clear hLE2 hSk HSk HLE hE hv hv0 hv1 hLl ht
        go_enter Tryd.func58, Tryd.ntmps58
        go_wp2_with (first | (go_at_call 39; with_reducible refine HV.out.mono ?_; rintro e w1 ⟨rfl, rfl⟩))
        with_reducible refine HS2.out.mono ?_
        rintro e w1 ⟨rfl, a, c, hX1⟩
        have HV3 := Lib.hid (HV2.out _ _ _ hX1)
        have HPu1 := Lib.hid (HPu.out _ _ _ hX1)
        clear hX1
        go_wp2_with fail
        with_reducible refine HV3.out.mono ?_
        rintro e w2 ⟨rfl, rfl⟩
        go_wp2_with fail
        with_reducible refine HPu1.out.mono ?_
        rintro e w3 ⟨rfl, hO⟩
        have HO := Lib.hid hO
        clear hO
        go_wp2
        refine bodyPost_ret (results_none rfl _ _ _) rfl ?_
        exact ⟨rfl, HO.out⟩
      · have e2 : (v == 0) = false := eq_f hv0
        rw [if_neg hv0] at hLE2
        have HLE2 := Lib.hid hLE2
        obtain ⟨cf, hcf⟩ : ∃ cf, s.conf = cf := ⟨_, rfl⟩
        have HCn : Hid (∀ w1 a c, RunX W0 w1 b { s with rows := s.rows.set m { x.r with rest := [] } } ls pg (.slice (some ⟨rb, 0, none⟩) n rc) qv lv (xs.set m ⟨{ x.r with rest := [] }, a, c⟩) L → (w1.cell? ⟨b, 1028, none⟩ = some (.int .i64 cf) ∧ b < w1.heap.size ∧ w1.frozen? ⟨b, 1028, none⟩ = false) ∧ ((cf = -1 ∨ (m : Int) < cf) → Hid (LookO W0 (w1.setCell ⟨b, 1028, none⟩ (.int .i64 m)) b (lookM s t) ls rb n rc lv)) ∧ (¬ (cf = -1 ∨ (m : Int) < cf) → Hid (LookO W0 w1 b (lookM s t) ls rb n rc lv))) := fun w1 a c h1 => by
          refine ⟨⟨by rw [← hcf]; exact h1.box.cells.2.2.2.1, h1.box.cells.2.2.2.2.1, h1.box.cells.2.2.2.2.2 _⟩, fun hc => ⟨_, _, _, _, (h1.setC (m : Int)).same ?_ rfl⟩, fun hc => ⟨_, _, _, _, h1.same ?_ rfl⟩⟩
          · rw [HLE2.out, if_pos (by rw [hcf]; exact hc)]
          · rw [HLE2.out, if_neg (by rw [hcf]; exact hc)]
        rw [hcf] at b3
        clear hLE2 HLE2 hSk HSk HLE hE hv hv0 hv1 hLl ht hcf
        by_cases hc1 : cf = -1
        · have c1 : (cf == -1) = true := eq_t hc1
          have HCc : Hid (cf = -1) := hc1
          clear hc1
          go_enter Tryd.func58, Tryd.ntmps58
          go_wp2_with (first | (go_at_call 39; with_reducible refine HV.out.mono ?_; rintro e w1 ⟨rfl, rfl⟩))
          with_reducible refine HS2.out.mono ?_
          rintro e w1 ⟨rfl, a, c, hX1⟩
          have HV3 := Lib.hid (HV2.out _ _ _ hX1)
          obtain ⟨⟨k1, k2, k3⟩, k4, k5⟩ := HCn.out _ _ _ hX1
          have HO := k4 (.inl HCc.out)
          clear hX1 k4 k5
          go_wp2_with fail
          with_reducible refine HV3.out.mono ?_
          rintro e w2 ⟨rfl, rfl⟩
          go_wp2
          go_end0
          exact ⟨rfl, HO.out⟩
        · have c1 : (cf == -1) = false := eq_f hc1
          by_cases hc2 : (m : Int) < cf
          · have c2 : decide ((m : Int) < cf) = true := decide_eq_true hc2
            have HCc : Hid ((m : Int) < cf) := hc2
            clear hc1 hc2
            go_enter Tryd.func58, Tryd.ntmps58
            go_wp2_with (first | (go_at_call 39; with_reducible refine HV.out.mono ?_; rintro e w1 ⟨rfl, rfl⟩))
            with_reducible refine HS2.out.mono ?_
            rintro e w1 ⟨rfl, a, c, hX1⟩
            have HV3 := Lib.hid (HV2.out _ _ _ hX1)
            obtain ⟨⟨k1, k2, k3⟩, k4, k5⟩ := HCn.out _ _ _ hX1
            have HO := k4 (.inr HCc.out)
            clear hX1 k4 k5
            go_wp2_with fail
            with_reducible refine HV3.out.mono ?_
            rintro e w2 ⟨rfl, rfl⟩
            go_wp2
            go_end0
            exact ⟨rfl, HO.out⟩
          · have c2 : decide ((m : Int) < cf) = false := decide_eq_false hc2
            have HCc : Hid (¬ (cf = -1 ∨ (m : Int) < cf)) := fun e => e.elim hc1 hc2
            clear hc1 hc2
            go_enter Tryd.func58, Tryd.ntmps58
            go_wp2_with (first | (go_at_call 39; with_reducible refine HV.out.mono ?_; rintro e w1 ⟨rfl, rfl⟩))
            with_reducible refine HS2.out.mono ?_
            rintro e w1 ⟨rfl, a, c, hX1⟩
            have HV3 := Lib.hid (HV2.out _ _ _ hX1)
            obtain ⟨⟨k1, k2, k3⟩, k4, k5⟩ := HCn.out _ _ _ hX1
            have HO := k5 HCc.out
            clear hX1 k4 k5
            go_wp2_with fail
            with_reducible refine HV3.out.mono ?_
            rintro e w2 ⟨rfl, rfl⟩
            go_wp2
            go_end0
            exact ⟨rfl, HO.out⟩

/-- What a look at a slot that watches by its second answers. -/
theorem look_eq1 {s : USt} {m : Nat} {r : URow} (hr : s.rows[m]? = some r) : lookM s (2 * m + 1) =
    if valL s.ps r.w0 = 1 then s else
    match seekM s.ps r.w0 r.rest with
    | (some y, rest) => { s with rows := s.rows.set m ⟨rest, r.w0, y, r.n0, (s.heads y)⟩, heads := fun u => if u = y then ((2 * m + 1 : Nat) : Int) + 1 else s.heads u }
    | (none, _) =>
      if valL s.ps r.w0 = 0 then { s with rows := s.rows.set m { r with rest := [] }, q := sib (2 * m + 1) :: s.q }
      else { s with rows := s.rows.set m { r with rest := [] }, conf := if s.conf = -1 ∨ (m : Int) < s.conf then (m : Int) else s.conf } := by
  unfold lookM
  rw [show (2 * m + 1) / 2 = m by omega, hr, show (2 * m + 1) % 2 = 1 by omega]
  rfl
set_option maxRecDepth 100000 in
set_option maxHeartbeats 8000000 in
theorem look_any1 {W0 : World} {b : Nat} {s : USt} {ls : List Int} {pg : Nat → Option Nat} {rb n rc : Nat} {qv lv : Value} {xs : List RowV} {L : List Int} (t m : Nat) (ht : t = 2 * m + 1) (x : RowV) (w : World) (h : RunX W0 w b s ls pg (.slice (some ⟨rb, 0, none⟩) n rc) qv lv xs L) (hk : xs[m]? = some x) (hqn : s.q.length ≤ 800000) (hm : m ≤ 800000) (hI0 : I64 x.r.w0) (hrow : ∀ y ∈ x.r.rest, I64 y) :
    Calls Tryd.prog 58 #[.pointer (some ⟨b, 0, none⟩), .int .i64 t] w fun e w' => e = .returned (.tuple #[]) ∧ LookO W0 w' b (lookM s t) ls rb n rc lv := by
  obtain ⟨r0, r1, r2, r3, r4, rlt, rfz⟩ := h.rowAt hk
  obtain ⟨b0, b1, b2, b3, blt, bfz⟩ := h.box.cells
  have hmx := (List.getElem?_eq_some_iff.1 hk).1
  have hro := h.rowOf hk
  have hmn : (m : Int) < (n : Int) := by
    obtain ⟨a, c, e, h1, _⟩ := own_at h.rows
    cases e
    omega
  have hnc : n ≤ 9223372036854775807 := by
    obtain ⟨a, c, e, h1, h2, _⟩ := own_at h.rows
    cases e
    simp only [maxLen] at h2
    omega
  have hLE := look_eq1 (s := s) (m := m) hro
  rw [← ht] at hLE
  have hth : ((t : Nat) : Int) / 2 = (m : Int) := by omega
  have hta : bits .and .i64 (t : Int) 1 = 1 := by rw [i64_and1 _ ⟨by omega, by omega⟩]; omega
  have hxo : bits .xor .i64 1 1 = 0 := by rw [i64_xor1 _ ⟨by decide, by decide⟩]; decide
  have hsx : bits .xor .i64 (t : Int) 1 = ((sib t : Nat) : Int) := by
    rw [i64_xor1 _ ⟨by omega, by omega⟩]
    unfold negM sib
    split <;> split <;> omega
  have hti : (t : Int) ≤ 2000000 := by omega
  obtain ⟨v, hv⟩ : ∃ v, valL s.ps x.r.w0 = v := ⟨_, rfl⟩
  have HV : Hid (Calls Tryd.prog 39 #[.pointer (some ⟨b, 0, none⟩), .int .i64 x.r.w0] w fun e w' => e = .returned (.int .i8 v) ∧ w = w') := val_any x.r.w0 v w h hI0 hv
  rw [hv] at hLE
  have HLE := Lib.hid hLE
  have HX := Lib.hid h
  have HSk := Lib.hid (seek_any m x x.r.w0 w h hk)
  clear hLE h hmx hro
  by_cases hv1 : v = 1
  · have e1 : (v == 1) = true := eq_t hv1
    have HR : Hid (LookO W0 w b (lookM s t) ls rb n rc lv) := by
      have := HLE.out
      rw [if_pos hv1] at this
      show LookO _ _ _ _ _ _ _ _ _
      rw [this]
      exact ⟨_, _, _, _, HX.out⟩
    clear hv hv1 ht
    go_enter Tryd.func58, Tryd.ntmps58
    go_wp2_with (first | (go_at_call 39; refine HV.out.mono ?_; rintro e w1 ⟨rfl, rfl⟩))
    refine bodyPost_ret (results_none rfl _ _ _) rfl ?_
    exact ⟨rfl, HR.out⟩
  · have e1 : (v == 1) = false := eq_f hv1
    have hSk := HSk.out
    have hLE2 := HLE.out
    rw [if_neg hv1] at hLE2
    obtain ⟨E, hE⟩ : ∃ E, seekM s.ps x.r.w0 x.r.rest = E := ⟨_, rfl⟩
    rw [hE] at hSk hLE2
    obtain ⟨o, rest⟩ := E
    cases o with
    | some y =>
      obtain ⟨y1, y2, pre, y3, _⟩ := seekM_some hE
      have hym := valL_may y2
      obtain ⟨y0, y9⟩ := mayU_iff.1 hym
      obtain ⟨k, hkk⟩ : ∃ k : Nat, y / 1024 = (k : Int) := ⟨(y / 1024).toNat, by omega⟩
      obtain ⟨jj, hjj⟩ : ∃ jj : Nat, y % 1024 = (jj : Int) := ⟨(y % 1024).toNat, by omega⟩
      have hyk : y = ((1024 * k + jj : Nat) : Int) := by omega
      have hand : bits .and .i64 y 1023 = (jj : Int) := (i64_and1023 y y0 (by omega)).trans hjj
      have hjl : (jj : Int) < 1024 := by omega
      dsimp only at hSk hLE2
      have HS2 := Lib.hid hSk
      have HLE2 := Lib.hid hLE2
      have HP : Hid (∀ w1 a c, RunX W0 w1 b { s with rows := s.rows.set m { x.r with rest := rest } } ls pg (.slice (some ⟨rb, 0, none⟩) n rc) qv lv (xs.set m ⟨{ x.r with rest := rest }, a, c⟩) L → Calls Tryd.prog 63 #[.pointer (some ⟨b, 0, none⟩), .int .i64 y] w1 fun e w' => ∃ g, e = .returned (.pointer (some ⟨g, 0, none⟩)) ∧ PageO W0 w' b { s with rows := s.rows.set m { x.r with rest := rest } } ls k g (.slice (some ⟨rb, 0, none⟩) n rc) qv lv (xs.set m ⟨{ x.r with rest := rest }, a, c⟩) L) := fun w1 a c h1 => page_any y k w1 h1 hym hkk
      have HYk := Lib.hid hyk
      clear hyk
      have hxl := (List.getElem?_eq_some_iff.1 hk).1
      have HGet : Hid (∀ z : RowV, (xs.set m z)[m]? = some z) := fun z => by rw [List.getElem?_set]; simp [hxl]
      clear hLE2 hSk HSk HLE hE hv hv1 hym y0 y9 y1 y2 y3 hkk hjj ht
      go_enter Tryd.func58, Tryd.ntmps58
      go_wp2_with (first | (go_at_call 39; refine HV.out.mono ?_; rintro e w1 ⟨rfl, rfl⟩))
      with_reducible refine HS2.out.mono ?_
      rintro e w1 ⟨rfl, a, c, hX1⟩
      have HP1 := Lib.hid (HP.out _ _ _ hX1)
      clear hX1
      go_wp2_with fail
      with_reducible refine HP1.out.mono ?_
      rintro e w2 ⟨g, rfl, pg', hpg, hX2⟩
      have hc := head_cell (hX2.pages k g hpg).2.2 (by omega : jj < 1024) HYk.out
      obtain ⟨h1, h2, h3⟩ := hc
      obtain ⟨r0, r1, r2, r3, r4, rlt, rfz⟩ := hX2.rowAt (HGet.out _)
      have f1 := rfz (m * 5 + 2)
      have f2 := rfz (m * 5 + 4)
      have hgr : g ≠ rb := fun e => (hX2.rv_ne (g := rb) rfl).2.1 k g hpg e.symm
      have hgr' : rb ≠ g := fun e => hgr e.symm
      have HX2 := Lib.hid (And.intro hpg hX2)
      clear hpg hX2 rfz
      dsimp only at h1 r0 r1 r2 r3 r4
      obtain ⟨hd, hhd⟩ : ∃ hd, s.heads y = hd := ⟨_, rfl⟩
      rw [hhd] at h1
      have HHd := Lib.hid hhd
      clear hhd
      have HEnd : Hid (LookO W0 ((((w2.setCell ⟨rb, m * 5 + 2, none⟩ (.int .i64 y)).setCell ⟨rb, m * 5 + 4, none⟩ (.int .i64 hd)).drew).setCell ⟨g, 512 + jj, none⟩ (.int .i64 ((t : Int) + 1))) b (lookM s t) ls rb n rc lv) := by
        have hX := HX2.out.2
        have hI := hX.rest _ (List.mem_of_getElem? (HGet.out ⟨{ x.r with rest := rest }, a, c⟩))
        have E1 := hX.setRow (k := m) (o := 2) (x' := ⟨⟨rest, x.r.w0, y, x.r.n0, x.r.n1⟩, a, c⟩) (v := .int .i64 y) (HGet.out _) (by omega) rfl hI
        rw [List.set_set, List.set_set] at E1
        have E2 := E1.setRow (k := m) (o := 4) (x' := ⟨⟨rest, x.r.w0, y, x.r.n0, hd⟩, a, c⟩) (v := .int .i64 hd) (HGet.out _) (by omega) rfl hI
        rw [List.set_set, List.set_set] at E2
        have E4 := (E2.drewN 1).setH (z := (t : Int) + 1) HX2.out.1 (by omega) HYk.out
        refine ⟨_, _, _, _, E4.same ?_ rfl⟩
        rw [HLE2.out, ← HHd.out]
      go_wp2_with fail
      go_region
      go_wp2
      refine bodyPost_ret (results_none rfl _ _ _) rfl ?_
      exact ⟨rfl, HEnd.out⟩
    | none =>
      dsimp only at hSk hLE2
      have HS2 := Lib.hid hSk
      have HV2 : Hid (∀ w1 a c, RunX W0 w1 b { s with rows := s.rows.set m { x.r with rest := [] } } ls pg (.slice (some ⟨rb, 0, none⟩) n rc) qv lv (xs.set m ⟨{ x.r with rest := [] }, a, c⟩) L → Calls Tryd.prog 39 #[.pointer (some ⟨b, 0, none⟩), .int .i64 x.r.w0] w1 fun e w' => e = .returned (.int .i8 v) ∧ w1 = w') := fun w1 a c h1 => val_any x.r.w0 v w1 h1 hI0 hv
      have hLl : L.length ≤ 900000 := by rw [qu_len HX.out.qu]; omega
      by_cases hv0 : v = 0
      · have e2 : (v == 0) = true := eq_t hv0
        rw [if_pos hv0] at hLE2
        have HLE2 := Lib.hid hLE2
        have HPu : Hid (∀ w1 a c, RunX W0 w1 b { s with rows := s.rows.set m { x.r with rest := [] } } ls pg (.slice (some ⟨rb, 0, none⟩) n rc) qv lv (xs.set m ⟨{ x.r with rest := [] }, a, c⟩) L → Calls Tryd.prog 73 #[.iface 84 (.pointer (some ⟨b, 1026, none⟩)), .iface 3 (.int .i64 ((sib t : Nat) : Int))] w1 fun e w' => e = .returned (.tuple #[]) ∧ LookO W0 w' b (lookM s t) ls rb n rc lv) := fun w1 a c h1 => by
          refine (hPush_any W0.heap.size b pg (.slice (some ⟨rb, 0, none⟩) n rc) qv lv s.conf s.q (sib t) L w1 h1.box h1.qu (fun e => (h1.qv_ne e.symm).1 rfl) h1.bel.size hLl).mono ?_
          rintro e w' ⟨g, cap, L', rfl, hO⟩
          refine ⟨rfl, _, _, _, _, (h1.push hO).same ?_ rfl⟩
          rw [HLE2.out]
        clear hLE2 hSk HSk HLE hE hv hv0 hv1 hLl ht
        go_enter Tryd.func58, Tryd.ntmps58
        go_wp2_with (first | (go_at_call 39; with_reducible refine HV.out.mono ?_; rintro e w1 ⟨rfl, rfl⟩))
        with_reducible refine HS2.out.mono ?_
        rintro e w1 ⟨rfl, a, c, hX1⟩
        have HV3 := Lib.hid (HV2.out _ _ _ hX1)
        have HPu1 := Lib.hid (HPu.out _ _ _ hX1)
        clear hX1
        go_wp2_with fail
        with_reducible refine HV3.out.mono ?_
        rintro e w2 ⟨rfl, rfl⟩
        go_wp2_with fail
        with_reducible refine HPu1.out.mono ?_
        rintro e w3 ⟨rfl, hO⟩
        have HO := Lib.hid hO
        clear hO
        go_wp2
        refine bodyPost_ret (results_none rfl _ _ _) rfl ?_
        exact ⟨rfl, HO.out⟩
      · have e2 : (v == 0) = false := eq_f hv0
        rw [if_neg hv0] at hLE2
        have HLE2 := Lib.hid hLE2
        obtain ⟨cf, hcf⟩ : ∃ cf, s.conf = cf := ⟨_, rfl⟩
        have HCn : Hid (∀ w1 a c, RunX W0 w1 b { s with rows := s.rows.set m { x.r with rest := [] } } ls pg (.slice (some ⟨rb, 0, none⟩) n rc) qv lv (xs.set m ⟨{ x.r with rest := [] }, a, c⟩) L → (w1.cell? ⟨b, 1028, none⟩ = some (.int .i64 cf) ∧ b < w1.heap.size ∧ w1.frozen? ⟨b, 1028, none⟩ = false) ∧ ((cf = -1 ∨ (m : Int) < cf) → Hid (LookO W0 (w1.setCell ⟨b, 1028, none⟩ (.int .i64 m)) b (lookM s t) ls rb n rc lv)) ∧ (¬ (cf = -1 ∨ (m : Int) < cf) → Hid (LookO W0 w1 b (lookM s t) ls rb n rc lv))) := fun w1 a c h1 => by
          refine ⟨⟨by rw [← hcf]; exact h1.box.cells.2.2.2.1, h1.box.cells.2.2.2.2.1, h1.box.cells.2.2.2.2.2 _⟩, fun hc => ⟨_, _, _, _, (h1.setC (m : Int)).same ?_ rfl⟩, fun hc => ⟨_, _, _, _, h1.same ?_ rfl⟩⟩
          · rw [HLE2.out, if_pos (by rw [hcf]; exact hc)]
          · rw [HLE2.out, if_neg (by rw [hcf]; exact hc)]
        rw [hcf] at b3
        clear hLE2 HLE2 hSk HSk HLE hE hv hv0 hv1 hLl ht hcf
        by_cases hc1 : cf = -1
        · have c1 : (cf == -1) = true := eq_t hc1
          have HCc : Hid (cf = -1) := hc1
          clear hc1
          go_enter Tryd.func58, Tryd.ntmps58
          go_wp2_with (first | (go_at_call 39; with_reducible refine HV.out.mono ?_; rintro e w1 ⟨rfl, rfl⟩))
          with_reducible refine HS2.out.mono ?_
          rintro e w1 ⟨rfl, a, c, hX1⟩
          have HV3 := Lib.hid (HV2.out _ _ _ hX1)
          obtain ⟨⟨k1, k2, k3⟩, k4, k5⟩ := HCn.out _ _ _ hX1
          have HO := k4 (.inl HCc.out)
          clear hX1 k4 k5
          go_wp2_with fail
          with_reducible refine HV3.out.mono ?_
          rintro e w2 ⟨rfl, rfl⟩
          go_wp2
          go_end0
          exact ⟨rfl, HO.out⟩
        · have c1 : (cf == -1) = false := eq_f hc1
          by_cases hc2 : (m : Int) < cf
          · have c2 : decide ((m : Int) < cf) = true := decide_eq_true hc2
            have HCc : Hid ((m : Int) < cf) := hc2
            clear hc1 hc2
            go_enter Tryd.func58, Tryd.ntmps58
            go_wp2_with (first | (go_at_call 39; with_reducible refine HV.out.mono ?_; rintro e w1 ⟨rfl, rfl⟩))
            with_reducible refine HS2.out.mono ?_
            rintro e w1 ⟨rfl, a, c, hX1⟩
            have HV3 := Lib.hid (HV2.out _ _ _ hX1)
            obtain ⟨⟨k1, k2, k3⟩, k4, k5⟩ := HCn.out _ _ _ hX1
            have HO := k4 (.inr HCc.out)
            clear hX1 k4 k5
            go_wp2_with fail
            with_reducible refine HV3.out.mono ?_
            rintro e w2 ⟨rfl, rfl⟩
            go_wp2
            go_end0
            exact ⟨rfl, HO.out⟩
          · have c2 : decide ((m : Int) < cf) = false := decide_eq_false hc2
            have HCc : Hid (¬ (cf = -1 ∨ (m : Int) < cf)) := fun e => e.elim hc1 hc2
            clear hc1 hc2
            go_enter Tryd.func58, Tryd.ntmps58
            go_wp2_with (first | (go_at_call 39; with_reducible refine HV.out.mono ?_; rintro e w1 ⟨rfl, rfl⟩))
            with_reducible refine HS2.out.mono ?_
            rintro e w1 ⟨rfl, a, c, hX1⟩
            have HV3 := Lib.hid (HV2.out _ _ _ hX1)
            obtain ⟨⟨k1, k2, k3⟩, k4, k5⟩ := HCn.out _ _ _ hX1
            have HO := k5 HCc.out
            clear hX1 k4 k5
            go_wp2_with fail
            with_reducible refine HV3.out.mono ?_
            rintro e w2 ⟨rfl, rfl⟩
            go_wp2
            go_end0
            exact ⟨rfl, HO.out⟩
end Go.Proofs.YtggighikemhnfaaDoor.Tm
