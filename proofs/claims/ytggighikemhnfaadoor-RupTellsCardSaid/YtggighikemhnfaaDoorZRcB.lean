/- sort.Search and rup's least. -/
import Derived.Test.YtggighikemhnfaaDoorZRcA
namespace Go.Proofs.YtggighikemhnfaaDoor.Tm
open Go.RowKit
set_option linter.unusedVariables false
/-- A closure of a number and boxes that tells p, in whatever world that is no less than V. -/
def TellsP (f : Nat) (lb : Array Value) (p : Nat → Bool) (n : Nat) (V : World) : Prop := ∀ W, Below V.heap.size V W → ∀ k : Nat, k ≤ n → Calls Tryd.prog f (#[.int .i64 k] ++ lb) W fun e w' => e = .returned (.bool (p k)) ∧ Below W.heap.size W w'
theorem TellsP.below {f : Nat} {lb : Array Value} {p : Nat → Bool} {n : Nat} {V W : World} (h : TellsP f lb p n V) (hb : Below V.heap.size V W) : TellsP f lb p n W := fun U hU k hk => h U (ball hb hU) k hk
set_option maxRecDepth 100000 in
theorem Search_any (n : Nat) (p : Nat → Bool) (b1 b2 : Nat) (V : World) (hn : n ≤ 100000) (hp : TellsP 71 #[.pointer (some ⟨b1, 0, none⟩), .pointer (some ⟨b2, 0, none⟩)] p n V) (hmono : ∀ i j, i ≤ j → j ≤ n → p i = true → p j = true) :
    Calls Tryd.prog 70 #[.int .i64 n, .func (.func 71) #[] #[.pointer (some ⟨b1, 0, none⟩), .pointer (some ⟨b2, 0, none⟩)]] V fun e w' => (∃ m : Nat, e = .returned (.int .i64 m) ∧ m ≤ n ∧ (∀ k, k < m → p k = false) ∧ (m < n → p m = true)) ∧ Below V.heap.size V w' := by
  have HP : Hid (∀ W, Below V.heap.size V W → ∀ k : Nat, k ≤ n → Calls Tryd.prog 71 #[.int .i64 k, .pointer (some ⟨b1, 0, none⟩), .pointer (some ⟨b2, 0, none⟩)] W fun e w' => e = .returned (.bool (p k)) ∧ Below W.heap.size W w') := fun W hW k hk => hp W hW k hk
  have HM := Lib.hid hmono
  have H0 : Hid ((∀ k, k < 0 → p k = false) ∧ (n < n → p n = true) ∧ Below V.heap.size V V) := ⟨fun k h => absurd h (by omega), fun h => absurd h (by omega), Below.refl _ _⟩
  clear hp hmono
  go_enter Tryd.func70, Tryd.ntmps70
  go_wp2
  go_loopw [5, 6] (fun iv jv wr => ∃ i j : Nat, i ≤ j ∧ j ≤ n ∧ iv = .int .i64 i ∧ jv = .int .i64 j ∧ Hid ((∀ k, k < i → p k = false) ∧ (j < n → p j = true) ∧ Below V.heap.size V wr)) (fun iv jv _ => (intOf jv).toNat - (intOf iv).toNat)
  case atStart => exact ⟨0, n, Nat.zero_le _, Nat.le_refl _, rfl, rfl, H0⟩
  case round =>
    clear H0
    obtain ⟨i, j, hij, hjn, rfl, rfl, HI⟩ := hrel
    by_cases hlt : i < j
    · have hlt2 : (i : Int) < (j : Int) := by omega
      have hs1 : (0 : Int) ≤ (i : Int) + (j : Int) := by omega
      have hs2 : (i : Int) + (j : Int) ≤ 200000 := by omega
      obtain ⟨h, hh⟩ : ∃ h, (i + j) / 2 = h := ⟨_, rfl⟩
      have hi1 : i ≤ h := by omega
      have hi2 : h < j := by omega
      have hsh : ((i : Int) + (j : Int)) / 2 = (h : Int) := by omega
      have HC := HP.out wr HI.out.2.2 h (by omega)
      obtain ⟨q, hq⟩ : ∃ q, p h = q := ⟨_, rfl⟩
      rw [hq] at HC
      have HQ := Lib.hid hq
      have HC1 := Lib.hid HC
      have HSh := Lib.hid hsh
      clear HC hq hh hsh
      go_wp2_with fail
      rw [HSh.out]
      with_reducible refine HC1.out.mono ?_
      rintro e w1 ⟨rfl, hb⟩
      have HB1 : Hid (Below V.heap.size V w1) := ball HI.out.2.2 hb
      clear hb
      cases q with
      | false =>
        have HN : Hid ((∀ k, k < h + 1 → p k = false) ∧ (j < n → p j = true) ∧ Below V.heap.size V w1) := by
          refine ⟨fun k hk => ?_, HI.out.2.1, HB1.out⟩
          cases hpk : p k with
          | false => rfl
          | true =>
            have := HM.out k h (by omega) (by omega) hpk
            rw [HQ.out] at this
            cases this
        go_wp2_with fail
        go_roundw
        case rel => exact ⟨h + 1, j, by omega, hjn, by go_num, rfl, HN⟩
        case measure => simp [intOf]; omega
      | true =>
        have HN : Hid ((∀ k, k < i → p k = false) ∧ (h < n → p h = true) ∧ Below V.heap.size V w1) := ⟨HI.out.1, fun _ => HQ.out, HB1.out⟩
        go_wp2_with fail
        go_roundw
        case rel => exact ⟨i, h, hi1, by omega, rfl, rfl, HN⟩
        case measure => simp [intOf]; omega
    · obtain rfl : i = j := by omega
      go_wp2
      go_ret
      exact ⟨⟨i, rfl, hjn, HI.out.1, HI.out.2.1⟩, HI.out.2.2⟩
theorem i64_keep {x : Int} (h1 : -100000 ≤ x) (h2 : x ≤ 100000) : IntKind.i64.wrap x = x := by
  simp [IntKind.wrap, IntKind.signed, IntKind.bits]
  omega
theorem lst1_any (b1 b2 low k : Nat) (x y z : Nat) (W : World) (q : Bool) (c1 : W.cell? ⟨b1, 0, none⟩ = some (.func (.func 53) #[] #[.pointer (some ⟨x, 0, none⟩), .pointer (some ⟨y, 0, none⟩), .pointer (some ⟨z, 0, none⟩)])) (c2 : W.cell? ⟨b2, 0, none⟩ = some (.int .i64 (low : Int))) (hk : low + k ≤ 20000)
    (h : Calls Tryd.prog 53 #[.int .i64 ((low + k : Nat) : Int), .pointer (some ⟨x, 0, none⟩), .pointer (some ⟨y, 0, none⟩), .pointer (some ⟨z, 0, none⟩)] W fun e w' => e = .returned (.bool q) ∧ Below W.heap.size W w') :
    Calls Tryd.prog 71 #[.int .i64 (k : Int), .pointer (some ⟨b1, 0, none⟩), .pointer (some ⟨b2, 0, none⟩)] W fun e w' => e = .returned (.bool q) ∧ Below W.heap.size W w' := by
  rw [show ((low + k : Nat) : Int) = (low : Int) + (k : Int) by omega] at h
  have H := Lib.hid h
  have z1 := World.block_lt_of_cell? W _ c1
  have z2 := World.block_lt_of_cell? W _ c2
  dsimp only at z1 z2
  have hs1 : (0 : Int) ≤ (low : Int) + (k : Int) := by omega
  have hs2 : (low : Int) + (k : Int) ≤ 20000 := by omega
  clear h
  go_enter Tryd.func71, Tryd.ntmps71
  go_wp2_with fail
  with_reducible refine H.out.mono ?_
  rintro e w1 ⟨rfl, hb⟩
  have HB := Lib.hid hb
  clear hb
  go_wp2_with fail
  go_ret
  exact ⟨rfl, HB.out⟩
set_option maxRecDepth 100000 in
set_option maxHeartbeats 1000000 in
theorem least_any (n : Nat) (p : Nat → Bool) (x y z : Nat) (V : World) (hn : n ≤ 10000) (hp : TellsP 53 #[.pointer (some ⟨x, 0, none⟩), .pointer (some ⟨y, 0, none⟩), .pointer (some ⟨z, 0, none⟩)] p n V) (hmono : ∀ i j, i ≤ j → j ≤ n → p i = true → p j = true) (hpn : p n = true) :
    Calls Tryd.prog 55 #[.int .i64 n, .func (.func 53) #[] #[.pointer (some ⟨x, 0, none⟩), .pointer (some ⟨y, 0, none⟩), .pointer (some ⟨z, 0, none⟩)]] V fun e w' => (∃ m : Nat, e = .returned (.int .i64 m) ∧ m ≤ n ∧ p m = true ∧ ∀ k, k < m → p k = false) ∧ Below V.heap.size V w' := by
  obtain ⟨V1, hV1⟩ : ∃ V1, V.alloc (.cells #[.func (.func 53) #[] #[.pointer (some ⟨x, 0, none⟩), .pointer (some ⟨y, 0, none⟩), .pointer (some ⟨z, 0, none⟩)]] 62) = V1 := ⟨_, rfl⟩
  have hb1 : Below V.heap.size V V1 := by rw [← hV1]; exact (Below.refl _ V).alloc (Nat.le_refl _) _
  have e1 : V1.heap[V.heap.size]? = some (.cells #[.func (.func 53) #[] #[.pointer (some ⟨x, 0, none⟩), .pointer (some ⟨y, 0, none⟩), .pointer (some ⟨z, 0, none⟩)]] 62 (0, 0)) := by rw [← hV1]; exact heap_alloc_new V _
  have HP : Hid (∀ W, Below V1.heap.size V1 W → ∀ k : Nat, k ≤ n → Calls Tryd.prog 53 #[.int .i64 k, .pointer (some ⟨x, 0, none⟩), .pointer (some ⟨y, 0, none⟩), .pointer (some ⟨z, 0, none⟩)] W fun e w' => e = .returned (.bool (p k)) ∧ Below W.heap.size W w') := fun W hW k hk => hp W (ball hb1 hW) k hk
  have HBx : Hid (∀ W, Below V1.heap.size V1 W → W.cell? ⟨V.heap.size, 0, none⟩ = some (.func (.func 53) #[] #[.pointer (some ⟨x, 0, none⟩), .pointer (some ⟨y, 0, none⟩), .pointer (some ⟨z, 0, none⟩)]) ∧ V.heap.size < W.heap.size) := fun W hW => by
    have e := (hW.block _ (Array.getElem?_eq_some_iff.1 e1).1).trans e1
    exact ⟨(cell_of_row _ _ 0 _ _ _ e).trans rfl, (Array.getElem?_eq_some_iff.1 e).1⟩
  have HM := Lib.hid hmono
  have HBv : Hid (∀ W, Below V1.heap.size V1 W → Below V.heap.size V W) := fun W hW => ball hb1 hW
  have H0 : Hid (p n = true ∧ Below V1.heap.size V1 V1) := ⟨hpn, Below.refl _ _⟩
  have HV1 := Lib.hid hV1
  clear hp hmono hpn hb1 e1 hV1
  go_enter Tryd.func55, Tryd.ntmps55
  go_wp2
  rw [HV1.out]
  go_loopw [0, 5] (fun mv sv wr => ∃ m s : Nat, m ≤ n ∧ 1 ≤ s ∧ s ≤ 20001 ∧ mv = .int .i64 m ∧ sv = .int .i64 s ∧ Hid (p m = true ∧ Below V1.heap.size V1 wr)) (fun mv _ _ => (intOf mv).toNat)
  case atStart => exact ⟨n, 1, Nat.le_refl _, Nat.le_refl _, by omega, rfl, rfl, H0⟩
  case round =>
    clear H0
    obtain ⟨m, s, hmn, hs1, hs2, rfl, rfl, HI⟩ := hrel
    obtain ⟨c0, z0⟩ := HBx.out _ HI.out.2
    by_cases hsm : s ≤ m
    · have d0 : decide ((s : Int) ≤ (m : Int)) = true := decide_eq_true (by omega)
      obtain ⟨q, hq⟩ : ∃ q, p (m - s) = q := ⟨_, rfl⟩
      have HC := HP.out _ HI.out.2 (m - s) (by omega)
      rw [hq, show ((m - s : Nat) : Int) = (m : Int) - (s : Int) by omega] at HC
      have HQ := Lib.hid hq
      have HC1 := Lib.hid HC
      have hms : (0 : Int) ≤ (m : Int) - (s : Int) := by omega
      clear HC hq
      go_wp2_with fail
      with_reducible refine HC1.out.mono ?_
      rintro e w1 ⟨rfl, hb⟩
      have HB1 : Hid (Below V1.heap.size V1 w1) := ball HI.out.2 hb
      clear hb
      cases q with
      | true =>
        have HN : Hid (p (m - s) = true ∧ Below V1.heap.size V1 w1) := ⟨HQ.out, HB1.out⟩
        go_wp2_with fail
        go_roundw
        case rel => exact ⟨m - s, s * 2, by omega, by omega, by omega, by rw [show ((m - s : Nat) : Int) = (m : Int) - (s : Int) by omega], by rw [show ((s * 2 : Nat) : Int) = (s : Int) * 2 by omega], HN⟩
        case measure => simp [intOf]; omega
      | false =>
        obtain ⟨c1, z1⟩ := HBx.out _ HB1.out
        obtain ⟨low, hlow⟩ : ∃ low, m - s + 1 = low := ⟨_, rfl⟩
        have hlm : low ≤ m := by omega
        have HLw : Hid (max 0 ((m : Int) - (s : Int) + 1) = (low : Int)) := by show _ = _; omega
        have HPm : Hid (p m = true) := HI.out.1
        have HLo : Hid (∀ k, k < low → p k = false) := fun k hk => by
          cases hpk : p k with
          | false => rfl
          | true =>
            have := HM.out k (m - s) (by omega) (by omega) hpk
            rw [HQ.out] at this
            cases this
        have HBU : Hid (Below V1.heap.size V1 w1) := HB1.out
        clear hlow
        go_wp2_with fail
        rw [HLw.out]
        have HS9 : Hid (∀ W, Below (w1.alloc (.cells #[.int .i64 (low : Int)] 3)).heap.size (w1.alloc (.cells #[.int .i64 (low : Int)] 3)) W → W.cell? ⟨w1.heap.size, 0, none⟩ = some (.int .i64 (low : Int)) ∧ w1.heap.size < W.heap.size) := fun W hW => by
          have e := (hW.block _ (by simp)).trans (heap_alloc_new w1 (.cells #[.int .i64 (low : Int)] 3))
          exact ⟨(cell_of_row _ _ 0 _ _ _ e).trans rfl, (Array.getElem?_eq_some_iff.1 e).1⟩
        have HB9 : Hid (Below V1.heap.size V1 (w1.alloc (.cells #[.int .i64 (low : Int)] 3))) := HBU.out.alloc HBU.out.size _
        have HSe := Lib.hid (Search_any (m - low) (fun j => p (low + j)) V.heap.size w1.heap.size (w1.alloc (.cells #[.int .i64 (low : Int)] 3)).drew (by omega) (fun W hW k hk => by
          have hW1 : Below (w1.alloc (.cells #[.int .i64 (low : Int)] 3)).heap.size (w1.alloc (.cells #[.int .i64 (low : Int)] 3)) W := ((Below.refl _ _).drew).trans hW
          exact lst1_any V.heap.size w1.heap.size low k x y z W (p (low + k)) (HBx.out W (ball HB9.out hW1)).1 (HS9.out W hW1).1 (by omega) (HP.out W (ball HB9.out hW1) (low + k) (by omega))) (fun i j h1 h2 h3 => HM.out _ _ (by omega) (by omega) h3))
        have hml : (0 : Int) ≤ (m : Int) - (low : Int) := by omega
        have hmu : (m : Int) - (low : Int) ≤ 20000 := by omega
        have hw3 : IntKind.i64.wrap ((m : Int) - (low : Int)) = (m : Int) - (low : Int) := i64_keep (by omega) (by omega)
        rw [show ((m - low : Nat) : Int) = (m : Int) - (low : Int) by omega] at HSe
        refine wp_region_held_drew (S := fun W => W.cell? ⟨w1.heap.size, 0, none⟩ = some (.int .i64 (low : Int)) ∧ w1.heap.size < W.heap.size) (by kernel_rfl) (HS9.out _ (Below.refl _ _).drew) (fun hHeld => ?_)
        refine tkY 0 (.int .i64 (low : Int)) ?_
        try simp only [kP, kA, kZ, kS]
        refine tkY 1 (.int .i64 (m : Int)) ?_
        try simp only [kP, kA, kZ, kS]
        refine tkY 2 (.int .i64 (low : Int)) ?_
        try simp only [kP, kA, kZ, kS]
        refine tkY 3 (.int .i64 ((m : Int) - (low : Int))) ?_
        try simp only [kP, kA, kZ, kS]
        refine tkY 4 (.func (.func 71) #[] #[.pointer (some ⟨V.heap.size, 0, none⟩), .pointer (some ⟨w1.heap.size, 0, none⟩)]) ?_
        try simp only [kP, kA, kZ, kS]
        refine wpAnyH_ready (rs := [5]) (by kernel_rfl) (by simp) ?_
        refine AllReadyH.cons (o := { dst := some 32, op := Op.call { callee := Callee.value (Operand.func 70), args := #[Operand.tmp 30, Operand.tmp 31], argTypes := #[3, 62] }, type := 3, pos := "rup.go:71", after := #[{ on := 3, ground := Ground.data }, { on := 4, ground := Ground.data }], guard := none }) rfl (fun K hK => ?_) AllReadyH.nil
        go_simp
        go_at_call 70
        with_reducible refine HSe.out.mono ?_
        rintro e w8 ⟨⟨j, rfl, hj1, hj2, hj3⟩, hb8⟩
        have HJ : Hid (p (low + j) = true ∧ ∀ k, k < low + j → p k = false) := by
          refine ⟨?_, fun k hk => ?_⟩
          · by_cases e : j < m - low
            · exact hj3 e
            · have e2 : low + j = m := by omega
              rw [e2]; exact HPm.out
          · by_cases e : k < low
            · exact HLo.out k e
            · have := hj2 (k - low) (by omega)
              rw [show low + (k - low) = k by omega] at this
              exact this
        have HB8 : Hid (Below (w1.alloc (.cells #[.int .i64 (low : Int)] 3)).heap.size (w1.alloc (.cells #[.int .i64 (low : Int)] 3)) w8) := ((Below.refl _ _).drew).trans hb8
        clear hj2 hj3 hb8
        have hlj : (0 : Int) ≤ (low : Int) + (j : Int) := by omega
        have hlu : (low : Int) + (j : Int) ≤ 20000 := by omega
        have hw6 : IntKind.i64.wrap ((low : Int) + (j : Int)) = (low : Int) + (j : Int) := i64_keep (by omega) (by omega)
        go_wp2_with fail
        refine hK.out _ _ ?_ (fun hHeld => ?_)
        · exact HS9.out _ HB8.out
        clear hK K
        try simp only [kP, kA, kZ, kS]
        refine tkY 6 (.int .i64 ((low : Int) + (j : Int))) ?_
        try simp only [kP, kA, kZ, kS]
        refine tkY 7 (.int .i64 ((low : Int) + (j : Int))) ?_
        try simp only [kP, kA, kZ, kS]
        refine wpAnyH_done (by kernel_rfl) ?_ _
        clear hHeld
        go_wp2_with fail
        go_ret
        exact ⟨⟨low + j, by rw [show ((low + j : Nat) : Int) = (low : Int) + (j : Int) by omega]; rfl, by omega, HJ.out⟩, HBv.out _ (ball HB9.out HB8.out)⟩
    · have d0 : decide ((s : Int) ≤ (m : Int)) = false := decide_eq_false (by omega)
      obtain ⟨low, hlow⟩ : ∃ low, 0 = low := ⟨_, rfl⟩
      have hlm : low ≤ m := by omega
      have HLw : Hid (max 0 ((m : Int) - (s : Int) + 1) = (low : Int)) := by show _ = _; omega
      have HPm : Hid (p m = true) := HI.out.1
      have HLo : Hid (∀ k, k < low → p k = false) := fun k hk => by omega
      have HBU : Hid (Below V1.heap.size V1 wr) := HI.out.2
      have hm1 : (m : Int) - (s : Int) + 1 ≤ 20000 := by omega
      have hm2 : -20001 ≤ (m : Int) - (s : Int) := by omega
      clear hlow
      go_wp2_with fail
      rw [HLw.out]
      have HS9 : Hid (∀ W, Below (wr.alloc (.cells #[.int .i64 (low : Int)] 3)).heap.size (wr.alloc (.cells #[.int .i64 (low : Int)] 3)) W → W.cell? ⟨wr.heap.size, 0, none⟩ = some (.int .i64 (low : Int)) ∧ wr.heap.size < W.heap.size) := fun W hW => by
        have e := (hW.block _ (by simp)).trans (heap_alloc_new wr (.cells #[.int .i64 (low : Int)] 3))
        exact ⟨(cell_of_row _ _ 0 _ _ _ e).trans rfl, (Array.getElem?_eq_some_iff.1 e).1⟩
      have HB9 : Hid (Below V1.heap.size V1 (wr.alloc (.cells #[.int .i64 (low : Int)] 3))) := HBU.out.alloc HBU.out.size _
      have HSe := Lib.hid (Search_any (m - low) (fun j => p (low + j)) V.heap.size wr.heap.size (wr.alloc (.cells #[.int .i64 (low : Int)] 3)).drew (by omega) (fun W hW k hk => by
        have hW1 : Below (wr.alloc (.cells #[.int .i64 (low : Int)] 3)).heap.size (wr.alloc (.cells #[.int .i64 (low : Int)] 3)) W := ((Below.refl _ _).drew).trans hW
        exact lst1_any V.heap.size wr.heap.size low k x y z W (p (low + k)) (HBx.out W (ball HB9.out hW1)).1 (HS9.out W hW1).1 (by omega) (HP.out W (ball HB9.out hW1) (low + k) (by omega))) (fun i j h1 h2 h3 => HM.out _ _ (by omega) (by omega) h3))
      have hml : (0 : Int) ≤ (m : Int) - (low : Int) := by omega
      have hmu : (m : Int) - (low : Int) ≤ 20000 := by omega
      have hw3 : IntKind.i64.wrap ((m : Int) - (low : Int)) = (m : Int) - (low : Int) := i64_keep (by omega) (by omega)
      rw [show ((m - low : Nat) : Int) = (m : Int) - (low : Int) by omega] at HSe
      refine wp_region_held_drew (S := fun W => W.cell? ⟨wr.heap.size, 0, none⟩ = some (.int .i64 (low : Int)) ∧ wr.heap.size < W.heap.size) (by kernel_rfl) (HS9.out _ (Below.refl _ _).drew) (fun hHeld => ?_)
      refine tkY 0 (.int .i64 (low : Int)) ?_
      try simp only [kP, kA, kZ, kS]
      refine tkY 1 (.int .i64 (m : Int)) ?_
      try simp only [kP, kA, kZ, kS]
      refine tkY 2 (.int .i64 (low : Int)) ?_
      try simp only [kP, kA, kZ, kS]
      refine tkY 3 (.int .i64 ((m : Int) - (low : Int))) ?_
      try simp only [kP, kA, kZ, kS]
      refine tkY 4 (.func (.func 71) #[] #[.pointer (some ⟨V.heap.size, 0, none⟩), .pointer (some ⟨wr.heap.size, 0, none⟩)]) ?_
      try simp only [kP, kA, kZ, kS]
      refine wpAnyH_ready (rs := [5]) (by kernel_rfl) (by simp) ?_
      refine AllReadyH.cons (o := { dst := some 32, op := Op.call { callee := Callee.value (Operand.func 70), args := #[Operand.tmp 30, Operand.tmp 31], argTypes := #[3, 62] }, type := 3, pos := "rup.go:71", after := #[{ on := 3, ground := Ground.data }, { on := 4, ground := Ground.data }], guard := none }) rfl (fun K hK => ?_) AllReadyH.nil
      go_simp
      go_at_call 70
      with_reducible refine HSe.out.mono ?_
      rintro e w8 ⟨⟨j, rfl, hj1, hj2, hj3⟩, hb8⟩
      have HJ : Hid (p (low + j) = true ∧ ∀ k, k < low + j → p k = false) := by
        refine ⟨?_, fun k hk => ?_⟩
        · by_cases e : j < m - low
          · exact hj3 e
          · have e2 : low + j = m := by omega
            rw [e2]; exact HPm.out
        · by_cases e : k < low
          · exact HLo.out k e
          · have := hj2 (k - low) (by omega)
            rw [show low + (k - low) = k by omega] at this
            exact this
      have HB8 : Hid (Below (wr.alloc (.cells #[.int .i64 (low : Int)] 3)).heap.size (wr.alloc (.cells #[.int .i64 (low : Int)] 3)) w8) := ((Below.refl _ _).drew).trans hb8
      clear hj2 hj3 hb8
      have hlj : (0 : Int) ≤ (low : Int) + (j : Int) := by omega
      have hlu : (low : Int) + (j : Int) ≤ 20000 := by omega
      have hw6 : IntKind.i64.wrap ((low : Int) + (j : Int)) = (low : Int) + (j : Int) := i64_keep (by omega) (by omega)
      go_wp2_with fail
      refine hK.out _ _ ?_ (fun hHeld => ?_)
      · exact HS9.out _ HB8.out
      clear hK K
      try simp only [kP, kA, kZ, kS]
      refine tkY 6 (.int .i64 ((low : Int) + (j : Int))) ?_
      try simp only [kP, kA, kZ, kS]
      refine tkY 7 (.int .i64 ((low : Int) + (j : Int))) ?_
      try simp only [kP, kA, kZ, kS]
      refine wpAnyH_done (by kernel_rfl) ?_ _
      clear hHeld
      go_wp2_with fail
      go_ret
      exact ⟨⟨low + j, by rw [show ((low + j : Nat) : Int) = (low : Int) + (j : Int) by omega]; rfl, by omega, HJ.out⟩, HBv.out _ (ball HB9.out HB8.out)⟩
end Go.Proofs.YtggighikemhnfaaDoor.Tm
