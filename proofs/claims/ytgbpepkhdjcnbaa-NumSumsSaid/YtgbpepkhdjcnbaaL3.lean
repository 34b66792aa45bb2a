/- A sum is no less than that of a part, and signs and order make no difference: the walk of the law. -/
import Derived.Test.YtgbpepkhdjcnbaaNumLaws
import Derived.OwnWalk
namespace Go.Proofs.Ytgbpepkhdjcnbaa
open Go.RowKit
/-- The numbers with their signs turned, the last one first. -/
def turnedL (l : List Int) : List Int := (l.map (fun x => -x)).reverse
theorem turnedL_succ (xs : List Int) (k : Nat) (h : k < xs.length) : turnedL (xs.take (k + 1)) = [-xs[k]] ++ turnedL (xs.take k) := by
  unfold turnedL; rw [List.take_succ_eq_append_getElem h, List.map_append, List.reverse_append]; rfl
theorem turnedL_length (l : List Int) : (turnedL l).length = l.length := by simp [turnedL]
theorem abs1_turn (n : Int) : abs1 (-n) = abs1 n := by unfold abs1; split <;> split <;> omega
theorem sumA_turned (l : List Int) : sumA (turnedL l) = sumA l := by
  unfold turnedL
  induction l with
  | nil => rfl
  | cons n l ih => simp only [List.map_cons, List.reverse_cons, sumA_append, ih, sumA, abs1_turn]; omega
theorem mayB_turn (n : Int) : mayB (-n) = mayB n := by rw [Bool.eq_iff_iff, mayB_true, mayB_true]; omega
theorem all_turned (l : List Int) : (turnedL l).all mayB = l.all mayB := by
  unfold turnedL
  induction l with
  | nil => rfl
  | cons n l ih => simp only [List.map_cons, List.reverse_cons, List.all_append, ih, List.all_cons, List.all_nil, mayB_turn, Bool.and_true]; exact Bool.and_comm _ _
theorem sumOk_turned (m : Int) (l : List Int) : sumOk m (turnedL l) = sumOk m l := by unfold sumOk; rw [sumA_turned, all_turned]
theorem sumOk_part {m : Int} {l : List Int} (h : sumOk m l = true) (k : Nat) : sumOk m (l.take k) = true := by
  unfold sumOk at h ⊢
  simp only [Bool.and_eq_true, decide_eq_true_eq] at h ⊢
  refine ⟨?_, Int.le_trans (sumA_take_le l k) h.2⟩
  rw [List.all_eq_true] at h ⊢
  exact fun x hx => h.1 x (List.mem_of_mem_take hx)
theorem Sum_yes (A : Option Addr) (n c : Nat) (xs : List Int) (most v : Int) (w : World) (hl : xs.length = n) (hn : xs.length ≤ 9223372036854775807) (hx : ∀ x ∈ xs, I64 x) (hI : IntsAt w w.heap.size A xs) (h : sumOk most xs = true) (hv : sumA xs = v) :
    Calls Try.prog 17 #[.slice A n c, .int .i64 most] w fun e w' => e = .returned (.tuple #[.int .i64 v, .bool true]) ∧ Below w.heap.size w w' := by
  have := Sum_any A c xs most w hn hx hI
  rw [sumV_yes h, h, hv, hl] at this
  exact this
theorem Sum_no (A : Option Addr) (n c : Nat) (xs : List Int) (most : Int) (w : World) (hl : xs.length = n) (hn : xs.length ≤ 9223372036854775807) (hx : ∀ x ∈ xs, I64 x) (hI : IntsAt w w.heap.size A xs) (h : sumOk most xs = false) :
    Calls Try.prog 17 #[.slice A n c, .int .i64 most] w fun e w' => e = .returned (.tuple #[.int .i64 0, .bool false]) ∧ Below w.heap.size w w' := by
  have := Sum_any A c xs most w hn hx hI
  rw [sumV_no h, h, hl] at this
  exact this
theorem Sum_len (A : Option Addr) (n c : Nat) (xs : List Int) (most : Int) (w : World) (hl : xs.length = n) (hn : xs.length ≤ 9223372036854775807) (hx : ∀ x ∈ xs, I64 x) (hI : IntsAt w w.heap.size A xs) :
    Calls Try.prog 17 #[.slice A n c, .int .i64 most] w fun e w' => e = .returned (.tuple #[.int .i64 (sumV most xs), .bool (sumOk most xs)]) ∧ Below w.heap.size w w' := by
  have := Sum_any A c xs most w hn hx hI
  rw [hl] at this
  exact this
theorem own_below {w w' : World} {base : Nat} {e : TypeId} {size n : Nat} {v : Value} {xs : List Value} (h : w.ownsRow base e size v n xs) (hb : Below w.heap.size w w') : w'.ownsRow base e size v n xs :=
  h.kept (row := none) ⟨hb.os, hb.tape, hb.output, hb.size, fun i hi _ => hb.block i hi⟩ (Decidable.em _)
theorem own_ints {w : World} {base n g c : Nat} {e : TypeId} {xs : List Int} (h : w.ownsRow base e 1 (.slice (some ⟨g, 0, none⟩) n c) n (xs.map (Value.int .i64))) : IntsAt w w.heap.size (some ⟨g, 0, none⟩) xs := by
  intro _
  refine ⟨g, 0, rfl, (h.lt g rfl).2, fun j hj => ?_⟩
  have := h.cells rfl j (.int .i64 xs[j]) (by simp [hj])
  rw [Go.WideShapes.add_plain] at this
  exact this
theorem info_int : (Try.prog.info? 3).map (fun i => (i.zero, i.size, i.bytes)) = some (some (.int .i64 0), 1, 8) := by kernel_rfl
set_option maxHeartbeats 800000 in
theorem NumSums_walk (A : Option Addr) (c : Nat) (xs : List Int) (most : Int) (w : World) (hx : ∀ x ∈ xs, I64 x) (hn : xs.length ≤ 9223372036854775807) (hcap : xs.length ≤ c) (hI : IntsAt w w.heap.size A xs) :
    Calls Try.prog 6 #[.slice A xs.length c, .int .i64 most] w fun e w' => e = .returned (.bool true) ∧ Below w.heap.size w w' := by
  by_cases h1 : 200 < xs.length
  · go_enter Try.func6, Try.ntmps6
    go_wp2_with (go_at_call 8; refine (wakes_any _).mono ?_; rintro e w1 ⟨rfl, hb1⟩)
    go_ret
    exact ⟨rfl, hb1⟩
  · obtain ⟨i0, hi, hz0, hz1, hz2⟩ := info_parts info_int
    have HX := Lib.hid hx
    have HI := Lib.hid hI
    clear hx hI
    go_enter Try.func6, Try.ntmps6
    go_wp2_with fail
    go_loopw [5, 19] (fun v i wr => ∃ k : Nat, k ≤ xs.length ∧ i = .int .i64 k ∧ (k = 0 ∧ v = .slice none 0 0 ∨ 0 < k ∧ ∃ g cap, v = .slice (some ⟨g, 0, none⟩) k cap) ∧ wr.ownsRow w.heap.size 3 1 v k ((turnedL (xs.take k)).map (Value.int .i64)) ∧ Hid ((xs.take k).all mayB = true) ∧ Below w.heap.size w wr) (fun _ i _ => xs.length - (intOf i).toNat)
    case atStart => exact ⟨0, Nat.zero_le _, rfl, .inl ⟨rfl, rfl⟩, by simpa [turnedL] using World.ownsRow_nil _ _ _ _, by show _ = _; simp, Below.refl _ _⟩
    case round =>
      obtain ⟨k, hk, rfl, hv, hown, HA, hbel⟩ := hrel
      by_cases hlt : k < xs.length
      · obtain ⟨b, o, rfl, hbB, hc⟩ := (HI.out.below hbel) (by omega)
        have hck := hc k hlt
        have hxx := HX.out _ (List.getElem_mem hlt)
        clear hc
        cases hmay : mayB xs[k] with
        | false =>
          have HY := Lib.hid hmay
          have HXX := Lib.hid hxx
          clear hmay hxx
          go_wp2_with fail
          refine (May_no _ _ HXX.out HY.out).mono ?_
          rintro e w1 ⟨rfl, hb1⟩
          go_wp2_with fail
          refine (wakes_any _).mono ?_
          rintro e w2 ⟨rfl, hb2⟩
          go_wp2
          go_ret
          exact ⟨rfl, (hbel.trans (hb1.mono hbel.size)).trans (hb2.mono (Nat.le_trans hbel.size hb1.size))⟩
        | true =>
          obtain ⟨lo, hi2⟩ := mayB_true.1 hmay
          have HY := Lib.hid hmay
          clear hmay hxx
          go_wp2_with fail
          refine (May_yes _ _ HY.out).mono ?_
          rintro e w1 ⟨rfl, hb1⟩
          have hck1 := (hb1.cell (p := ⟨b, o + k, none⟩) (by have := hbel.size; show b < _; omega)).trans hck
          have hown1 := own_below hown hb1
          have hz : w.heap.size ≤ w1.heap.size := Nat.le_trans hbel.size hb1.size
          have hnew := World.ownsRow_lit (base := w.heap.size) (size := 1) (e := 3) w1 #[.int .i64 (-xs[k])] 1 hz (by unfold maxLen; omega) rfl
          have HT : Hid ((turnedL (xs.take (k + 1))).map (Value.int .i64) = [Value.int .i64 (-xs[k])] ++ (turnedL (xs.take k)).map (Value.int .i64)) := by
            show _ = _
            rw [turnedL_succ xs k hlt]; rfl
          have HA2 : Hid ((xs.take (k + 1)).all mayB = true) := by
            show _ = _
            rw [all_take_succ xs k hlt, HA.out, HY.out]; rfl
          rcases hv with ⟨rfl, rfl⟩ | ⟨hpos, g, cap, rfl⟩
          · simp only [Nat.add_zero] at hck1
            go_wp2
            go_roundw
            case rel => exact ⟨1, by omega, rfl, .inr ⟨by omega, _, _, rfl⟩, by rw [HT.out]; exact hnew, HA2, (hbel.trans (hb1.mono hbel.size)).alloc hz _⟩
            case measure => simp [intOf]; omega
          · have hnews : ∀ j u, ((turnedL (xs.take k)).map (Value.int .i64))[j]? = some u → (w1.alloc (.cells #[.int .i64 (-xs[k])] 3)).cell? ((⟨g, 0, none⟩ : Addr).add j) = some u := fun j u hu => (hown1.alloc _).cells rfl j u hu
            go_wp2_with (at_builtin; refine wpList_append_own _ rfl (.tmp 34) (.tmp 35) 22 rfl w.heap.size 3 i0 (.int .i64 0) 1 8 Try.underlying22 hi hz0 hz1 hz2 rfl (by decide) _ 1 _ rfl hnew ⟨g, 0, none⟩ k cap ((turnedL (xs.take k)).map (Value.int .i64)) rfl ?c1 hnews ?c2 ?c3 ?c4 ?c5 ?_)
            case c1 => simp [turnedL]; omega
            case c2 => intro u hu; simp at hu; obtain ⟨x, _, rfl⟩ := hu; rfl
            case c3 => unfold maxLen; omega
            case c4 => omega
            case c5 => exact Nat.le_trans hz (by simp)
            intro v' w2 hown' hgrow hne
            obtain ⟨g', cap', rfl⟩ : ∃ g cap, v' = .slice (some ⟨g, 0, none⟩) (k + 1) cap := by
              rcases hown'.2 with ⟨h, _⟩ | ⟨g', cap', _, h, _⟩
              · exact absurd h (fun h => hne h)
              · exact ⟨g', cap', by rw [h, Nat.add_comm]⟩
            go_wp2
            go_roundw
            case rel => exact ⟨k + 1, by omega, by go_num, .inr ⟨by omega, _, _, rfl⟩, by rw [HT.out]; rw [Nat.add_comm 1 k] at hown'; exact hown', HA2, ((hbel.trans (hb1.mono hbel.size)).alloc hz _).grown hgrow (Nat.le_trans hz (by simp)) (by intro i hi; simp [Value.ownBlock] at hi; omega)⟩
            case measure => simp [intOf]; omega
      · obtain rfl : k = xs.length := by omega
        rw [List.take_length] at hown HA
        have hI2 : IntsAt wr wr.heap.size A xs := (HI.out.below hbel).more hbel.size
        have hT : ∃ A' c', u5 = .slice A' xs.length c' ∧ IntsAt wr wr.heap.size A' (turnedL xs) := by
          rcases hv with ⟨h0, rfl⟩ | ⟨_, g, cap, rfl⟩
          · exact ⟨none, 0, by rw [h0], fun h => by rw [turnedL_length] at h; omega⟩
          · exact ⟨_, _, rfl, own_ints hown⟩
        obtain ⟨A', c', rfl, hI3⟩ := hT
        have HX3 : Hid (∀ x ∈ turnedL xs, I64 x) := by
          intro x hx
          have h1 := List.all_eq_true.1 ((all_turned xs).trans HA.out) x hx
          exact may_i64 h1
        have HL3 : Hid ((turnedL xs).length = xs.length) := turnedL_length xs
        have HXP : Hid (∀ x ∈ xs.take (xs.length / 2), I64 x) := fun x hx => HX.out x (List.mem_of_mem_take hx)
        have HLP : Hid ((xs.take (xs.length / 2)).length = xs.length / 2) := by show _ = _; simp; omega
        clear hown hv
        cases hok : sumOk most xs with
        | true =>
          have HO := Lib.hid hok
          have HO3 : Hid (sumOk most (turnedL xs) = true) := (sumOk_turned most xs).trans hok
          have HOP : Hid (sumOk most (xs.take (xs.length / 2)) = true) := sumOk_part hok _
          have q1 := sumA_take_le xs (xs.length / 2)
          have q2 := sumA_ge xs
          clear hok
          go_wp2_with fail
          refine (Sum_yes _ _ _ xs _ (sumA xs) _ rfl hn HX.out hI2 HO.out rfl).mono ?_
          rintro e w1 ⟨rfl, hb1⟩
          have hI3' := (hI3.below hb1).more hb1.size
          have hI2' := (hI2.below hb1).more hb1.size
          go_wp2_with fail
          refine (Sum_yes _ _ _ (turnedL xs) _ (sumA xs) _ HL3.out (by rw [HL3.out]; exact hn) HX3.out hI3' HO3.out (sumA_turned xs)).mono ?_
          rintro e w2 ⟨rfl, hb2⟩
          have hI4 := ((hI2'.below hb2).more hb2.size).take (xs.length / 2)
          go_wp2_with fail
          refine (Sum_yes _ _ _ (xs.take (xs.length / 2)) _ (sumA (xs.take (xs.length / 2))) _ HLP.out (by rw [HLP.out]; omega) HXP.out hI4 HOP.out rfl).mono ?_
          rintro e w3 ⟨rfl, hb3⟩
          go_wp2_with fail
          refine (wakes_any _).mono ?_
          rintro e w4 ⟨rfl, hb4⟩
          go_wp2
          go_ret
          have s0 := hbel.size; have s1 := hb1.size; have s2 := hb2.size; have s3 := hb3.size
          exact ⟨rfl, (((hbel.trans (hb1.mono (by omega))).trans (hb2.mono (by omega))).trans (hb3.mono (by omega))).trans (hb4.mono (by omega))⟩
        | false =>
          have HO := Lib.hid hok
          have HO3 : Hid (sumOk most (turnedL xs) = false) := (sumOk_turned most xs).trans hok
          clear hok
          go_wp2_with fail
          refine (Sum_no _ _ _ xs _ _ rfl hn HX.out hI2 HO.out).mono ?_
          rintro e w1 ⟨rfl, hb1⟩
          have hI3' := (hI3.below hb1).more hb1.size
          have hI2' := (hI2.below hb1).more hb1.size
          go_wp2_with fail
          refine (Sum_no _ _ _ (turnedL xs) _ _ HL3.out (by rw [HL3.out]; exact hn) HX3.out hI3' HO3.out).mono ?_
          rintro e w2 ⟨rfl, hb2⟩
          have hI4 := ((hI2'.below hb2).more hb2.size).take (xs.length / 2)
          go_wp2_with fail
          refine (Sum_len _ _ _ (xs.take (xs.length / 2)) _ _ HLP.out (by rw [HLP.out]; omega) HXP.out hI4).mono ?_
          rintro e w3 ⟨rfl, hb3⟩
          go_wp2_with fail
          refine (wakes_any _).mono ?_
          rintro e w4 ⟨rfl, hb4⟩
          go_wp2
          go_ret
          have s0 := hbel.size; have s1 := hb1.size; have s2 := hb2.size; have s3 := hb3.size
          exact ⟨rfl, (((hbel.trans (hb1.mono (by omega))).trans (hb2.mono (by omega))).trans (hb3.mono (by omega))).trans (hb4.mono (by omega))⟩
theorem NumSums_w (w : World) (A : Option Addr) (len cp : Nat) (zs : List Int) (hr : IsRow .i64 w A len cp zs) (most : Int) (_ : (Lit.int .i64 most).wf = true) :
    Calls Try.prog 6 #[.slice A len cp, .int .i64 most] w fun e w' => e = .returned (.bool true) ∧ Below w.heap.size w w' := by
  obtain ⟨xs, rfl, hn, hc, hI, hx⟩ := hr.ints
  exact NumSums_walk A cp xs most w hx hn hc hI
end Go.Proofs.Ytgbpepkhdjcnbaa
