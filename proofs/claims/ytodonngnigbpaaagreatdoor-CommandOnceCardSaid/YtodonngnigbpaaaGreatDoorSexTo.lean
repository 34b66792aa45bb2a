/- Package sexpr's writer writes a tree that may be; Text. -/
import Derived.Test.YtodonngnigbpaaaGreatDoorSexReadW
import Derived.Test.YtodonngnigbpaaaGreatDoorSexQuote
import Derived.Test.YtodonngnigbpaaaGreatDoorSexMay
import Derived.Deep.RegionHeld3
import Derived.Laws.IdiomStrings
import Derived.Laws.BytesArg
namespace Go.Proofs.YtodonngnigbpaaaGreatDoor
open Go.RowKit
def Wrote (l : List UInt8) (x : List UInt8) (l' : List UInt8) : Prop := l'.length ≤ 9000 ∧ (l' = l ++ x ∨ (8192 < l'.length ∧ l' <+: l ++ x))
/-- Function f writes x. -/
def Writes (w₀ : World) (f : Nat) (n₀ wb : Nat) (v : Value) (x : List UInt8) (m : Nat) : Prop :=
  ∀ (P : Nat → Prop) (l : List UInt8) (w : World), Below n₀ w₀ w → Globs w → WT w n₀ wb P l → n₀ ≤ w.heap.size → l.length ≤ m →
    Calls Tryz.prog f #[.pointer (some ⟨wb, 0, none⟩), v] w fun e w' => e = .returned (.tuple #[]) ∧ (∃ l', WT w' n₀ wb P l' ∧ Wrote l x l') ∧ Kp P w w'
theorem name_w (n₀ wb : Nat) (t : List UInt8) (a : Option Addr) (m c : Nat) (ht : t.length ≤ 100) (B : Nat) (hB : B ≤ 8800) (w₀ : World) :
    Writes w₀ 89 n₀ wb (.agg #[.int .i8 0, .string (bytesL t), .slice a m c]) (quoteL t) B := by
  intro P l w _ hG h hn hl
  have HG := Lib.hid hG
  have HT := Lib.hid h
  have hql : (quoteL t).length ≤ 102 := by unfold quoteL; split; omega; simp; omega
  have HQ := Lib.hid hql
  have HL := Lib.hid hl
  have hb0 : Below w.heap.size w (w.alloc (.cells #[.int .i8 0, .string (bytesL t), .slice a m c] 35)) := (Below.refl _ _).alloc (Nat.le_refl _) _
  have HB := Lib.hid hb0
  have HC : Hid (∀ W, Globs W → Calls Tryz.prog 117 #[.string (bytesL t)] W fun e w' => e = .returned (.string (bytesL (quoteL t))) ∧ Below W.heap.size W w') := fun W hW => by
    have := Quote_any (bytesL t) W hW (by rw [bytesL_size]; exact ht)
    rw [bytesL_list] at this
    exact this
  clear hG h hql hl hb0
  go_enter Tryz.func89, Tryz.ntmps89
  go_wp2_with fail
  refine (HC.out _ (HG.out.below HB.out)).mono ?_
  rintro e w1 ⟨rfl, hb1⟩
  have hbw : Below w.heap.size w w1 := HB.out.trans (hb1.mono HB.out.size)
  have HBW := Lib.hid hbw
  clear hbw hb1
  go_wp2_with fail
  refine (add_any n₀ wb P l (bytesL (quoteL t)) w1 (HT.out.grow HBW.out) (Nat.le_trans hn HBW.out.size) (by rw [bytesL_size]; have := HQ.out; have := HL.out; omega)).mono ?_
  rintro e w2 ⟨rfl, hw2, hk2⟩
  go_wp2
  go_end0
  rw [bytesL_list] at hw2
  have hP : ∀ k, P k → k < w.heap.size := fun k hk => by obtain ⟨_, _, _, _, h4, _⟩ := HT.out; exact (h4 k hk).1
  exact ⟨rfl, ⟨_, hw2, by simp; have := HQ.out; have := HL.out; omega, .inl rfl⟩, (kp_below HBW.out hP).trans hk2⟩
theorem numeral_w (n₀ wb : Nat) (t : List UInt8) (a : Option Addr) (m c : Nat) (ht : t.length ≤ 100) (B : Nat) (hB : B ≤ 8800) (w₀ : World) :
    Writes w₀ 90 n₀ wb (.agg #[.int .i8 1, .string (bytesL t), .slice a m c]) t B := by
  intro P l w _ hG h hn hl
  have HT := Lib.hid h
  have HL := Lib.hid hl
  have hb0 : Below w.heap.size w (w.alloc (.cells #[.int .i8 1, .string (bytesL t), .slice a m c] 35)) := (Below.refl _ _).alloc (Nat.le_refl _) _
  have HBW := Lib.hid hb0
  clear hG h hl hb0
  go_enter Tryz.func90, Tryz.ntmps90
  go_wp2_with fail
  refine (add_any n₀ wb P l (bytesL t) _ (HT.out.grow HBW.out) (Nat.le_trans hn HBW.out.size) (by rw [bytesL_size]; have := HL.out; omega)).mono ?_
  rintro e w2 ⟨rfl, hw2, hk2⟩
  go_wp2
  go_end0
  rw [bytesL_list] at hw2
  have hP : ∀ k, P k → k < w.heap.size := fun k hk => by obtain ⟨_, _, _, _, h4, _⟩ := HT.out; exact (h4 k hk).1
  exact ⟨rfl, ⟨_, hw2, by simp; have := HL.out; omega, .inl rfl⟩, (kp_below HBW.out hP).trans hk2⟩
theorem keyword_w (n₀ wb : Nat) (t : List UInt8) (a : Option Addr) (m c : Nat) (ht : t.length ≤ 100) (B : Nat) (hB : B ≤ 8800) (w₀ : World) :
    Writes w₀ 91 n₀ wb (.agg #[.int .i8 2, .string (bytesL t), .slice a m c]) (58 :: t) B := by
  intro P l w _ hG h hn hl
  have HT := Lib.hid h
  have HL := Lib.hid hl
  have hts : (bytesL t).size ≤ 100 := by rw [bytesL_size]; exact ht
  have hb0 : Below w.heap.size w (w.alloc (.cells #[.int .i8 2, .string (bytesL t), .slice a m c] 35)) := (Below.refl _ _).alloc (Nat.le_refl _) _
  have HBW := Lib.hid hb0
  have HE : Hid ((ByteArray.mk #[58] ++ bytesL t).data.toList = 58 :: t ∧ (ByteArray.mk #[58] ++ bytesL t).size = t.length + 1) := by
    have e : (ByteArray.mk #[58] ++ bytesL t) = bytesL (58 :: t) := by apply ByteArray.ext; simp [bytesL]
    rw [e, bytesL_list, bytesL_size]
    exact ⟨rfl, by simp⟩
  clear hG h hl hb0
  go_enter Tryz.func91, Tryz.ntmps91
  go_wp2_with fail
  refine (add_any n₀ wb P l (ByteArray.mk #[58] ++ bytesL t) _ (HT.out.grow HBW.out) (Nat.le_trans hn HBW.out.size) (by rw [HE.out.2]; have := HL.out; omega)).mono ?_
  rintro e w2 ⟨rfl, hw2, hk2⟩
  go_wp2
  go_end0
  rw [HE.out.1] at hw2
  have hP : ∀ k, P k → k < w.heap.size := fun k hk => by obtain ⟨_, _, _, _, h4, _⟩ := HT.out; exact (h4 k hk).1
  exact ⟨rfl, ⟨_, hw2, by simp; have := HL.out; omega, .inl rfl⟩, (kp_below HBW.out hP).trans hk2⟩
end Go.Proofs.YtodonngnigbpaaaGreatDoor
namespace Go.Proofs.YtodonngnigbpaaaGreatDoor
open Go.RowKit
set_option linter.unusedVariables false
theorem write_0 (n₀ wb : Nat) (T : ByteArray) (a : Option Addr) (m c : Nat) (x : List UInt8) (B : Nat) (w₀ : World) (hm : Writes w₀ 89 n₀ wb (.agg #[.int .i8 0, .string T, .slice a m c]) x B) :
    Writes w₀ 26 n₀ wb (.agg #[.int .i8 0, .string T, .slice a m c]) x B := by
  intro P l w hw0 hG h hn hl
  have HG := Lib.hid hG
  have HT := Lib.hid h
  have HL := Lib.hid hl
  have HM := Lib.hid hm
  have HW0 := Lib.hid hw0
  have hb0 : Below w.heap.size w (w.alloc (.cells #[.int .i8 0, .string T, .slice a m c] 35)).drew := ((Below.refl _ _).alloc (Nat.le_refl _) _).drew
  have HB0 := Lib.hid hb0
  have HP : Hid (∀ k, P k → k < w.heap.size) := fun k hk => by obtain ⟨_, _, _, _, h4, _⟩ := HT.out; exact (h4 k hk).1
  have hidx := writers_at_0
  clear hG h hl hm hb0 hw0
  go_enter Tryz.func26, Tryz.ntmps26
  go_wp2
  have c0 : (w.alloc (.cells #[.int .i8 0, .string T, .slice a m c] 35)).cell? ⟨w.heap.size, 0, none⟩ = some (.int .i8 0) := by simp
  have c1 : (w.alloc (.cells #[.int .i8 0, .string T, .slice a m c] 35)).cell? ⟨w.heap.size, 1, none⟩ = some (.string T) := by simp
  have c2 : (w.alloc (.cells #[.int .i8 0, .string T, .slice a m c] 35)).cell? ⟨w.heap.size, 2, none⟩ = some (.slice a m c) := by simp
  have hz0 : w.heap.size < (w.alloc (.cells #[.int .i8 0, .string T, .slice a m c] 35)).heap.size := by simp
  go_region_held3 (fun w' => w'.cell? ⟨w.heap.size, 0, none⟩ = some (.int .i8 0) ∧ w'.cell? ⟨w.heap.size, 1, none⟩ = some (.string T) ∧ w'.cell? ⟨w.heap.size, 2, none⟩ = some (.slice a m c))
    (first | exact ⟨(hcx 0).trans d0, (hcx 1).trans d1, (hcx 2).trans d2⟩ | exact ⟨(hc2 _ _ hz0).trans c0, (hc2 _ _ hz0).trans c1, (hc2 _ _ hz0).trans c2⟩ | exact ⟨c0, c1, c2⟩ | go_keep)
    (first
      | (go_at_call 60; refine (writers_any _).mono ?_; rintro e w2 ⟨rfl, hb2⟩; obtain ⟨hc2, hf2⟩ := bcell hb2; have Hbw : Hid (Below w.heap.size w w2) := HB0.out.trans (hb2.mono HB0.out.size); have Hbx := Lib.hid ((hb2.block w.heap.size hz0).trans (heap_alloc_new w _)); have d0 := (hc2 _ _ hz0).trans c0; have d1 := (hc2 _ _ hz0).trans c1; have d2 := (hc2 _ _ hz0).trans c2)
      | (go_at_call 89; refine (HM.out (fun b => P b ∨ b = w.heap.size) l _ (HW0.out.trans (Hbw.out.mono hn)) (HG.out.below Hbw.out) (HT.out.box Hbw.out Hbx.out) (Nat.le_trans hn Hbw.out.size) HL.out).mono ?_; rintro e w3 ⟨rfl, hx, hk3⟩; have hcx : ∀ i, w3.cell? ⟨w.heap.size, i, none⟩ = w2.cell? ⟨w.heap.size, i, none⟩ := fun i => World.cell?_of_block (a := ⟨w.heap.size, i, none⟩) (hk3.2.2.2.2 w.heap.size (.inr rfl)); have Hx := Lib.hid hx; have Hk3 := Lib.hid hk3; clear hx hk3))
  all_goals go_wp2
  all_goals go_end0
  all_goals
    obtain ⟨l', hw', hwr⟩ := Hx.out
    have h0 : ∀ b, b < n₀ → P b := by obtain ⟨_, _, _, _, _, h5⟩ := HT.out; exact h5
    exact ⟨rfl, ⟨l', hw'.less (fun b hb => .inl hb) h0, hwr⟩, (kp_below Hbw.out HP.out).trans (Hk3.out.mono (fun k hk => .inl hk))⟩
theorem write_1 (n₀ wb : Nat) (T : ByteArray) (a : Option Addr) (m c : Nat) (x : List UInt8) (B : Nat) (w₀ : World) (hm : Writes w₀ 90 n₀ wb (.agg #[.int .i8 1, .string T, .slice a m c]) x B) :
    Writes w₀ 26 n₀ wb (.agg #[.int .i8 1, .string T, .slice a m c]) x B := by
  intro P l w hw0 hG h hn hl
  have HG := Lib.hid hG
  have HT := Lib.hid h
  have HL := Lib.hid hl
  have HM := Lib.hid hm
  have HW0 := Lib.hid hw0
  have hb0 : Below w.heap.size w (w.alloc (.cells #[.int .i8 1, .string T, .slice a m c] 35)).drew := ((Below.refl _ _).alloc (Nat.le_refl _) _).drew
  have HB0 := Lib.hid hb0
  have HP : Hid (∀ k, P k → k < w.heap.size) := fun k hk => by obtain ⟨_, _, _, _, h4, _⟩ := HT.out; exact (h4 k hk).1
  have hidx := writers_at_1
  clear hG h hl hm hb0 hw0
  go_enter Tryz.func26, Tryz.ntmps26
  go_wp2
  have c0 : (w.alloc (.cells #[.int .i8 1, .string T, .slice a m c] 35)).cell? ⟨w.heap.size, 0, none⟩ = some (.int .i8 1) := by simp
  have c1 : (w.alloc (.cells #[.int .i8 1, .string T, .slice a m c] 35)).cell? ⟨w.heap.size, 1, none⟩ = some (.string T) := by simp
  have c2 : (w.alloc (.cells #[.int .i8 1, .string T, .slice a m c] 35)).cell? ⟨w.heap.size, 2, none⟩ = some (.slice a m c) := by simp
  have hz0 : w.heap.size < (w.alloc (.cells #[.int .i8 1, .string T, .slice a m c] 35)).heap.size := by simp
  go_region_held3 (fun w' => w'.cell? ⟨w.heap.size, 0, none⟩ = some (.int .i8 1) ∧ w'.cell? ⟨w.heap.size, 1, none⟩ = some (.string T) ∧ w'.cell? ⟨w.heap.size, 2, none⟩ = some (.slice a m c))
    (first | exact ⟨(hcx 0).trans d0, (hcx 1).trans d1, (hcx 2).trans d2⟩ | exact ⟨(hc2 _ _ hz0).trans c0, (hc2 _ _ hz0).trans c1, (hc2 _ _ hz0).trans c2⟩ | exact ⟨c0, c1, c2⟩ | go_keep)
    (first
      | (go_at_call 60; refine (writers_any _).mono ?_; rintro e w2 ⟨rfl, hb2⟩; obtain ⟨hc2, hf2⟩ := bcell hb2; have Hbw : Hid (Below w.heap.size w w2) := HB0.out.trans (hb2.mono HB0.out.size); have Hbx := Lib.hid ((hb2.block w.heap.size hz0).trans (heap_alloc_new w _)); have d0 := (hc2 _ _ hz0).trans c0; have d1 := (hc2 _ _ hz0).trans c1; have d2 := (hc2 _ _ hz0).trans c2)
      | (go_at_call 90; refine (HM.out (fun b => P b ∨ b = w.heap.size) l _ (HW0.out.trans (Hbw.out.mono hn)) (HG.out.below Hbw.out) (HT.out.box Hbw.out Hbx.out) (Nat.le_trans hn Hbw.out.size) HL.out).mono ?_; rintro e w3 ⟨rfl, hx, hk3⟩; have hcx : ∀ i, w3.cell? ⟨w.heap.size, i, none⟩ = w2.cell? ⟨w.heap.size, i, none⟩ := fun i => World.cell?_of_block (a := ⟨w.heap.size, i, none⟩) (hk3.2.2.2.2 w.heap.size (.inr rfl)); have Hx := Lib.hid hx; have Hk3 := Lib.hid hk3; clear hx hk3))
  all_goals go_wp2
  all_goals go_end0
  all_goals
    obtain ⟨l', hw', hwr⟩ := Hx.out
    have h0 : ∀ b, b < n₀ → P b := by obtain ⟨_, _, _, _, _, h5⟩ := HT.out; exact h5
    exact ⟨rfl, ⟨l', hw'.less (fun b hb => .inl hb) h0, hwr⟩, (kp_below Hbw.out HP.out).trans (Hk3.out.mono (fun k hk => .inl hk))⟩
theorem write_2 (n₀ wb : Nat) (T : ByteArray) (a : Option Addr) (m c : Nat) (x : List UInt8) (B : Nat) (w₀ : World) (hm : Writes w₀ 91 n₀ wb (.agg #[.int .i8 2, .string T, .slice a m c]) x B) :
    Writes w₀ 26 n₀ wb (.agg #[.int .i8 2, .string T, .slice a m c]) x B := by
  intro P l w hw0 hG h hn hl
  have HG := Lib.hid hG
  have HT := Lib.hid h
  have HL := Lib.hid hl
  have HM := Lib.hid hm
  have HW0 := Lib.hid hw0
  have hb0 : Below w.heap.size w (w.alloc (.cells #[.int .i8 2, .string T, .slice a m c] 35)).drew := ((Below.refl _ _).alloc (Nat.le_refl _) _).drew
  have HB0 := Lib.hid hb0
  have HP : Hid (∀ k, P k → k < w.heap.size) := fun k hk => by obtain ⟨_, _, _, _, h4, _⟩ := HT.out; exact (h4 k hk).1
  have hidx := writers_at_2
  clear hG h hl hm hb0 hw0
  go_enter Tryz.func26, Tryz.ntmps26
  go_wp2
  have c0 : (w.alloc (.cells #[.int .i8 2, .string T, .slice a m c] 35)).cell? ⟨w.heap.size, 0, none⟩ = some (.int .i8 2) := by simp
  have c1 : (w.alloc (.cells #[.int .i8 2, .string T, .slice a m c] 35)).cell? ⟨w.heap.size, 1, none⟩ = some (.string T) := by simp
  have c2 : (w.alloc (.cells #[.int .i8 2, .string T, .slice a m c] 35)).cell? ⟨w.heap.size, 2, none⟩ = some (.slice a m c) := by simp
  have hz0 : w.heap.size < (w.alloc (.cells #[.int .i8 2, .string T, .slice a m c] 35)).heap.size := by simp
  go_region_held3 (fun w' => w'.cell? ⟨w.heap.size, 0, none⟩ = some (.int .i8 2) ∧ w'.cell? ⟨w.heap.size, 1, none⟩ = some (.string T) ∧ w'.cell? ⟨w.heap.size, 2, none⟩ = some (.slice a m c))
    (first | exact ⟨(hcx 0).trans d0, (hcx 1).trans d1, (hcx 2).trans d2⟩ | exact ⟨(hc2 _ _ hz0).trans c0, (hc2 _ _ hz0).trans c1, (hc2 _ _ hz0).trans c2⟩ | exact ⟨c0, c1, c2⟩ | go_keep)
    (first
      | (go_at_call 60; refine (writers_any _).mono ?_; rintro e w2 ⟨rfl, hb2⟩; obtain ⟨hc2, hf2⟩ := bcell hb2; have Hbw : Hid (Below w.heap.size w w2) := HB0.out.trans (hb2.mono HB0.out.size); have Hbx := Lib.hid ((hb2.block w.heap.size hz0).trans (heap_alloc_new w _)); have d0 := (hc2 _ _ hz0).trans c0; have d1 := (hc2 _ _ hz0).trans c1; have d2 := (hc2 _ _ hz0).trans c2)
      | (go_at_call 91; refine (HM.out (fun b => P b ∨ b = w.heap.size) l _ (HW0.out.trans (Hbw.out.mono hn)) (HG.out.below Hbw.out) (HT.out.box Hbw.out Hbx.out) (Nat.le_trans hn Hbw.out.size) HL.out).mono ?_; rintro e w3 ⟨rfl, hx, hk3⟩; have hcx : ∀ i, w3.cell? ⟨w.heap.size, i, none⟩ = w2.cell? ⟨w.heap.size, i, none⟩ := fun i => World.cell?_of_block (a := ⟨w.heap.size, i, none⟩) (hk3.2.2.2.2 w.heap.size (.inr rfl)); have Hx := Lib.hid hx; have Hk3 := Lib.hid hk3; clear hx hk3))
  all_goals go_wp2
  all_goals go_end0
  all_goals
    obtain ⟨l', hw', hwr⟩ := Hx.out
    have h0 : ∀ b, b < n₀ → P b := by obtain ⟨_, _, _, _, _, h5⟩ := HT.out; exact h5
    exact ⟨rfl, ⟨l', hw'.less (fun b hb => .inl hb) h0, hwr⟩, (kp_below Hbw.out HP.out).trans (Hk3.out.mono (fun k hk => .inl hk))⟩
theorem write_3 (n₀ wb : Nat) (T : ByteArray) (a : Option Addr) (m c : Nat) (x : List UInt8) (B : Nat) (w₀ : World) (hm : Writes w₀ 92 n₀ wb (.agg #[.int .i8 3, .string T, .slice a m c]) x B) :
    Writes w₀ 26 n₀ wb (.agg #[.int .i8 3, .string T, .slice a m c]) x B := by
  intro P l w hw0 hG h hn hl
  have HG := Lib.hid hG
  have HT := Lib.hid h
  have HL := Lib.hid hl
  have HM := Lib.hid hm
  have HW0 := Lib.hid hw0
  have hb0 : Below w.heap.size w (w.alloc (.cells #[.int .i8 3, .string T, .slice a m c] 35)).drew := ((Below.refl _ _).alloc (Nat.le_refl _) _).drew
  have HB0 := Lib.hid hb0
  have HP : Hid (∀ k, P k → k < w.heap.size) := fun k hk => by obtain ⟨_, _, _, _, h4, _⟩ := HT.out; exact (h4 k hk).1
  have hidx := writers_at_3
  clear hG h hl hm hb0 hw0
  go_enter Tryz.func26, Tryz.ntmps26
  go_wp2
  have c0 : (w.alloc (.cells #[.int .i8 3, .string T, .slice a m c] 35)).cell? ⟨w.heap.size, 0, none⟩ = some (.int .i8 3) := by simp
  have c1 : (w.alloc (.cells #[.int .i8 3, .string T, .slice a m c] 35)).cell? ⟨w.heap.size, 1, none⟩ = some (.string T) := by simp
  have c2 : (w.alloc (.cells #[.int .i8 3, .string T, .slice a m c] 35)).cell? ⟨w.heap.size, 2, none⟩ = some (.slice a m c) := by simp
  have hz0 : w.heap.size < (w.alloc (.cells #[.int .i8 3, .string T, .slice a m c] 35)).heap.size := by simp
  go_region_held3 (fun w' => w'.cell? ⟨w.heap.size, 0, none⟩ = some (.int .i8 3) ∧ w'.cell? ⟨w.heap.size, 1, none⟩ = some (.string T) ∧ w'.cell? ⟨w.heap.size, 2, none⟩ = some (.slice a m c))
    (first | exact ⟨(hcx 0).trans d0, (hcx 1).trans d1, (hcx 2).trans d2⟩ | exact ⟨(hc2 _ _ hz0).trans c0, (hc2 _ _ hz0).trans c1, (hc2 _ _ hz0).trans c2⟩ | exact ⟨c0, c1, c2⟩ | go_keep)
    (first
      | (go_at_call 60; refine (writers_any _).mono ?_; rintro e w2 ⟨rfl, hb2⟩; obtain ⟨hc2, hf2⟩ := bcell hb2; have Hbw : Hid (Below w.heap.size w w2) := HB0.out.trans (hb2.mono HB0.out.size); have Hbx := Lib.hid ((hb2.block w.heap.size hz0).trans (heap_alloc_new w _)); have d0 := (hc2 _ _ hz0).trans c0; have d1 := (hc2 _ _ hz0).trans c1; have d2 := (hc2 _ _ hz0).trans c2)
      | (go_at_call 92; refine (HM.out (fun b => P b ∨ b = w.heap.size) l _ (HW0.out.trans (Hbw.out.mono hn)) (HG.out.below Hbw.out) (HT.out.box Hbw.out Hbx.out) (Nat.le_trans hn Hbw.out.size) HL.out).mono ?_; rintro e w3 ⟨rfl, hx, hk3⟩; have hcx : ∀ i, w3.cell? ⟨w.heap.size, i, none⟩ = w2.cell? ⟨w.heap.size, i, none⟩ := fun i => World.cell?_of_block (a := ⟨w.heap.size, i, none⟩) (hk3.2.2.2.2 w.heap.size (.inr rfl)); have Hx := Lib.hid hx; have Hk3 := Lib.hid hk3; clear hx hk3))
  all_goals go_wp2
  all_goals go_end0
  all_goals
    obtain ⟨l', hw', hwr⟩ := Hx.out
    have h0 : ∀ b, b < n₀ → P b := by obtain ⟨_, _, _, _, _, h5⟩ := HT.out; exact h5
    exact ⟨rfl, ⟨l', hw'.less (fun b hb => .inl hb) h0, hwr⟩, (kp_below Hbw.out HP.out).trans (Hk3.out.mono (fun k hk => .inl hk))⟩
end Go.Proofs.YtodonngnigbpaaaGreatDoor
namespace Go.Proofs.YtodonngnigbpaaaGreatDoor
open Go.RowKit
set_option linter.unusedVariables false
theorem textL_cons (b : Bool) (t : Tree) (r : List Tree) : textL b (t :: r) = (if b = true then [] else [32]) ++ textT t ++ textL false r := by rw [textL]
theorem textL_nil (b : Bool) : textL b [] = [] := by rw [textL]
theorem textT_list (t : List UInt8) (l : List Tree) : textT (.node 3 t l) = 40 :: (textL true l ++ [41]) := by rw [textT]; simp
/-- One more. -/
theorem textL_take (l : List Tree) (b : Bool) (j : Nat) (t : Tree) (h : l[j]? = some t) : textL b (l.take (j + 1)) = textL b (l.take j) ++ ((if j = 0 ∧ b = true then [] else [32]) ++ textT t) := by
  induction l generalizing b j with
  | nil => simp at h
  | cons y r ih =>
    cases j with
    | zero =>
      simp only [List.getElem?_cons_zero, Option.some.injEq] at h
      subst h
      simp [textL_cons, textL_nil]
    | succ j =>
      simp only [List.getElem?_cons_succ] at h
      rw [List.take_succ_cons, List.take_succ_cons, textL_cons, textL_cons, ih false j h]
      simp
theorem textL_prefix (l : List Tree) (b : Bool) (j : Nat) : textL b (l.take j) <+: textL b l := by
  induction l generalizing b j with
  | nil => simp
  | cons y r ih =>
    cases j with
    | zero => simp [textL_nil]
    | succ j =>
      rw [List.take_succ_cons, textL_cons, textL_cons]
      exact List.prefix_append_right_inj _ |>.2 (ih false j)
/-- Where the list's writer is, ahead of its element j. -/
def LAt (l : List UInt8) (kids : List Tree) (m j : Nat) (lw : List UInt8) : Prop := lw = l ++ 40 :: textL true (kids.take j) ∧ (lw.length ≤ 8192 ∨ (j = 0 ∧ lw.length ≤ m + 1))
theorem LAt.end {l lw : List UInt8} {kids : List Tree} {m : Nat} (h : LAt l kids m kids.length lw) (hm : m ≤ 8500) (t : List UInt8) : Wrote l (textT (.node 3 t kids)) (lw ++ [41]) := by
  obtain ⟨h1, h2⟩ := h
  refine ⟨by rcases h2 with h2 | ⟨_, h2⟩ <;> simp <;> omega, .inl ?_⟩
  rw [h1, textT_list, List.take_length]; simp
theorem LAt.full {l lw x' : List UInt8} {kids : List Tree} {m j : Nat} {t : Tree} (h : LAt l kids m j lw) (hj : kids[j]? = some t) (hw : Wrote (lw ++ if j = 0 then [] else [32]) (textT t) x') :
    (8192 < x'.length → ∀ s, Wrote l (textT (.node 3 s kids)) x') ∧ (x'.length ≤ 8192 → LAt l kids m (j + 1) x') := by
  obtain ⟨h1, h2⟩ := h
  obtain ⟨hb, hx⟩ := hw
  have hfull : lw ++ (if j = 0 then [] else [32]) ++ textT t = l ++ 40 :: textL true (kids.take (j + 1)) := by
    rw [h1, textL_take kids true j t hj]
    by_cases h0 : j = 0 <;> simp [h0]
  rw [hfull] at hx
  refine ⟨fun hl s => ⟨hb, .inr ⟨hl, ?_⟩⟩, fun hl => ⟨?_, .inl hl⟩⟩
  · have hp : l ++ 40 :: textL true (kids.take (j + 1)) <+: l ++ textT (.node 3 s kids) := by
      rw [textT_list]
      refine (List.prefix_append_right_inj _).2 ?_
      refine (List.cons_prefix_cons).2 ⟨rfl, ?_⟩
      exact (textL_prefix kids true (j + 1)).trans (List.prefix_append _ _)
    rcases hx with hx | ⟨_, hx⟩
    · rw [hx]; exact hp
    · exact hx.trans hp
  · rcases hx with hx | ⟨hx, _⟩
    · exact hx
    · omega
end Go.Proofs.YtodonngnigbpaaaGreatDoor
namespace Go.Proofs.YtodonngnigbpaaaGreatDoor
open Go.RowKit
set_option linter.unusedVariables false
set_option maxHeartbeats 2000000 in
theorem list_w (w₀ : World) (n₀ wb : Nat) (T : ByteArray) (kids : List Tree) (a : Option Addr) (cap B : Nat) (hG0 : Globs w₀) (hn0 : n₀ = w₀.heap.size) (hrd : RdL w₀ (fun b => n₀ ≤ b) kids a) (hcap : kids.length ≤ cap) (hcm : cap ≤ maxLen) (hB : B ≤ 8500) (hB1 : 8191 ≤ B)
    (hch : ∀ t ∈ kids, ∀ v, Rd w₀ (fun b => n₀ ≤ b) t v → Writes w₀ 26 n₀ wb v (textT t) (B + 2)) :
    Writes w₀ 92 n₀ wb (.agg #[.int .i8 3, .string T, .slice a kids.length cap]) (textT (.node 3 T.data.toList kids)) B := by
  intro P l w hw0 hG h hn hl
  have HW0 := Lib.hid hw0
  have HG0 := Lib.hid hG0
  have HN0 := Lib.hid hn0
  have HT := Lib.hid h
  have HL := Lib.hid hl
  have HRD := Lib.hid hrd
  have HCHS := Lib.hid hch
  have HP : Hid (∀ k, P k → k < w.heap.size) := fun k hk => by obtain ⟨_, _, _, _, h4, _⟩ := HT.out; exact (h4 k hk).1
  have HP0 : Hid (∀ b, b < n₀ → P b) := by obtain ⟨_, _, _, _, _, h5⟩ := HT.out; exact h5
  have HB0 : Hid (Below w.heap.size w (w.alloc (.cells #[.int .i8 3, .string T, .slice a kids.length cap] 35))) := (Below.refl _ _).alloc (Nat.le_refl _) _
  have hkm : kids.length ≤ maxLen := Nat.le_trans hcap hcm
  have hk63 : kids.length ≤ 9223372036854775807 := by simp only [maxLen] at hkm; omega
  clear hw0 hG h hl hrd hch hG0 hn0
  go_enter Tryz.func92, Tryz.ntmps92
  go_wp2_with fail
  refine (add_any n₀ wb (fun b => P b ∨ b = w.heap.size) l (ByteArray.mk #[40]) _ (HT.out.box HB0.out (heap_alloc_new w _)) (Nat.le_trans hn HB0.out.size) (by have := HL.out; show l.length + 1 ≤ 1000000; omega)).mono ?_
  rintro e w2 ⟨rfl, hw2, hk2⟩
  have hx2 : w2.heap[w.heap.size]? = some (.cells #[.int .i8 3, .string T, .slice a kids.length cap] 35 (0, 0)) := (hk2.2.2.2.2 w.heap.size (.inr rfl)).trans (heap_alloc_new w _)
  have k2 := cell_of_row _ _ 2 _ _ _ hx2
  simp only [List.getElem?_toArray, List.getElem?_cons_zero, List.getElem?_cons_succ] at k2
  have HW2 : Hid (WT w2 n₀ wb P (l ++ [40])) := WT.less hw2 (fun b hb => .inl hb) HP0.out
  have HK2 : Hid (Kp P w w2) := (kp_below HB0.out HP.out).trans (hk2.mono (fun k hk => .inl hk))
  clear hw2 hk2 hx2
  go_wp2
  go_loopw [11] (fun i wr => ∃ (j : Nat) (lw : List UInt8), i = .int .i64 j ∧ j ≤ kids.length ∧ Hid (WT wr n₀ wb P lw) ∧ Hid (LAt l kids B j lw) ∧ Hid (Kp P w wr)) (fun i _ => kids.length - (intOf i).toNat)
  case atStart => exact ⟨0, l ++ [40], rfl, Nat.zero_le _, HW2, ⟨by simp [textL_nil], .inr ⟨rfl, by have := HL.out; simp; omega⟩⟩, HK2⟩
  case round =>
    obtain ⟨j, lw, rfl, hj, HW, HLA, HK⟩ := hrel
    have HB : Hid (Below n₀ w₀ wr) := HW0.out.trans (HK.out.below HP0.out)
    have HGr : Hid (Globs wr) := HG0.out.below (HN0.out ▸ HB.out)
    by_cases hlt : j < kids.length
    · obtain ⟨g, o, rfl, hg, hgl, _, _⟩ := (RdL.below HRD.out HB.out).addr (by omega)
      obtain ⟨t, ht⟩ : ∃ t, kids[j]? = some t := ⟨_, List.getElem?_eq_getElem hlt⟩
      obtain ⟨_, u0, u1, u2, d0, d1, d2, hrt0⟩ := HRD.out.get kids g o j t ht
      obtain ⟨ya, yc, hv, _, _, _, _⟩ := hrt0.parts
      simp only [Value.agg.injEq, Array.mk.injEq, List.cons.injEq, and_true] at hv
      obtain ⟨rfl, rfl, rfl⟩ := hv
      have hgn : g < n₀ := by simpa using hg
      have c0 := (HB.out.cell (p := ⟨g, o + j * 3, none⟩) hgn).trans d0
      have c1 := (HB.out.cell (p := ⟨g, o + j * 3 + 1, none⟩) hgn).trans d1
      have c2 := (HB.out.cell (p := ⟨g, o + j * 3 + 1 + 1, none⟩) hgn).trans d2
      have HCH := Lib.hid (HCHS.out t (List.mem_of_getElem? ht) _ hrt0)
      have HJ := Lib.hid ht
      have hsz := HK.out.2.2.2.1
      have HB1 : Hid (Below wr.heap.size wr (wr.alloc (.cells #[.int .i8 t.kind, .string (bytesL t.text), .slice ya t.kids.length yc] 35))) := (Below.refl _ _).alloc (Nat.le_refl _) _
      have HX1 : Hid ((wr.alloc (.cells #[.int .i8 t.kind, .string (bytesL t.text), .slice ya t.kids.length yc] 35)).heap[wr.heap.size]? = some (.cells #[.int .i8 t.kind, .string (bytesL t.text), .slice ya t.kids.length yc] 35 (0, 0))) := heap_alloc_new wr _
      have HPr : Hid (∀ k, P k → k < wr.heap.size) := fun k hk => by obtain ⟨_, _, _, _, h4, _⟩ := HW.out; exact (h4 k hk).1
      clear d0 d1 d2 hrt0 ht
      by_cases hj0 : j = 0
      · subst hj0
        have b0 : wr.cell? ⟨g, o, none⟩ = some (.int .i8 t.kind) := by simpa using c0
        have b1 : wr.cell? ⟨g, o + 1, none⟩ = some (.string (bytesL t.text)) := by simpa using c1
        have b2 : wr.cell? ⟨g, o + 2, none⟩ = some (.slice ya t.kids.length yc) := by simpa using c2
        have hl0 : lw.length ≤ B + 1 := by have := HLA.out.2; omega
        go_wp2_with fail
        have HBc : Hid (Below n₀ w₀ (wr.alloc (.cells #[.int .i8 t.kind, .string (bytesL t.text), .slice ya t.kids.length yc] 35))) := HB.out.trans (HB1.out.mono (by omega))
        have HKc : Hid (Kp P wr (wr.alloc (.cells #[.int .i8 t.kind, .string (bytesL t.text), .slice ya t.kids.length yc] 35))) := kp_below HB1.out HPr.out
        refine (HCH.out P (lw ++ []) _ HBc.out (HG0.out.below (HN0.out ▸ HBc.out)) (by rw [List.append_nil]; exact HW.out.grow HB1.out) (by simp; omega) (by simp; omega)).mono ?_
        rintro e w4 ⟨rfl, ⟨l', hw4, hwr4⟩, hk4⟩
        have hFull := HLA.out.full HJ.out (by simpa using hwr4)
        have HF := Lib.hid hFull
        have HW4 := Lib.hid hw4
        have HK4 : Hid (Kp P w w4) := HK.out.trans (HKc.out.trans hk4)
        clear hw4 hwr4 hk4 hFull
        by_cases hlg : 8192 < l'.length
        · have HE5 : Hid (decide (8192 < l'.length) = true) := by show _ = _; simpa using hlg
          have hlg' := Lib.hid hlg
          clear hlg
          go_wp2_with fail
          refine (long_any n₀ wb P l' true _ HW4.out HE5.out).mono ?_
          rintro e w5 ⟨rfl, rfl⟩
          go_wp2
          exact bodyPost_ret (results_none rfl _ _ _) rfl ⟨rfl, ⟨l', HW4.out, HF.out.1 hlg'.out T.data.toList⟩, HK4.out⟩
        · have HE5 : Hid (decide (8192 < l'.length) = false) := by show _ = _; simpa using hlg
          have hlg' := Lib.hid hlg
          clear hlg
          go_wp2_with fail
          refine (long_any n₀ wb P l' false _ HW4.out HE5.out).mono ?_
          rintro e w5 ⟨rfl, rfl⟩
          go_wp2
          go_roundw
          case rel => exact ⟨1, l', rfl, by omega, HW4.out, HF.out.2 (by have := hlg'.out; omega), HK4⟩
          case measure => simp [intOf]; omega
      · have e4 : decide ((j : Int) > 0) = true := by simp; omega
        have b2 : wr.cell? ⟨g, o + j * 3 + 2, none⟩ = some (.slice ya t.kids.length yc) := c2
        have hl0 : lw.length ≤ 8192 := by have := HLA.out.2; omega
        go_wp2_with fail
        refine (add_any n₀ wb (fun b => P b ∨ b = wr.heap.size) lw (ByteArray.mk #[32]) _ (HW.out.box HB1.out HX1.out) (by simp; omega) (by show lw.length + 1 ≤ 1000000; omega)).mono ?_
        rintro e w3 ⟨rfl, hw3, hk3⟩
        have hx3 : w3.heap[wr.heap.size]? = some (.cells #[.int .i8 t.kind, .string (bytesL t.text), .slice ya t.kids.length yc] 35 (0, 0)) := (hk3.2.2.2.2 wr.heap.size (.inr rfl)).trans HX1.out
        have x0 := cell_of_row _ _ 0 _ _ _ hx3
        have x1 := cell_of_row _ _ 1 _ _ _ hx3
        have x2 := cell_of_row _ _ 2 _ _ _ hx3
        simp only [List.getElem?_toArray, List.getElem?_cons_zero, List.getElem?_cons_succ] at x0 x1 x2
        have HW3 : Hid (WT w3 n₀ wb P (lw ++ [32])) := WT.less hw3 (fun b hb => .inl hb) HP0.out
        have HKc : Hid (Kp P wr w3) := (kp_below HB1.out HPr.out).trans (hk3.mono (fun k hk => .inl hk))
        have HBc : Hid (Below n₀ w₀ w3) := HB.out.trans (HKc.out.below HP0.out)
        have hz3 : wr.heap.size ≤ w3.heap.size := HKc.out.2.2.2.1
        clear hw3 hk3 hx3
        go_wp2_with fail
        refine (HCH.out P (lw ++ [32]) _ HBc.out (HG0.out.below (HN0.out ▸ HBc.out)) HW3.out (by omega) (by simp; omega)).mono ?_
        rintro e w4 ⟨rfl, ⟨l', hw4, hwr4⟩, hk4⟩
        have hFull := HLA.out.full HJ.out (by rw [if_neg hj0]; exact hwr4)
        have HF := Lib.hid hFull
        have HW4 := Lib.hid hw4
        have HK4 : Hid (Kp P w w4) := HK.out.trans (HKc.out.trans hk4)
        clear hw4 hwr4 hk4 hFull
        by_cases hlg : 8192 < l'.length
        · have HE5 : Hid (decide (8192 < l'.length) = true) := by show _ = _; simpa using hlg
          have hlg' := Lib.hid hlg
          clear hlg
          go_wp2_with fail
          refine (long_any n₀ wb P l' true _ HW4.out HE5.out).mono ?_
          rintro e w5 ⟨rfl, rfl⟩
          go_wp2
          exact bodyPost_ret (results_none rfl _ _ _) rfl ⟨rfl, ⟨l', HW4.out, HF.out.1 hlg'.out T.data.toList⟩, HK4.out⟩
        · have HE5 : Hid (decide (8192 < l'.length) = false) := by show _ = _; simpa using hlg
          have hlg' := Lib.hid hlg
          clear hlg
          go_wp2_with fail
          refine (long_any n₀ wb P l' false _ HW4.out HE5.out).mono ?_
          rintro e w5 ⟨rfl, rfl⟩
          go_wp2
          go_roundw
          case rel => exact ⟨j + 1, l', by go_num, by omega, HW4.out, HF.out.2 (by have := hlg'.out; omega), HK4⟩
          case measure => simp [intOf]; omega
    · obtain rfl : j = kids.length := by omega
      go_wp2_with fail
      refine (add_any n₀ wb P lw (ByteArray.mk #[41]) _ HW.out (Nat.le_trans hn HK.out.2.2.2.1) (by have := HLA.out.2; show lw.length + 1 ≤ 1000000; omega)).mono ?_
      rintro e w3 ⟨rfl, hw3, hk3⟩
      go_wp2
      go_end0
      exact ⟨rfl, ⟨_, hw3, HLA.out.end (by omega) _⟩, HK.out.trans hk3⟩
end Go.Proofs.YtodonngnigbpaaaGreatDoor
namespace Go.Proofs.YtodonngnigbpaaaGreatDoor
open Go.RowKit
set_option linter.unusedVariables false
theorem preL_all {d : Nat} {l : List Tree} {t : Tree} (ht : t ∈ l) (h : (preL lis d l).all okP = true) : (preT lis d t).all okP = true := by
  induction l with
  | nil => cases ht
  | cons y r ih =>
    rw [preL, List.all_append, Bool.and_eq_true] at h
    rcases List.mem_cons.1 ht with rfl | ht
    · exact h.1
    · exact ih ht h.2
theorem write_any (w₀ : World) (n₀ wb : Nat) (hG0 : Globs w₀) (hn0 : n₀ = w₀.heap.size) : ∀ (n : Nat) (t : Tree), szT t ≤ n → ∀ (d : Nat) (v : Value), (preT lis d t).all okP = true → Rd w₀ (fun b => n₀ ≤ b) t v → d ≤ 60 →
    Writes w₀ 26 n₀ wb v (textT t) (8191 + 2 * d) := by
  intro n
  induction n with
  | zero => intro t hsz; have := szT_kids t; omega
  | succ n ih =>
    intro t hsz d v hok hrd hd
    obtain ⟨a, cap, rfl, hl, hc, hs, hk⟩ := hrd.parts
    rw [preT_eq, List.all_cons, Bool.and_eq_true] at hok
    obtain ⟨h0, h1⟩ := hok
    cases t with
    | node k x kids =>
      simp only [Tree.kind, Tree.text, Tree.kids] at *
      unfold okP at h0
      simp only [Tree.kind, Tree.text, Tree.kids, Bool.and_eq_true] at h0
      obtain ⟨hf, hdep⟩ := h0
      unfold fitsF at hf
      by_cases k0 : k = 0
      · subst k0
        rw [if_pos rfl, Bool.and_eq_true] at hf
        have e : textT (.node 0 x kids) = quoteL x := by rw [textT]; simp
        rw [e]
        refine write_0 n₀ wb (bytesL x) a kids.length cap (quoteL x) _ w₀ (name_w n₀ wb x a _ cap ?_ _ (by omega) w₀)
        have := hf.2; unfold mayN at this; simp only [Bool.and_eq_true, decide_eq_true_eq] at this; exact this.1
      · rw [if_neg k0] at hf
        by_cases k1 : k = 1
        · subst k1
          rw [if_pos rfl, Bool.and_eq_true] at hf
          have e : textT (.node 1 x kids) = x := by rw [textT]; simp
          rw [e]
          refine write_1 n₀ wb (bytesL x) a kids.length cap x _ w₀ (numeral_w n₀ wb x a _ cap ?_ _ (by omega) w₀)
          have := hf.2; unfold nmlB at this; simp only [Bool.and_eq_true, decide_eq_true_eq] at this; exact this.2
        · rw [if_neg k1] at hf
          by_cases k2 : k = 2
          · subst k2
            rw [if_pos rfl, Bool.and_eq_true] at hf
            have e : textT (.node 2 x kids) = 58 :: x := by rw [textT]; simp
            rw [e]
            refine write_2 n₀ wb (bytesL x) a kids.length cap (58 :: x) _ w₀ (keyword_w n₀ wb x a _ cap ?_ _ (by omega) w₀)
            have := hf.2; unfold keyB at this; simp only [Bool.and_eq_true, decide_eq_true_eq] at this; exact this.2.2
          · rw [if_neg k2] at hf
            by_cases k3 : k = 3
            · subst k3
              rw [if_pos rfl] at hf
              have hx : x = [] := by simpa using hf
              subst hx
              have hd60 : d < 60 := by simpa using hdep
              have hll := list_w w₀ n₀ wb (bytesL []) kids a cap (8191 + 2 * d) hG0 hn0 hk hl hc (by omega) (by omega) (fun t ht v hv => by
                have hst := szL_mem ht
                have hs0 := szT_node 3 [] kids
                have := ih t (by omega) (d + 1) v (preL_all ht (by simpa [ownL, lis] using h1)) hv (by omega)
                rw [show 8191 + 2 * (d + 1) = 8191 + 2 * d + 2 by omega] at this
                exact this)
              rw [bytesL_list] at hll
              exact write_3 n₀ wb (bytesL []) a kids.length cap (textT (.node 3 [] kids)) _ w₀ hll
            · rw [if_neg k3] at hf; cases hf
/-- What Text answers. -/
def textR (t : Tree) : List UInt8 × Nat := if mayT t = true then (if 8192 < (textT t).length then ([], 41) else (textT t, 0)) else ([], 2)
theorem Clean.alloc {w : World} {o : Obj} {bad : Nat → Prop} (hbd : ∀ b, ¬ bad b → b < w.heap.size) (h : Clean w bad) : Clean (w.alloc o) bad := by
  intro b hb _
  obtain ⟨c, ty, hc⟩ := h b hb (hbd b hb)
  exact ⟨c, ty, (Below.heap_alloc _ _ _ (hbd b hb)).trans hc⟩
theorem conv_own {w : World} {n₀ : Nat} {v : Value} {l : List UInt8} (h : w.ownsRow n₀ 5 1 v l.length (bytC l)) : (convert 59 9 v).run Tryz.prog w = .ok (.string (bytesL l)) w := by
  rcases h.2 with ⟨rfl, h0⟩ | ⟨g, cap, cur, rfl, _⟩
  · have : l = [] := List.eq_nil_of_length_eq_zero h0
    subst this
    exact run_convert_bytes_nil w 59 5 Tryz.underlying59 Tryz.underlying5 0 0 9 Tryz.underlying9
  · refine run_convert_bytes_back w 59 9 5 ⟨g, 0, none⟩ cap l Tryz.underlying59 Tryz.underlying5 Tryz.underlying9 (fun j hj => ?_)
    exact h.cells (g := g) rfl j _ (by simp [bytC, List.getElem?_eq_getElem hj])
theorem Text_any (t : Tree) (v : Value) (w : World) (hG : Globs w) (bad : Nat → Prop) (hbd : ∀ b, ¬ bad b → b < w.heap.size) (hr : Rd w bad t v) (hcl : Clean w bad) :
    Calls Tryz.prog 17 #[v] w fun e w' => e = .returned (.tuple #[.string (bytesL (textR t).1), .int .i64 (textR t).2]) ∧ Below w.heap.size w w' := by
  obtain ⟨a, cap, rfl, hl, hc, hs, hk⟩ := hr.parts
  have hb0 : Below w.heap.size w (w.alloc (.cells #[.int .i8 t.kind, .string (bytesL t.text), .slice a t.kids.length cap] 35)) := (Below.refl _ _).alloc (Nat.le_refl _) _
  have HM : Hid (∀ b, mayT t = b → Calls Tryz.prog 22 #[.agg #[.int .i8 t.kind, .string (bytesL t.text), .slice a t.kids.length cap]] (w.alloc (.cells #[.int .i8 t.kind, .string (bytesL t.text), .slice a t.kids.length cap] 35)) fun e w' => e = .returned (.bool b) ∧ Below (w.heap.size + 1) (w.alloc (.cells #[.int .i8 t.kind, .string (bytesL t.text), .slice a t.kids.length cap] 35)) w') := fun b hb => by
    have := May_any t _ (w.alloc (.cells #[.int .i8 t.kind, .string (bytesL t.text), .slice a t.kids.length cap] 35)) (hG.below hb0) bad (fun b hb => by have := hbd b hb; simp; omega) (Rd.keep (fun b hb hlt => hb0.block b hlt) t _ hr) (Clean.alloc hbd hcl)
    rw [hb, World.size_alloc] at this
    exact this
  have HB0 := Lib.hid hb0
  have HG := Lib.hid hG
  have HR := Lib.hid hr.sx
  clear hb0 hG hr hcl hbd hl hc hs hk
  cases hm : mayT t with
  | false =>
    have HC := Lib.hid (HM.out false hm)
    have HX : Hid (textR t = ([], 2)) := by show _ = _; unfold textR; rw [hm]; rfl
    rw [HX.out]
    clear hm HX
    go_enter Tryz.func17, Tryz.ntmps17
    go_wp2_with fail
    refine HC.out.mono ?_
    rintro e w1 ⟨rfl, hb1⟩
    go_wp2
    go_ret2
    exact ⟨rfl, HB0.out.trans (hb1.mono (Nat.le_succ _))⟩
  | true =>
    have HC := Lib.hid (HM.out true hm)
    have HX : Hid (textR t = if 8192 < (textT t).length then ([], 41) else (textT t, 0)) := by show _ = _; unfold textR; rw [hm]; rfl
    have HOK : Hid ((preT lis 0 t).all okP = true) := hm
    clear hm
    go_enter Tryz.func17, Tryz.ntmps17
    go_wp2_with fail
    refine HC.out.mono ?_
    rintro e w1 ⟨rfl, hb1⟩
    have HB1 : Hid (Below w.heap.size w w1) := HB0.out.trans (hb1.mono (Nat.le_succ _))
    have hx1 : w1.heap[w.heap.size]? = some (.cells #[.int .i8 t.kind, .string (bytesL t.text), .slice a t.kids.length cap] 35 (0, 0)) := (hb1.block _ (Nat.lt_succ_self _)).trans (heap_alloc_new w _)
    have x0 := cell_of_row _ _ 0 _ _ _ hx1
    have x1 := cell_of_row _ _ 1 _ _ _ hx1
    have x2 := cell_of_row _ _ 2 _ _ _ hx1
    simp only [List.getElem?_toArray, List.getElem?_cons_zero, List.getElem?_cons_succ] at x0 x1 x2
    have hz1 : w.heap.size < w1.heap.size := by have := hb1.size; simp at this; omega
    clear hb1 hx1
    go_wp2_with fail
    have HB2 : Hid (Below w.heap.size w (w1.alloc (.cells #[.slice none 0 0] 61))) := HB1.out.alloc (by omega) _
    have HW : Hid (WT (w1.alloc (.cells #[.slice none 0 0] 61)) w.heap.size w1.heap.size (fun b => b < w.heap.size) []) :=
      ⟨.slice none 0 0, heap_alloc_new w1 _, World.ownsRow_nil _ _ _ _, by omega, fun b hb => ⟨by simp; omega, by omega, by simp [Value.ownBlock], fun h => by omega⟩, fun b hb => hb⟩
    refine (write_any w w.heap.size w1.heap.size HG.out rfl _ t (Nat.le_refl _) 0 _ HOK.out HR.out (by omega) _ [] _ HB2.out (HG.out.below HB2.out) HW.out (by simp; omega) (by simp)).mono ?_
    rintro e w2 ⟨rfl, ⟨l', hw2, hwr⟩, hk2⟩
    have HW2 := Lib.hid hw2
    have HWR := Lib.hid hwr
    have HB3 : Hid (Below w.heap.size w w2) := HB2.out.trans (hk2.below (fun k hk => hk))
    clear hw2 hwr hk2
    by_cases hlg : 8192 < l'.length
    · have HE5 : Hid (decide (8192 < l'.length) = true) := by show _ = _; simpa using hlg
      have HX2 : Hid (textR t = ([], 41)) := by
        show _ = _
        rw [HX.out, if_pos]
        rcases HWR.out.2 with h | ⟨_, h⟩
        · rw [h] at hlg; simpa using hlg
        · have := h.length_le; simp at this; omega
      clear hlg
      go_wp2_with fail
      refine (long_any _ _ _ l' true _ HW2.out HE5.out).mono ?_
      rintro e w5 ⟨rfl, rfl⟩
      go_wp2
      go_ret2
      exact ⟨by rw [HX2.out]; rfl, HB3.out⟩
    · have HE5 : Hid (decide (8192 < l'.length) = false) := by show _ = _; simpa using hlg
      have hl' : l' = textT t := by
        rcases HWR.out.2 with h | ⟨h, _⟩
        · simpa using h
        · omega
      have HX2 : Hid (textR t = (l', 0)) := by
        show _ = _
        rw [HX.out, if_neg (by rw [← hl']; exact hlg), hl']
      clear hlg hl'
      obtain ⟨vt, h1, h2, _⟩ := HW2.out
      obtain ⟨a2, cap2, rfl⟩ := own_slice h2
      have c0 := cell_of_row _ _ 0 _ _ _ h1
      simp only [List.getElem?_toArray, List.getElem?_cons_zero] at c0
      have hcv := conv_own h2
      clear h1 h2
      go_wp2_with fail
      refine (long_any _ _ _ l' false _ HW2.out HE5.out).mono ?_
      rintro e w5 ⟨rfl, rfl⟩
      go_wp2
      go_ret2
      exact ⟨by rw [HX2.out]; rfl, HB3.out⟩
end Go.Proofs.YtodonngnigbpaaaGreatDoor
