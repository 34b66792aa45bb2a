/- What the document says of push, and of (check-sat). -/
import Derived.Test.YtodonngnigbpaaaGreatDoorCmT
import Derived.Test.YtodonngnigbpaaaGreatDoorCmH
import Derived.Test.YtodonngnigbpaaaGreatDoorCmB
import Derived.Test.YtodonngnigbpaaaGreatDoorCmI
namespace Go.Proofs.YtodonngnigbpaaaGreatDoor
open Go.RowKit
set_option linter.unusedVariables false
/-- What list answers. -/
def ListP (sure : Prop) (c : CmdA) (W : World) (e : Ending) (w' : World) : Prop :=
  ∃ s : SexV, s.t = listT c ∧ e = .returned (sexV s) ∧ Sx w' (listT c) (sexV s) ∧ (sure → SxK w' (listT c) (sexV s)) ∧ Below W.heap.size W w'
def ListOk (sure : Prop) (x : CmdV) (w : World) : Prop := ∀ W, Below w.heap.size w W → Calls Tryz.prog 18 #[.agg #[.int .i8 x.c.kind, .string (bytesL x.c.name), .int .i64 x.c.n, .slice x.la x.c.l.length x.lc, .slice x.aa x.c.args.length x.ac, .slice x.pa x.c.params.length x.pc, .string (bytesL x.c.res), .slice x.ta x.c.terms.length x.tc]] W (ListP sure x.c W)
theorem ListOk.below {sure : Prop} {x : CmdV} {w w' : World} (h : ListOk sure x w) (hb : Below w.heap.size w w') : ListOk sure x w' := fun W hW => h W (hb.trans (hW.mono hb.size))
theorem list_ok (x : CmdV) (w : World) (hG : GH w) (hr : CmdS w x) (hF : Fair x.c) : ListOk False x w := fun W hW => by
  refine (list_any x W (hG.below hW) (hr.below hW) hF).mono ?_
  rintro e w' ⟨s, h1, h2, h3, h4⟩
  exact ⟨s, h1, h2, h3.sx, fun h => h.elim, h4⟩
/-- What May answers. -/
def MayP (sure : Prop) (c : CmdA) (w : World) (e : Ending) (w' : World) : Prop :=
  (∃ r, e = .returned (.bool r) ∧ (r = true → mayT (listT c) = true ∧ parse0 (listT c) = some c) ∧ (sure → mayT (listT c) = true → parse0 (listT c) = some c → r = true)) ∧ Below w.heap.size w w'
set_option maxRecDepth 100000 in
set_option maxHeartbeats 2000000 in
theorem cmay_two (sure : Prop) (x : CmdV) (w : World) (hG : GH w) (hx : CmdS w x) (hLs : ListOk sure x w) (hRT : RowsT (listT x.c)) :
    Calls Tryz.prog 16 #[.agg #[.int .i8 x.c.kind, .string (bytesL x.c.name), .int .i64 x.c.n, .slice x.la x.c.l.length x.lc, .slice x.aa x.c.args.length x.ac, .slice x.pa x.c.params.length x.pc, .string (bytesL x.c.res), .slice x.ta x.c.terms.length x.tc]] w (MayP sure x.c w) := by
  obtain ⟨W1, hW1⟩ : ∃ W1, W1 = w.alloc (.cells #[.int .i8 x.c.kind, .string (bytesL x.c.name), .int .i64 x.c.n, .slice x.la x.c.l.length x.lc, .slice x.aa x.c.args.length x.ac, .slice x.pa x.c.params.length x.pc, .string (bytesL x.c.res), .slice x.ta x.c.terms.length x.tc] 28) := ⟨_, rfl⟩
  have hB1 : Below w.heap.size w W1 := by rw [hW1]; exact (Below.refl _ _).alloc (Nat.le_refl _) _
  have hX1 : Box8 W1 w.heap.size x := by rw [hW1]; exact heap_alloc_new w _
  have hsz : W1.heap.size = w.heap.size + 1 := by rw [hW1]; simp
  have HL := Lib.hid hW1
  have HC : Hid (Calls Tryz.prog 18 #[.agg #[.int .i8 x.c.kind, .string (bytesL x.c.name), .int .i64 x.c.n, .slice x.la x.c.l.length x.lc, .slice x.aa x.c.args.length x.ac, .slice x.pa x.c.params.length x.pc, .string (bytesL x.c.res), .slice x.ta x.c.terms.length x.tc]] W1 fun e w5 => ∃ v, e = .returned v ∧ Hid (Calls Tryz.prog 9 #[v] w5 fun e w6 => Box8 w6 w.heap.size x ∧ Below W1.heap.size W1 w6 ∧
      (e = .returned (.tuple #[.agg #[.int .i8 cmdV0.c.kind, .string (bytesL cmdV0.c.name), .int .i64 cmdV0.c.n, .slice cmdV0.la cmdV0.c.l.length cmdV0.lc, .slice cmdV0.aa cmdV0.c.args.length cmdV0.ac, .slice cmdV0.pa cmdV0.c.params.length cmdV0.pc, .string (bytesL cmdV0.c.res), .slice cmdV0.ta cmdV0.c.terms.length cmdV0.tc], .int .i64 30]) ∧ (sure → mayT (listT x.c) = true → parse0 (listT x.c) = none) ∨
        ∃ o : CmdV, e = .returned (.tuple #[.agg #[.int .i8 o.c.kind, .string (bytesL o.c.name), .int .i64 o.c.n, .slice o.la o.c.l.length o.lc, .slice o.aa o.c.args.length o.ac, .slice o.pa o.c.params.length o.pc, .string (bytesL o.c.res), .slice o.ta o.c.terms.length o.tc], .int .i64 0]) ∧ mayT (listT x.c) = true ∧ parse0 (listT x.c) = some o.c ∧ Hid (∀ W, Below w6.heap.size w6 W → Calls Tryz.prog 25 #[.agg #[.int .i8 o.c.kind, .string (bytesL o.c.name), .int .i64 o.c.n, .slice o.la o.c.l.length o.lc, .slice o.aa o.c.args.length o.ac, .slice o.pa o.c.params.length o.pc, .string (bytesL o.c.res), .slice o.ta o.c.terms.length o.tc], .agg #[.int .i8 x.c.kind, .string (bytesL x.c.name), .int .i64 x.c.n, .slice x.la x.c.l.length x.lc, .slice x.aa x.c.args.length x.ac, .slice x.pa x.c.params.length x.pc, .string (bytesL x.c.res), .slice x.ta x.c.terms.length x.tc]] W fun e w7 => (∃ r, e = .returned (.bool r) ∧ (r = true ↔ o.c = x.c)) ∧ Below w.heap.size w w7)))) := by
    refine (hLs W1 hB1).mono ?_
    rintro e w5 ⟨s, hst, rfl, hs1, hs2, hb5⟩
    refine ⟨_, rfl, ?_⟩
    refine (cparse_any sure (listT x.c) (sexV s) w5 (hG.below (hB1.trans (hb5.mono (by omega)))) hs1 hRT hs2).mono ?_
    rintro e w6 ⟨r, h1, h2, hb6, h3⟩
    have hb16 : Below W1.heap.size W1 w6 := hb5.trans (hb6.mono hb5.size)
    refine ⟨(hb16.block _ (by omega)).trans hX1, hb16, ?_⟩
    cases r with
    | none => exact .inl ⟨h3, fun q1 q2 => (h2 q1 q2).symm⟩
    | some c =>
      obtain ⟨o, ho, he, hn⟩ := h3
      obtain ⟨hp, hm⟩ := h1 c rfl
      refine .inr ⟨o, he, hm, by rw [ho]; exact hp, fun W hW => ?_⟩
      have hbw := (hB1.trans (hb16.mono (by omega))).trans (hW.mono (by have := hb16.size; omega))
      refine (csame_any o x W (hn.s.below hW) ((newL_sxkl hn.tat).below hW) (by rw [ho]; exact parse_ht hm hp) (hx.below hbw)).mono ?_
      rintro e w7 ⟨hr, hb7⟩
      exact ⟨hr, hbw.trans (hb7.mono hbw.size)⟩
  have HB1 := Lib.hid hB1
  obtain ⟨a0, a1, a2, a3, a4, a5, a6, a7⟩ := hX1.cells
  clear hG hx hLs hRT hW1 hB1 hX1
  go_enter Tryz.func16, Tryz.ntmps16
  go_wp2_with fail
  rw [← HL.out]
  clear HL
  refine HC.out.mono ?_
  rintro e w5 ⟨v, rfl, HPa⟩
  clear HC
  go_wp2_with fail
  refine HPa.out.mono ?_
  rintro e w6 ⟨hX6, hb6, hor⟩
  have HB6 := Lib.hid hb6
  clear HPa a0 a1 a2 a3 a4 a5 a6 a7 hb6
  obtain ⟨a0, a1, a2, a3, a4, a5, a6, a7⟩ := hX6.cells
  clear hX6
  have hlt : w.heap.size < w6.heap.size := by have := HB6.out.size; omega
  rcases hor with ⟨rfl, hno⟩ | ⟨o, rfl, hm, hp, HS⟩
  · have HN := Lib.hid hno
    clear hno
    go_wp2
    go_ret
    exact ⟨⟨false, rfl, fun h => (by cases h), fun h1 h2 h3 => by rw [HN.out h1 h2] at h3; cases h3⟩, (HB1.out.trans (HB6.out.mono (by omega))).trans (((Below.refl _ _).alloc (Nat.le_refl _) _).mono (by omega))⟩
  · have HM := Lib.hid hm
    have HP := Lib.hid hp
    clear hm hp
    go_wp2_with fail
    refine (HS.out _ ((Below.refl _ _).alloc (Nat.le_refl _) _)).mono ?_
    rintro e w7 ⟨⟨r, rfl, hr⟩, hb7⟩
    have HR := Lib.hid hr
    have HB7 := Lib.hid hb7
    clear hr hb7 a0 a1 a2 a3 a4 a5 a6 a7 HS
    go_wp2
    go_ret
    exact ⟨⟨r, rfl, fun h => ⟨HM.out, by rw [HP.out, HR.out.1 h]⟩, fun _ _ h3 => HR.out.2 (Option.some.inj (HP.out.symm.trans h3))⟩, HB7.out⟩
/-- What Text answers. -/
def TextP (sure : Prop) (c : CmdA) (w : World) (e : Ending) (w' : World) : Prop :=
  (∃ (l : List UInt8) (k : Nat), e = .returned (.tuple #[.string (bytesL l), .int .i64 k]) ∧ (k = 0 → mayT (listT c) = true ∧ parse0 (listT c) = some c ∧ l = textT (listT c) ∧ l.length ≤ 8192) ∧ (¬ k = 0 → l = []) ∧
    (sure → mayT (listT c) = true → parse0 (listT c) = some c → (textT (listT c)).length ≤ 8192 → k = 0)) ∧ Below w.heap.size w w'
set_option maxRecDepth 100000 in
set_option maxHeartbeats 2000000 in
theorem ctext_two (sure : Prop) (x : CmdV) (w : World) (hG : GH w) (hx : CmdS w x) (hLs : ListOk sure x w) (hRT : RowsT (listT x.c)) :
    Calls Tryz.prog 7 #[.agg #[.int .i8 x.c.kind, .string (bytesL x.c.name), .int .i64 x.c.n, .slice x.la x.c.l.length x.lc, .slice x.aa x.c.args.length x.ac, .slice x.pa x.c.params.length x.pc, .string (bytesL x.c.res), .slice x.ta x.c.terms.length x.tc]] w (TextP sure x.c w) := by
  obtain ⟨W1, hW1⟩ : ∃ W1, W1 = w.alloc (.cells #[.int .i8 x.c.kind, .string (bytesL x.c.name), .int .i64 x.c.n, .slice x.la x.c.l.length x.lc, .slice x.aa x.c.args.length x.ac, .slice x.pa x.c.params.length x.pc, .string (bytesL x.c.res), .slice x.ta x.c.terms.length x.tc] 28) := ⟨_, rfl⟩
  have hB1 : Below w.heap.size w W1 := by rw [hW1]; exact (Below.refl _ _).alloc (Nat.le_refl _) _
  have hX1 : Box8 W1 w.heap.size x := by rw [hW1]; exact heap_alloc_new w _
  have hsz : W1.heap.size = w.heap.size + 1 := by rw [hW1]; simp
  have HL := Lib.hid hW1
  have HC : Hid (Calls Tryz.prog 16 #[.agg #[.int .i8 x.c.kind, .string (bytesL x.c.name), .int .i64 x.c.n, .slice x.la x.c.l.length x.lc, .slice x.aa x.c.args.length x.ac, .slice x.pa x.c.params.length x.pc, .string (bytesL x.c.res), .slice x.ta x.c.terms.length x.tc]] W1 fun e w5 => (∃ r, e = .returned (.bool r) ∧ (r = true → mayT (listT x.c) = true ∧ parse0 (listT x.c) = some x.c) ∧ (sure → mayT (listT x.c) = true → parse0 (listT x.c) = some x.c → r = true)) ∧ Box8 w5 w.heap.size x ∧ Below w.heap.size w w5 ∧
      Hid (Calls Tryz.prog 18 #[.agg #[.int .i8 x.c.kind, .string (bytesL x.c.name), .int .i64 x.c.n, .slice x.la x.c.l.length x.lc, .slice x.aa x.c.args.length x.ac, .slice x.pa x.c.params.length x.pc, .string (bytesL x.c.res), .slice x.ta x.c.terms.length x.tc]] w5 fun e w6 => ∃ v, e = .returned v ∧ Hid (Calls Tryz.prog 17 #[v] w6 fun e w7 => (∃ (l : List UInt8) (k : Nat), e = .returned (.tuple #[.string (bytesL l), .int .i64 k]) ∧ (k = 0 → mayT (listT x.c) = true ∧ l = textT (listT x.c) ∧ l.length ≤ 8192) ∧ (¬ k = 0 → l = []) ∧ (sure → mayT (listT x.c) = true → (textT (listT x.c)).length ≤ 8192 → k = 0)) ∧ Below w.heap.size w w7))) := by
    refine (cmay_two sure x W1 (hG.below hB1) (hx.below hB1) (hLs.below hB1) hRT).mono ?_
    rintro e w5 ⟨hr, hb5⟩
    have hbw := hB1.trans (hb5.mono (by omega))
    refine ⟨hr, (hb5.block _ (by omega)).trans hX1, hbw, ?_⟩
    refine (hLs w5 hbw).mono ?_
    rintro e w6 ⟨s, hst, rfl, hs1, hs2, hb6⟩
    refine ⟨_, rfl, ?_⟩
    have hbw6 := hbw.trans (hb6.mono hbw.size)
    refine (text_two (listT x.c) (sexV s) w6 (hG.below hbw6).g hs1 sure hs2).mono ?_
    rintro e w7 ⟨h, hb7⟩
    exact ⟨h, hbw6.trans (hb7.mono hbw6.size)⟩
  obtain ⟨a0, a1, a2, a3, a4, a5, a6, a7⟩ := hX1.cells
  clear hG hx hLs hRT hW1 hB1 hX1
  go_enter Tryz.func7, Tryz.ntmps7
  go_wp2_with fail
  rw [← HL.out]
  clear HL
  refine HC.out.mono ?_
  rintro e w5 ⟨⟨r, rfl, hr1, hr2⟩, hX5, hb5, HLi⟩
  have HR1 := Lib.hid hr1
  have HR2 := Lib.hid hr2
  have HB5 := Lib.hid hb5
  clear HC a0 a1 a2 a3 a4 a5 a6 a7 hr1 hr2 hb5
  obtain ⟨a0, a1, a2, a3, a4, a5, a6, a7⟩ := hX5.cells
  clear hX5
  cases r with
  | false =>
    go_wp2
    go_ret2
    exact ⟨⟨[], 2, rfl, fun h => (by cases h), fun _ => rfl, fun h1 h2 h3 _ => absurd (HR2.out h1 h2 h3) (by simp)⟩, HB5.out⟩
  | true =>
    go_wp2_with fail
    refine HLi.out.mono ?_
    rintro e w6 ⟨v, rfl, HT⟩
    clear HLi a0 a1 a2 a3 a4 a5 a6 a7
    go_wp2_with fail
    refine HT.out.mono ?_
    rintro e w7 ⟨⟨l, k, rfl, h1, h2, h3⟩, hb7⟩
    have H1 := Lib.hid h1
    have H2 := Lib.hid h2
    have H3 := Lib.hid h3
    have HB7 := Lib.hid hb7
    have HR : Hid (mayT (listT x.c) = true ∧ parse0 (listT x.c) = some x.c) := by first | exact HR1.out rfl | exact HR1.out trivial
    clear HT h1 h2 h3 hb7 HR1 HR2
    go_wp2
    go_ret2
    exact ⟨⟨l, k, rfl, fun h => ⟨HR.out.1, HR.out.2, (H1.out h).2⟩, H2.out, fun q1 q2 _ q3 => H3.out q1 q2 q3⟩, HB7.out⟩
end Go.Proofs.YtodonngnigbpaaaGreatDoor
namespace Go.Proofs.YtodonngnigbpaaaGreatDoor
open Go.RowKit
set_option linter.unusedVariables false
/-- What Sexp answers. -/
def SexpP (c : CmdA) (w : World) (e : Ending) (w' : World) : Prop :=
  (∃ (k0 : Int) (s0 : ByteArray) (a : Option Addr) (n0 cc k : Nat), e = .returned (.tuple #[.agg #[.int .i8 k0, .string s0, .slice a n0 cc], .int .i64 k]) ∧ (k = 0 → mayT (listT c) = true ∧ parse0 (listT c) = some c ∧ NewT w.heap.size w' (listT c) (.agg #[.int .i8 k0, .string s0, .slice a n0 cc]))) ∧ Below w.heap.size w w'
set_option maxRecDepth 100000 in
set_option maxHeartbeats 2000000 in
theorem csexp_any (x : CmdV) (w : World) (hG : GH w) (hx : CmdS w x) (hLs : ListOk False x w) (hRT : RowsT (listT x.c)) :
    Calls Tryz.prog 11 #[.agg #[.int .i8 x.c.kind, .string (bytesL x.c.name), .int .i64 x.c.n, .slice x.la x.c.l.length x.lc, .slice x.aa x.c.args.length x.ac, .slice x.pa x.c.params.length x.pc, .string (bytesL x.c.res), .slice x.ta x.c.terms.length x.tc]] w (SexpP x.c w) := by
  obtain ⟨W1, hW1⟩ : ∃ W1, W1 = (w.alloc (.cells #[.int .i8 x.c.kind, .string (bytesL x.c.name), .int .i64 x.c.n, .slice x.la x.c.l.length x.lc, .slice x.aa x.c.args.length x.ac, .slice x.pa x.c.params.length x.pc, .string (bytesL x.c.res), .slice x.ta x.c.terms.length x.tc] 28)).alloc zSx := ⟨_, rfl⟩
  obtain ⟨hB1, hX1, hY1, hsz⟩ := boxed hW1
  have HL : Hid (W1 = (w.alloc (.cells #[.int .i8 x.c.kind, .string (bytesL x.c.name), .int .i64 x.c.n, .slice x.la x.c.l.length x.lc, .slice x.aa x.c.args.length x.ac, .slice x.pa x.c.params.length x.pc, .string (bytesL x.c.res), .slice x.ta x.c.terms.length x.tc] 28)).alloc (.cells #[.int .i8 0, .string ⟨#[]⟩, .slice none 0 0] 35)) := hW1
  have HC : Hid (Calls Tryz.prog 16 #[.agg #[.int .i8 x.c.kind, .string (bytesL x.c.name), .int .i64 x.c.n, .slice x.la x.c.l.length x.lc, .slice x.aa x.c.args.length x.ac, .slice x.pa x.c.params.length x.pc, .string (bytesL x.c.res), .slice x.ta x.c.terms.length x.tc]] W1 fun e w5 => (∃ r, e = .returned (.bool r) ∧ (r = true → mayT (listT x.c) = true ∧ parse0 (listT x.c) = some x.c)) ∧ Box8 w5 w.heap.size x ∧ w5.heap[w.heap.size + 1]? = some zSx ∧ Below w.heap.size w w5 ∧
      Hid (Calls Tryz.prog 18 #[.agg #[.int .i8 x.c.kind, .string (bytesL x.c.name), .int .i64 x.c.n, .slice x.la x.c.l.length x.lc, .slice x.aa x.c.args.length x.ac, .slice x.pa x.c.params.length x.pc, .string (bytesL x.c.res), .slice x.ta x.c.terms.length x.tc]] w5 fun e w6 => ∃ v, e = .returned v ∧ Hid (Calls Tryz.prog 23 #[v] w6 fun e w7 => ∃ s : SexV, s.t = listT x.c ∧ e = .returned (.agg #[.int .i8 s.t.kind, .string (bytesL s.t.text), .slice s.a s.t.kids.length s.c]) ∧ NewT (w.heap.size + 2) w7 (listT x.c) (sexV s) ∧ w7.heap[w.heap.size + 1]? = some zSx ∧ Below w.heap.size w w7))) := by
    refine (cmay_two False x W1 (hG.below hB1) (hx.below hB1) (hLs.below hB1) hRT).mono ?_
    rintro e w5 ⟨⟨r, rfl, hr, _⟩, hb5⟩
    have hbw := hB1.trans (hb5.mono (by omega))
    have hY5 := (hb5.block (w.heap.size + 1) (by omega)).trans hY1
    have hs5 := hb5.size
    refine ⟨⟨r, rfl, hr⟩, (hb5.block _ (by omega)).trans hX1, hY5, hbw, ?_⟩
    refine (hLs w5 hbw).mono ?_
    rintro e w6 ⟨s, hst, rfl, hs1, _, hb6⟩
    refine ⟨_, rfl, ?_⟩
    have hbw6 := hbw.trans (hb6.mono hbw.size)
    have hs6 := hb6.size
    refine (anew_any (listT x.c) (sexV s) w6 hs1 hRT).mono ?_
    rintro e w7 ⟨s', h1, rfl, _, _, h4, hb7⟩
    refine ⟨s', h1, rfl, h4.more (by omega), (hb7.block _ (by omega)).trans ((hb6.block _ (by omega)).trans hY5), hbw6.trans (hb7.mono hbw6.size)⟩
  obtain ⟨a0, a1, a2, a3, a4, a5, a6, a7⟩ := hX1.cells
  clear hG hx hLs hRT hW1 hB1 hX1 hY1
  go_enter Tryz.func11, Tryz.ntmps11
  go_wp2_with fail
  rw [← HL.out]
  clear HL
  refine HC.out.mono ?_
  rintro e w5 ⟨⟨r, rfl, hr1⟩, hX5, hY5, hb5, HLi⟩
  have HR1 := Lib.hid hr1
  have HB5 := Lib.hid hb5
  have HY5 := Lib.hid hY5
  clear HC a0 a1 a2 a3 a4 a5 a6 a7 hr1 hb5
  obtain ⟨a0, a1, a2, a3, a4, a5, a6, a7⟩ := hX5.cells
  obtain ⟨z0, z1, z2, zf, hzl⟩ := cells3b hY5
  clear hX5 hY5
  cases r with
  | false =>
    go_wp2
    refine bodyPost_ret (res_cell_tmp rfl _ _ (w.heap.size + 1) _ _ _ _ rfl (set3 HY5.out) Tryz.underlying35 rfl sexSize3) rfl ?_
    exact ⟨⟨0, ⟨#[]⟩, none, 0, 0, 2, rfl, fun h => (by cases h)⟩, below_far1 (below_far1 (below_far1 HB5.out (by omega)) (by omega)) (by omega)⟩
  | true =>
    go_wp2_with fail
    refine HLi.out.mono ?_
    rintro e w6 ⟨v, rfl, HT⟩
    clear HLi a0 a1 a2 a3 a4 a5 a6 a7 z0 z1 z2 zf hzl
    go_wp2_with fail
    refine HT.out.mono ?_
    rintro e w7 ⟨s, hst, rfl, hn, hY7, hb7⟩
    have HN := Lib.hid hn
    have HY7 := Lib.hid hY7
    have HB7 := Lib.hid hb7
    have HST := Lib.hid hst
    have HR : Hid (mayT (listT x.c) = true ∧ parse0 (listT x.c) = some x.c) := by first | exact HR1.out rfl | exact HR1.out trivial
    obtain ⟨z0, z1, z2, zf, hzl⟩ := cells3b hY7
    clear HT hn hY7 hb7 hst HR1
    go_wp2
    refine bodyPost_ret (res_cell_tmp rfl _ _ (w.heap.size + 1) _ _ _ _ rfl (set3 HY7.out) Tryz.underlying35 rfl sexSize3) rfl ?_
    refine ⟨⟨_, _, _, _, _, 0, rfl, fun _ => ⟨HR.out.1, HR.out.2, ?_⟩⟩, below_far1 (below_far1 (below_far1 HB7.out (by omega)) (by omega)) (by omega)⟩
    exact (new_store (t := listT x.c) (s := s) (b := w.heap.size + 1) HY7.out (by omega) HN.out).2.more (by omega)
end Go.Proofs.YtodonngnigbpaaaGreatDoor
namespace Go.Proofs.YtodonngnigbpaaaGreatDoor
open Go.RowKit
set_option linter.unusedVariables false
def c8 : CmdA := { cmd0 with kind := 8 }
def v8 : CmdV := { cmdV0 with c := c8 }
def v8V : Value := .agg #[.int .i8 8, .string ⟨#[]⟩, .int .i64 0, .slice none 0 0, .slice none 0 0, .slice none 0 0, .string ⟨#[]⟩, .slice none 0 0]
set_option maxRecDepth 100000 in
theorem symbol_eq (s : List UInt8) (w : World) : Calls Tryz.prog 29 #[.string (bytesL s)] w fun e w' => e = .returned (.agg #[.int .i8 0, .string (bytesL s), .slice none 0 0]) ∧ Below w.heap.size w w' := by
  go_enter Tryz.func29, Tryz.ntmps29
  go_wp2
  refine bodyPost_ret (results_cell_row rfl _ _ (w.heap.size) _ _ _ _ rfl (heap_alloc_new w _) Tryz.underlying35 rfl sexSize3) rfl ?_
  exact ⟨rfl, (((Below.refl _ _).alloc (Nat.le_refl _) _))⟩
set_option maxRecDepth 100000 in
theorem row_eq (a : Option Addr) (n c : Nat) (w : World) : Calls Tryz.prog 35 #[.slice a n c] w fun e w' => e = .returned (.agg #[.int .i8 3, .string ⟨#[]⟩, .slice a n c]) ∧ Below w.heap.size w w' := by
  go_enter Tryz.func35, Tryz.ntmps35
  go_wp2
  refine bodyPost_ret (results_cell_row rfl _ _ (w.heap.size) _ _ _ _ rfl (heap_alloc_new w _) Tryz.underlying35 rfl sexSize3) rfl ?_
  exact ⟨rfl, (((Below.refl _ _).alloc (Nat.le_refl _) _))⟩
def h8L : List UInt8 := [99, 104, 101, 99, 107, 45, 115, 97, 116]
/-- What form and list answer of it. -/
def L8 (w : World) (e : Ending) (w' : World) : Prop :=
  ∃ M, e = .returned (.agg #[.int .i8 3, .string ⟨#[]⟩, .slice (some ⟨M, 0, none⟩) 1 1]) ∧ w.heap.size ≤ M ∧ w'.heap[M]? = some (.cells #[.int .i8 0, .string (bytesL h8L), .slice none 0 0] 35 (0, 0)) ∧ Below w.heap.size w w'
set_option maxRecDepth 100000 in
set_option maxHeartbeats 2000000 in
theorem form8 (w : World) (hG : GH w) : Calls Tryz.prog 28 #[v8V, .slice none 0 0] w (L8 w) := by
  obtain ⟨i0, hi, hz0, hz1, hz2⟩ := info_parts info_sex
  have hnil := fun ty a => @app_nil Tryz.prog 26 ty 35 i0 Tryz.underlying26 hi a 1 1 0 (Nat.le_refl _)
  obtain ⟨W0, hW0⟩ : ∃ W0, W0 = (w.alloc (.cells #[.int .i8 8, .string ⟨#[]⟩, .int .i64 0, .slice none 0 0, .slice none 0 0, .slice none 0 0, .string ⟨#[]⟩, .slice none 0 0] 28)).alloc zSx := ⟨_, rfl⟩
  obtain ⟨hX0, hY0, hB0⟩ := two_new w (.cells #[.int .i8 8, .string ⟨#[]⟩, .int .i64 0, .slice none 0 0, .slice none 0 0, .slice none 0 0, .string ⟨#[]⟩, .slice none 0 0] 28) zSx
  rw [← hW0] at hX0 hY0 hB0
  have hsz : W0.heap.size = w.heap.size + 2 := by rw [hW0]; simp
  have HL : Hid (W0 = (w.alloc (.cells #[.int .i8 8, .string ⟨#[]⟩, .int .i64 0, .slice none 0 0, .slice none 0 0, .slice none 0 0, .string ⟨#[]⟩, .slice none 0 0] 28)).alloc (.cells #[.int .i8 0, .string ⟨#[]⟩, .slice none 0 0] 35)) := hW0
  have hcell : w.cell? ⟨0, 8, none⟩ = some (.string (bytesL h8L)) := hG.h 8 _ rfl
  have hgl := hG.lt
  have HB0 := Lib.hid hB0
  have HY0 := Lib.hid hY0
  clear hW0 hX0 hY0 hB0 hG
  unfold v8V
  go_enter Tryz.func28, Tryz.ntmps28
  go_wp2_with fail
  rw [← HL.out]
  clear HL
  refine (symbol_eq h8L W0).mono ?_
  rintro e w2 ⟨rfl, hb2⟩
  have HB2 := Lib.hid hb2
  clear hb2
  go_wp2_with fail
  refine (row_eq _ 1 1 _).mono ?_
  rintro e w5 ⟨rfl, hb5⟩
  have h5 : w5.heap[w2.heap.size]? = some (.cells #[.int .i8 0, .string (bytesL h8L), .slice none 0 0] 35 (0, 0)) := (hb5.block _ (by simp)).trans (heap_alloc_new w2 _)
  have hb25 : Below w2.heap.size w2 w5 := ((Below.refl _ _).alloc (Nat.le_refl _) _).trans (hb5.mono (by simp))
  have hs2 := HB2.out.size
  have hY5 : w5.heap[w.heap.size + 1]? = some zSx := (hb25.block _ (by omega)).trans ((HB2.out.block _ (by omega)).trans HY0.out)
  have HY5 := Lib.hid hY5
  have H5 := Lib.hid h5
  have HB5 : Hid (Below w.heap.size w w5) := (HB0.out.trans (HB2.out.mono HB0.out.size)).trans (hb25.mono (by omega))
  obtain ⟨z0, z1, z2, zf, hzl⟩ := cells3b hY5
  clear hb5 h5 hb25 hY5
  go_wp2
  refine bodyPost_ret (results_cell_row rfl _ _ (w.heap.size + 1) _ _ _ _ rfl (set3 HY5.out) Tryz.underlying35 rfl sexSize3) rfl ?_
  refine ⟨w2.heap.size, rfl, by omega, ?_, below_far1 (below_far1 (below_far1 HB5.out (by omega)) (by omega)) (by omega)⟩
  have hne : w2.heap.size ≠ w.heap.size + 1 := by omega
  exact ((Below.heap_setCell _ _ _ _ hne).trans ((Below.heap_setCell _ _ _ _ hne).trans (Below.heap_setCell _ _ _ _ hne))).trans H5.out
set_option maxRecDepth 100000 in
set_option maxHeartbeats 2000000 in
theorem list8 (w : World) (hG : GH w) : Calls Tryz.prog 18 #[v8V] w (L8 w) := by
  obtain ⟨W0, hW0⟩ : ∃ W0, W0 = (w.alloc (.cells #[.int .i8 8, .string ⟨#[]⟩, .int .i64 0, .slice none 0 0, .slice none 0 0, .slice none 0 0, .string ⟨#[]⟩, .slice none 0 0] 28)).alloc zSx := ⟨_, rfl⟩
  obtain ⟨hX0, hY0, hB0⟩ := two_new w (.cells #[.int .i8 8, .string ⟨#[]⟩, .int .i64 0, .slice none 0 0, .slice none 0 0, .slice none 0 0, .string ⟨#[]⟩, .slice none 0 0] 28) zSx
  rw [← hW0] at hX0 hY0 hB0
  have hsz : W0.heap.size = w.heap.size + 2 := by rw [hW0]; simp
  have HL : Hid (W0 = (w.alloc (.cells #[.int .i8 8, .string ⟨#[]⟩, .int .i64 0, .slice none 0 0, .slice none 0 0, .slice none 0 0, .string ⟨#[]⟩, .slice none 0 0] 28)).alloc (.cells #[.int .i8 0, .string ⟨#[]⟩, .slice none 0 0] 35)) := hW0
  have HF : Hid (Calls Tryz.prog 28 #[.agg #[.int .i8 8, .string ⟨#[]⟩, .int .i64 0, .slice none 0 0, .slice none 0 0, .slice none 0 0, .string ⟨#[]⟩, .slice none 0 0], .slice none 0 0] W0 (L8 W0)) := form8 W0 (hG.below hB0)
  have HB0 := Lib.hid hB0
  have HY0 := Lib.hid hY0
  clear hW0 hX0 hY0 hB0 hG
  unfold v8V
  go_enter Tryz.func18, Tryz.ntmps18
  go_wp2_with fail
  rw [← HL.out]
  clear HL
  refine HF.out.mono ?_
  rintro e w5 ⟨M, rfl, hM, hc, hb5⟩
  have hY5 : w5.heap[w.heap.size + 1]? = some zSx := (hb5.block _ (by omega)).trans HY0.out
  have HY5 := Lib.hid hY5
  have HC := Lib.hid hc
  have HB5 : Hid (Below w.heap.size w w5) := HB0.out.trans (hb5.mono (by omega))
  obtain ⟨z0, z1, z2, zf, hzl⟩ := cells3b hY5
  clear hc hb5 hY5
  go_wp2
  refine bodyPost_ret (results_cell_row rfl _ _ (w.heap.size + 1) _ _ _ _ rfl (set3 HY5.out) Tryz.underlying35 rfl sexSize3) rfl ?_
  refine ⟨M, rfl, by omega, ?_, below_far1 (below_far1 (below_far1 HB5.out (by omega)) (by omega)) (by omega)⟩
  have hne : M ≠ w.heap.size + 1 := by omega
  exact ((Below.heap_setCell _ _ _ _ hne).trans ((Below.heap_setCell _ _ _ _ hne).trans (Below.heap_setCell _ _ _ _ hne))).trans HC.out
theorem list8_ok (w : World) (hG : GH w) : ListOk True v8 w := fun W hW => by
  refine (list8 W (hG.below hW)).mono ?_
  rintro e w' ⟨M, rfl, hM, hc, hb⟩
  have hR : RdL w' (newBad W.heap.size w') [symT h8L] (some ⟨M, 0, none⟩) := build_rdl (ys := [⟨symT h8L, none, 0⟩]) hc (fun h => by rcases h with h | h; omega; exact h ⟨_, _, hc⟩) 0 (fun i v hv => by
      rw [Nat.zero_add, cell_of_row _ _ i _ _ _ hc, ← Array.getElem?_toList]
      exact hv) (fun s hs => by
      rw [List.mem_singleton] at hs
      subst hs
      exact ⟨none, 0, rfl, by simp, by simp, by simp [h8L, maxLen], trivial⟩)
  have hN : NewT W.heap.size w' (rowT [symT h8L]) (sexV ⟨rowT [symT h8L], some ⟨M, 0, none⟩, 1⟩) := ⟨some ⟨M, 0, none⟩, 1, rfl, by simp, by simp [maxLen], by simp, hR⟩
  exact ⟨⟨rowT [symT h8L], some ⟨M, 0, none⟩, 1⟩, rfl, rfl, hN.sx, fun _ => hN.sxk, hb⟩
end Go.Proofs.YtodonngnigbpaaaGreatDoor
namespace Go.Proofs.YtodonngnigbpaaaGreatDoor
open Go.RowKit
set_option linter.unusedVariables false
def pushL : List UInt8 := [112, 117, 115, 104]
def oneT : Tree := .node 1 [49] []
def push1 : Tree := rowT [symT pushL, oneT]
def push0 : Tree := rowT [symT pushL]
def c6 : CmdA := { cmd0 with kind := 6, n := 1 }
theorem push1_may : mayT push1 = true := by decide +kernel
theorem push0_may : mayT push0 = true := by decide +kernel
theorem push1_parse : parse0 push1 = some c6 := by
  have h1 : headN (headT push1) = 6 := by decide +kernel
  have h2 : parseE [49] = 0 := by decide +kernel
  have h3 : parseV [49] = 1 := by decide +kernel
  unfold parse0
  rw [if_pos (by rw [h1]; decide), h1]
  simp [formsL, push1, oneT, rowT, Tree.kids, takeP, pMarks, numM, Tree.kind, Tree.text, h2, h3, c6, cmd0]
theorem push0_parse : parse0 push0 = none := by
  have h1 : headN (headT push0) = 6 := by decide +kernel
  unfold parse0
  rw [if_pos (by rw [h1]; decide), h1]
  simp [formsL, push0, rowT, Tree.kids, takeP]
theorem l8_may : mayT (listT c8) = true := by decide +kernel
theorem l8_parse : parse0 (listT c8) = some c8 := by
  have h1 : headN (headT (listT c8)) = 8 := by decide +kernel
  unfold parse0
  rw [if_pos (by rw [h1]; decide), h1]
  rfl
theorem l8_text : textT (listT c8) = [40, 99, 104, 101, 99, 107, 45, 115, 97, 116, 41] := by decide +kernel
theorem rows_leaf (k : Int) (s : List UInt8) : RowsT (.node k s []) := by
  unfold RowsT
  exact ⟨by decide, fun t ht => by simp at ht⟩
theorem l8_rows : RowsT (listT c8) := by
  show RowsT (.node 3 [] [.node 0 h8L []])
  unfold RowsT
  refine ⟨by decide, fun t ht => ?_⟩
  rw [List.mem_singleton] at ht
  subst ht
  exact rows_leaf _ _
theorem push1_rows : RowsT push1 := by
  show RowsT (.node 3 [] [.node 0 pushL [], .node 1 [49] []])
  unfold RowsT
  refine ⟨by decide, fun t ht => ?_⟩
  simp only [List.mem_cons, List.not_mem_nil, or_false] at ht
  rcases ht with rfl | rfl
  · exact rows_leaf _ _
  · exact rows_leaf _ _
theorem push0_rows : RowsT push0 := by
  show RowsT (.node 3 [] [.node 0 pushL []])
  unfold RowsT
  refine ⟨by decide, fun t ht => ?_⟩
  rw [List.mem_singleton] at ht
  subst ht
  exact rows_leaf _ _
theorem v8_cmd (w : World) : CmdS w v8 :=
  ⟨by simp [v8, c8, cmd0], by simp [v8, cmdV0], fun h => absurd h (by simp [v8, c8, cmd0]), by simp [v8, c8, cmd0], by simp [v8, cmdV0], fun h => absurd h (by simp [v8, c8, cmd0]), by simp [v8, c8, cmd0], by simp [v8, cmdV0], fun h => absurd h (by simp [v8, c8, cmd0]), by simp [v8, c8, cmd0], by simp [v8, cmdV0], trivial⟩
set_option maxRecDepth 100000 in
theorem lsym_eq (s : List UInt8) (w : World) : Calls Tryz.prog 15 #[.string (bytesL s)] w fun e w' => e = .returned (.agg #[.int .i8 0, .string (bytesL s), .slice none 0 0]) ∧ Below w.heap.size w w' := by
  go_enter Tryz.func15, Tryz.ntmps15
  go_wp2
  refine bodyPost_ret (results_cell_row rfl _ _ (w.heap.size) _ _ _ _ rfl (heap_alloc_new w _) Tryz.underlying35 rfl sexSize3) rfl ?_
  exact ⟨rfl, (((Below.refl _ _).alloc (Nat.le_refl _) _))⟩
theorem lit_row {w' : World} {M : Nat} {cs : Array Value} {ty : TypeId} {ys : List SexV} {B : Nat} (hB : B ≤ M) (hc : w'.heap[M]? = some (.cells cs ty (0, 0))) (he : cs.toList = ys.flatMap sexC) (hy : ∀ s ∈ ys, s.t.kids = [] ∧ s.a = none ∧ s.c = 0 ∧ s.t.text.length ≤ maxLen) : RdL w' (newBad B w') (ys.map (·.t)) (some ⟨M, 0, none⟩) :=
  build_rdl (bad := newBad B w') hc (fun h => by rcases h with h | h; omega; exact h ⟨_, _, hc⟩) ys 0 (fun i v hv => by
      rw [Nat.zero_add, cell_of_row _ _ i _ _ _ hc, ← Array.getElem?_toList, he]
      exact hv) (fun s hs => by
      obtain ⟨h1, h2, h3, h4⟩ := hy s hs
      obtain ⟨t, a, c⟩ := s
      cases t with
      | node k x l =>
        simp only [Tree.kids, Tree.text] at h1 h2 h3 h4
        subst h1
        subst h2
        subst h3
        exact ⟨none, 0, rfl, by simp, by simp, h4, trivial⟩)
set_option maxRecDepth 100000 in
set_option maxHeartbeats 2000000 in
theorem wakes_any (w : World) (hG : GH w) : Calls Tryz.prog 6 #[] w fun e w' => e = .returned (.bool true) ∧ Below w.heap.size w w' := by
  have HS : Hid (∀ W, Below w.heap.size w W → Calls Tryz.prog 15 #[.string ⟨#[112, 117, 115, 104]⟩] W fun e w' => e = .returned (.agg #[.int .i8 0, .string ⟨#[112, 117, 115, 104]⟩, .slice none 0 0]) ∧ Below W.heap.size W w') := fun W hW => (lsym_eq pushL W).mono fun e w' h => ⟨h.1, h.2⟩
  have HP1 : Hid (∀ W M, Below w.heap.size w W → W.heap[M]? = some (.cells #[.int .i8 0, .string ⟨#[112, 117, 115, 104]⟩, .slice none 0 0, .int .i8 1, .string ⟨#[49]⟩, .slice none 0 0] 35 (0, 0)) → Calls Tryz.prog 9 #[.agg #[.int .i8 3, .string ⟨#[]⟩, .slice (some ⟨M, 0, none⟩) 2 2]] W fun e w' => (∃ (la : Option Addr) (lc : Nat) (aa : Option Addr) (ac : Nat) (pa : Option Addr) (pc : Nat) (ta : Option Addr) (tc : Nat), e = .returned (.tuple #[.agg #[.int .i8 6, .string ⟨#[]⟩, .int .i64 1, .slice la 0 lc, .slice aa 0 ac, .slice pa 0 pc, .string ⟨#[]⟩, .slice ta 0 tc], .int .i64 0])) ∧ Below W.heap.size W w') := fun W M hW hc => by
    have hR := lit_row (ys := [⟨symT pushL, none, 0⟩, ⟨oneT, none, 0⟩]) (B := 0) (Nat.zero_le _) hc rfl (fun s hs => by simp only [List.mem_cons, List.not_mem_nil, or_false] at hs; rcases hs with rfl | rfl <;> exact ⟨rfl, rfl, rfl, by simp [symT, oneT, Tree.text, pushL, maxLen]⟩)
    have hN : NewT 0 W push1 (sexV ⟨push1, some ⟨M, 0, none⟩, 2⟩) := ⟨some ⟨M, 0, none⟩, 2, rfl, by simp, by simp [maxLen], by simp, hR⟩
    refine (cparse_any True push1 _ W (hG.below hW) hN.sx push1_rows (fun _ => hN.sxk)).mono ?_
    rintro e w' ⟨r, h1, h2, hb, h3⟩
    have hr := h2 trivial push1_may
    rw [push1_parse] at hr
    subst hr
    obtain ⟨x, hx, he, _⟩ := h3
    obtain ⟨c, la, lc, aa, ac, pa, pc, ta, tc⟩ := x
    simp only at hx
    subst hx
    exact ⟨⟨la, lc, aa, ac, pa, pc, ta, tc, he⟩, hb⟩
  have HP0 : Hid (∀ W M, Below w.heap.size w W → W.heap[M]? = some (.cells #[.int .i8 0, .string ⟨#[112, 117, 115, 104]⟩, .slice none 0 0] 35 (0, 0)) → Calls Tryz.prog 9 #[.agg #[.int .i8 3, .string ⟨#[]⟩, .slice (some ⟨M, 0, none⟩) 1 1]] W fun e w' => e = .returned (.tuple #[.agg #[.int .i8 0, .string ⟨#[]⟩, .int .i64 0, .slice none 0 0, .slice none 0 0, .slice none 0 0, .string ⟨#[]⟩, .slice none 0 0], .int .i64 30]) ∧ Below W.heap.size W w') := fun W M hW hc => by
    have hR := lit_row (ys := [⟨symT pushL, none, 0⟩]) (B := 0) (Nat.zero_le _) hc rfl (fun s hs => by rw [List.mem_singleton] at hs; subst hs; exact ⟨rfl, rfl, rfl, by simp [symT, Tree.text, pushL, maxLen]⟩)
    have hN : NewT 0 W push0 (sexV ⟨push0, some ⟨M, 0, none⟩, 1⟩) := ⟨some ⟨M, 0, none⟩, 1, rfl, by simp, by simp [maxLen], by simp, hR⟩
    refine (cparse_any True push0 _ W (hG.below hW) hN.sx push0_rows (fun _ => hN.sxk)).mono ?_
    rintro e w' ⟨r, h1, h2, hb, h3⟩
    have hr := h2 trivial push0_may
    rw [push0_parse] at hr
    subst hr
    exact ⟨h3, hb⟩
  have HT : Hid (∀ W, Below w.heap.size w W → Calls Tryz.prog 7 #[.agg #[.int .i8 8, .string ⟨#[]⟩, .int .i64 0, .slice none 0 0, .slice none 0 0, .slice none 0 0, .string ⟨#[]⟩, .slice none 0 0]] W fun e w' => e = .returned (.tuple #[.string ⟨#[40, 99, 104, 101, 99, 107, 45, 115, 97, 116, 41]⟩, .int .i64 0]) ∧ Below W.heap.size W w') := fun W hW => by
    refine (ctext_two True v8 W (hG.below hW) (v8_cmd W) (list8_ok W (hG.below hW)) l8_rows).mono ?_
    rintro e w' ⟨⟨l, k, rfl, h1, h2, h3⟩, hb⟩
    have hk : k = 0 := h3 trivial l8_may l8_parse (by show (textT (listT c8)).length ≤ 8192; rw [l8_text]; decide)
    subst hk
    obtain ⟨_, _, hl, _⟩ := h1 rfl
    have hl : l = textT (listT c8) := hl
    rw [hl, l8_text]
    exact ⟨rfl, hb⟩
  clear hG
  go_enter Tryz.func6, Tryz.ntmps6
  go_wp2_with fail
  refine (HS.out _ (Below.refl _ _)).mono ?_
  rintro e w1 ⟨rfl, hb1⟩
  have HB1 := Lib.hid hb1
  clear hb1
  have HB1a : Hid (Below w.heap.size w (w1.alloc (.cells #[.int .i8 0, .string ⟨#[112, 117, 115, 104]⟩, .slice none 0 0, .int .i8 1, .string ⟨#[49]⟩, .slice none 0 0] 35))) := HB1.out.alloc HB1.out.size _
  go_wp2_with fail
  refine (HP1.out _ _ HB1a.out (heap_alloc_new w1 _)).mono ?_
  rintro e w2 ⟨⟨la, lc, aa, ac, pa, pc, ta, tc, rfl⟩, hb2⟩
  have HB2 : Hid (Below w.heap.size w w2) := HB1a.out.trans (hb2.mono HB1a.out.size)
  clear hb2
  have HB2a : Hid (Below w.heap.size w (w2.alloc (.cells #[.int .i8 6, .string ⟨#[]⟩, .int .i64 1, .slice la 0 lc, .slice aa 0 ac, .slice pa 0 pc, .string ⟨#[]⟩, .slice ta 0 tc] 28))) := HB2.out.alloc HB2.out.size _
  go_wp2_with fail
  refine (HS.out _ HB2a.out).mono ?_
  rintro e w3 ⟨rfl, hb3⟩
  have HC3 : Hid (w3.heap[w2.heap.size]? = some (.cells #[.int .i8 6, .string ⟨#[]⟩, .int .i64 1, .slice la 0 lc, .slice aa 0 ac, .slice pa 0 pc, .string ⟨#[]⟩, .slice ta 0 tc] 28 (0, 0))) := (hb3.block _ (by simp)).trans (heap_alloc_new w2 _)
  have HB3 : Hid (Below w.heap.size w w3) := HB2a.out.trans (hb3.mono HB2a.out.size)
  have hz3 : w2.heap.size < w3.heap.size := by have := hb3.size; simp at this; omega
  clear hb3
  have HB3a : Hid (Below w.heap.size w (w3.alloc (.cells #[.int .i8 0, .string ⟨#[112, 117, 115, 104]⟩, .slice none 0 0] 35))) := HB3.out.alloc HB3.out.size _
  go_wp2_with fail
  refine (HP0.out _ _ HB3a.out (heap_alloc_new w3 _)).mono ?_
  rintro e w4 ⟨rfl, hb4⟩
  have HC4 : Hid (w4.heap[w2.heap.size]? = some (.cells #[.int .i8 6, .string ⟨#[]⟩, .int .i64 1, .slice la 0 lc, .slice aa 0 ac, .slice pa 0 pc, .string ⟨#[]⟩, .slice ta 0 tc] 28 (0, 0))) := (hb4.block _ (by simp; omega)).trans ((Below.heap_alloc _ _ _ hz3).trans HC3.out)
  have HB4 : Hid (Below w.heap.size w w4) := HB3a.out.trans (hb4.mono HB3a.out.size)
  have hz4 : w2.heap.size < w4.heap.size := by have := hb4.size; simp at this; omega
  clear hb4
  have HB4a : Hid (Below w.heap.size w (w4.alloc (.cells #[.int .i8 0, .string ⟨#[]⟩, .int .i64 0, .slice none 0 0, .slice none 0 0, .slice none 0 0, .string ⟨#[]⟩, .slice none 0 0] 28))) := HB4.out.alloc HB4.out.size _
  go_wp2_with fail
  refine (HT.out _ HB4a.out).mono ?_
  rintro e w5 ⟨rfl, hb5⟩
  have hC5 : w5.heap[w2.heap.size]? = some (.cells #[.int .i8 6, .string ⟨#[]⟩, .int .i64 1, .slice la 0 lc, .slice aa 0 ac, .slice pa 0 pc, .string ⟨#[]⟩, .slice ta 0 tc] 28 (0, 0)) := (hb5.block _ (by simp; omega)).trans ((Below.heap_alloc _ _ _ hz4).trans HC4.out)
  have HB5 : Hid (Below w.heap.size w w5) := HB4a.out.trans (hb5.mono HB4a.out.size)
  obtain ⟨c0, c1, c2, c3, c4, c5, c6, c7, cf, _⟩ := cells8b hC5
  clear hb5 hC5
  go_wp2
  go_ret
  exact ⟨rfl, HB5.out⟩
end Go.Proofs.YtodonngnigbpaaaGreatDoor
