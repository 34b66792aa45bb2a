/- Both heaps, side by side. -/
import Derived.Test.YtmgppnepccmceaaHrE
namespace Go.Proofs.Ytmgppnepccmceaa
open Go.RowKit
set_option linter.unusedVariables false
/-- Not a block that either writes. -/
def Out (lo N k : Nat) : Prop := k < lo ∨ N ≤ k
structure DuoM (lo N : Nat) (wr : World) (h t nb ib g ab bb : Nat) (s r : St) : Prop where
  hq : HQ wr h t nb ib s
  rq : RQ wr g ab bb r
  l : lo ≤ t ∧ lo ≤ nb ∧ lo ≤ ib ∧ lo ≤ ab ∧ lo ≤ bb
  u : h < N ∧ t < N ∧ nb < N ∧ ib < N ∧ g < N ∧ ab < N ∧ bb < N
  a1 : Oth t nb ib g ∧ Oth t nb ib ab ∧ Oth t nb ib bb
  a2 : Ot2 ab bb h ∧ Ot2 ab bb t ∧ Ot2 ab bb nb ∧ Ot2 ab bb ib
section
variable {lo N : Nat} {wr w' : World} {h t nb ib g ab bb : Nat} {s r s' r' : St}
theorem DuoM.hmove (D : DuoM lo N wr h t nb ib g ab bb s r) (q : HQ w' h t nb ib s') (k : Gr (Oth t nb ib) wr w') : DuoM lo N w' h t nb ib g ab bb s' r := ⟨q, D.rq.gr k D.a1.1 D.a1.2.1 D.a1.2.2, D.l, D.u, D.a1, D.a2⟩
theorem DuoM.rmove (D : DuoM lo N wr h t nb ib g ab bb s r) (q : RQ w' g ab bb r') (k : Gr (Ot2 ab bb) wr w') : DuoM lo N w' h t nb ib g ab bb s r' := ⟨D.hq.gr k D.a2.1 D.a2.2.1 D.a2.2.2.1 D.a2.2.2.2, q, D.l, D.u, D.a1, D.a2⟩
theorem DuoM.hout (D : DuoM lo N wr h t nb ib g ab bb s r) (k : Gr (Oth t nb ib) wr w') : Gr (Out lo N) wr w' := k.mono (fun i _ hi => by
  obtain ⟨l1, l2, l3, l4, l5⟩ := D.l
  obtain ⟨u0, u1, u2, u3, u4, u5, u6⟩ := D.u
  rcases hi with hi | hi
  · exact ⟨by omega, by omega, by omega⟩
  · exact ⟨by omega, by omega, by omega⟩)
theorem DuoM.rout (D : DuoM lo N wr h t nb ib g ab bb s r) (k : Gr (Ot2 ab bb) wr w') : Gr (Out lo N) wr w' := k.mono (fun i _ hi => by
  obtain ⟨l1, l2, l3, l4, l5⟩ := D.l
  obtain ⟨u0, u1, u2, u3, u4, u5, u6⟩ := D.u
  rcases hi with hi | hi
  · exact ⟨by omega, by omega⟩
  · exact ⟨by omega, by omega⟩)
end
/-- Both made, or neither. -/
def Duo (lo N : Nat) (wr : World) (nl : Bool) (hp gp : Value) (s r : St) : Prop :=
  (nl = true ∧ hp = .pointer none ∧ gp = .pointer none) ∨ (nl = false ∧ ∃ h t nb ib g ab bb, hp = .pointer (some ⟨h, 0, none⟩) ∧ gp = .pointer (some ⟨g, 0, none⟩) ∧ DuoM lo N wr h t nb ib g ab bb s r)
def putE (nl : Bool) (s : St) (x : Int) : Int := if nl then 3 else faultV s.A.length x
def bumpF (nl : Bool) (s : St) (x b : Int) : Int := if nl then 3 else bumpE s.A.length x b
def popE (nl : Bool) (s : St) : Int := if nl then 0 else popV s
def popF (nl : Bool) (s : St) : Bool := if nl then false else popB s
def lenE (nl : Bool) (s : St) : Int := if nl then 0 else s.S.length
def actE (nl : Bool) (s : St) (x : Int) : Int := if nl then 0 else actV s.A x
def hasE (nl : Bool) (s : St) (x : Int) : Bool := if nl then false else hasV s x
def SrtE (nl : Bool) (s : St) (M : List Nat) : Prop := (nl = true ∧ M = []) ∨ (nl = false ∧ SortedM s.A s.S M)
theorem srt_one {nl : Bool} {s : St} {M M' : List Nat} (h : SrtE nl s M) (k : SrtE nl s M') : M = M' := by
  rcases h with ⟨rfl, rfl⟩ | ⟨rfl, h⟩
  · rcases k with ⟨_, rfl⟩ | ⟨e, _⟩
    · rfl
    · cases e
  · rcases k with ⟨e, _⟩ | ⟨_, k⟩
    · cases e
    · exact sorted_eq M M' h.2 k.2 (fun x => h.1.mem_iff.trans k.1.mem_iff.symm)
theorem ints_w {w : World} {base : Nat} {xs : List Int} {v : Value} (h : IntsO w base xs v) : ∃ a c, v = .slice a xs.length c ∧ IntsW w xs a := by
  rcases h.2 with ⟨rfl, h0⟩ | ⟨g, cap, cur, rfl, h1, h2, h3, h4, h5, h6⟩
  · exact ⟨none, 0, by rw [h0], fun e => by omega⟩
  · refine ⟨_, cap, rfl, fun _ => ⟨g, 0, rfl, (Array.getElem?_eq_some_iff.1 h2).1, fun i u hu => ?_⟩⟩
    rw [Nat.zero_add, cell_of_row w g i _ _ _ h2]
    have hu2 : (rowI xs)[i]? = some (.int .i64 u) := by unfold rowI; rw [List.getElem?_map, hu]; rfl
    rw [← h6, List.getElem?_take] at hu2
    split at hu2
    · rw [← Array.getElem?_toList]
      exact hu2
    · cases hu2
section
variable {lo N : Nat} {wr w' : World} {nl : Bool} {hp gp : Value} {s r : St}
theorem Duo.gr (D : Duo lo N wr nl hp gp s r) (k : Gr (fun k => k < N) wr w') : Duo lo N w' nl hp gp s r := by
  rcases D with h | ⟨rfl, h, t, nb, ib, g, ab, bb, rfl, rfl, D⟩
  · exact .inl h
  · obtain ⟨u0, u1, u2, u3, u4, u5, u6⟩ := D.u
    exact .inr ⟨rfl, h, t, nb, ib, g, ab, bb, rfl, rfl, D.hq.gr k u0 u1 u2 u3, D.rq.gr k u4 u5 u6, D.l, D.u, D.a1, D.a2⟩
def DuoR (lo N : Nat) (wr : World) (nl : Bool) (hp gp : Value) (v : Value) (s r : St) (e : Ending) (w' : World) : Prop := e = .returned v ∧ Hid (Duo lo N w' nl hp gp s r ∧ Gr (Out lo N) wr w')
theorem Duo.put_h (D : Duo lo N wr nl hp gp s r) (x : Int) : Calls Try.prog 11 #[hp, .int .i64 x] wr fun e w' => e = .returned (.int .i64 (putE nl s x)) ∧ Hid (Duo lo N w' nl hp gp (putS s x) r ∧ Gr (Out lo N) wr w') := by
  rcases D with ⟨rfl, rfl, rfl⟩ | ⟨rfl, h, t, nb, ib, g, ab, bb, rfl, rfl, D⟩
  · exact (Put_nil x wr).mono fun e w' ⟨e1, e2⟩ => ⟨e1, .inl ⟨rfl, rfl, rfl⟩, e2 ▸ Gr.refl _ _⟩
  · exact (Put_q D.hq x).mono fun e w' ⟨e1, e2⟩ => ⟨e1, .inr ⟨rfl, h, t, nb, ib, g, ab, bb, rfl, rfl, D.hmove e2.out.1 e2.out.2⟩, D.hout e2.out.2⟩
theorem Duo.put_r (D : Duo lo N wr nl hp gp s r) (x : Int) : Calls Try.prog 12 #[gp, .int .i64 x] wr fun e w' => e = .returned (.int .i64 (putE nl r x)) ∧ Hid (Duo lo N w' nl hp gp s (putS r x) ∧ Gr (Out lo N) wr w') := by
  rcases D with ⟨rfl, rfl, rfl⟩ | ⟨rfl, h, t, nb, ib, g, ab, bb, rfl, rfl, D⟩
  · exact (RPut_nil x wr).mono fun e w' ⟨e1, e2⟩ => ⟨e1, .inl ⟨rfl, rfl, rfl⟩, e2 ▸ Gr.refl _ _⟩
  · exact (RPut_q D.rq x).mono fun e w' ⟨e1, e2⟩ => ⟨e1, .inr ⟨rfl, h, t, nb, ib, g, ab, bb, rfl, rfl, D.rmove e2.out.1 e2.out.2⟩, D.rout e2.out.2⟩
theorem Duo.bump_h (D : Duo lo N wr nl hp gp s r) (x b : Int) : Calls Try.prog 15 #[hp, .int .i64 x, .int .i64 b] wr fun e w' => e = .returned (.int .i64 (bumpF nl s x b)) ∧ Hid (Duo lo N w' nl hp gp (bumpS s x b) r ∧ Gr (Out lo N) wr w') := by
  rcases D with ⟨rfl, rfl, rfl⟩ | ⟨rfl, h, t, nb, ib, g, ab, bb, rfl, rfl, D⟩
  · exact (Bump_nil x b wr).mono fun e w' ⟨e1, e2⟩ => ⟨e1, .inl ⟨rfl, rfl, rfl⟩, e2 ▸ Gr.refl _ _⟩
  · exact (Bump_q D.hq x b).mono fun e w' ⟨e1, e2⟩ => ⟨e1, .inr ⟨rfl, h, t, nb, ib, g, ab, bb, rfl, rfl, D.hmove e2.out.1 e2.out.2⟩, D.hout e2.out.2⟩
theorem Duo.bump_r (D : Duo lo N wr nl hp gp s r) (x b : Int) : Calls Try.prog 16 #[gp, .int .i64 x, .int .i64 b] wr fun e w' => e = .returned (.int .i64 (bumpF nl r x b)) ∧ Hid (Duo lo N w' nl hp gp s (bumpS r x b) ∧ Gr (Out lo N) wr w') := by
  rcases D with ⟨rfl, rfl, rfl⟩ | ⟨rfl, h, t, nb, ib, g, ab, bb, rfl, rfl, D⟩
  · exact (RBump_nil x b wr).mono fun e w' ⟨e1, e2⟩ => ⟨e1, .inl ⟨rfl, rfl, rfl⟩, e2 ▸ Gr.refl _ _⟩
  · exact (RBump_q D.rq x b).mono fun e w' ⟨e1, e2⟩ => ⟨e1, .inr ⟨rfl, h, t, nb, ib, g, ab, bb, rfl, rfl, D.rmove e2.out.1 e2.out.2⟩, D.rout e2.out.2⟩
theorem Duo.halve_h (D : Duo lo N wr nl hp gp s r) : Calls Try.prog 17 #[hp] wr fun e w' => e = .returned (.tuple #[]) ∧ Hid (Duo lo N w' nl hp gp (halfS s) r ∧ Gr (Out lo N) wr w') := by
  rcases D with ⟨rfl, rfl, rfl⟩ | ⟨rfl, h, t, nb, ib, g, ab, bb, rfl, rfl, D⟩
  · exact (halve_nil wr).mono fun e w' ⟨e1, e2⟩ => ⟨e1, .inl ⟨rfl, rfl, rfl⟩, e2 ▸ Gr.refl _ _⟩
  · exact (Halve_q D.hq).mono fun e w' ⟨e1, e2⟩ => ⟨e1, .inr ⟨rfl, h, t, nb, ib, g, ab, bb, rfl, rfl, D.hmove e2.out.1 e2.out.2⟩, D.hout e2.out.2⟩
theorem Duo.halve_r (D : Duo lo N wr nl hp gp s r) : Calls Try.prog 18 #[gp] wr fun e w' => e = .returned (.tuple #[]) ∧ Hid (Duo lo N w' nl hp gp s (halfS r) ∧ Gr (Out lo N) wr w') := by
  rcases D with ⟨rfl, rfl, rfl⟩ | ⟨rfl, h, t, nb, ib, g, ab, bb, rfl, rfl, D⟩
  · exact (RHalve_nil wr).mono fun e w' ⟨e1, e2⟩ => ⟨e1, .inl ⟨rfl, rfl, rfl⟩, e2 ▸ Gr.refl _ _⟩
  · exact (RHalve_q D.rq).mono fun e w' ⟨e1, e2⟩ => ⟨e1, .inr ⟨rfl, h, t, nb, ib, g, ab, bb, rfl, rfl, D.rmove e2.out.1 e2.out.2⟩, D.rout e2.out.2⟩
theorem Duo.pop_h (D : Duo lo N wr nl hp gp s r) : Calls Try.prog 13 #[hp] wr fun e w' => e = .returned (.tuple #[.int .i64 (popE nl s), .bool (popF nl s)]) ∧ Hid (Duo lo N w' nl hp gp (popS s) r ∧ Gr (Out lo N) wr w') := by
  rcases D with ⟨rfl, rfl, rfl⟩ | ⟨rfl, h, t, nb, ib, g, ab, bb, rfl, rfl, D⟩
  · exact (Pop_nil wr).mono fun e w' ⟨e1, e2⟩ => ⟨e1, .inl ⟨rfl, rfl, rfl⟩, e2 ▸ Gr.refl _ _⟩
  · exact (Pop_q D.hq).mono fun e w' ⟨e1, e2⟩ => ⟨e1, .inr ⟨rfl, h, t, nb, ib, g, ab, bb, rfl, rfl, D.hmove e2.out.1 e2.out.2⟩, D.hout e2.out.2⟩
theorem Duo.pop_r (D : Duo lo N wr nl hp gp s r) : Calls Try.prog 14 #[gp] wr fun e w' => e = .returned (.tuple #[.int .i64 (popE nl r), .bool (popF nl r)]) ∧ Hid (Duo lo N w' nl hp gp s (popS r) ∧ Gr (Out lo N) wr w') := by
  rcases D with ⟨rfl, rfl, rfl⟩ | ⟨rfl, h, t, nb, ib, g, ab, bb, rfl, rfl, D⟩
  · exact (RPop_nil wr).mono fun e w' ⟨e1, e2⟩ => ⟨e1, .inl ⟨rfl, rfl, rfl⟩, e2 ▸ Gr.refl _ _⟩
  · refine (RPop_q D.rq).mono fun e w' ⟨e1, e2⟩ => ?_
    have k := e2.out.2.mono (Q := Ot2 ab bb) (fun _ _ h => h.2)
    exact ⟨e1, .inr ⟨rfl, h, t, nb, ib, g, ab, bb, rfl, rfl, D.rmove e2.out.1 k⟩, D.rout k⟩
theorem Duo.len_h (D : Duo lo N wr nl hp gp s r) : Calls Try.prog 19 #[hp] wr fun e w' => e = .returned (.int .i64 (lenE nl s)) ∧ wr = w' := by
  rcases D with ⟨rfl, rfl, rfl⟩ | ⟨rfl, h, t, nb, ib, g, ab, bb, rfl, rfl, D⟩
  · exact Len_nil wr
  · exact Len_q D.hq
theorem Duo.len_r (D : Duo lo N wr nl hp gp s r) : Calls Try.prog 20 #[gp] wr fun e w' => e = .returned (.int .i64 (lenE nl r)) ∧ wr = w' := by
  rcases D with ⟨rfl, rfl, rfl⟩ | ⟨rfl, h, t, nb, ib, g, ab, bb, rfl, rfl, D⟩
  · exact RLen_nil wr
  · exact RLen_q D.rq
theorem Duo.act_h (D : Duo lo N wr nl hp gp s r) (x : Int) : Calls Try.prog 21 #[hp, .int .i64 x] wr fun e w' => e = .returned (.int .i64 (actE nl s x)) ∧ wr = w' := by
  rcases D with ⟨rfl, rfl, rfl⟩ | ⟨rfl, h, t, nb, ib, g, ab, bb, rfl, rfl, D⟩
  · exact Act_nil x wr
  · exact Act_q D.hq x rfl
theorem Duo.act_r (D : Duo lo N wr nl hp gp s r) (x : Int) : Calls Try.prog 22 #[gp, .int .i64 x] wr fun e w' => e = .returned (.int .i64 (actE nl r x)) ∧ wr = w' := by
  rcases D with ⟨rfl, rfl, rfl⟩ | ⟨rfl, h, t, nb, ib, g, ab, bb, rfl, rfl, D⟩
  · exact RAct_nil x wr
  · exact RAct_q D.rq x rfl
theorem Duo.has_h (D : Duo lo N wr nl hp gp s r) (x : Int) : Calls Try.prog 23 #[hp, .int .i64 x] wr fun e w' => e = .returned (.bool (hasE nl s x)) ∧ wr = w' := by
  rcases D with ⟨rfl, rfl, rfl⟩ | ⟨rfl, h, t, nb, ib, g, ab, bb, rfl, rfl, D⟩
  · exact Has_nil x wr
  · exact Has_q D.hq x rfl
theorem Duo.has_r (D : Duo lo N wr nl hp gp s r) (x : Int) : Calls Try.prog 24 #[gp, .int .i64 x] wr fun e w' => e = .returned (.bool (hasE nl r x)) ∧ wr = w' := by
  rcases D with ⟨rfl, rfl, rfl⟩ | ⟨rfl, h, t, nb, ib, g, ab, bb, rfl, rfl, D⟩
  · exact RHas_nil x wr
  · exact RHas_q D.rq x rfl
/-- What both answer. -/
theorem Duo.asks (D : Duo lo N wr nl hp gp s s) (x : Int) : ∃ (ql qa : Int) (qh : Bool), ∀ q,
    Calls Try.prog 19 #[hp] (wr.drewN q) (fun e w' => e = .returned (.int .i64 ql) ∧ w' = wr.drewN q) ∧
    Calls Try.prog 20 #[gp] (wr.drewN q) (fun e w' => e = .returned (.int .i64 ql) ∧ w' = wr.drewN q) ∧
    Calls Try.prog 21 #[hp, .int .i64 x] (wr.drewN q) (fun e w' => e = .returned (.int .i64 qa) ∧ w' = wr.drewN q) ∧
    Calls Try.prog 22 #[gp, .int .i64 x] (wr.drewN q) (fun e w' => e = .returned (.int .i64 qa) ∧ w' = wr.drewN q) ∧
    Calls Try.prog 23 #[hp, .int .i64 x] (wr.drewN q) (fun e w' => e = .returned (.bool qh) ∧ w' = wr.drewN q) ∧
    Calls Try.prog 24 #[gp, .int .i64 x] (wr.drewN q) (fun e w' => e = .returned (.bool qh) ∧ w' = wr.drewN q) := by
  refine ⟨lenE nl s, actE nl s x, hasE nl s x, fun q => ?_⟩
  have D' := D.gr ((Gr.refl (fun k => k < N) wr).drewN q)
  exact ⟨D'.len_h.mono fun _ _ h => ⟨h.1, h.2.symm⟩, D'.len_r.mono fun _ _ h => ⟨h.1, h.2.symm⟩, (D'.act_h x).mono fun _ _ h => ⟨h.1, h.2.symm⟩, (D'.act_r x).mono fun _ _ h => ⟨h.1, h.2.symm⟩, (D'.has_h x).mono fun _ _ h => ⟨h.1, h.2.symm⟩, (D'.has_r x).mono fun _ _ h => ⟨h.1, h.2.symm⟩⟩
theorem Duo.sorted_h (D : Duo lo N wr nl hp gp s r) : Calls Try.prog 26 #[hp] wr fun e w' => ∃ (a : Option Addr) (c : Nat) (M : List Nat), e = .returned (.slice a M.length c) ∧ Hid (SrtE nl s M ∧ IntsW w' (M.map (fun x : Nat => (x : Int))) a ∧ M.length ≤ 300 ∧ Below wr.heap.size wr w') := by
  rcases D with ⟨rfl, rfl, rfl⟩ | ⟨rfl, h, t, nb, ib, g, ab, bb, rfl, rfl, D⟩
  · exact (Sorted_nil wr).mono fun e w' ⟨e1, e2⟩ => ⟨none, 0, [], e1, .inl ⟨rfl, rfl⟩, fun h => absurd h (by simp), Nat.zero_le _, e2 ▸ Below.refl _ _⟩
  · refine (Sorted_q D.hq).mono ?_
    rintro e w' ⟨b, M, e1, e2⟩
    have hl := e2.out.1.1.length_eq
    have h3 := D.hq.lt
    exact ⟨some ⟨b, 0, none⟩, s.S.length, M, by rw [hl]; exact e1, .inr ⟨rfl, e2.out.1⟩, IntsW.row e2.out.2.2.1, by omega, e2.out.2.2.2⟩
theorem Duo.sorted_r (D : Duo lo N wr nl hp gp s r) : Calls Try.prog 27 #[gp] wr fun e w' => ∃ (a : Option Addr) (c : Nat) (M : List Nat), e = .returned (.slice a M.length c) ∧ Hid (SrtE nl r M ∧ IntsW w' (M.map (fun x : Nat => (x : Int))) a ∧ Below wr.heap.size wr w') := by
  rcases D with ⟨rfl, rfl, rfl⟩ | ⟨rfl, h, t, nb, ib, g, ab, bb, rfl, rfl, D⟩
  · exact (RSorted_nil wr).mono fun e w' ⟨e1, e2⟩ => ⟨none, 0, [], e1, .inl ⟨rfl, rfl⟩, fun h => absurd h (by simp), e2 ▸ Below.refl _ _⟩
  · refine (RSorted_q D.rq).mono ?_
    rintro e w' ⟨v, M, e1, e2, e3, e4⟩
    obtain ⟨a, c, rfl, h1⟩ := ints_w e3
    exact ⟨a, c, M, by rw [List.length_map] at e1; exact e1, .inr ⟨rfl, e2⟩, h1, e4⟩
end
/-- What lies below is as it was. -/
theorem below_out {w w2 wr : World} {N : Nat} (hb : Below w.heap.size w w2) (g : Gr (Out w.heap.size N) w2 wr) : Below w.heap.size w wr :=
  ⟨g.os.trans hb.os, g.tape.trans hb.tape, g.output.trans hb.output, Nat.le_trans hb.size g.size, fun k hk => (g.keep k (Nat.lt_of_lt_of_le hk hb.size) (.inl hk)).trans (hb.block k hk)⟩
end Go.Proofs.Ytmgppnepccmceaa
