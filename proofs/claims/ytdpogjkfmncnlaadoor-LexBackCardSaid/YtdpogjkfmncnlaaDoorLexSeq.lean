/- The iterator that package lex's tokens makes: it hands all tokens to yield, and where one is none, that one with its error. -/
import Derived.Test.YtdpogjkfmncnlaaDoorLexNext
import Derived.Test.YtdpogjkfmncnlaaDoorSeqT
import Derived.Shelf.Abstract
import Derived.Shelf.RegionOpen
import Derived.OwnWalkIn
import Derived.TacticsInMore
import Derived.LoopNIn
import Derived.LoopIn
namespace Go.Proofs.YtdpogjkfmncnlaaDoor
open Go.RowKit Go.Shelf
attribute [local go_sem] Oper.semAt_some
def encE (x : Tok × Nat) : Array Value := #[tokV x.1, .int .i64 x.2]
def seqL (l : List UInt8) (k : Nat) : List (Tok × Nat) := (allL l k).1.map (fun t => (t, 0)) ++ (if (allL l k).2.2 = 0 then [] else [(⟨0, [], (allL l k).2.1, 0⟩, (allL l k).2.2)])
theorem seqL_ok {l : List UInt8} {k : Nat} (hk : k ≤ l.length) (h : (nextL l k).ok = true) : seqL l k = ((nextL l k).tok, (nextL l k).err) :: seqL l (nextL l k).tok.stop := by
  unfold seqL
  rw [allL_ok hk h, (nextL_stop hk h).2.2]; rfl
theorem seqL_end {l : List UInt8} {k : Nat} (hk : k ≤ l.length) (h : (nextL l k).ok = false) (he : (nextL l k).err = 0) : seqL l k = [] := by
  unfold seqL
  rw [allL_end hk h he]; rfl
theorem seqL_bad {l : List UInt8} {k : Nat} (hk : k ≤ l.length) (h : (nextL l k).ok = false) (he : (nextL l k).err ≠ 0) : seqL l k = [((nextL l k).tok, (nextL l k).err)] := by
  unfold seqL
  rw [allL_bad hk h he]
  simp only [if_neg he, List.map_nil, List.nil_append]
  obtain ⟨_, _, h2, _⟩ := nextL_err he
  rw [h2]
/-- What a round keeps for the iterator: the text's box and package lex's variables. -/
def keepG (Bs b : Nat) : Prop := b = Bs ∨ b = 0 ∨ b = 1 ∨ b = 2 ∨ b = 3
theorem G4.block {w w' : World} {b : Nat} {a0 a1 a2 a3 : Int} (h : G4 w b a0 a1 a2 a3) (hs : w.heap.size ≤ w'.heap.size) (hb : w'.heap[b]? = w.heap[b]?) : G4 w' b a0 a1 a2 a3 := by
  obtain ⟨h0, c0, c1, c2, c3⟩ := h
  exact ⟨Nat.lt_of_lt_of_le h0 hs, (World.cell?_of_block (a := ⟨b, 0, none⟩) hb).trans c0, (World.cell?_of_block (a := ⟨b, 1, none⟩) hb).trans c1, (World.cell?_of_block (a := ⟨b, 2, none⟩) hb).trans c2, (World.cell?_of_block (a := ⟨b, 3, none⟩) hb).trans c3⟩
theorem Globs.keeps {A B : World} {Bs T : Nat} (h : Globs A) (hk : KeepsT (keepG Bs) T A B) : Globs B :=
  ⟨h.white.block hk.1 (hk.2 _ (.inr (.inr (.inl rfl)))), h.signs.block hk.1 (hk.2 _ (.inr (.inr (.inr (.inl rfl))))), h.digits.block hk.1 (hk.2 _ (.inr (.inr (.inr (.inr (.inl rfl)))))), h.bars.block hk.1 (hk.2 _ (.inr (.inr (.inr (.inr (.inr rfl))))))⟩
theorem Globs.grown {A B : World} {T : Nat} (h : Globs A) (hg : A.grownBy B (some T)) (hT : 4 ≤ T) : Globs B := by
  have f : ∀ {b : Nat} {a0 a1 a2 a3 : Int}, G4 A b a0 a1 a2 a3 → b < 4 → G4 B b a0 a1 a2 a3 := fun hG hb => hG.block hg.size (hg.block _ hG.1 (fun e => by cases e; omega))
  exact ⟨f h.white (by decide), f h.signs (by decide), f h.digits (by decide), f h.bars (by decide)⟩
theorem Globs.four {w : World} (h : Globs w) : 4 ≤ w.heap.size := by
  have h1 := h.white.1; have h2 := h.signs.1; have h3 := h.digits.1; have h4 := h.bars.1
  omega
def tokC (t : Tok) : Array Value := #[.int .i8 t.kind, .string (bytesL t.text), .int .i64 t.pos, .int .i64 t.stop]
theorem Next_ex (s : ByteArray) (k : Nat) (x : Nxt) (w : World) (hG : Globs w) (hs : s.size ≤ 9223372036854775807) (hk : k ≤ s.size) (hx : nextL s.data.toList k = x) :
    Calls Tryd.prog 10 #[.string s, .int .i64 k] w fun e w' => e = .returned (.tuple #[.agg #[.int .i8 x.tok.kind, .string (bytesL x.tok.text), .int .i64 x.tok.pos, .int .i64 x.tok.stop], .bool x.ok, .int .i64 x.err]) ∧ Below w.heap.size w w' := by
  subst hx
  exact Next_nat s k w hG hs hk
/-- The loop's measure. -/
def mTok (T n : Nat) (v : Value) (wr : World) : Nat := match v with
  | .bool true => n + 1 - (match wr.cell? ⟨T, 3, none⟩ with | some (.int _ z) => z.toNat | _ => 0)
  | _ => 0
theorem mTok_yes {T n m : Nat} {wr : World} (h : wr.cell? ⟨T, 3, none⟩ = some (.int .i64 (m : Int))) : mTok T n (.bool true) wr = n + 1 - m := by simp [mTok, h]
theorem mTok_no {T n : Nat} {wr : World} : mTok T n (.bool false) wr = 0 := rfl
theorem grown_of_below {A B : World} (h : Below A.heap.size A B) (row : Option Nat) : A.grownBy B row := ⟨h.os, h.tape, h.output, h.size, fun i hi _ => h.block i hi⟩
theorem grown_trans' {A B C : World} {T : Nat} (h : A.grownBy B (some T)) (k : B.grownBy C (some T)) : A.grownBy C (some T) :=
  ⟨k.os.trans h.os, k.tape.trans h.tape, k.output.trans h.output, Nat.le_trans h.size k.size, fun i hi hn => (k.block i (Nat.lt_of_lt_of_le hi h.size) hn).trans (h.block i hi hn)⟩
theorem grown_set (W : World) (b i : Nat) (v : Value) : W.grownBy (W.setCell ⟨b, i, none⟩ v) (some b) :=
  ⟨rfl, rfl, rfl, by simp [World.setCell], fun k _ hk => Below.heap_setCell _ _ _ k (fun e => hk (by rw [e]))⟩
theorem grown_set4 (W : World) (b : Nat) (v0 v1 v2 v3 : Value) : W.grownBy ((((W.setCell ⟨b, 0, none⟩ v0).setCell ⟨b, 1, none⟩ v1).setCell ⟨b, 2, none⟩ v2).setCell ⟨b, 3, none⟩ v3) (some b) :=
  grown_trans' (grown_trans' (grown_trans' (grown_set W b 0 v0) (grown_set _ b 1 v1)) (grown_set _ b 2 v2)) (grown_set _ b 3 v3)
/-- The head of a round: what was handed out, and what comes. -/
def SeqAt (l : List UInt8) (pre : List (Tok × Nat)) (k : Nat) (x : Nxt) : Prop := k ≤ l.length ∧ nextL l k = x ∧ seqL l 0 = pre ++ seqL l k
set_option maxRecDepth 100000 in
set_option maxHeartbeats 4000000 in
theorem tokens1_in (n : Nat) (hn : 1 ≤ n) (s : ByteArray) (Bs : Nat) (W : World) (hG : Globs W) (hs : s.size ≤ 9223372036854775807) (hBs : W.heap[Bs]? = some (.cells #[.string s] 9 (0, 0))) :
    SeqT Fence.wide n Tryd.prog 20 #[.pointer (some ⟨Bs, 0, none⟩)] encE (seqL s.data.toList 0) (keepG Bs) W := fun l J Jx hJ hJx hY h0 => by
  have HL : Hid (s.data.toList.length = s.size) := by show _ = _; simp
  have cs : W.cell? ⟨Bs, 0, none⟩ = some (.string s) := cell_of_row W Bs 0 _ _ _ hBs
  have HBs := Lib.hid hBs
  have HG := Lib.hid hG
  have HJ := Lib.hid hJ
  have HJx := Lib.hid hJx
  have HY := Lib.hid hY
  have H0 := Lib.hid h0
  clear hBs hG hJ hJx hY h0
  refine callsIn_of_wp Tryd.func20 rfl trivial ?_ rfl
  simp only [Tryd.ntmps20, List.size_toArray, List.length_cons, List.length_nil, Nat.reduceAdd, Nat.reduceSub, Array.replicate_succ, Array.replicate_zero, List.push_toArray, List.append_toArray, List.nil_append, List.cons_append]
  obtain ⟨x0, hx0⟩ : ∃ x, nextL s.data.toList 0 = x := ⟨_, rfl⟩
  have HX0 := Lib.hid hx0
  clear hx0
  gi_wp2_with (refine ⟨trivial, ?_⟩; gi_at_call 10; refine (callsIn_wide.2 (Next_ex s 0 x0 _ HG.out hs (Nat.zero_le _) HX0.out)).mono ?_; rintro e w1 ⟨rfl, hb1⟩)
  have hT0 : W.heap.size ≤ w1.heap.size := hb1.size
  have h4 := HG.out.four
  gi_loopw [4, 5] (fun o e wr => ∃ (pre : List (Tok × Nat)) (k : Nat) (x : Nxt), o = .bool x.ok ∧ e = .int .i64 x.err ∧ Hid (SeqAt s.data.toList pre k x) ∧ Hid (J w1.heap.size pre wr) ∧ Hid (Globs wr) ∧
      Hid (wr.heap[w1.heap.size]? = some (.cells (tokC x.tok) 29 (0, 0))) ∧ Hid (wr.heap[Bs]? = some (.cells #[.string s] 9 (0, 0)))) (fun o _ wr => mTok w1.heap.size s.size o wr)
  case atStart =>
    refine ⟨[], 0, x0, rfl, rfl, ⟨Nat.zero_le _, HX0.out, rfl⟩, ?_, ?_, ?_, ?_⟩
    · exact H0.out _ _ hT0 (by simp) (hb1.trans (((Below.refl _ _).alloc hT0 _)))
    · exact (HG.out.below hb1).below ((Below.refl _ _).alloc (Nat.le_refl _) _)
    · exact heap_alloc_new w1 _
    · have hlt : Bs < W.heap.size := (Array.getElem?_eq_some_iff.1 HBs.out).1
      exact ((Below.heap_alloc _ _ _ (Nat.lt_of_lt_of_le hlt hT0)).trans (hb1.block _ hlt)).trans HBs.out
  case round =>
    obtain ⟨pre, k, x, rfl, rfl, HS, HJr, HGr, HTr, HBr⟩ := hrel
    have c0 := cell_of_row _ _ 0 _ _ _ HTr.out
    have c1 := cell_of_row _ _ 1 _ _ _ HTr.out
    have c2 := cell_of_row _ _ 2 _ _ _ HTr.out
    have c3 := cell_of_row _ _ 3 _ _ _ HTr.out
    have cb := cell_of_row _ _ 0 _ _ _ HBr.out
    simp only [tokC, List.getElem?_toArray, List.getElem?_cons_zero, List.getElem?_cons_succ] at c0 c1 c2 c3 cb
    have hTlt : w1.heap.size < wr.heap.size := (Array.getElem?_eq_some_iff.1 HTr.out).1
    obtain ⟨hk, hx, hpre⟩ := HS.out
    cases hok : x.ok with
    | true =>
      have hok' : (nextL s.data.toList k).ok = true := by rw [hx]; exact hok
      have hst := nextL_stop hk hok'
      have hsq := seqL_ok hk hok'
      rw [hx] at hst hsq
      have he : x.err = 0 := hst.2.2
      have hstop : x.tok.stop ≤ s.size := by rw [← HL.out]; exact hst.2.1
      have hkst : k < x.tok.stop := hst.1
      rw [hsq] at hpre
      obtain ⟨fn, tmps, assign, body, hy, hR⟩ := HY.out _ pre (x.tok, x.err) _ wr hT0 hTlt hpre HJr.out
      simp only [encE, tokV] at hy
      have HP := Lib.hid hpre
      have HR := Lib.hid hR
      have hne := ne_false (x := (x.err : Int)) (y := 0) (by omega)
      clear hR hpre hsq hst hok' hx hk he
      gi_wp2
      refine HR.out.mono ?_
      rintro e W3 (⟨rfl, hJ3, hk3⟩ | ⟨rfl, hJx3⟩)
      · have HG3 := Lib.hid (HGr.out.keeps hk3)
        have HT3 := Lib.hid ((hk3.2 _ (.inl rfl)).trans HTr.out)
        have HB3 := Lib.hid ((hk3.2 _ (.inr (.inl rfl))).trans HBr.out)
        have d3 := cell_of_row _ _ 3 _ _ _ HT3.out
        have db := cell_of_row _ _ 0 _ _ _ HB3.out
        simp only [tokC, List.getElem?_toArray, List.getElem?_cons_zero, List.getElem?_cons_succ] at d3 db
        have HJ3 := Lib.hid hJ3
        have HK3 := Lib.hid hk3
        clear hJ3 hk3 hy c0 c1 c2 c3 cb
        obtain ⟨x', hx'⟩ : ∃ x', nextL s.data.toList x.tok.stop = x' := ⟨_, rfl⟩
        have HX' := Lib.hid hx'
        clear hx'
        gi_wp2_with fail
        refine ⟨trivial, (callsIn_wide.2 (Next_ex s x.tok.stop x' _ HG3.out hs hstop HX'.out)).mono ?_⟩
        rintro e w4 ⟨rfl, hb4⟩
        have hT4 : w4.heap[w1.heap.size]? = some (.cells (tokC x.tok) 29 (0, 0)) := (hb4.block _ (Array.getElem?_eq_some_iff.1 HT3.out).1).trans HT3.out
        have e0 := cell_of_row _ _ 0 _ _ _ hT4
        have e1 := cell_of_row _ _ 1 _ _ _ hT4
        have e2 := cell_of_row _ _ 2 _ _ _ hT4
        have e3 := cell_of_row _ _ 3 _ _ _ hT4
        have f0 : ∀ i, w4.frozen? ⟨w1.heap.size, i, none⟩ = false := fun i => by simp [World.frozen?, hT4]
        simp only [tokC, List.getElem?_toArray, List.getElem?_cons_zero, List.getElem?_cons_succ] at e0 e1 e2 e3
        have HT4 := Lib.hid hT4
        have HB4 := Lib.hid hb4
        clear hT4 hb4 d3 db
        gi_wp2
        go_roundw
        case rel =>
          have hgr := grown_trans' (grown_of_below HB4.out (some w1.heap.size)) (grown_set4 w4 w1.heap.size (.int .i8 x'.tok.kind) (.string (bytesL x'.tok.text)) (.int .i64 x'.tok.pos) (.int .i64 x'.tok.stop))
          refine ⟨pre ++ [(x.tok, x.err)], x.tok.stop, x', rfl, rfl, ⟨by rw [HL.out]; exact hstop, HX'.out, by rw [HP.out]; simp⟩, HJ.out _ _ _ _ hT0 HJ3.out hgr, HG3.out.grown hgr (by omega), set4 HT4.out, ?_⟩
          have hne2 : some Bs ≠ some w1.heap.size := by
            have hlt : Bs < W.heap.size := (Array.getElem?_eq_some_iff.1 HBs.out).1
            intro h; cases h; omega
          exact (hgr.block _ (Array.getElem?_eq_some_iff.1 HB3.out).1 hne2).trans HB3.out
        case measure =>
          have m0 := mTok_yes (T := w1.heap.size) (n := s.size) (wr := wr) (cell_of_row _ _ 3 _ _ _ HTr.out)
          have m1 := fun h => mTok_yes (T := w1.heap.size) (n := s.size) (m := x'.tok.stop) (wr := h)
          have m2 := m1 _ (cell_of_row _ _ 3 _ _ _ (set4 (v0 := .int .i8 x'.tok.kind) (v1 := .string (bytesL x'.tok.text)) (v2 := .int .i64 x'.tok.pos) (v3 := .int .i64 x'.tok.stop) HT4.out))
          rw [m0]
          cases hok2 : x'.ok with
          | false => rw [mTok_no]; omega
          | true =>
            rw [m2]
            have h5 := nextL_stop (l := s.data.toList) (k := x.tok.stop) (by rw [HL.out]; exact hstop) (by rw [HX'.out]; exact hok2)
            rw [HX'.out, HL.out] at h5
            omega
      · have HJx3 := Lib.hid hJx3
        clear hJx3 hy
        gi_wp2
        go_end0
        exact ⟨⟨_, rfl⟩, _, hT0, .inr ⟨pre, (x.tok, x.err), _, HP.out, HJx3.out⟩⟩
    | false =>
      have hok' : (nextL s.data.toList k).ok = false := by rw [hx]; exact hok
      by_cases he : x.err = 0
      · have hsq := seqL_end hk hok' (by rw [hx]; exact he)
        rw [hsq, List.append_nil] at hpre
        have hne := ne_false (x := (x.err : Int)) (y := 0) (by omega)
        have HP := Lib.hid hpre
        clear hpre hsq hok' hx hk he
        gi_wp2
        refine ⟨fun _ h => (by cases h), ?_⟩
        gi_wp2
        go_end0
        exact ⟨⟨_, rfl⟩, _, hT0, .inl (by rw [HP.out]; exact HJr.out)⟩
      · have hsq := seqL_bad hk hok' (by rw [hx]; exact he)
        rw [hsq, hx] at hpre
        have hne := ne_true (x := (x.err : Int)) (y := 0) (by omega)
        obtain ⟨fn, tmps, assign, body, hy, hR⟩ := HY.out _ pre (x.tok, x.err) [] wr hT0 hTlt hpre HJr.out
        simp only [encE, tokV] at hy
        have HP := Lib.hid hpre
        have HR := Lib.hid hR
        clear hR hpre hsq hok' hx hk he
        gi_wp2
        refine ⟨fun _ h => (by cases h), ?_⟩
        gi_wp2
        refine HR.out.mono ?_
        rintro e W3 (⟨rfl, hJ3, hk3⟩ | ⟨rfl, hJx3⟩)
        · have HJ3 := Lib.hid hJ3
          clear hJ3 hk3 hy
          gi_wp2
          go_end0
          exact ⟨⟨_, rfl⟩, _, hT0, .inl (by rw [HP.out]; exact HJ3.out)⟩
        · have HJx3 := Lib.hid hJx3
          clear hJx3 hy
          gi_wp2
          go_end0
          exact ⟨⟨_, rfl⟩, _, hT0, .inr ⟨pre, (x.tok, x.err), [], HP.out, HJx3.out⟩⟩
end Go.Proofs.YtdpogjkfmncnlaaDoor
