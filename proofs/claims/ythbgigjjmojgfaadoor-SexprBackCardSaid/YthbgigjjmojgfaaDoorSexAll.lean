/- Package sexpr's All. -/
import Derived.Test.YthbgigjjmojgfaaDoorSexWk
import Derived.Test.YthbgigjjmojgfaaDoorSexAp
namespace Go.Proofs.YthbgigjjmojgfaaDoor
open Go.RowKit
set_option linter.unusedVariables false
/-- What has been put together: a row of one's own. -/
def AllM (w : World) (n₀ : Nat) (v : Value) (ts : List Tree) : Prop :=
  ∃ K : Nat → Prop, (∀ b, K b → n₀ ≤ b ∧ b < w.heap.size) ∧ (∀ b, K b → ∃ cs, w.heap[b]? = some (.cells cs 26 (0, 0))) ∧ OpenL w n₀ K v ts ∧ ∀ g, v.ownBlock = some g → ¬ K g
theorem AllM.nil (w : World) (n₀ : Nat) : AllM w n₀ (.slice none 0 0) [] :=
  ⟨fun _ => False, fun _ h => h.elim, fun _ h => h.elim, OpenL.nil w n₀ _, fun _ _ h => h⟩
theorem AllM.keep {w w' : World} {n₀ : Nat} {v : Value} {ts : List Tree} (h : AllM w n₀ v ts) (hb : Below w.heap.size w w') : AllM w' n₀ v ts := by
  obtain ⟨K, h1, h2, h3, h4⟩ := h
  refine ⟨K, fun b hb' => ⟨(h1 b hb').1, Nat.lt_of_lt_of_le (h1 b hb').2 hb.size⟩, fun b hb' => ?_, h3.keep (fun b hb' => hb.block b ?_), h4⟩
  · obtain ⟨cs, hc⟩ := h2 b hb'
    exact ⟨cs, (hb.block b (h1 b hb').2).trans hc⟩
  · rcases hb' with hb' | hb'
    · exact (h1 b hb').2
    · exact (h3.lt hb').2
theorem AllM.form {w : World} {n₀ : Nat} {v : Value} {ts : List Tree} (h : AllM w n₀ v ts) : ∃ a cap, v = .slice a ts.length cap ∧ ts.length ≤ cap ∧ cap ≤ maxLen := by
  obtain ⟨K, _, _, h, _⟩ := h
  exact h.form
/-- One more, put behind: w1 the world ahead of the append, w2 behind it. -/
theorem AllM.snoc {w w1 w2 : World} {n₀ : Nat} {v v' k s sl : Value} {ts : List Tree} {t : Tree} {xs : List Value} {K Kt : Nat → Prop}
    (h1 : ∀ b, K b → n₀ ≤ b ∧ b < w.heap.size) (h2 : ∀ b, K b → ∃ cs, w.heap[b]? = some (.cells cs 26 (0, 0))) (h4 : ∀ g, v.ownBlock = some g → ¬ K g)
    (hlt : ∀ g, v.ownBlock = some g → n₀ ≤ g ∧ g < w.heap.size) (hels : Els w (fun b => ¬ K b) ts xs)
    (q1 : ∀ b, Kt b → w.heap.size ≤ b ∧ b < w1.heap.size) (q2 : ∀ b, Kt b → ∃ cs, w1.heap[b]? = some (.cells cs 26 (0, 0))) (q3 : Rd w1 (fun b => ¬ Kt b) t (.agg #[k, s, sl]))
    (hn : n₀ ≤ w.heap.size) (hb : Below w.heap.size w w1) (hown : w2.ownsRow n₀ 26 3 v' (ts.length + 1) (xs ++ [k, s, sl]))
    (hsz : w1.heap.size ≤ w2.heap.size) (hk : ∀ b, b < w1.heap.size → some b ≠ v.ownBlock → w2.heap[b]? = w1.heap[b]?) (hsame : v'.ownBlock = v.ownBlock ∨ ∃ g, v'.ownBlock = some g ∧ w1.heap.size ≤ g) :
    AllM w2 n₀ v' (ts ++ [t]) := by
  have hbs := hb.size
  have kold : ∀ b, K b → w2.heap[b]? = w.heap[b]? := fun b hb' => by
    rw [hk b (Nat.lt_of_lt_of_le (h1 b hb').2 hbs) (fun e => h4 b e.symm hb'), hb.block b (h1 b hb').2]
  have knew : ∀ b, Kt b → w2.heap[b]? = w1.heap[b]? := fun b hb' => hk b (q1 b hb').2 (fun e => by have := (hlt b e.symm).2; have := (q1 b hb').1; omega)
  refine ⟨fun b => K b ∨ Kt b, ?_, ?_, ⟨xs ++ [k, s, sl], by simpa using hown, Els.snoc ts xs t k s sl ?_ ?_⟩, ?_⟩
  · rintro b (hb' | hb')
    · exact ⟨(h1 b hb').1, by have := (h1 b hb').2; omega⟩
    · exact ⟨by have := (q1 b hb').1; omega, by have := (q1 b hb').2; omega⟩
  · rintro b (hb' | hb')
    · obtain ⟨cs, hc⟩ := h2 b hb'; exact ⟨cs, (kold b hb').trans hc⟩
    · obtain ⟨cs, hc⟩ := q2 b hb'; exact ⟨cs, (knew b hb').trans hc⟩
  · exact Els.mono (fun b _ hb' hk' => hb' (.inl hk')) ts xs (Els.keep (fun b hb' _ => kold b (Classical.not_not.1 hb')) ts xs hels)
  · exact Rd.mono (fun b _ hb' hk' => hb' (.inr hk')) t _ (Rd.keep (fun b hb' _ => knew b (Classical.not_not.1 hb')) t _ q3)
  · intro g hg hor
    rcases hsame with hs | ⟨g', hs, hge⟩
    · rw [hs] at hg
      rcases hor with hor | hor
      · exact h4 g hg hor
      · have := (hlt g hg).2; have := (q1 g hor).1; omega
    · rw [hs] at hg
      cases hg
      rcases hor with hor | hor
      · have := (h1 g hor).2; omega
      · have := (q1 g hor).2; omega
def AllPost (w : World) (X : AllR) (e : Ending) (w' : World) : Prop := ∃ v, e = .returned (.tuple #[v, .int .i64 X.stop, .int .i64 X.err]) ∧ AllM w' w.heap.size v X.ts ∧ Below w.heap.size w w'
/-- Read's answer at any place, in parts. -/
theorem read_at (s : ByteArray) (k : Nat) (X : RdR) (hs : s.size < 900000) (hk : k ≤ s.size) (hX : readL s.data.toList k = X) (W : World) (hG : Globs W) (hK : Kinds W) :
    Calls Tryd.prog 9 #[.string s, .int .i64 k] W fun e w' => ∃ a cap, e = .returned (.tuple #[.agg #[.int .i8 X.t.kind, .string (bytesL X.t.text), .slice a X.t.kids.length cap], .int .i64 X.stop, .int .i64 X.err]) ∧ RdOut W.heap.size w' X.t (.agg #[.int .i8 X.t.kind, .string (bytesL X.t.text), .slice a X.t.kids.length cap]) ∧ Below W.heap.size W w' := by
  refine (Read_is s k k X W hG hK (by omega) rfl (by omega) (by omega) hX).mono ?_
  rintro e w' ⟨v, rfl, h1, h2⟩
  obtain ⟨a, cap, rfl⟩ := h1.parts
  exact ⟨a, cap, rfl, h1, h2⟩
theorem news3 {w : World} {o : Obj} {k s sl : Value} : ∀ j u, [k, s, sl][j]? = some u → ((w.alloc o).alloc (.cells #[k, s, sl] 26)).cell? ((⟨w.heap.size + 1, 0, none⟩ : Addr).add j) = some u := by
  have hh := heap_alloc_new (w.alloc o) (.cells #[k, s, sl] 26)
  rw [World.size_alloc] at hh
  exact World.news_of_block hh
set_option maxHeartbeats 4000000 in
theorem All_any (s : ByteArray) (X : AllR) (w : World) (hG : Globs w) (hK : Kinds w) (hs : s.size < 900000) (hX : allS s.data.toList = X) :
    Calls Tryd.prog 12 #[.string s] w (AllPost w X) := by
  have HL : Hid (s.data.toList.length = s.size) := by show _ = _; simp
  have HG := Lib.hid hG
  have HK := Lib.hid hK
  have HS := Lib.hid hs
  have HX := Lib.hid hX
  have HSk : Hid (∀ W : World, Globs W → ∀ k : Nat, k ≤ s.size → Calls Tryd.prog 28 #[.string s, .int .i64 k] W fun e w' => e = .returned (.int .i64 (skipA s.data.toList k : Int)) ∧ Below W.heap.size W w') := fun W hW k hk => Skip_nat s k W hW (by have := HS.out; omega) hk
  obtain ⟨i0, hi, hz0, hz1, hz2⟩ := info_parts infoSx
  obtain ⟨p0, hp0⟩ : ∃ p, p = skipA s.data.toList 0 := ⟨_, rfl⟩
  have HS0 : Hid (∀ W : World, Globs W → Calls Tryd.prog 28 #[.string s, .int .i64 0] W fun e w' => e = .returned (.int .i64 (p0 : Int)) ∧ Below W.heap.size W w') := fun W hW => by rw [hp0]; exact HSk.out W hW 0 (Nat.zero_le _)
  have hp0l : p0 ≤ s.size := by rw [hp0]; have := (skipA_le (l := s.data.toList) (k := 0) (Nat.zero_le _)).2; rw [HL.out] at this; exact this
  have HI0 : Hid (X.ts = [] ++ (allX s.data.toList (s.size + 1) p0).ts ∧ X.stop = (allX s.data.toList (s.size + 1) p0).stop ∧ X.err = (allX s.data.toList (s.size + 1) p0).err) := by
    show _ ∧ _
    rw [← HX.out, hp0]; unfold allS; rw [HL.out]; exact ⟨rfl, rfl, rfl⟩
  clear hX hG hK hp0
  go_enter Tryd.func12, Tryd.ntmps12
  go_wp2_with fail
  refine (HS0.out _ HG.out).mono ?_
  rintro e w1 ⟨rfl, hb1⟩
  have HB1 := Lib.hid hb1
  clear hb1
  go_wp2
  go_loopw [2, 3] (fun a b wr => ∃ (pre : List Tree) (p f : Nat), b = .int .i64 p ∧ p ≤ s.size ∧ pre.length ≤ p ∧ Hid (AllM wr w.heap.size a pre) ∧ Hid (X.ts = pre ++ (allX s.data.toList f p).ts ∧ X.stop = (allX s.data.toList f p).stop ∧ X.err = (allX s.data.toList f p).err) ∧ s.size - p < f ∧ Hid (Below w.heap.size w wr)) (fun _ b _ => s.size - (intOf b).toNat)
  case atStart => exact ⟨[], p0, s.size + 1, rfl, hp0l, Nat.zero_le _, AllM.nil _ _, HI0, by omega, HB1⟩
  case round =>
    obtain ⟨pre, p, f, rfl, hp, hpl, HM, HI, hf, HB⟩ := hrel
    obtain ⟨f, rfl⟩ : ∃ g, f = g + 1 := ⟨f - 1, by omega⟩
    obtain ⟨va, vc, rfl, _, _⟩ := HM.out.form
    have HGr : Hid (Globs wr) := HG.out.below HB.out
    have HKr : Hid (Kinds wr) := HK.out.below HB.out HK.out.lt
    by_cases hlt : p < s.size
    · have dlt : decide ((p : Int) < (s.size : Int)) = true := by simp; omega
      obtain ⟨R, hR⟩ : ∃ R, readL s.data.toList p = R := ⟨_, rfl⟩
      have HRd := Lib.hid (fun W h1 h2 => read_at s p R HS.out hp hR W h1 h2)
      by_cases herr : R.err = 0
      · have hon := readL_on (L := s.data.toList) (p := p) (by rw [HL.out]; exact hp) (by rw [hR]; exact herr)
        rw [hR, HL.out] at hon
        obtain ⟨hon1, hon2⟩ := hon
        have HI2 : Hid (X.ts = (pre ++ [R.t]) ++ (allX s.data.toList f (skipA s.data.toList R.stop)).ts ∧ X.stop = (allX s.data.toList f (skipA s.data.toList R.stop)).stop ∧ X.err = (allX s.data.toList f (skipA s.data.toList R.stop)).err) := by
          show _ ∧ _
          have h := HI.out
          unfold allX at h
          rw [HL.out, if_pos hlt, hR, if_pos herr] at h
          simpa using h
        have e1 := ne_false (x := (R.err : Int)) (y := 0) (by omega)
        have hq := skipA_le (l := s.data.toList) (k := R.stop) (by rw [HL.out]; exact hon2)
        rw [HL.out] at hq
        obtain ⟨q, hq0⟩ : ∃ q, q = skipA s.data.toList R.stop := ⟨_, rfl⟩
        have HSq : Hid (∀ W : World, Globs W → Calls Tryd.prog 28 #[.string s, .int .i64 R.stop] W fun e w' => e = .returned (.int .i64 (q : Int)) ∧ Below W.heap.size W w') := fun W hW => by rw [hq0]; exact HSk.out W hW R.stop hon2
        rw [← hq0] at hq HI2
        obtain ⟨hq1, hq2⟩ := hq
        clear hR herr hq0
        go_wp2_with fail
        refine (HRd.out _ HGr.out HKr.out).mono ?_
        rintro e w2 ⟨ra, rc, rfl, ho, hb2⟩
        have HO := Lib.hid ho
        have HB2 := Lib.hid hb2
        have HM2 : Hid (AllM w2 w.heap.size (.slice va pre.length vc) pre) := HM.out.keep hb2
        obtain ⟨K, hm1, hm2, ⟨xs, hrow, hels⟩, hm4⟩ := HM.out
        have hrow2 : w2.ownsRow w.heap.size 26 3 (.slice va pre.length vc) pre.length xs := ownsRow_heap' hrow (fun g hg => hb2.block g (hrow.lt g hg).2)
        have Hrow := Lib.hid hrow
        have Hrow2 := Lib.hid hrow2
        have Hels := Lib.hid hels
        have Hm1 := Lib.hid hm1
        have Hm2 := Lib.hid hm2
        have Hm4 := Lib.hid hm4
        have hsz2 : w.heap.size ≤ w2.heap.size := Nat.le_trans HB.out.size hb2.size
        clear ho hb2 hrow hrow2 hels hm1 hm2 hm4
        go_wp2_with (at_builtin; refine wpList_append_own_at _ rfl _ _ 24 rfl w.heap.size 26 i0 _ 3 48 Tryd.underlying24 hi hz0 hz1 hz2 rfl (by decide) _ pre.length xs rfl ((Hrow2.out.alloc _).alloc _) ⟨w2.heap.size + 1, 0, none⟩ 1 1 [.int .i8 R.t.kind, .string (bytesL R.t.text), .slice ra R.t.kids.length rc] rfl rfl news3 ?_ ?_ ?_ ?_ ?_)
        case refine_1 => intro u hu; simp at hu; rcases hu with rfl | rfl | rfl <;> rfl
        case refine_2 => simp only [maxLen]; have := HS.out; omega
        case refine_3 => have := HS.out; omega
        case refine_4 => simp; omega
        case refine_5 =>
          intro v' w4 hown hgrow hnil hsame
          clear hnil
          obtain ⟨a4, cap4, hv4⟩ := own_slice hown
          subst hv4
          have hk4 : ∀ b, b < w2.heap.size → some b ≠ (Value.slice va pre.length vc).ownBlock → w4.heap[b]? = w2.heap[b]? := fun b hb hne => by
            rw [hgrow.block b (by simp; omega) hne, Below.heap_alloc _ _ _ (by simp; omega), Below.heap_alloc _ _ _ hb]
          have hsz4 : w2.heap.size ≤ w4.heap.size := by have := hgrow.size; simp at this; omega
          have hbw2 := HB.out.trans (HB2.out.mono HB.out.size)
          have HB4 : Hid (Below w.heap.size w w4) := ⟨hgrow.os.trans hbw2.os, hgrow.tape.trans hbw2.tape, hgrow.output.trans hbw2.output, Nat.le_trans hsz2 hsz4, fun b hb => (hk4 b (by omega) (fun e => by have := (Hrow.out.lt b e.symm).1; omega)).trans (hbw2.block b hb)⟩
          obtain ⟨Kt, q1, q2, q3⟩ := HO.out
          have HM4 : Hid (AllM w4 w.heap.size (.slice a4 (pre.length + 1) cap4) (pre ++ [R.t])) := AllM.snoc Hm1.out Hm2.out Hm4.out (fun g hg => Hrow.out.lt g hg) Hels.out q1 q2 q3 HB.out.size HB2.out hown hsz4 hk4 (by
            rcases hsame with h | h
            · exact .inl h
            · exact .inr ⟨_, h, by omega⟩)
          clear hown hgrow hsame hk4 hbw2 q1 q2 q3
          go_wp2_with fail
          refine (HSq.out _ (HG.out.below HB4.out)).mono ?_
          rintro e w5 ⟨rfl, hb5⟩
          go_wp2
          go_roundw
          case rel => exact ⟨pre ++ [R.t], q, f, rfl, hq2, by simp; omega, HM4.out.keep hb5, HI2.out, by omega, HB4.out.trans (hb5.mono HB4.out.size)⟩
          case measure => simp [intOf]; omega
      · have e1 := ne_true (x := (R.err : Int)) (y := 0) (by omega)
        have HI2 : Hid (X.ts = pre ∧ X.stop = p ∧ X.err = R.err) := by
          show _ ∧ _
          have h := HI.out
          rw [allX_bad (by rw [HL.out]; exact hlt) (by rw [hR]; exact herr), hR] at h
          simpa using h
        clear hR herr
        go_wp2_with fail
        refine (HRd.out _ HGr.out HKr.out).mono ?_
        rintro e w2 ⟨ra, rc, rfl, ho, hb2⟩
        have HM2 : Hid (AllM w2 w.heap.size (.slice va pre.length vc) pre) := HM.out.keep hb2
        have HB2 : Hid (Below w.heap.size w w2) := HB.out.trans (hb2.mono HB.out.size)
        clear ho hb2
        go_wp2
        exact bodyPost_ret (v := .tuple #[.slice va pre.length vc, .int .i64 p, .int .i64 R.err]) (by simp [results, Tryd.results12, go_sem]) rfl ⟨_, by rw [HI2.out.2.1, HI2.out.2.2], by rw [HI2.out.1]; exact HM2.out.keep ((Below.refl _ _).alloc (Nat.le_refl _) _), HB2.out.alloc HB2.out.size _⟩
    · have dlt : decide ((p : Int) < (s.size : Int)) = false := by simp; omega
      have HI2 : Hid (X.ts = pre ∧ X.stop = p ∧ X.err = 0) := by
        show _ ∧ _
        have h := HI.out
        rw [allX_end (by rw [HL.out]; exact hlt)] at h
        simpa using h
      go_wp2
      exact bodyPost_ret (v := .tuple #[.slice va pre.length vc, .int .i64 p, .int .i64 0]) (by simp [results, Tryd.results12, go_sem]) rfl ⟨_, by rw [HI2.out.2.1, HI2.out.2.2]; rfl, by rw [HI2.out.1]; exact HM.out, HB.out⟩
end Go.Proofs.YthbgigjjmojgfaaDoor
