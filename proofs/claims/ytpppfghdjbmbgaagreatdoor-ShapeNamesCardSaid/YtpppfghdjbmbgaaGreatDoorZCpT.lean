/- Core: images are well sorted, step by step. -/
import Derived.Test.YtpppfghdjbmbgaaGreatDoorZCpD
import Derived.Test.YtpppfghdjbmbgaaGreatDoorZCoR
namespace Go.Proofs.YtpppfghdjbmbgaaGreatDoor.Tm
open Go.RowKit
set_option linter.unusedVariables false
def srt (l : List NodeA) (i : Int) : Int := (nodA l i).sort
/-- The node is well sorted. -/
structure WsN (l : List NodeA) (n : NodeA) : Prop where
  s0 : n.op = 0 → n.sort = 0
  s1 : n.op = 1 → n.sort = 0 ∧ srt l n.a0 = 0
  s2 : n.op = 2 ∨ n.op = 3 ∨ n.op = 4 ∨ n.op = 5 → n.sort = 0 ∧ srt l n.a0 = 0 ∧ srt l n.a1 = 0
  s6 : n.op = 6 → n.sort = 0 ∧ srt l n.a0 = srt l n.a1
  s7 : n.op = 7 → srt l n.a0 = 0 ∧ srt l n.a1 = n.sort ∧ srt l n.a2 = n.sort
  s8 : n.op = 8 ∨ n.op = 9 ∨ n.op = 12 → n.sort = 0 ∧ srt l n.a0 = 1 ∧ srt l n.a1 = 1
  s10 : n.op = 10 → n.sort = 1
  s11 : n.op = 11 → n.sort = 1 ∧ srt l n.a0 = 1
def WS (l : List NodeA) : Prop := ∀ n ∈ l, WsN l n
theorem ws_bool {l : List NodeA} {n : NodeA} (h : n.op = 2 ∨ n.op = 3 ∨ n.op = 4 ∨ n.op = 5) (h0 : n.sort = 0) (h1 : srt l n.a0 = 0) (h2 : srt l n.a1 = 0) : WsN l n :=
  ⟨fun e => by omega, fun e => by omega, fun _ => ⟨h0, h1, h2⟩, fun e => by omega, fun e => by omega, fun e => by omega, fun e => by omega, fun e => by omega⟩
theorem ws_not {l : List NodeA} {n : NodeA} (h : n.op = 1) (h0 : n.sort = 0) (h1 : srt l n.a0 = 0) : WsN l n :=
  ⟨fun e => by omega, fun _ => ⟨h0, h1⟩, fun e => by omega, fun e => by omega, fun e => by omega, fun e => by omega, fun e => by omega, fun e => by omega⟩
theorem ws_eq {l : List NodeA} {n : NodeA} (h : n.op = 6) (h0 : n.sort = 0) (h1 : srt l n.a0 = srt l n.a1) : WsN l n :=
  ⟨fun e => by omega, fun e => by omega, fun e => by omega, fun _ => ⟨h0, h1⟩, fun e => by omega, fun e => by omega, fun e => by omega, fun e => by omega⟩
theorem ws_diff {l : List NodeA} {n : NodeA} (h : n.op = 12) (h0 : n.sort = 0) (h1 : srt l n.a0 = 1) (h2 : srt l n.a1 = 1) : WsN l n :=
  ⟨fun e => by omega, fun e => by omega, fun e => by omega, fun e => by omega, fun e => by omega, fun _ => ⟨h0, h1, h2⟩, fun e => by omega, fun e => by omega⟩
theorem ws_num {l : List NodeA} {n : NodeA} (h : n.op = 10) (h0 : n.sort = 1) : WsN l n :=
  ⟨fun e => by omega, fun e => by omega, fun e => by omega, fun e => by omega, fun e => by omega, fun e => by omega, fun _ => h0, fun e => by omega⟩
theorem ws_add {l : List NodeA} {n : NodeA} (h : n.op = 11) (h0 : n.sort = 1) (h1 : srt l n.a0 = 1) : WsN l n :=
  ⟨fun e => by omega, fun e => by omega, fun e => by omega, fun e => by omega, fun e => by omega, fun e => by omega, fun e => by omega, fun _ => ⟨h0, h1⟩⟩
theorem ws_true {l : List NodeA} {n : NodeA} (h : n.op = 0) (h0 : n.sort = 0) : WsN l n :=
  ⟨fun _ => h0, fun e => by omega, fun e => by omega, fun e => by omega, fun e => by omega, fun e => by omega, fun e => by omega, fun e => by omega⟩
theorem srt_pre {l : List NodeA} (r : List NodeA) {i : Int} (h0 : 0 ≤ i) (h : i < (l.length : Int)) : srt (l ++ r) i = srt l i := by unfold srt; rw [nodA_pre r h0 h]
theorem srt_up {a b : MkS} {i : Int} (h : PlA a i) (k : Pre a b) : srt b.l i = srt a.l i := by
  obtain ⟨r, hr⟩ := k.pre
  rw [hr]; exact srt_pre r h.1 h.2
/-- How a node's sorts are told by its arguments', as many as it has. -/
theorem WsN.of_args {l l' : List NodeA} {n n' : NodeA} (h : WsN l n) (ho : n'.op = n.op) (hs : n'.sort = n.sort) (hl : n.op = 13 ∨ n.len = arityA n.op) (ha : ∀ j : Nat, (j : Int) < n.len → srt l' (argA n' j) = srt l (argA n j)) : WsN l' n' := by
  have two : n.op = 2 ∨ n.op = 3 ∨ n.op = 4 ∨ n.op = 5 ∨ n.op = 6 ∨ n.op = 8 ∨ n.op = 9 ∨ n.op = 12 → n.len = 2 := fun e => by
    rcases hl with h | h
    · omega
    · rw [h]; rcases e with e | e | e | e | e | e | e | e <;> rw [e] <;> decide
  have one : n.op = 1 ∨ n.op = 11 → n.len = 1 := fun e => by
    rcases hl with h | h
    · omega
    · rw [h]; rcases e with e | e <;> rw [e] <;> decide
  have three : n.op = 7 → n.len = 3 := fun e => by
    rcases hl with h | h
    · omega
    · rw [h, e]; decide
  have a0 : (0 : Int) < n.len → srt l' n'.a0 = srt l n.a0 := fun h => ha 0 h
  have a1 : (1 : Int) < n.len → srt l' n'.a1 = srt l n.a1 := fun h => ha 1 h
  have a2 : (2 : Int) < n.len → srt l' n'.a2 = srt l n.a2 := fun h => ha 2 h
  refine ⟨fun e => ?_, fun e => ?_, fun e => ?_, fun e => ?_, fun e => ?_, fun e => ?_, fun e => ?_, fun e => ?_⟩ <;> rw [ho] at e <;> rw [hs]
  · exact h.s0 e
  · have := one (.inl e); rw [a0 (by omega)]; exact h.s1 e
  · have := two (by omega); rw [a0 (by omega), a1 (by omega)]; exact h.s2 e
  · have := two (by omega); rw [a0 (by omega), a1 (by omega)]; exact h.s6 e
  · have := three e; rw [a0 (by omega), a1 (by omega), a2 (by omega)]; exact h.s7 e
  · have := two (by omega); rw [a0 (by omega), a1 (by omega)]; exact h.s8 e
  · exact h.s10 e
  · have := one (.inr e); rw [a0 (by omega)]; exact h.s11 e
theorem WsN.up {l : List NodeA} (r : List NodeA) {n : NodeA} {k : Nat} (h : WsN l n) (hst : standsB n k = true) (hk : k ≤ l.length) : WsN (l ++ r) n := by
  obtain ⟨_, hl, ha⟩ := stands_args hst
  exact h.of_args rfl rfl hl fun j hj => srt_pre r (ha j hj).1 (by have := (ha j hj).2; omega)
theorem ws_put {most : Int} {s : MkS} {n : NodeA} (h : MkI s) (hW : WS s.l) (hs : s.e = 0 → standsB n s.l.length = true) (hn : s.e = 0 → WsN s.l n) (he : (putM most s n).1.e = 0) : WS (putM most s n).1.l ∧ srt (putM most s n).1.l (putM most s n).2 = n.sort := by
  unfold putM at he ⊢
  by_cases h0 : s.e = 0
  · rw [if_neg (fun h => h h0)] at he ⊢
    by_cases hi : n ∈ s.l
    · rw [if_pos hi] at he ⊢
      refine ⟨hW, ?_⟩
      show (nodA s.l ((fndN s.l n : Nat) : Int)).sort = n.sort
      rw [Option.some.inj ((nodA_get (fndN_lt.1 hi)).symm.trans (fndN_get hi))]
    · rw [if_neg hi] at he ⊢
      by_cases hl : most ≤ (s.l.length : Int)
      · rw [if_pos hl] at he; exact absurd he (show ¬ (40 : Int) = 0 by decide)
      · rw [if_neg hl] at he ⊢
        refine ⟨fun x hx => ?_, ?_⟩
        · rcases List.mem_append.1 hx with h1 | h1
          · obtain ⟨k, hg⟩ := List.getElem?_of_mem h1
            exact (hW x h1).up [n] (ok_at (mayT_ok h.may).2 hg).1 (Nat.le_of_lt (List.getElem?_eq_some_iff.1 hg).1)
          · rw [List.mem_singleton.1 h1]
            exact (hn h0).up [n] (hs h0) (Nat.le_refl _)
        · show (nodA (s.l ++ [n]) ((s.l.length : Nat) : Int)).sort = n.sort
          unfold nodA
          rw [Int.toNat_natCast, List.getD_eq_getElem?_getD, List.getElem?_append_right (Nat.le_refl _), Nat.sub_self]; rfl
  · rw [if_pos h0] at he; exact absurd he h0
theorem put_e {most : Int} {s : MkS} {n : NodeA} (h : (putM most s n).1.e = 0) : s.e = 0 := by
  unfold putM at h
  by_cases h0 : s.e = 0
  · exact h0
  · rw [if_pos h0] at h; exact absurd h h0
theorem zero_srt {s : MkS} (h : MkI s) : srt s.l 0 = 0 := by
  have h2 := congrArg (fun z : List NodeA => z[0]?) (mayT_ok h.may).1
  simp only [List.getElem?_take] at h2
  rw [if_pos (by omega)] at h2
  unfold srt nodA
  rw [List.getD_eq_getElem?_getD, show (0 : Int).toNat = 0 from rfl, h2]; rfl
theorem ws_not_m {most : Int} {s : MkS} {n : NodeA} (h : MkI s) (hW : WS s.l) (ho : n.op = 1) (ha : PlA s n.a0) (hs : s.e = 0 → standsB n s.l.length = true) (hn : s.e = 0 → WsN s.l n) (h0 : n.sort = 0) (he : (notM most s n).1.e = 0) : WS (notM most s n).1.l ∧ srt (notM most s n).1.l (notM most s n).2 = 0 := by
  unfold notM at he ⊢
  split at he
  · rename_i h1
    rw [if_pos h1]
    obtain ⟨k, hk, hkl⟩ := ha.nat
    have := hW (nodA s.l n.a0) (by rw [hk]; exact nodA_mem hkl)
    exact ⟨hW, (this.s1 h1).2⟩
  · rename_i h1
    rw [if_neg h1]
    have := ws_put h hW hs hn he
    exact ⟨this.1, this.2.trans h0⟩
theorem ws_neg {most : Int} {s : MkS} {i : Int} (h : MkI s) (hW : WS s.l) (hi : PlA s i) (h0 : s.e = 0 → srt s.l i = 0) (he : (negM most s i).1.e = 0) : WS (negM most s i).1.l ∧ srt (negM most s i).1.l (negM most s i).2 = 0 :=
  ws_not_m h hW rfl hi (fun _ => st_one rfl hi) (fun e => ws_not rfl rfl (h0 e)) rfl he
theorem split_srt {s : MkS} (h : MkI s) (hW : WS s.l) {i : Int} (hi : PlA s i) (h1 : srt s.l i = 1) : srt s.l (splitA s.l i).1 = 1 := by
  obtain ⟨k, rfl, hk⟩ := hi.nat
  unfold splitA
  split
  · show (nodA s.l 1).sort = 1
    rw [nod_one h]; rfl
  · split
    · rename_i h11
      exact ((hW _ (nodA_mem hk)).s11 h11).2
    · exact h1
theorem ws_le {most : Int} {s : MkS} (h : MkI s) (hm : most ≤ 2000) (hW : WS s.l) {a b : Int} (ha : PlA s a) (hb : PlA s b) (c : Int) (h1 : s.e = 0 → srt s.l a = 1 ∧ srt s.l b = 1) (he : (leM most s a b c).1.e = 0) : WS (leM most s a b c).1.l ∧ srt (leM most s a b c).1.l (leM most s a b c).2 = 0 := by
  have hp := diff_pre s a b c
  have hi := diff_inv h a b c
  have hd := diff_l s a b c
  have px := (split_pl h ha).up hp
  have py := (split_pl h hb).up hp
  have hWd : WS (diffM s a b c).1.l := by rw [hd]; exact hW
  unfold leM at he ⊢
  split at he
  · rename_i hne
    rw [if_pos hne]
    exact ws_put hi hWd (fun he => st_two (.inr ⟨rfl, (diff_z he).2.1⟩) px py) (fun e => by
      obtain ⟨s1, s2⟩ := h1 (hp.e e)
      refine ws_diff rfl rfl ?_ ?_
      · show srt (diffM s a b c).1.l (splitA s.l a).1 = 1
        rw [hd]; exact split_srt h hW ha s1
      · show srt (diffM s a b c).1.l (splitA s.l b).1 = 1
        rw [hd]; exact split_srt h hW hb s2) he
  · rename_i hne
    rw [if_neg hne]
    split at he
    · rename_i h0
      rw [if_pos h0]
      exact ⟨hWd, zero_srt hi⟩
    · rename_i h0
      rw [if_neg h0]
      exact ws_neg hi hWd (PlA.zero hi) (fun _ => zero_srt hi) he
theorem ws_imp {most : Int} {s : MkS} {n : NodeA} (h : MkI s) (hm : most ≤ 2000) (hW : WS s.l) (ha : PlA s n.a0) (hb : PlA s n.a1) (hn : s.e = 0 → srt s.l n.a0 = 0 ∧ srt s.l n.a1 = 0) (he : (impM most s n).1.e = 0) : WS (impM most s n).1.l ∧ srt (impM most s n).1.l (impM most s n).2 = 0 := by
  have h1 := neg_out (most := most) h hm ha
  have hp : Pre (negM most s n.a0).1 (impM most s n).1 := (put_out (most := most) (n := two2 3 (negM most s n.a0).2 n.a1 0) h1.inv hm (ok_two (i8_lit (by decide)) (h1.pl.i64 h1.inv.len) (hb.i64 h.len) ⟨by decide, by decide⟩) (fun _ => st_two (.inl ⟨by decide, rfl⟩) h1.pl (hb.up h1.pre))).pre
  have e1 := hp.e he
  have w1 := ws_neg h hW ha (fun e => (hn e).1) e1
  exact ws_put h1.inv w1.1 (fun _ => st_two (.inl ⟨by decide, rfl⟩) h1.pl (hb.up h1.pre)) (fun e => ws_bool (.inr (.inl rfl)) rfl w1.2 (by
    show srt (negM most s n.a0).1.l n.a1 = 0
    rw [srt_up hb h1.pre]; exact (hn (h1.pre.e e)).2)) he
theorem ws_eqI {most : Int} {s : MkS} (h : MkI s) (hm : most ≤ 2000) (hW : WS s.l) {a b : Int} (ha : PlA s a) (hb : PlA s b) (h1 : s.e = 0 → srt s.l a = 1 ∧ srt s.l b = 1) (he : (eqI most s a b).1.e = 0) : WS (eqI most s a b).1.l ∧ srt (eqI most s a b).1.l (eqI most s a b).2 = 0 := by
  have o1 := le_out h hm ha hb 0
  have o2 := le_out o1.inv hm (hb.up o1.pre) (ha.up o1.pre) 0
  have o3 := put_out (most := most) (n := two2 2 (leM most s a b 0).2 (leM most (leM most s a b 0).1 b a 0).2 0) o2.inv hm (ok_two (i8_lit (by decide)) (o1.pl.i64 o1.inv.len) (o2.pl.i64 o2.inv.len) ⟨by decide, by decide⟩) (fun _ => st_two (.inl ⟨by decide, rfl⟩) (o1.pl.up o2.pre) o2.pl)
  have e2 := o3.pre.e he
  have e1 := o2.pre.e e2
  have w1 := ws_le h hm hW ha hb 0 h1 e1
  have w2 := ws_le o1.inv hm w1.1 (hb.up o1.pre) (ha.up o1.pre) 0 (fun e => by
    obtain ⟨s1, s2⟩ := h1 (o1.pre.e e)
    rw [srt_up hb o1.pre, srt_up ha o1.pre]; exact ⟨s2, s1⟩) e2
  exact ws_put o2.inv w2.1 (fun _ => st_two (.inl ⟨by decide, rfl⟩) (o1.pl.up o2.pre) o2.pl) (fun _ => ws_bool (.inl rfl) rfl (by
    show srt (leM most (leM most s a b 0).1 b a 0).1.l (leM most s a b 0).2 = 0
    rw [srt_up o1.pl o2.pre]; exact w1.2) w2.2) he
theorem ws_eq_m {most : Int} {s : MkS} {n : NodeA} (h : MkI s) (hm : most ≤ 2000) (hW : WS s.l) (ho : n.op = 6) (ha : PlA s n.a0) (hb : PlA s n.a1) (hs : s.e = 0 → standsB n s.l.length = true) (hn : s.e = 0 → WsN s.l n) (h0 : n.sort = 0) (he : (eqM most s n).1.e = 0) : WS (eqM most s n).1.l ∧ srt (eqM most s n).1.l (eqM most s n).2 = 0 := by
  unfold eqM at he ⊢
  split at he
  · rename_i c0
    rw [if_pos c0]
    have := ws_put h hW hs hn he
    exact ⟨this.1, this.2.trans h0⟩
  · rename_i c0
    rw [if_neg c0]
    split at he
    · rename_i c1
      rw [if_pos c1]
      exact ws_eqI h hm hW ha hb (fun e => ⟨c1, ((hn e).s6 ho).2.symm.trans c1⟩) he
    · rename_i c1
      rw [if_neg c1]
      split at he
      · rename_i c2
        rw [if_pos c2]
        exact ⟨hW, zero_srt h⟩
      · rename_i c2
        rw [if_neg c2]
        have hmn : PlA s (min n.a0 n.a1) := by rcases Int.le_total n.a0 n.a1 with hh | hh <;> simp only [Int.min_eq_left, Int.min_eq_right, hh] <;> assumption
        have hmx : PlA s (max n.a0 n.a1) := by rcases Int.le_total n.a0 n.a1 with hh | hh <;> simp only [Int.max_eq_left, Int.max_eq_right, hh] <;> assumption
        exact ws_put h hW (fun _ => st_two (.inl ⟨by decide, rfl⟩) hmn hmx) (fun e => ws_eq rfl rfl (by
          show srt s.l (min n.a0 n.a1) = srt s.l (max n.a0 n.a1)
          have h6 := ((hn e).s6 ho).2
          rcases Int.le_total n.a0 n.a1 with hh | hh
          · rw [Int.min_eq_left hh, Int.max_eq_right hh]; exact h6
          · rw [Int.min_eq_right hh, Int.max_eq_left hh]; exact h6.symm)) he
theorem ws_eq2 {most : Int} {s : MkS} {a b : Int} (h : MkI s) (hm : most ≤ 2000) (hW : WS s.l) (ha : PlA s a) (hb : PlA s b) (hn : s.e = 0 → srt s.l a = srt s.l b) (he : (eqM most s (two2 6 a b 0)).1.e = 0) : WS (eqM most s (two2 6 a b 0)).1.l ∧ srt (eqM most s (two2 6 a b 0)).1.l (eqM most s (two2 6 a b 0)).2 = 0 :=
  ws_eq_m h hm hW rfl ha hb (fun _ => st_two (.inl ⟨by decide, rfl⟩) ha hb) (fun e => ws_eq rfl rfl (hn e)) rfl he
theorem ws_xor {most : Int} {s : MkS} {n : NodeA} (h : MkI s) (hm : most ≤ 2000) (hW : WS s.l) (ha : PlA s n.a0) (hb : PlA s n.a1) (hn : s.e = 0 → srt s.l n.a0 = srt s.l n.a1) (he : (xorM most s n).1.e = 0) : WS (xorM most s n).1.l ∧ srt (xorM most s n).1.l (xorM most s n).2 = 0 := by
  have o1 := eq2_out (a := n.a0) (b := n.a1) h hm ha hb
  have o2 := neg_out (most := most) o1.inv hm o1.pl
  have e1 := o2.pre.e he
  have w1 := ws_eq2 h hm hW ha hb hn e1
  exact ws_neg o1.inv w1.1 o1.pl (fun _ => w1.2) he
theorem ws_beh {most : Int} {s : MkS} {it i : Int} (h : MkI s) (hm : most ≤ 2000) (hW : WS s.l) (ha : PlA s it) (hb : PlA s i) (sort : Int) (hn : s.e = 0 → srt s.l it = sort ∧ srt s.l i = sort) (he : (behM most s sort it i).e = 0) : WS (behM most s sort it i).l := by
  unfold behM at he ⊢
  split at he
  · rename_i c0
    rw [if_pos c0]; exact hW
  · rename_i c0
    rw [if_neg c0]
    split at he
    · rename_i c1
      rw [if_pos c1]
      have o1 := le_out h hm ha hb 0
      have o2 := le_out o1.inv hm (hb.up o1.pre) (ha.up o1.pre) 0
      have e1 := o2.pre.e he
      have w1 := ws_le h hm hW ha hb 0 (fun e => by obtain ⟨s1, s2⟩ := hn e; exact ⟨s1.trans c1, s2.trans c1⟩) e1
      exact (ws_le o1.inv hm w1.1 (hb.up o1.pre) (ha.up o1.pre) 0 (fun e => by
        obtain ⟨s1, s2⟩ := hn (o1.pre.e e)
        rw [srt_up hb o1.pre, srt_up ha o1.pre]; exact ⟨s2.trans c1, s1.trans c1⟩) he).1
    · rename_i c1
      rw [if_neg c1]
      exact (ws_eq2 h hm hW ha hb (fun e => by obtain ⟨s1, s2⟩ := hn e; exact s1.trans s2.symm) he).1
theorem ws_ite {most : Int} {s : MkS} {n : NodeA} (h : MkI s) (hm : most ≤ 2000) (hW : WS s.l) (hk : NodeOk n) (ho : n.op = 7) (hb : PlA s n.a1) (hc : PlA s n.a2) (hs : s.e = 0 → standsB n s.l.length = true) (hn : s.e = 0 → WsN s.l n) (he : (iteM most s n).1.e = 0) : WS (iteM most s n).1.l ∧ srt (iteM most s n).1.l (iteM most s n).2 = n.sort := by
  unfold iteM at he ⊢
  split at he
  · rename_i c0
    rw [if_pos c0]
    exact ⟨hW, ((hn he).s7 ho).2.1⟩
  · rename_i c0
    rw [if_neg c0]
    have o1 := put_out (most := most) h hm hk hs
    have o2 := beh_out (most := most) o1.inv hm o1.pl (hb.up o1.pre) n.sort
    have o3 := beh_out (most := most) o2.2 hm (o1.pl.up o2.1) ((hc.up o1.pre).up o2.1) n.sort
    have e2 := o3.1.e he
    have e1 := o2.1.e e2
    have w1 := ws_put h hW hs hn e1
    have hh := (hn (o1.pre.e e1)).s7 ho
    have w2 := ws_beh o1.inv hm w1.1 o1.pl (hb.up o1.pre) n.sort (fun _ => ⟨w1.2, by rw [srt_up hb o1.pre]; exact hh.2.1⟩) e2
    have w3 := ws_beh o2.2 hm w2 (o1.pl.up o2.1) ((hc.up o1.pre).up o2.1) n.sort (fun _ => ⟨by rw [srt_up o1.pl o2.1]; exact w1.2, by rw [srt_up (hc.up o1.pre) o2.1, srt_up hc o1.pre]; exact hh.2.2⟩) he
    refine ⟨w3, ?_⟩
    show srt (behM most (behM most (putM most s n).1 n.sort (putM most s n).2 n.a1) n.sort (putM most s n).2 n.a2).l (putM most s n).2 = n.sort
    rw [srt_up (o1.pl.up o2.1) o3.1, srt_up o1.pl o2.1]; exact w1.2
theorem ws_sum {most : Int} {s : MkS} {n : NodeA} (h : MkI s) (hm : most ≤ 2000) (hW : WS s.l) (ho : n.op = 11) (ha : PlA s n.a0) (hs : s.e = 0 → standsB n s.l.length = true) (hn : s.e = 0 → WsN s.l n) (he : (sumM most s n).1.e = 0) : WS (sumM most s n).1.l ∧ srt (sumM most s n).1.l (sumM most s n).2 = 1 := by
  have hp := num_pre s (addV (splitA s.l n.a0).2 n.num) (addE (splitA s.l n.a0).2 n.num)
  have hi := num_inv h (n := addV (splitA s.l n.a0).2 n.num) (addE_c (splitA s.l n.a0).2 n.num)
  have hl := num_l s (addV (splitA s.l n.a0).2 n.num) (addE (splitA s.l n.a0).2 n.num)
  have hk : (numM s (addV (splitA s.l n.a0).2 n.num) (addE (splitA s.l n.a0).2 n.num)).1.e = 0 → s.e = 0 ∧ mayB (numM s (addV (splitA s.l n.a0).2 n.num) (addE (splitA s.l n.a0).2 n.num)).2 = true := fun he => by
    obtain ⟨h1, h2, h3⟩ := num_ok he
    obtain ⟨_, _, h4, h5⟩ := add_z h1
    exact ⟨h2, by rw [h3, h5]; exact h4⟩
  have px := split_pl h ha
  have hx : s.e = 0 → srt s.l (splitA s.l n.a0).1 = 1 := fun e => split_srt h hW ha ((hn e).s11 ho).2
  unfold sumM at he ⊢
  generalize numM s (addV (splitA s.l n.a0).2 n.num) (addE (splitA s.l n.a0).2 n.num) = k at *
  simp only at he ⊢
  have hWk : WS k.1.l := by rw [hl]; exact hW
  split at he
  · rename_i c0
    rw [if_pos c0]
    refine ⟨hWk, ?_⟩
    show srt k.1.l (splitA s.l n.a0).1 = 1
    rw [hl]; exact hx (hk he).1
  · rename_i c0
    rw [if_neg c0]
    split at he
    · rename_i c1
      rw [if_pos c1]
      exact ws_put hi hWk (fun he => st_num (hk he).2) (fun _ => ws_num rfl rfl) he
    · rename_i c1
      rw [if_neg c1]
      have w := ws_put hi hWk (fun he => stands_sum (by rw [hl]; exact hs (hk he).1) ho (px.up hp) (hk he).2) (fun e => ws_add ho ((hn (hk e).1).s11 ho).1 (by
        show srt k.1.l (splitA s.l n.a0).1 = 1
        rw [hl]; exact hx (hk e).1)) he
      refine ⟨w.1, w.2.trans ?_⟩
      have he0 : s.e = 0 := (hk (put_e he)).1
      exact ((hn he0).s11 ho).1
end Go.Proofs.YtpppfghdjbmbgaaGreatDoor.Tm
namespace Go.Proofs.YtpppfghdjbmbgaaGreatDoor.Tm
open Go.RowKit
set_option linter.unusedVariables false
theorem ws_img {most : Int} {s : MkS} {n : NodeA} (h : MkI s) (hm : most ≤ 2000) (hW : WS s.l) (hn : NodeOk n) (hs : standsB n s.l.length = true) (hw : WsN s.l n) (he : (imgM most s n).1.e = 0) : WS (imgM most s n).1.l ∧ srt (imgM most s n).1.l (imgM most s n).2 = n.sort := by
  have hs' : s.e = 0 → standsB n s.l.length = true := fun _ => hs
  have hw' : s.e = 0 → WsN s.l n := fun _ => hw
  obtain ⟨_, hl, ha⟩ := stands_args hs
  have p0 : (0 : Int) < n.len → PlA s n.a0 := fun h => ha 0 h
  have p1 : (1 : Int) < n.len → PlA s n.a1 := fun h => ha 1 h
  have p2 : (2 : Int) < n.len → PlA s n.a2 := fun h => ha 2 h
  unfold imgM at he ⊢
  by_cases c1 : n.op = 1
  · have hl : n.len = 1 := by rcases hl with h | h <;> first | omega | (rw [h, c1]; decide)
    rw [if_pos c1] at he ⊢
    have h0 := (hw.s1 c1).1
    rw [h0]; exact ws_not_m h hW c1 (p0 (by omega)) hs' hw' h0 he
  rw [if_neg c1] at he ⊢
  by_cases c4 : n.op = 4
  · have hl : n.len = 2 := by rcases hl with h | h <;> first | omega | (rw [h, c4]; decide)
    rw [if_pos c4] at he ⊢
    obtain ⟨h0, h1, h2⟩ := hw.s2 (by omega)
    rw [h0]; exact ws_xor h hm hW (p0 (by omega)) (p1 (by omega)) (fun _ => h1.trans h2.symm) he
  rw [if_neg c4] at he ⊢
  by_cases c5 : n.op = 5
  · have hl : n.len = 2 := by rcases hl with h | h <;> first | omega | (rw [h, c5]; decide)
    rw [if_pos c5] at he ⊢
    obtain ⟨h0, h1, h2⟩ := hw.s2 (by omega)
    rw [h0]; exact ws_imp h hm hW (p0 (by omega)) (p1 (by omega)) (fun _ => ⟨h1, h2⟩) he
  rw [if_neg c5] at he ⊢
  by_cases c6 : n.op = 6
  · have hl : n.len = 2 := by rcases hl with h | h <;> first | omega | (rw [h, c6]; decide)
    rw [if_pos c6] at he ⊢
    have h0 := (hw.s6 c6).1
    rw [h0]; exact ws_eq_m h hm hW c6 (p0 (by omega)) (p1 (by omega)) hs' hw' h0 he
  rw [if_neg c6] at he ⊢
  by_cases c7 : n.op = 7
  · have hl : n.len = 3 := by rcases hl with h | h <;> first | omega | (rw [h, c7]; decide)
    rw [if_pos c7] at he ⊢; exact ws_ite h hm hW hn c7 (p1 (by omega)) (p2 (by omega)) hs' hw' he
  rw [if_neg c7] at he ⊢
  by_cases c8 : n.op = 8
  · have hl : n.len = 2 := by rcases hl with h | h <;> first | omega | (rw [h, c8]; decide)
    rw [if_pos c8] at he ⊢
    obtain ⟨h0, h1, h2⟩ := hw.s8 (by omega)
    rw [h0]; exact ws_le h hm hW (p0 (by omega)) (p1 (by omega)) _ (fun _ => ⟨h1, h2⟩) he
  rw [if_neg c8] at he ⊢
  by_cases c9 : n.op = 9
  · have hl : n.len = 2 := by rcases hl with h | h <;> first | omega | (rw [h, c9]; decide)
    rw [if_pos c9] at he ⊢
    obtain ⟨h0, h1, h2⟩ := hw.s8 (by omega)
    rw [h0]; exact ws_le h hm hW (p0 (by omega)) (p1 (by omega)) _ (fun _ => ⟨h1, h2⟩) he
  rw [if_neg c9] at he ⊢
  by_cases c11 : n.op = 11
  · have hl : n.len = 1 := by rcases hl with h | h <;> first | omega | (rw [h, c11]; decide)
    rw [if_pos c11] at he ⊢
    rw [(hw.s11 c11).1]; exact ws_sum h hm hW c11 (p0 (by omega)) hs' hw' he
  rw [if_neg c11] at he ⊢
  by_cases c12 : n.op = 12
  · have hl : n.len = 2 := by rcases hl with h | h <;> first | omega | (rw [h, c12]; decide)
    rw [if_pos c12] at he ⊢
    obtain ⟨h0, h1, h2⟩ := hw.s8 (by omega)
    rw [h0]; exact ws_le h hm hW (p0 (by omega)) (p1 (by omega)) _ (fun _ => ⟨h1, h2⟩) he
  rw [if_neg c12] at he ⊢
  exact ws_put h hW hs' hw' he
/-- What holds of a core table and of the images. -/
def QW (l0 : List NodeA) (s : MkS) (im : List Int) : Prop := QO s.l ∧ WS s.l ∧ ∀ i : Nat, i < l0.length → ¬ imA im i = -1 → srt s.l (imA im i) = srt l0 i
theorem WS_new : WS newL := fun n hn => by
  simp only [newL, List.mem_cons, List.not_mem_nil, or_false] at hn
  rcases hn with rfl | rfl
  · exact ws_true rfl rfl
  · exact ws_num rfl rfl
theorem QW_new (l0 : List NodeA) : QW l0 ⟨newL, 0⟩ (List.replicate l0.length (-1)) := ⟨QO_new, WS_new, fun i hi h => absurd (by unfold imA; rw [List.getD_eq_getElem?_getD, Int.toNat_natCast, List.getElem?_replicate, if_pos hi]; rfl) h⟩
/-- A node with its arguments' images is well sorted as the node is. -/
theorem sub_ws {l0 : List NodeA} {s : MkS} {im : List Int} {k : Nat} {n : NodeA} (hq : QW l0 s im) (hk : l0[k]? = some n) (hst : standsB n k = true) (ha : AllIm im n) (hw : WsN l0 n) : WsN s.l (subN im n n.len.toNat) := by
  obtain ⟨h3, hl, hr⟩ := stands_args hst
  refine hw.of_args rfl rfl hl fun j hj => ?_
  rw [subN_arg _ _ _ _ (by omega), if_pos (by omega)]
  obtain ⟨m, hm⟩ : ∃ m : Nat, argA n j = (m : Int) := ⟨(argA n j).toNat, by have := (hr j hj).1; omega⟩
  have hlt := (List.getElem?_eq_some_iff.1 hk).1
  have h1 := hr j hj
  have h2 := ha j hj
  rw [hm] at h1 h2 ⊢
  exact hq.2.2 m (by omega) h2
theorem QW_step {most : Int} {l : List NodeA} (hm : most ≤ 2000) (hok : ∀ n ∈ l, NodeOk n) (hst : ∀ (k : Nat) (n : NodeA), l[k]? = some n → standsB n k = true) (hws : ∀ n ∈ l, WsN l n) : StepQ (QW l) most l := fun s im k n hw hk ha he => by
  have hsn := sub_ok (s := s) (hok n (List.mem_of_getElem? hk)) hw.x n.len.toNat
  have hss := stands_sub (l := l) (hst k n hk) hw.imp ha
  have hwn := sub_ws hw.q hk (hst k n hk) ha (hws n (List.mem_of_getElem? hk))
  have ho : Out most s (stepM most s im n) := img_out hw.inv hm hsn hss
  obtain ⟨w1, w2⟩ := ws_img hw.inv hm hw.q.2.1 hsn hss hwn he
  have hlt := (List.getElem?_eq_some_iff.1 hk).1
  refine ⟨QO_img hw.inv hm hw.q.1 hsn hss, w1, fun i hi h => ?_⟩
  rw [imA_set (by omega) (by rw [hw.len]; exact hlt)] at h ⊢
  by_cases hik : i = k
  · rw [if_pos (by rw [hik]), hik]
    refine w2.trans ?_
    show n.sort = srt l (k : Nat)
    unfold srt
    rw [Option.some.inj ((nodA_get hlt).symm.trans hk)]
  · rw [if_neg (by omega)] at h ⊢
    rw [srt_up (hw.imp.at h) ho.pre]
    exact hw.q.2.2 i hi h
end Go.Proofs.YtpppfghdjbmbgaaGreatDoor.Tm
