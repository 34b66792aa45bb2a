/- rup's each: the steps, one after another, with what stands ahead. -/
import Derived.Test.YtggighikemhnfaaDoorZRbC
import Derived.Test.YtggighikemhnfaaDoorZRbA
import Derived.LoopIn
namespace Go.Proofs.YtggighikemhnfaaDoor.Tm
open Go.RowKit Go.Shelf
set_option linter.unusedVariables false
attribute [local go_sem] Oper.semAt_some
theorem RowsR.same {A B : World} {rs : List RowD} {a : Option Addr} {c : Nat} (h : RowsR A rs a c) (hs : A.heap.size ≤ B.heap.size) (hb : ∀ b, b < A.heap.size → B.heap[b]? = A.heap[b]?) : RowsR B rs a c := by
  have h2 : RowsR { B with os := A.os, tape := A.tape, output := A.output } rs a c := h.below ⟨rfl, rfl, rfl, hs, fun b h => hb b h⟩
  exact ⟨h2.le, h2.cap, h2.tat, fun r hr => ⟨(h2.ok r hr).le, (h2.ok r hr).cap, (h2.ok r hr).tat, (h2.ok r hr).ok⟩⟩
theorem GC.same {A B : World} (h : GC A) (hs : A.heap.size ≤ B.heap.size) (hb : ∀ b, b < A.heap.size → B.heap[b]? = A.heap[b]?) : GC B := by
  have h2 : GC { B with os := A.os, tape := A.tape, output := A.output } := h.below ⟨rfl, rfl, rfl, hs, fun b h => hb b h⟩
  exact ⟨h2.lt, h2.cell⟩
theorem RowsR.take {w : World} {rs : List RowD} {a : Option Addr} {c : Nat} (h : RowsR w rs a c) (k : Nat) : RowsR w (rs.take k) a c :=
  ⟨by have := h.le; rw [List.length_take]; omega, h.cap, by rw [List.map_take]; exact h.tat.take k, fun r hr => h.ok r (List.mem_of_mem_take hr)⟩
/-- What the iterator finds. -/
structure EK (w : World) (rs : List RowD) (a : Option Addr) (c : Nat) (ss : List RowD) (a' : Option Addr) (c' : Nat) (B : Nat) (V : World) : Prop where
  old : ∀ b, b < w.heap.size → V.heap[b]? = w.heap[b]?
  size : w.heap.size ≤ V.heap.size
  box1 : V.heap[B]? = some (.cells #[.slice a rs.length c] 22 (0, 0))
  box2 : V.heap[B + 1]? = some (.cells #[.slice a' ss.length c'] 22 (0, 0))
section
variable {w V W : World} {rs ss : List RowD} {a a' : Option Addr} {c c' B n0 : Nat} {ex : Nat → Prop}
theorem EK.below (h : EK w rs a c ss a' c' B V) (hb : Below V.heap.size V W) : EK w rs a c ss a' c' B W :=
  ⟨fun b hl => (hb.block b (Nat.lt_of_lt_of_le hl h.size)).trans (h.old b hl), Nat.le_trans h.size hb.size, (hb.block _ (Array.getElem?_eq_some_iff.1 h.box1).1).trans h.box1, (hb.block _ (Array.getElem?_eq_some_iff.1 h.box2).1).trans h.box2⟩
theorem EK.keep (h : EK w rs a c ss a' c' B V) (hk : KeepsC n0 ex V W) (h1 : w.heap.size ≤ n0) (hx : ∀ b, ex b → w.heap.size ≤ b) (hB : ¬ ex B) (hB1 : ¬ ex (B + 1)) : EK w rs a c ss a' c' B W := by
  refine ⟨fun b hl => ?_, Nat.le_trans h.size hk.1, hk.2 _ _ hB h.box1 (.inr rfl), hk.2 _ _ hB1 h.box2 (.inr rfl)⟩
  have e := h.old b hl
  obtain ⟨o, ho⟩ : ∃ o, w.heap[b]? = some o := ⟨_, Array.getElem?_eq_getElem hl⟩
  rw [ho] at e ⊢
  exact hk.2 b o (fun hh => by have := hx b hh; omega) e (.inl (by omega))
end
theorem own_kc {w w' : World} {b s n n0 : Nat} {E : TypeId} {v : Value} {L : List Value} {ex : Nat → Prop} (h : w.ownsRow b E s v n L) (hb : ∀ k, ex k → k < b) (k : KeepsC n0 ex w w') : w'.ownsRow b E s v n L := by
  refine ⟨h.1, ?_⟩
  rcases h.2 with hn | ⟨g, cap, cur, rfl, hbg, hg, rest⟩
  · exact .inl hn
  · exact .inr ⟨g, cap, cur, rfl, hbg, k.2 g _ (fun hh => by have := hb g hh; omega) hg (.inr rfl), rest⟩
structure XD where
  k : Nat
  a : Option Addr
  c : Nat
def SpX (ss : List RowD) (pre : List XD) : Prop := ∃ k, k ≤ ss.length ∧ pre.map XD.k = List.range k
def stp (ss : List RowD) (k : Nat) : Value := match ss[k]? with
  | some s => rowV s
  | none => .slice none 0 0
def encX (rs ss : List RowD) (x : XD) : Array Value := #[.slice x.a (rs.length + x.k) x.c, stp ss x.k]
def YcX (rs ss : List RowD) (x : XD) (W : World) : Prop := RowsR W (rs ++ ss.take x.k) x.a x.c ∧ ∀ s, ss[x.k]? = some s → IntsR W s.xs s.a s.c
structure EaS (w : World) (rs : List RowD) (a : Option Addr) (c : Nat) (ss : List RowD) (a' : Option Addr) (c' : Nat) (B n0 : Nat) (aa : Option Addr) (cc : Nat) (J : List XD → World → Prop) (n1 k : Nat) (wr : World) : Prop where
  big : n1 ≤ wr.heap.size
  ek : EK w rs a c ss a' c' B wr
  all : RowsO wr n0 (rs ++ ss) (.slice aa (rs ++ ss).length cc)
  j : ∃ pre : List XD, pre.map XD.k = List.range k ∧ J pre wr
set_option maxRecDepth 100000 in
set_option maxHeartbeats 4000000 in
theorem each1_in (d : Nat) (hd : 1 ≤ d) (y0 : Nat) (w : World) (rs : List RowD) (a : Option Addr) (c : Nat) (ss : List RowD) (a' : Option Addr) (c' : Nat) (hR : RowsR w rs a c) (hS : RowsR w ss a' c') (hl : rs.length + ss.length ≤ 5000) (B n0 : Nat) (ex : Nat → Prop) (h1 : w.heap.size ≤ n0) (hex : ∀ b, ex b → w.heap.size ≤ b ∧ b < n0) (hB : ¬ ex B) (hB1 : ¬ ex (B + 1)) (W : World) (hn0 : n0 ≤ W.heap.size) (J Jx : List XD → World → Prop)
    (hJ : ∀ pre A B, J pre A → Below A.heap.size A B → J pre B)
    (hY : ∀ pre x A, W.heap.size ≤ A.heap.size → SpX ss (pre ++ [x]) → YcX rs ss x A → J pre A → YieldAt Fence.wide (d - 1) Tryd.prog y0 (encX rs ss x) A fun e B =>
      (e = .returned (.bool true) ∧ J (pre ++ [x]) B ∧ KeepsC n0 ex A B) ∨ (e = .returned (.bool false) ∧ Jx (pre ++ [x]) B))
    (hK : EK w rs a c ss a' c' B W) (h0 : J [] W) :
    CallsIn Fence.wide d Tryd.prog 68 #[.func (.yield y0) #[] #[], .pointer (some ⟨B, 0, none⟩), .pointer (some ⟨B + 1, 0, none⟩)] W fun e V => (∃ v, e = .returned v) ∧
      ((∃ ys : List XD, ys.map XD.k = List.range ss.length ∧ J ys V) ∨ ∃ pre x, SpX ss (pre ++ [x]) ∧ Jx (pre ++ [x]) V) := by
  have HBx : Hid (∀ V, EK w rs a c ss a' c' B V → V.cell? ⟨B, 0, none⟩ = some (.slice a rs.length c) ∧ V.cell? ⟨B + 1, 0, none⟩ = some (.slice a' ss.length c') ∧ B < V.heap.size ∧ B + 1 < V.heap.size) := fun V hV =>
    ⟨(cell_of_row _ _ 0 _ _ _ hV.box1).trans rfl, (cell_of_row _ _ 0 _ _ _ hV.box2).trans rfl, (Array.getElem?_eq_some_iff.1 hV.box1).1, (Array.getElem?_eq_some_iff.1 hV.box2).1⟩
  have HCc : Hid (∀ V, n0 ≤ V.heap.size → EK w rs a c ss a' c' B V → Calls Tryd.prog 54 #[.slice (some ⟨V.heap.size, 0, none⟩) 2 2] (V.alloc (.cells #[.slice a rs.length c, .slice a' ss.length c'] 22)) fun e w' => ∃ aa cc, e = .returned (.slice aa (rs ++ ss).length cc) ∧ Hid (RowsO w' n0 (rs ++ ss) (.slice aa (rs ++ ss).length cc)) ∧ Hid (Below V.heap.size V w')) := fun V hn hV => by
    have hRV := hR.same hV.size hV.old
    have hSV := hS.same hV.size hV.old
    refine (ConcatR_any [⟨rs, a, c⟩, ⟨ss, a', c'⟩] _ 2 _ (rr_two V ⟨rs, a, c⟩ ⟨ss, a', c'⟩ hRV hSV) (by simp [flatR]; omega)).mono ?_
    rintro e w' ⟨v, h2, h3, h4⟩
    rw [show flatR [⟨rs, a, c⟩, ⟨ss, a', c'⟩] = rs ++ ss by simp [flatR]] at h3
    obtain ⟨aa, cc, rfl, _⟩ := own_at h3
    exact ⟨aa, cc, h2, own_base h3 (by simp; omega), ((Below.refl _ V).alloc (Nat.le_refl _) _).trans (h4.mono (by simp))⟩
  have HSk : Hid (∀ V, EK w rs a c ss a' c' B V → RowsR V ss a' c') := fun V hV => hS.same hV.size hV.old
  have HRk : Hid (∀ V, EK w rs a c ss a' c' B V → RowsR V rs a c) := fun V hV => hR.same hV.size hV.old
  have HY := Lib.hid hY
  have HJ := Lib.hid hJ
  have HKp : Hid (∀ V V', EK w rs a c ss a' c' B V → KeepsC n0 ex V V' → EK w rs a c ss a' c' B V') := fun V V' h k => h.keep k h1 (fun b hb => (hex b hb).1) hB hB1
  have HEx : Hid (∀ b, ex b → b < n0) := fun b hb => (hex b hb).2
  have hsl : ss.length ≤ 5000 := by omega
  have hrl : rs.length ≤ 5000 := by omega
  obtain ⟨b0, b1, bz0, bz1⟩ := HBx.out W hK
  have HCW := Lib.hid (HCc.out W hn0 hK)
  have HD0 : Hid (EK w rs a c ss a' c' B W ∧ J [] W) := ⟨hK, h0⟩
  clear hK h0 hY hJ hex hB hB1 hR hS h1
  refine callsIn_of_wp Tryd.func68 rfl trivial ?_ rfl
  simp only [Tryd.ntmps68, List.size_toArray, List.length_cons, List.length_nil, Nat.reduceAdd, Nat.reduceSub, Array.replicate_succ, Array.replicate_zero, List.push_toArray, List.append_toArray, List.nil_append, List.cons_append]
  gi_wp2_with (refine ⟨trivial, ?_⟩; gi_at_call 54; refine (callsIn_wide.2 HCW.out).mono ?_; rintro e w4 ⟨aa, cc, rfl, HR4, HB4⟩; have b1 : w4.cell? ⟨B + 1, 0, none⟩ = some (.slice a' ss.length c') := (HBx.out w4 (HD0.out.1.below HB4.out)).2.1; have bz1 : B + 1 < w4.heap.size := (HBx.out w4 (HD0.out.1.below HB4.out)).2.2.2)
  have HD : Hid (EaS w rs a c ss a' c' B n0 aa cc J W.heap.size 0 w4) := ⟨HB4.out.size, HD0.out.1.below HB4.out, HR4.out, [], rfl, HJ.out _ _ _ HD0.out.2 HB4.out⟩
  clear HD0 HR4 HB4 b0 b1 bz0 bz1 HCW
  gi_loopw [13] (fun i wr => ∃ k : Nat, k ≤ ss.length ∧ i = .int .i64 k ∧ Hid (EaS w rs a c ss a' c' B n0 aa cc J W.heap.size k wr)) (fun i _ => ss.length - (intOf i).toNat)
  case atStart => exact ⟨0, Nat.zero_le _, rfl, HD⟩
  case round =>
    clear HD
    obtain ⟨k, hkl, rfl, HD⟩ := hrel
    by_cases hlt : k < ss.length
    · obtain ⟨b0, b1, bz0, bz1⟩ := HBx.out wr HD.out.ek
      have hki : (k : Int) < (ss.length : Int) := by omega
      obtain ⟨s, hs⟩ : ∃ s, ss[k]? = some s := ⟨_, List.getElem?_eq_getElem hlt⟩
      have hSr := HSk.out wr HD.out.ek
      obtain ⟨g, o, rfl, hg, q0⟩ := hSr.cell hs
      obtain ⟨aa', cc', e, k1, k2, _, k3⟩ := own_at HD.out.all
      cases e
      obtain ⟨ga, rfl, _, hga⟩ := k3 (by simp; omega)
      have hlen : rs.length + k ≤ cc := by rw [List.length_append] at k1; omega
      have hcc : cc ≤ 9223372036854775807 := by simp only [maxLen] at k2; omega
      have hmlc : rs.length + ss.length ≤ cc := by rw [List.length_append] at k1; exact k1
      obtain ⟨pre, hp, hj⟩ := HD.out.j
      have HSp : Hid (pre.map XD.k = List.range k ∧ SpX ss (pre ++ [⟨k, some ⟨ga, 0, none⟩, cc⟩])) := ⟨hp, k + 1, by omega, by rw [List.map_append, hp, List.range_succ]; rfl⟩
      have hall : RowsR wr (rs ++ ss.take k) (some ⟨ga, 0, none⟩) cc := by
        have h1 : RowsR wr (rs ++ ss) (some ⟨ga, 0, none⟩) cc := ⟨k1, k2, (own_at HD.out.all).elim fun a2 h => h.elim fun c2 h => by obtain ⟨e, _, _, ht, _⟩ := h; cases e; exact ht, fun r hr => ?_⟩
        · have h2 := h1.take (rs.length + k)
          rw [List.take_append, List.take_of_length_le (by omega), show rs.length + k - rs.length = k by omega] at h2
          exact h2
        · exact (List.mem_append.1 hr).elim ((HRk.out wr HD.out.ek).ok r) (hSr.ok r)
      have hyk := HY.out pre ⟨k, some ⟨ga, 0, none⟩, cc⟩ wr HD.out.big HSp.out.2 ⟨hall, fun s' hs' => hSr.ok s' (List.mem_of_getElem? hs')⟩ hj
      have hst : stp ss k = .slice s.a s.xs.length s.c := by unfold stp; rw [hs]; rfl
      unfold encX at hyk
      dsimp only at hyk
      rw [hst] at hyk
      obtain ⟨fn, tmps, assign, body, hyl, hRn⟩ := hyk
      have HRn := Lib.hid hRn
      have HK3 := Lib.hid (And.intro k1 k2)
      clear hRn hj hp hs hSr hall hst k1 k2 k3
      gi_wp2
      refine HRn.out.mono ?_
      rintro e W3 (⟨rfl, hJ3, hk3⟩ | ⟨rfl, hJx3⟩)
      · have HD3 : Hid (EaS w rs a c ss (some ⟨g, o, none⟩) c' B n0 (some ⟨ga, 0, none⟩) cc J W.heap.size (k + 1) W3) := ⟨Nat.le_trans HD.out.big hk3.1, HKp.out _ _ HD.out.ek hk3, own_kc HD.out.all HEx.out hk3, pre ++ [⟨k, some ⟨ga, 0, none⟩, cc⟩], by rw [List.map_append, HSp.out.1, List.range_succ]; rfl, hJ3⟩
        clear hJ3 hk3 hyl b0 b1 bz0 bz1 q0
        gi_wp2
        go_roundw
        case rel => exact ⟨k + 1, by omega, by go_num, HD3⟩
        case measure => simp [intOf]; omega
      · have HJx3 := Lib.hid hJx3
        clear hJx3 hyl b0 b1 bz0 bz1 q0
        gi_wp2
        refine bodyPost_ret (results_none rfl _ _ _) rfl ?_
        exact ⟨⟨_, rfl⟩, .inr ⟨pre, _, HSp.out.2, HJx3.out⟩⟩
    · obtain rfl : k = ss.length := by omega
      obtain ⟨pre, hp, hj⟩ := HD.out.j
      have HJ2 := Lib.hid hj
      clear HD hj
      gi_wp2
      go_end0
      exact ⟨⟨_, rfl⟩, .inl ⟨pre, hp, HJ2.out⟩⟩
end Go.Proofs.YtggighikemhnfaaDoor.Tm
