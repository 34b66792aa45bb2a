/- Core: the image of a root. -/
import Derived.Test.YtfbjgadgfjnamaaGreatDoorZCoO
import Derived.WalkSmall
import Derived.Deep.LoopGhost
namespace Go.Proofs.YtfbjgadgfjnamaaGreatDoor.Tm
open Go.RowKit
set_option linter.unusedVariables false
/-- What stands open: from the root down to what is without an image. -/
structure StP (N : Nat) (root : Int) (im st : List Int) : Prop where
  rng : ∀ x ∈ st, 0 ≤ x ∧ x < (N : Int)
  fall : st.Pairwise (fun x y => y < x)
  bot : st ≠ [] → st.head? = some root
  fin : st = [] → ¬ imA im root = -1
  non : ∀ x ∈ st.tail, imA im x = -1
/-- How many rounds are to come, at most. -/
def topM (st : List Int) : Nat := match st.getLast? with | none => 0 | some x => x.toNat + 1
def roundsM (N : Nat) (im st : List Int) : Nat := im.count (-1) * (N + 1) + topM st
theorem topM_nil : topM [] = 0 := rfl
theorem topM_snoc (st : List Int) (x : Int) : topM (st ++ [x]) = x.toNat + 1 := by simp [topM]
theorem StP.start {N : Nat} {root : Int} {im : List Int} (h : 0 ≤ root ∧ root < (N : Int)) : StP N root im [root] :=
  ⟨fun x hx => by rw [List.mem_singleton.1 hx]; exact h, List.pairwise_singleton _ _, fun _ => rfl, fun e => absurd e (by simp), fun x hx => absurd hx (by simp)⟩
theorem imA_set {im : List Int} {k : Nat} {v x : Int} (hx : 0 ≤ x) (hk : k < im.length) : imA (im.set k v) x = if x = (k : Int) then v else imA im x := by
  unfold imA
  rw [List.getD_eq_getElem?_getD, List.getD_eq_getElem?_getD, List.getElem?_set]
  by_cases e : x = (k : Int)
  · rw [if_pos e, if_pos (by omega), if_pos (by omega)]; rfl
  · rw [if_neg e, if_neg (by omega)]
theorem StP.push {N : Nat} {root : Int} {im st : List Int} {id a : Int} (h : StP N root im (st ++ [id])) (h0 : 0 ≤ a) (h1 : a < id) (hz : imA im a = -1) : StP N root im ((st ++ [id]) ++ [a]) ∧ roundsM N im ((st ++ [id]) ++ [a]) < roundsM N im (st ++ [id]) := by
  have hid := h.rng id (by simp)
  refine ⟨⟨fun x hx => ?_, ?_, fun _ => ?_, fun e => absurd e (by simp), fun x hx => ?_⟩, ?_⟩
  · rcases List.mem_append.1 hx with hx | hx
    · exact h.rng x hx
    · rw [List.mem_singleton.1 hx]; omega
  · refine List.pairwise_append.2 ⟨h.fall, List.pairwise_singleton _ _, fun x hx y hy => ?_⟩
    rw [List.mem_singleton.1 hy]
    rcases List.mem_append.1 hx with hx | hx
    · have := (List.pairwise_append.1 h.fall).2.2 x hx id (by simp)
      omega
    · rw [List.mem_singleton.1 hx]; exact h1
  · have := h.bot (by simp)
    cases st with
    | nil => simpa using this
    | cons s t => simpa using this
  · have hx' : x ∈ (st ++ [id]).tail ++ [a] := by
      cases st with
      | nil => simpa using hx
      | cons s t => simpa using hx
    rcases List.mem_append.1 hx' with hx | hx
    · exact h.non x hx
    · rw [List.mem_singleton.1 hx]; exact hz
  · unfold roundsM
    rw [topM_snoc, topM_snoc]
    omega
theorem StP.pop {N : Nat} {root : Int} {im st : List Int} {k : Nat} {v : Int} (h : StP N root im (st ++ [(k : Int)])) (hl : im.length = N) (hv : ¬ v = -1) : StP N root (im.set k v) st ∧ roundsM N (im.set k v) st < roundsM N im (st ++ [(k : Int)]) := by
  have hid := h.rng k (by simp)
  have hkl : k < im.length := by omega
  have hlt : ∀ x ∈ st, (k : Int) < x := fun x hx => (List.pairwise_append.1 h.fall).2.2 x hx k (by simp)
  have hrs : ∀ x ∈ st, 0 ≤ x ∧ x < (N : Int) := fun x hx => h.rng x (List.mem_append_left _ hx)
  refine ⟨⟨hrs, (List.pairwise_append.1 h.fall).1, fun hn => ?_, fun e => ?_, fun x hx => ?_⟩, ?_⟩
  · cases st with
    | nil => exact absurd rfl hn
    | cons s t => exact h.bot (by simp)
  · subst e
    have : (k : Int) = root := by have e := h.bot (by simp); exact Option.some.inj e
    rw [← this, imA_set (by omega) hkl, if_pos rfl]
    exact hv
  · have hxs := List.mem_of_mem_tail hx
    rw [imA_set (hrs x hxs).1 hkl, if_neg (by have := hlt x hxs; omega)]
    refine h.non x ?_
    cases st with
    | nil => simp at hx
    | cons s t => simp at hx ⊢; exact .inl hx
  · unfold roundsM
    rw [topM_snoc]
    have hc : (im.set k v).count (-1) = im.count (-1) - (if im[k] = -1 then 1 else 0) := by
      rw [List.count_set hkl]; simp [hv]
    have hg : imA im k = im[k] := by
      unfold imA
      rw [Int.toNat_natCast, List.getD_eq_getElem?_getD, List.getElem?_eq_getElem hkl]; rfl
    by_cases hz : im[k] = -1
    · have hpos : 0 < im.count (-1) := List.count_pos_iff.2 (hz ▸ List.getElem_mem hkl)
      rw [if_pos hz] at hc
      obtain ⟨u, hu⟩ : ∃ u, im.count (-1) = u + 1 := ⟨im.count (-1) - 1, by omega⟩
      have ht : topM st ≤ N := by
        unfold topM
        cases e : st.getLast? with
        | none => exact Nat.zero_le _
        | some x => have := hrs x (List.mem_of_getLast? e); simp only; omega
      rw [hc, hu, show u + 1 - 1 = u from rfl, Nat.succ_mul]
      omega
    · rw [if_neg hz] at hc
      have hst : st = [] := by
        cases st with
        | nil => rfl
        | cons s t =>
          have := h.non k (by simp)
          rw [hg] at this
          exact absurd this hz
      subst hst
      rw [hc, topM_nil, Nat.sub_zero]
      omega
end Go.Proofs.YtfbjgadgfjnamaaGreatDoor.Tm
namespace Go.Proofs.YtfbjgadgfjnamaaGreatDoor.Tm
open Go.RowKit
set_option linter.unusedVariables false
def stepM (most : Int) (s : MkS) (im : List Int) (n : NodeA) : MkS × Int := imgM most s (subN im n n.len.toNat)
/-- What holds at each stop of the walk. -/
structure WkS (Q : MkS → List Int → Prop) (l : List NodeA) (s : MkS) (im : List Int) : Prop where
  q : Q s im
  inv : MkI s
  ok : s.e = 0
  imp : ImP s im
  len : im.length = l.length
theorem WkS.x {Q : MkS → List Int → Prop} {l : List NodeA} {s : MkS} {im : List Int} (h : WkS Q l s im) : ∀ x ∈ im, I64 x := fun x hx => by
  rcases h.imp x hx with rfl | h1
  · exact l64 (by show -9223372036854775808 ≤ (-1 : Int) ∧ (-1 : Int) ≤ 9223372036854775807; decide)
  · exact h1.i64 h.inv.len
def AllIm (im : List Int) (n : NodeA) : Prop := ∀ j : Nat, (j : Int) < n.len → ¬ imA im (argA n j) = -1
def StepQ (Q : MkS → List Int → Prop) (most : Int) (l : List NodeA) : Prop := ∀ (s : MkS) (im : List Int) (k : Nat) (n : NodeA), WkS Q l s im → l[k]? = some n → AllIm im n → (stepM most s im n).1.e = 0 → Q (stepM most s im n).1 (im.set k (stepM most s im n).2)
def FailP (Q : MkS → List Int → Prop) (most : Int) (l : List NodeA) (s' : MkS) : Prop := ¬ s'.e = 0 ∧ ∃ (s : MkS) (im : List Int) (k : Nat) (n : NodeA), WkS Q l s im ∧ l[k]? = some n ∧ AllIm im n ∧ s' = (stepM most s im n).1
theorem own_cellG {w : World} {base size n g cap : Nat} {e : TypeId} {L : List Value} (h : w.ownsRow base e size (.slice (some ⟨g, 0, none⟩) n cap) n L) {i : Nat} {u : Value} (hu : L[i]? = some u) : w.cell? ⟨g, i, none⟩ = some u := by
  rcases h.2 with ⟨h0, _⟩ | ⟨g', cap', cur, hv, _, h2, _, _, _, h6⟩
  · cases h0
  · cases hv
    refine (cell_of_row _ _ i _ _ _ h2).trans ?_
    rw [← h6, List.getElem?_take] at hu
    split at hu
    · rw [← hu]; exact Array.getElem?_toList.symm
    · cases hu
theorem step_wks {Q : MkS → List Int → Prop} {most : Int} {l : List NodeA} {s : MkS} {im : List Int} {k : Nat} {n : NodeA} (hQ : StepQ Q most l) (h : WkS Q l s im) (hk : l[k]? = some n) (ha : AllIm im n) (hm : most ≤ 2000) (hn : NodeOk n) (hst : standsB n k = true) :
    Out most s (stepM most s im n) ∧ ((stepM most s im n).1.e = 0 → WkS Q l (stepM most s im n).1 (im.set k (stepM most s im n).2)) := by
  have ho : Out most s (stepM most s im n) := img_out h.inv hm (sub_ok (s := s) hn h.x _) (stands_sub (l := l) hst h.imp ha)
  refine ⟨ho, fun he => ⟨hQ s im k n h hk ha he, ho.inv, he, fun x hx => ?_, by simpa using h.len⟩⟩
  rcases List.mem_or_eq_of_mem_set hx with h1 | h1
  · rcases h.imp x h1 with h2 | h2
    · exact .inl h2
    · exact .inr (h2.up ho.pre)
  · rw [h1]; exact .inr ho.pl
structure OpenR (Q : MkS → List Int → Prop) (w wr : World) (P : Nat → Prop) (X I M : Nat) (most : Int) (l : List NodeA) (a : Option Addr) (c : Nat) (root : Int) (s : MkS) (im st : List Int) (g cap : Nat) (R : Nat → Prop) : Prop where
  sub : ∀ k, P k → R k
  rg : R g
  gw : w.heap.size ≤ g
  mr : MkR wr R M most s
  wk : WkR wr X I M l a c im
  kp : Kp (fun k => P k ∧ k ≠ I) w wr
  row : wr.ownsRow w.heap.size 3 1 (.slice (some ⟨g, 0, none⟩) st.length cap) st.length (st.map (Value.int .i64))
  st : StP l.length root im st
  wks : WkS Q l s im
theorem OpenR.below {Q : MkS → List Int → Prop} {w wr w1 : World} {P : Nat → Prop} {X I M : Nat} {most : Int} {l : List NodeA} {a : Option Addr} {c : Nat} {root : Int} {s : MkS} {im st : List Int} {g cap : Nat} {R : Nat → Prop} (h : OpenR Q w wr P X I M most l a c root s im st g cap R) (hb : Below wr.heap.size wr w1) : OpenR Q w w1 P X I M most l a c root s im st g cap R :=
  ⟨h.sub, h.rg, h.gw, h.mr.below hb, h.wk.below hb, h.kp.trans (Kp.of hb fun k hk => h.mr.lt (h.sub k hk.1)), own_blk h.row (fun b hg => hb.block b (own_lt h.row hg).2), h.st, h.wks⟩
theorem OpenR.push {Q : MkS → List Int → Prop} {w w1 w9 : World} {P : Nat → Prop} {B0 X I M : Nat} {most : Int} {l : List NodeA} {a : Option Addr} {c : Nat} {root : Int} {s : MkS} {im st : List Int} {g cap : Nat} {R : Nat → Prop} (h : OpenR Q w w1 P X I M most l a c root s im st g cap R) (hP : PkR w P B0 X I l a c) (hPl : ∀ k, P k → k < w.heap.size) (hB : B0 ≤ w.heap.size) (hI : B0 ≤ I) {o : Obj} {g9 c9 : Nat} {y : Int}
    (hrow : w9.ownsRow w.heap.size 3 1 (.slice (some ⟨g9, 0, none⟩) (st.length + 1) c9) (st.length + 1) (st.map (Value.int .i64) ++ [.int .i64 y])) (hgr : (w1.alloc o).grownBy w9 (some g)) (hat : some g = some g9 ∨ g9 = w1.heap.size + 1) (hlt : g9 < w9.heap.size) (hst : StP l.length root im (st ++ [y])) :
    OpenR Q w w9 P X I M most l a c root s im (st ++ [y]) g9 c9 (fun k => R k ∨ k = g9) := by
  have hsz : (w1.alloc o).heap.size = w1.heap.size + 1 := by simp
  have hs9 := hgr.size
  have hblk : ∀ k, k < w1.heap.size → k ≠ g → w9.heap[k]? = w1.heap[k]? := fun k hk hne => (hgr.block k (by omega) (fun e => hne (Option.some.inj e))).trans (Below.heap_alloc w1 o k hk)
  have hkp : Kp (fun k => P k ∧ k ≠ I) w w9 := h.kp.trans ⟨hgr.os, hgr.tape, hgr.output, by omega, fun k hk => hblk k (h.mr.lt (h.sub k hk.1)) (by have := hPl k hk.1; have := h.gw; omega)⟩
  refine ⟨fun k hk => .inl (h.sub k hk), .inr rfl, ?_, ?_, ?_, hkp, ?_, hst, h.wks⟩
  · rcases hat with e | e
    · rw [← Option.some.inj e]; exact h.gw
    · have := h.kp.size; omega
  · obtain ⟨a', c', b', hx⟩ := h.mr
    obtain ⟨p1, p2, p3, p4⟩ := hx.apart g h.rg
    refine ⟨a', c', b', hx.move (hblk _ hx.lt (fun e => p2 e.symm)) (hblk _ hx.map.lt (fun e => p3 e.symm)) (fun k hk => hblk k (own_lt hx.own hk).2 (fun e => p4 (by rw [hk, e]))) (fun k hk => ?_)⟩
    rcases hk with hk | rfl
    · obtain ⟨h1, h2, h3, h4⟩ := hx.apart k hk
      exact ⟨by omega, h2, h3, h4⟩
    · rcases hat with e | e
      · rw [← Option.some.inj e]; exact ⟨by omega, p2, p3, p4⟩
      · refine ⟨hlt, ?_, ?_, fun e' => ?_⟩
        · have := hx.lt; omega
        · have := hx.map.lt; omega
        · have := (own_lt hx.own e').2; omega
  · have hX := hPl X hP.px
    have hII := hPl I hP.pi
    have hg := h.gw
    have h1 := h.mr.lt (h.sub X hP.px)
    have h2 := h.mr.lt (h.sub I hP.pi)
    exact h.wk.move (hblk X h1 (by omega)) (hblk I h2 (by omega)) (hP.keepI hI hkp hB).2
  · rw [List.length_append, List.map_append]
    exact hrow
theorem OpenR.pop {Q : MkS → List Int → Prop} {w w1 w2 : World} {P : Nat → Prop} {X I M : Nat} {most : Int} {l : List NodeA} {a : Option Addr} {c : Nat} {root : Int} {s s' : MkS} {im im' st : List Int} {g cap : Nat} {R : Nat → Prop} {y : Int} (h : OpenR Q w w1 P X I M most l a c root s im (st ++ [y]) g cap R) (hI : I < w.heap.size) (hm : MkR w2 R M most s') (hw : WkR w2 X I M l a c im') (hk : Kp (fun k => R k ∧ k ≠ I) w1 w2) (hst : StP l.length root im' st) (hs : WkS Q l s' im') : OpenR Q w w2 P X I M most l a c root s' im' st g cap R := by
  refine ⟨h.sub, h.rg, h.gw, hm, hw, h.kp.trans (hk.less fun k hk => ⟨h.sub k hk.1, hk.2⟩), ?_, hst, hs⟩
  have hr := own_blk h.row (w' := w2) (fun b hg => by
    obtain rfl : g = b := by simpa [Value.ownBlock] using hg
    exact hk.keep g ⟨h.rg, by have := h.gw; omega⟩)
  rw [List.length_append, List.map_append] at hr
  exact ownsRow_pop (by simp) hr
end Go.Proofs.YtfbjgadgfjnamaaGreatDoor.Tm
namespace Go.Proofs.YtfbjgadgfjnamaaGreatDoor.Tm
open Go.RowKit
set_option linter.unusedVariables false
theorem st_arg {n : NodeA} {k j : Nat} (h : standsB n k = true) (hj : (j : Int) < n.len) (h3 : n.len ≤ 3) : 0 ≤ argA n j ∧ argA n j < (k : Int) := by
  unfold standsB at h
  rw [decide_eq_true_eq] at h
  obtain ⟨_, _, h0, h1, h2⟩ := h
  have hc : j = 0 ∨ j = 1 ∨ j = 2 := by omega
  rcases hc with rfl | rfl | rfl
  · exact h0.1 hj
  · exact h1.1 hj
  · exact h2.1 hj
theorem fall_len : ∀ (st : List Int) (N : Nat), st.Pairwise (fun x y => y < x) → (∀ x ∈ st, 0 ≤ x ∧ x < (N : Int)) → st.length ≤ N
  | [], N, _, _ => Nat.zero_le _
  | x :: t, N, h, hr => by
    have hx := hr x (by simp)
    have ht := fall_len t x.toNat (List.pairwise_cons.1 h).2 fun y hy => ⟨(hr y (by simp [hy])).1, by have := (List.pairwise_cons.1 h).1 y hy; omega⟩
    simp only [List.length_cons]
    omega
/-- What the image of a root is. -/
def AtPost (Q : MkS → List Int → Prop) (w : World) (P : Nat → Prop) (X I M : Nat) (most : Int) (l : List NodeA) (a : Option Addr) (c : Nat) (root : Nat) (e : Ending) (w' : World) : Prop :=
  ∃ (s' : MkS) (im' : List Int), MkR w' P M most s' ∧ WkR w' X I M l a c im' ∧ Kp (fun i => P i ∧ i ≠ I) w w' ∧ ((e = .returned (.tuple #[.int .i64 (imA im' root), .int .i64 0]) ∧ WkS Q l s' im' ∧ ¬ imA im' root = -1) ∨ (e = .returned (.tuple #[.int .i64 0, .int .i64 s'.e]) ∧ FailP Q most l s'))
set_option maxRecDepth 100000 in
set_option maxHeartbeats 4000000 in
theorem at_any (Q : MkS → List Int → Prop) (P : Nat → Prop) (B0 X I M : Nat) (most : Int) (s : MkS) (l : List NodeA) (a : Option Addr) (c : Nat) (im : List Int) (root : Nat) (w : World) (h : WkR w X I M l a c im) (hM : MkR w P M most s) (hP : PkR w P B0 X I l a c) (hB : B0 ≤ w.heap.size) (hBI : B0 ≤ I) (hm : most ≤ 2000) (hl : l.length ≤ 3000) (hr : root < l.length) (hIn : ∀ n ∈ l, InA l n) (hst : ∀ (k : Nat) (n : NodeA), l[k]? = some n → standsB n k = true) (hQ : StepQ Q most l) (hs : WkS Q l s im) :
    Calls Tryz.prog 40 #[.pointer (some ⟨X, 0, none⟩), .int .i64 root] w (AtPost Q w P X I M most l a c root) := by
  have HPl : Hid (∀ k, P k → k < w.heap.size) := fun k hk => hM.lt hk
  have HP := Lib.hid hP
  have HMiss : Hid (∀ (V : World) (im : List Int) (k : Nat) (n : NodeA), WkR V X I M l a c im → l[k]? = some n → Calls Tryz.prog 74 #[.pointer (some ⟨X, 0, none⟩), .int .i64 k] V fun e w' => ∃ p : Int × Bool, e = .returned (.tuple #[.int .i64 p.1, .bool p.2]) ∧ MissP im n p ∧ Below V.heap.size V w') := fun V im k n hv hk => missing_any X I M l a c im k n V hv hk (hIn n (List.mem_of_getElem? hk)) hl
  have HMake : Hid (∀ (V : World) (R : Nat → Prop) (s : MkS) (im : List Int) (k : Nat) (n : NodeA), (∀ k, P k → R k) → Kp (fun k => P k ∧ k ≠ I) w V → WkR V X I M l a c im → MkR V R M most s → WkS Q l s im → l[k]? = some n → AllIm im n → Calls Tryz.prog 75 #[.pointer (some ⟨X, 0, none⟩), .int .i64 k] V fun e w' => e = .returned (.int .i64 (stepM most s im n).1.e) ∧ MkR w' R M most (stepM most s im n).1 ∧ WkR w' X I M l a c (im.set k (stepM most s im n).2) ∧ Kp (fun i => R i ∧ i ≠ I) V w') := fun V R s im k n hR hk hv hm' hs hn ha => by
    obtain ⟨h1, _⟩ := hP.keepI hBI hk hB
    exact make_any R B0 X I M most s l a c im k n _ V hv hm' ⟨fun k hk => hR k (h1.old k hk), hR _ h1.px, hR _ h1.pi, h1.low, h1.le, h1.cap, h1.ok⟩ (Nat.le_trans hB hk.size) hBI hm hn (hIn n (List.mem_of_getElem? hn)) hl (hP.ok n (List.mem_of_getElem? hn)) (hst k n hn) hs.imp ha hs.x rfl
  have HStep : Hid (∀ (s : MkS) (im : List Int) (k : Nat) (n : NodeA), WkS Q l s im → l[k]? = some n → AllIm im n → Out most s (stepM most s im n) ∧ ((stepM most s im n).1.e = 0 → WkS Q l (stepM most s im n).1 (im.set k (stepM most s im n).2))) := fun s im k n hs hn ha => step_wks hQ hs hn ha hm (hP.ok n (List.mem_of_getElem? hn)) (hst k n hn)
  have HLow : Hid (∀ (k : Nat) (n : NodeA), l[k]? = some n → ∀ j : Nat, (j : Int) < n.len → 0 ≤ argA n j ∧ argA n j < (k : Int)) := fun k n hn j hj => st_arg (hst k n hn) hj (hIn n (List.mem_of_getElem? hn)).hi
  have HB := Lib.hid hB
  have HBI := Lib.hid hBI
  have HIw : Hid (I < w.heap.size) := hM.lt hP.pi
  obtain ⟨W0, hW0⟩ : ∃ W0, W0 = w.alloc (.cells #[.int .i64 root] 3) := ⟨_, rfl⟩
  have HO : Hid (OpenR Q w W0 P X I M most l a c root s im [(root : Int)] w.heap.size 1 (And1 P w.heap.size)) := by
    have hb : Below w.heap.size w W0 := by rw [hW0]; exact (Below.refl _ w).alloc (Nat.le_refl _) _
    refine ⟨fun k hk => .inl hk, .inr rfl, Nat.le_refl _, by rw [hW0]; exact hM.box _, h.below hb, Kp.of hb fun k hk => hM.lt hk.1, ?_, StP.start (by omega), hs⟩
    exact ⟨rfl, .inr ⟨_, 1, _, rfl, Nat.le_refl _, by rw [hW0]; exact heap_alloc_new w _, Nat.le_refl _, by decide, rfl, rfl⟩⟩
  have HHl := Lib.hid hl
  clear h hM hP hB hBI hm hIn hst hQ hs
  obtain ⟨i0, hi_, hz0, hz1, hz2⟩ := info_parts info_int
  go_enter Tryz.func40, Tryz.ntmps40
  go_wp2_with fail
  rw [← hW0]
  clear hW0
  go_loopg [6] (roundsM l.length im [(root : Int)]) (fun N p wr => ∃ (s : MkS) (im st : List Int) (g cap n : Nat) (R : Nat → Prop), p = .slice (some ⟨g, 0, none⟩) n cap ∧ Hid (OpenR Q w wr P X I M most l a c root s im st g cap R) ∧ Hid (N = roundsM l.length im st) ∧ Hid (st.length = n))
  case atStart => exact ⟨s, im, [(root : Int)], w.heap.size, 1, 1, _, rfl, HO, rfl, rfl⟩
  case round =>
    clear HO
    obtain ⟨s, im, st, g, cap, n, R, rfl, HO, HN, HL⟩ := hrel
    rcases List.eq_nil_or_concat st with hst | ⟨st, y, hst⟩
    · subst hst
      obtain rfl : n = 0 := HL.out.symm
      obtain ⟨x0, x1, x2, xz, iz⟩ := HO.out.wk.cells
      have qi := HO.out.wk.im hr
      have HR : Hid (AtPost Q w P X I M most l a c root (.returned (.tuple #[.int .i64 (imA im root), .int .i64 0])) wr) := ⟨s, im, HO.out.mr.less HO.out.sub, HO.out.wk, HO.out.kp, .inl ⟨rfl, HO.out.wks, HO.out.st.fin rfl⟩⟩
      go_wp2_with fail
      go_ret2
      exact HR.out
    · rw [List.concat_eq_append] at hst
      subst hst
      have hyr := HO.out.st.rng y (by simp)
      obtain ⟨k, rfl⟩ : ∃ k : Nat, y = (k : Int) := ⟨y.toNat, by omega⟩
      obtain ⟨m, hm⟩ : ∃ m, st.length = m := ⟨_, rfl⟩
      obtain rfl : n = m + 1 := by have h1 := HL.out; rw [List.length_append, hm] at h1; exact h1.symm
      have hkl : k < l.length := by omega
      obtain ⟨nd, hnd⟩ : ∃ nd, l[k]? = some nd := ⟨_, List.getElem?_eq_getElem hkl⟩
      have qc : wr.cell? ⟨g, m, none⟩ = some (.int .i64 (k : Int)) := own_cellG HO.out.row (by rw [List.map_append, List.getElem?_append_right (by simp [hm])]; simp [hm])
      have hgl : g < wr.heap.size := HO.out.mr.lt HO.out.rg
      have hm3 : m + 1 ≤ 3000 := by
        have h1 := fall_len _ _ HO.out.st.fall HO.out.st.rng
        rw [List.length_append, hm] at h1
        exact Nat.le_trans h1 HHl.out
      have hcap : m + 1 ≤ cap ∧ cap ≤ maxLen := by
        obtain ⟨a', c', e, h1, h2, _⟩ := own_at HO.out.row
        cases e
        rw [List.length_append, hm] at h1
        exact ⟨h1, h2⟩
      obtain ⟨hcap1, hcap2⟩ := hcap
      have HMs := Lib.hid (HMiss.out wr im k nd HO.out.wk hnd)
      have HNd := Lib.hid hnd
      have HM1 := Lib.hid hm
      clear hnd hm hyr HMiss
      go_wp2_with fail
      refine HMs.out.mono ?_
      rintro e w1 ⟨⟨a1, q1⟩, rfl, hp, hb1⟩
      have HO1 := Lib.hid (HO.out.below hb1)
      clear HO HMs hb1 qc
      rcases hp with ⟨hq, j, hj, ha, hz⟩ | ⟨hq, ha, hall⟩
      · obtain rfl : q1 = true := hq
        simp only at ha hz
        have hlow := HLow.out k nd HNd.out j hj
        rw [ha] at hlow
        obtain ⟨hst2, hlt2⟩ := HO1.out.st.push hlow.1 hlow.2 hz
        have HSt := Lib.hid hst2
        have HLt := Lib.hid hlt2
        have hrow : w1.ownsRow w.heap.size 3 1 (.slice (some ⟨g, 0, none⟩) (m + 1) cap) (m + 1) ((st ++ [(k : Int)]).map (Value.int .i64)) := by
          have h1 := HO1.out.row
          rw [List.length_append, HM1.out] at h1
          exact h1
        have hws := HO1.out.kp.size
        clear hst2 hlt2 hlow hz ha hj
        go_wp2_with (at_builtin; refine wpList_append_lies _ rfl _ _ 27 rfl w.heap.size 3 i0 _ 1 8 Tryz.underlying27 hi_ hz0 hz1 hz2 rfl (by decide) (Value.slice (some ⟨g, 0, none⟩) (m + 1) cap) (m + 1) ((st ++ [(k : Int)]).map (Value.int .i64)) (by rfl) (hrow.alloc _) ⟨w1.heap.size, 0, none⟩ 1 1 [.int .i64 a1] (by rfl) rfl (World.news_of_block (B := w1.heap.size) (cs := #[.int .i64 a1]) (t := 3) (fr := (0, 0)) (heap_alloc_new w1 _)) (by simp [Value.oneCell']) (by omega) (by simp only [maxLen]; omega) (by omega) (by simp; omega) _ rfl ?_; intro g9 c9 w9 hown9 hgrow9 hat9 hlt9; have HO9 := Lib.hid (HO1.out.push HP.out HPl.out HB.out HBI.out (g9 := g9) (c9 := c9) (y := a1) (by rw [List.length_append, HM1.out]; exact hown9) (by simpa [Value.ownBlock] using hgrow9) (by simpa [Value.ownBlock] using hat9) hlt9 HSt.out); clear hown9 hgrow9 hat9)
        go_roundg (roundsM l.length im ((st ++ [(k : Int)]) ++ [a1]))
        case measure => rw [HN.out]; exact HLt.out
        case rel => exact ⟨s, im, _, g9, c9, m + 1 + 1, _, rfl, HO9, rfl, by show _ = _; simp [HM1.out]⟩
      · obtain rfl : q1 = false := hq
        obtain rfl : a1 = 0 := ha
        obtain ⟨ho, hw⟩ := HStep.out s im k nd HO1.out.wks HNd.out hall
        have hMk := HMake.out w1 R s im k nd HO1.out.sub HO1.out.kp HO1.out.wk HO1.out.mr HO1.out.wks HNd.out hall
        obtain ⟨r, hr'⟩ : ∃ r, stepM most s im nd = r := ⟨_, rfl⟩
        rw [hr'] at ho hw hMk
        have HMk := Lib.hid hMk
        have HOu := Lib.hid ho
        have HW := Lib.hid hw
        have HRr := Lib.hid hr'
        have HAll := Lib.hid hall
        clear ho hw hMk hr' hall
        go_wp2_with fail
        refine HMk.out.mono ?_
        rintro e w2 ⟨rfl, hm2, hw2, hk2⟩
        by_cases h0 : r.1.e = 0
        · have e0 := ne_f h0
          obtain ⟨hst2, hlt2⟩ := HO1.out.st.pop (v := r.2) HO1.out.wks.len (by have := HOu.out.pl.1; omega)
          have HO2 := Lib.hid (HO1.out.pop HIw.out hm2 hw2 hk2 hst2 (HW.out h0))
          have HLt := Lib.hid hlt2
          clear hst2 hlt2 hm2 hw2 hk2 h0
          go_wp2_with fail
          go_roundg (roundsM l.length (im.set k r.2) st)
          case measure => rw [HN.out]; exact HLt.out
          case rel => exact ⟨r.1, im.set k r.2, st, g, cap, m, R, rfl, HO2, rfl, HM1⟩
        · have e0 := ne_t h0
          have HF : Hid (AtPost Q w P X I M most l a c root (.returned (.tuple #[.int .i64 0, .int .i64 r.1.e])) w2) := ⟨r.1, im.set k r.2, hm2.less HO1.out.sub, hw2, HO1.out.kp.trans (hk2.less fun k hk => ⟨HO1.out.sub k hk.1, hk.2⟩), .inr ⟨rfl, h0, s, im, k, nd, HO1.out.wks, HNd.out, HAll.out, by rw [HRr.out]⟩⟩
          clear hm2 hw2 hk2 h0
          go_wp2_with fail
          go_ret2
          exact HF.out
end Go.Proofs.YtfbjgadgfjnamaaGreatDoor.Tm
