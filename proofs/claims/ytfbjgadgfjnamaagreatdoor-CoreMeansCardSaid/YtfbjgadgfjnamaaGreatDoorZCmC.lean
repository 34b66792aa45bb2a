/- CoreMeans: rows that are well sorted; what Of gives, in a world. -/
import Derived.Test.YtfbjgadgfjnamaaGreatDoorZHdX
import Derived.Test.YtfbjgadgfjnamaaGreatDoorZCqF
namespace Go.Proofs.YtfbjgadgfjnamaaGreatDoor
open Go.RowKit
open Tm (NodeA NodeOk TabR mayT okFrom standsB MkS MkI PlA Pre Out WS srt WsN nodA putM negM impM leM eqM eqI xorM behM iteM sumM imgM splitA diffM numM two2 one1 argA)
set_option linter.unusedVariables false
/-- The node at a place does not overflow, and this is its value. -/
def OkV (E : List (Int × Bool)) (i v : Int) : Prop := (atV E i).2 = false ∧ (atV E i).1 = v
/-- A table that has what a maker has, and perhaps more. -/
def Ex (s : MkS) (c : List NodeA) : Prop := ∃ r, c = s.l ++ r
theorem Ex.up {s s' : MkS} {c : List NodeA} (h : Ex s' c) (k : Pre s s') : Ex s c := by
  obtain ⟨r, hr⟩ := h
  obtain ⟨q, hq⟩ := k.pre
  exact ⟨q ++ r, by rw [hr, hq, List.append_assoc]⟩
theorem Ex.same {s s' : MkS} {c : List NodeA} (h : Ex s' c) (e : s'.l = s.l) : Ex s c := by
  obtain ⟨r, hr⟩ := h
  exact ⟨r, by rw [hr, e]⟩
theorem Ex.get {s : MkS} {c : List NodeA} (h : Ex s c) {i : Int} (hi : PlA s i) : ∃ k : Nat, i = (k : Int) ∧ k < s.l.length ∧ c[k]? = some (nodA s.l i) := by
  obtain ⟨k, rfl, hk⟩ := hi.nat
  obtain ⟨r, hr⟩ := h
  exact ⟨k, rfl, hk, by rw [hr, List.getElem?_append_left hk]; exact Tm.nodA_get hk⟩
theorem atM_may {a b n : Int} (ha : mayB a = true) (hb : mayB b = true) (hn : mayB n = true) : atM a b n = decide (a - b ≤ n) := by
  unfold atM
  rw [ha, hb, hn]; rfl
section
variable {x : SigV} {y : WorV} {c : List NodeA} {E : List (Int × Bool)} {most : Int} {s : MkS}
theorem Ex.bit (h : Ex s c) (hV : Vals x y c E) {i v : Int} (hi : PlA s i) (hs : srt s.l i = 0) (ho : OkV E i v) : v = 0 ∨ v = 1 := by
  obtain ⟨k, rfl, hk, hg⟩ := h.get hi
  have := hV.is (k + 1) k _ (by omega) hg ho.1
  have hs' : (nodA s.l k).sort = 0 := hs
  rw [hs', isB_bool (worQ_sizes hV.wor), ho.2] at this
  exact of_decide_eq_true this
theorem Ex.int (h : Ex s c) (hV : Vals x y c E) {i v : Int} (hi : PlA s i) (hs : srt s.l i = 1) (ho : OkV E i v) : mayB v = true := by
  obtain ⟨k, rfl, hk, hg⟩ := h.get hi
  have := hV.int hg hs ho.1
  rw [ho.2] at this
  exact this
theorem bad_no {L : List (Int × Bool)} {n : NodeA} : ∀ {k : Nat}, (∀ j : Nat, j < k → (atV L (argN n j)).2 = false) → badV L n k = false
  | 0, _ => rfl
  | k + 1, h => by
    show (badV L n k || (atV L (argN n k)).2) = false
    rw [bad_no fun j hj => h j (by omega), h k (by omega)]; rfl
theorem ok_node (hV : Vals x y c E) {k : Nat} {n : NodeA} {v : Nat → Int} {X : Int} (hk : c[k]? = some n) (hv : ∀ j : Nat, (j : Int) < n.len → OkV E (argN n j) (v j)) (hX : ndV x y n ((List.range n.len.toNat).map v) = (X, true)) : OkV E k X := by
  have e : argsV E n n.len.toNat = (List.range n.len.toNat).map v := by
    unfold argsV
    refine List.map_congr_left fun j hj => ?_
    exact (hv j (by have := List.mem_range.1 hj; omega)).2
  unfold OkV
  rw [hV.at_ k n hk]
  unfold stepV
  rw [bad_no fun j hj => (hv j (by omega)).1, e, hX]
  exact ⟨rfl, rfl⟩
theorem put_sem (hV : Vals x y c E) (hI : MkI s) (hm : most ≤ 2000) {n : NodeA} (hst : s.e = 0 → standsB n s.l.length = true) (he : (putM most s n).1.e = 0) (hE : Ex (putM most s n).1 c) {v : Nat → Int} {X : Int} (hv : ∀ j : Nat, (j : Int) < n.len → OkV E (argN n j) (v j)) (hX : ndV x y n ((List.range n.len.toNat).map v) = (X, true)) : OkV E (putM most s n).2 X := by
  have h0 := Tm.put_e he
  have ho := Tm.put_out (most := most) hI hm (Tm.ok_of_st (hst h0) hI.len) hst
  obtain ⟨k, hk, _, hg⟩ := hE.get ho.pl
  rw [(Tm.put_mem he).2] at hg
  rw [hk]
  exact ok_node hV hg hv hX
theorem put1 (hV : Vals x y c E) (hI : MkI s) (hm : most ≤ 2000) {n : NodeA} (hst : s.e = 0 → standsB n s.l.length = true) (he : (putM most s n).1.e = 0) (hE : Ex (putM most s n).1 c) {v0 X : Int} (hl : n.len = 1) (h0 : OkV E n.a0 v0) (hX : ndV x y n [v0] = (X, true)) : OkV E (putM most s n).2 X := by
  refine put_sem hV hI hm hst he hE (v := fun _ => v0) (fun j hj => ?_) (by rw [hl]; exact hX)
  obtain rfl : j = 0 := by omega
  exact h0
theorem put2 (hV : Vals x y c E) (hI : MkI s) (hm : most ≤ 2000) {n : NodeA} (hst : s.e = 0 → standsB n s.l.length = true) (he : (putM most s n).1.e = 0) (hE : Ex (putM most s n).1 c) {v0 v1 X : Int} (hl : n.len = 2) (h0 : OkV E n.a0 v0) (h1 : OkV E n.a1 v1) (hX : ndV x y n [v0, v1] = (X, true)) : OkV E (putM most s n).2 X := by
  refine put_sem hV hI hm hst he hE (v := fun j => if j = 0 then v0 else v1) (fun j hj => ?_) (by rw [hl]; exact hX)
  have hj2 : j = 0 ∨ j = 1 := by omega
  rcases hj2 with rfl | rfl
  · exact h0
  · exact h1
theorem not_sem (hV : Vals x y c E) (hI : MkI s) (hm : most ≤ 2000) (hW : WS s.l) {n : NodeA} (ho : n.op = 1) (hl : n.len = 1) (ha : PlA s n.a0) (hst : s.e = 0 → standsB n s.l.length = true) (hs : srt s.l n.a0 = 0) (he : (Tm.notM most s n).1.e = 0) (hE : Ex (Tm.notM most s n).1 c) {v : Int} (h : OkV E n.a0 v) : OkV E (Tm.notM most s n).2 (1 - v) := by
  have ho' := Tm.not_out (most := most) (n := n) hI hm
  unfold Tm.notM at he hE ⊢
  by_cases h1 : (nodA s.l n.a0).op = 1
  · rw [if_pos h1] at he hE ⊢
    have hb := hE.bit hV ha hs h
    obtain ⟨k, hk, hkl, hg⟩ := hE.get ha
    have hp := Tm.arg_pl hI ha h1
    rw [hk] at h
    have hf := hV.fine hg h.1
    have hfm := stands_form (hI.stands hkl)
    rw [← hk] at hfm
    have hln : (nodA s.l n.a0).len = 1 := by rcases hfm.2.2.2.2 with e | e <;> first | omega | (rw [e, h1]; rfl)
    have hm2 : nodA s.l n.a0 ∈ s.l := by rw [hk]; exact Tm.nodA_mem hkl
    have hs1 := ((hW _ hm2).s1 h1).2
    have hoa : (atV E (nodA s.l n.a0).a0).2 = false := hf.args 0 (by rw [hln]; decide)
    have hb2 := hE.bit hV hp hs1 ⟨hoa, rfl⟩
    have hv := hf.val
    rw [hln, h.2] at hv
    unfold ndV at hv
    rw [h1] at hv
    have hv' : v = wrap64 (1 - (atV E (nodA s.l n.a0).a0).1) := hv
    refine ⟨hoa, ?_⟩
    rw [hv']
    rcases hb2 with e | e <;> rw [e] <;> unfold wrap64 <;> omega
  · rw [if_neg h1] at he hE ⊢
    refine put1 hV hI hm hst he hE hl h ?_
    have h0 := Tm.put_e he
    have ho2 := Tm.put_out (most := most) hI hm (Tm.ok_of_st (hst h0) hI.len) hst
    have hb := (hE.up ho2.pre).bit hV ha hs h
    unfold ndV
    rw [ho]
    show (wrap64 (1 - v), true) = _
    refine Prod.ext ?_ rfl
    show wrap64 (1 - v) = 1 - v
    unfold wrap64
    rcases hb with rfl | rfl <;> decide
theorem neg_sem (hV : Vals x y c E) (hI : MkI s) (hm : most ≤ 2000) (hW : WS s.l) {i : Int} (ha : PlA s i) (hs : srt s.l i = 0) (he : (negM most s i).1.e = 0) (hE : Ex (negM most s i).1 c) {v : Int} (h : OkV E i v) : OkV E (negM most s i).2 (1 - v) :=
  not_sem hV hI hm hW rfl rfl ha (fun _ => Tm.st_one rfl ha) hs he hE h
theorem true_sem (hV : Vals x y c E) : OkV E 0 1 := by
  have ht : c[0]? = some Tm.trueN := by
    have := (Tm.mayT_ok hV.may).1
    have h2 : (c.take 2)[0]? = some Tm.trueN := by rw [this]; rfl
    rw [List.getElem?_take] at h2
    simpa using h2
  exact ok_node (k := 0) (v := fun _ => 0) hV ht (fun j hj => absurd hj (by show ¬ (j : Int) < 0; omega)) rfl
theorem zero_sem (hV : Vals x y c E) : OkV E 1 0 := hV.num (k := 1) (Tm.mayT_zero hV.may) rfl
theorem split_sem (hV : Vals x y c E) (hE : Ex s c) {i : Int} (hi : PlA s i) {v : Int} (h : OkV E i v) : OkV E (splitA s.l i).1 (v - (splitA s.l i).2) := by
  obtain ⟨k, hk, hkl, hg⟩ := hE.get hi
  unfold splitA
  split
  · rename_i h10
    obtain ⟨_, e⟩ := hV.num hg h10
    have z := zero_sem hV
    rw [hk] at h
    have e2 := h.2
    rw [e] at e2
    show OkV E 1 (v - (nodA s.l i).num)
    rw [← e2, Int.sub_self]; exact z
  · split
    · rename_i h11
      rw [hk] at h
      obtain ⟨j, m, e1, e2, e3, e4, e5, e6⟩ := hV.add hg h11 h.1
      show OkV E (nodA s.l i).a0 (v - (nodA s.l i).num)
      rw [e1]
      refine ⟨e5, ?_⟩
      have := h.2
      omega
    · show OkV E i (v - 0)
      rw [Int.sub_zero]; exact h
theorem le_sem (hV : Vals x y c E) (hI : MkI s) (hm : most ≤ 2000) (hW : WS s.l) {a b : Int} (ha : PlA s a) (hb : PlA s b) (sa : srt s.l a = 1) (sb : srt s.l b = 1) (k : Int) (he : (leM most s a b k).1.e = 0) (hE : Ex (leM most s a b k).1 c) {va vb : Int} (oa : OkV E a va) (ob : OkV E b vb) : OkV E (leM most s a b k).2 (bitN (decide (va - vb ≤ k))) := by
  have hout := Tm.le_out (most := most) hI hm ha hb k
  have hEs : Ex s c := hE.up hout.pre
  have hp := Tm.diff_pre s a b k
  have hi := Tm.diff_inv hI a b k
  have hd := Tm.diff_l s a b k
  have px := (Tm.split_pl hI ha).up hp
  have py := (Tm.split_pl hI hb).up hp
  have x1 := split_sem hV hEs ha oa
  have y1 := split_sem hV hEs hb ob
  have mx := hEs.int hV (Tm.split_pl hI ha) (Tm.split_srt hI hW ha sa) x1
  have my := hEs.int hV (Tm.split_pl hI hb) (Tm.split_srt hI hW hb sb) y1
  unfold leM at he hE ⊢
  by_cases hxy : (splitA s.l a).1 = (splitA s.l b).1
  · rw [if_neg (fun h => h hxy)] at he hE ⊢
    have e0 : va - (splitA s.l a).2 = vb - (splitA s.l b).2 := by rw [← x1.2, ← y1.2, hxy]
    by_cases h0 : 0 ≤ (diffM s a b k).2
    · rw [if_pos h0] at he hE ⊢
      obtain ⟨_, _, hz⟩ := Tm.diff_z he
      rw [decide_eq_true (by omega)]
      exact true_sem hV
    · rw [if_neg h0] at he hE ⊢
      have ho := Tm.neg_out (most := most) hi hm (PlA.zero hi)
      obtain ⟨_, _, hz⟩ := Tm.diff_z (ho.pre.e he)
      rw [decide_eq_false (by omega)]
      exact neg_sem hV hi hm (by rw [hd]; exact hW) (PlA.zero hi) (Tm.zero_srt hi) he hE (true_sem hV)
  · rw [if_pos hxy] at he hE ⊢
    obtain ⟨_, md, hz⟩ := Tm.diff_z (Tm.put_e he)
    refine put2 hV hi hm (fun he => Tm.st_two (.inr ⟨rfl, (Tm.diff_z he).2.1⟩) px py) he hE rfl x1 y1 ?_
    show (bitN (atM (va - (splitA s.l a).2) (vb - (splitA s.l b).2) (diffM s a b k).2), true) = _
    rw [atM_may mx my md]
    refine Prod.ext (congrArg bitN (decide_eq_decide.2 ?_)) rfl
    omega
theorem and_bits (p q : Bool) : wrap64 (bitN p * bitN q) = bitN (p && q) := by cases p <;> cases q <;> simp [bitN, wrap64]
theorem eqI_sem (hV : Vals x y c E) (hI : MkI s) (hm : most ≤ 2000) (hW : WS s.l) {a b : Int} (ha : PlA s a) (hb : PlA s b) (sa : srt s.l a = 1) (sb : srt s.l b = 1) (he : (eqI most s a b).1.e = 0) (hE : Ex (eqI most s a b).1 c) {va vb : Int} (oa : OkV E a va) (ob : OkV E b vb) : OkV E (eqI most s a b).2 (bitN (decide (va = vb))) := by
  have o1 := Tm.le_out (most := most) hI hm ha hb 0
  have o2 := Tm.le_out (most := most) o1.inv hm (hb.up o1.pre) (ha.up o1.pre) 0
  have hst : (leM most (leM most s a b 0).1 b a 0).1.e = 0 → standsB (two2 2 (leM most s a b 0).2 (leM most (leM most s a b 0).1 b a 0).2 0) (leM most (leM most s a b 0).1 b a 0).1.l.length = true := fun _ => Tm.st_two (.inl ⟨by decide, rfl⟩) (o1.pl.up o2.pre) o2.pl
  have he2 : (leM most (leM most s a b 0).1 b a 0).1.e = 0 := Tm.put_e he
  have he1 := o2.pre.e he2
  have o3 := Tm.put_out (most := most) o2.inv hm (Tm.ok_of_st (hst he2) o2.inv.len) hst
  have hE2 : Ex (leM most (leM most s a b 0).1 b a 0).1 c := Ex.up hE o3.pre
  have hE1 := hE2.up o2.pre
  have w1 := Tm.ws_le hI hm hW ha hb 0 (fun _ => ⟨sa, sb⟩) he1
  have p := le_sem hV hI hm hW ha hb sa sb 0 he1 hE1 oa ob
  have q := le_sem hV o1.inv hm w1.1 (hb.up o1.pre) (ha.up o1.pre) (by rw [Tm.srt_up hb o1.pre]; exact sb) (by rw [Tm.srt_up ha o1.pre]; exact sa) 0 he2 hE2 ob oa
  refine put2 hV o2.inv hm hst he hE rfl p q ?_
  show (wrap64 (bitN (decide (va - vb ≤ 0)) * bitN (decide (vb - va ≤ 0))), true) = _
  rw [and_bits]
  refine Prod.ext (congrArg bitN ?_) rfl
  rw [← Bool.decide_and]
  refine decide_eq_decide.2 ?_
  omega
theorem eq_sem (hV : Vals x y c E) (hI : MkI s) (hm : most ≤ 2000) (hW : WS s.l) {n : NodeA} (ho : n.op = 6) (hl : n.len = 2) (ha : PlA s n.a0) (hb : PlA s n.a1) (hst : s.e = 0 → standsB n s.l.length = true) (hs : srt s.l n.a0 = srt s.l n.a1) (he : (eqM most s n).1.e = 0) (hE : Ex (eqM most s n).1 c) {va vb : Int} (oa : OkV E n.a0 va) (ob : OkV E n.a1 vb) : OkV E (eqM most s n).2 (bitN (decide (va = vb))) := by
  unfold eqM at he hE ⊢
  by_cases c0 : (nodA s.l n.a0).sort = 0
  · rw [if_pos c0] at he hE ⊢
    refine put2 hV hI hm hst he hE hl oa ob ?_
    unfold ndV
    rw [ho]; rfl
  · rw [if_neg c0] at he hE ⊢
    by_cases c1 : (nodA s.l n.a0).sort = 1
    · rw [if_pos c1] at he hE ⊢
      exact eqI_sem hV hI hm hW ha hb c1 (hs.symm.trans c1) he hE oa ob
    · rw [if_neg c1] at he hE ⊢
      by_cases c2 : n.a0 = n.a1
      · rw [if_pos c2] at he hE ⊢
        have e : va = vb := by rw [← oa.2, ← ob.2, c2]
        rw [decide_eq_true e]
        exact true_sem hV
      · rw [if_neg c2] at he hE ⊢
        have hmn : PlA s (min n.a0 n.a1) := by rcases Int.le_total n.a0 n.a1 with hh | hh <;> simp only [Int.min_eq_left, Int.min_eq_right, hh] <;> assumption
        have hmx : PlA s (max n.a0 n.a1) := by rcases Int.le_total n.a0 n.a1 with hh | hh <;> simp only [Int.max_eq_left, Int.max_eq_right, hh] <;> assumption
        rcases Int.le_total n.a0 n.a1 with hh | hh
        · exact put2 hV hI hm (n := two2 6 (min n.a0 n.a1) (max n.a0 n.a1) 0) (fun _ => Tm.st_two (.inl ⟨by decide, rfl⟩) hmn hmx) he hE rfl (v0 := va) (v1 := vb) (by show OkV E (min n.a0 n.a1) va; rw [Int.min_eq_left hh]; exact oa) (by show OkV E (max n.a0 n.a1) vb; rw [Int.max_eq_right hh]; exact ob) rfl
        · refine put2 hV hI hm (n := two2 6 (min n.a0 n.a1) (max n.a0 n.a1) 0) (fun _ => Tm.st_two (.inl ⟨by decide, rfl⟩) hmn hmx) he hE rfl (v0 := vb) (v1 := va) (by show OkV E (min n.a0 n.a1) vb; rw [Int.min_eq_right hh]; exact ob) (by show OkV E (max n.a0 n.a1) va; rw [Int.max_eq_left hh]; exact oa) ?_
          show (bitN (decide (vb = va)), true) = _
          refine Prod.ext (congrArg bitN (decide_eq_decide.2 eq_comm)) rfl
theorem eq2_sem (hV : Vals x y c E) (hI : MkI s) (hm : most ≤ 2000) (hW : WS s.l) {a b : Int} (ha : PlA s a) (hb : PlA s b) (hs : srt s.l a = srt s.l b) (he : (eqM most s (two2 6 a b 0)).1.e = 0) (hE : Ex (eqM most s (two2 6 a b 0)).1 c) {va vb : Int} (oa : OkV E a va) (ob : OkV E b vb) : OkV E (eqM most s (two2 6 a b 0)).2 (bitN (decide (va = vb))) :=
  eq_sem hV hI hm hW rfl rfl ha hb (fun _ => Tm.st_two (.inl ⟨by decide, rfl⟩) ha hb) hs he hE oa ob
theorem bit_not (q : Bool) : 1 - bitN q = bitN (!q) := by cases q <;> rfl
theorem xor_sem (hV : Vals x y c E) (hI : MkI s) (hm : most ≤ 2000) (hW : WS s.l) {n : NodeA} (ha : PlA s n.a0) (hb : PlA s n.a1) (hs : srt s.l n.a0 = srt s.l n.a1) (he : (xorM most s n).1.e = 0) (hE : Ex (xorM most s n).1 c) {va vb : Int} (oa : OkV E n.a0 va) (ob : OkV E n.a1 vb) : OkV E (xorM most s n).2 (bitN (!decide (va = vb))) := by
  have o1 := Tm.eq2_out (most := most) (a := n.a0) (b := n.a1) hI hm ha hb
  have o2 := Tm.neg_out (most := most) o1.inv hm o1.pl
  have he1 := o2.pre.e he
  have w1 := Tm.ws_eq2 hI hm hW ha hb (fun _ => hs) he1
  rw [← bit_not]
  exact neg_sem hV o1.inv hm w1.1 o1.pl w1.2 he hE (eq2_sem hV hI hm hW ha hb hs he1 (Ex.up hE o2.pre) oa ob)
theorem imp_sem (hV : Vals x y c E) (hI : MkI s) (hm : most ≤ 2000) (hW : WS s.l) {n : NodeA} (ha : PlA s n.a0) (hb : PlA s n.a1) (sa : srt s.l n.a0 = 0) (sb : srt s.l n.a1 = 0) (he : (impM most s n).1.e = 0) (hE : Ex (impM most s n).1 c) {va vb : Int} (oa : OkV E n.a0 va) (ob : OkV E n.a1 vb) : OkV E (impM most s n).2 (bitN (decide (va ≤ vb))) := by
  have o1 := Tm.neg_out (most := most) hI hm ha
  have hst : (negM most s n.a0).1.e = 0 → standsB (two2 3 (negM most s n.a0).2 n.a1 0) (negM most s n.a0).1.l.length = true := fun _ => Tm.st_two (.inl ⟨by decide, rfl⟩) o1.pl (hb.up o1.pre)
  have he1 : (negM most s n.a0).1.e = 0 := Tm.put_e he
  have o2 := Tm.put_out (most := most) o1.inv hm (Tm.ok_of_st (hst he1) o1.inv.len) hst
  have hE1 : Ex (negM most s n.a0).1 c := Ex.up hE o2.pre
  have hE0 := hE1.up o1.pre
  have p := neg_sem hV hI hm hW ha sa he1 hE1 oa
  have ba := hE0.bit hV ha sa oa
  have bb := hE0.bit hV hb sb ob
  refine put2 hV o1.inv hm hst he hE rfl p ob ?_
  show (max (1 - va) vb, true) = _
  rcases ba with rfl | rfl <;> rcases bb with rfl | rfl <;> rfl
theorem ite_sem (hV : Vals x y c E) (hI : MkI s) (hm : most ≤ 2000) {n : NodeA} (ho : n.op = 7) (hl : n.len = 3) (hb : PlA s n.a1) (hc : PlA s n.a2) (hst : s.e = 0 → standsB n s.l.length = true) (he : (iteM most s n).1.e = 0) (hE : Ex (iteM most s n).1 c) {v0 v1 v2 : Int} (o0 : OkV E n.a0 v0) (o1 : OkV E n.a1 v1) (o2 : OkV E n.a2 v2) : OkV E (iteM most s n).2 (if v0 = 1 then v1 else v2) := by
  unfold iteM at he hE ⊢
  by_cases h12 : n.a1 = n.a2
  · rw [if_pos h12] at he hE ⊢
    have e : v1 = v2 := by rw [← o1.2, ← o2.2, h12]
    rw [e, ite_self]
    show OkV E n.a1 v2
    rw [h12]; exact o2
  · rw [if_neg h12] at he hE ⊢
    have hE' := hE
    have he' := he
    clear he hE
    have key : ∀ P : MkS × Int, P = putM most s n → (behM most (behM most P.1 n.sort P.2 n.a1) n.sort P.2 n.a2).e = 0 → Ex (behM most (behM most P.1 n.sort P.2 n.a1) n.sort P.2 n.a2) c → P.1.e = 0 ∧ Ex P.1 c := fun P hP he hE => by
      by_cases h0 : s.e = 0
      · have q1 : Out most s P := by rw [hP]; exact Tm.put_out (most := most) hI hm (Tm.ok_of_st (hst h0) hI.len) hst
        have q2 := Tm.beh_out (most := most) q1.inv hm q1.pl (hb.up q1.pre) n.sort
        have q3 := Tm.beh_out (most := most) q2.2 hm (q1.pl.up q2.1) ((hc.up q1.pre).up q2.1) n.sort
        exact ⟨q2.1.e (q3.1.e he), (hE.up q3.1).up q2.1⟩
      · have e : P = (s, 0) := by rw [hP]; unfold putM; rw [if_pos h0]
        have q2 := Tm.beh_out (most := most) hI hm (PlA.zero hI) hb n.sort
        have q3 := Tm.beh_out (most := most) q2.2 hm ((PlA.zero hI).up q2.1) (hc.up q2.1) n.sort
        rw [e] at he
        exact absurd (q2.1.e (q3.1.e he)) h0
    obtain ⟨e1, E1⟩ := key _ rfl he' hE'
    refine put_sem hV hI hm hst e1 E1 (v := fun j => if j = 0 then v0 else if j = 1 then v1 else v2) (fun j hj => ?_) ?_
    · have hj2 : j = 0 ∨ j = 1 ∨ j = 2 := by omega
      rcases hj2 with rfl | rfl | rfl
      · exact o0
      · exact o1
      · exact o2
    · rw [hl]
      unfold ndV
      rw [ho]; rfl
theorem half_sum {a b : Int} (ha : mayB a = true) (hb : mayB b = true) (hab : mayB (a + b) = true) : ¬ (2305843009213693953 < wrap64 (wrap64 (a.tdiv 2) + wrap64 (b.tdiv 2)) ∨ wrap64 (wrap64 (a.tdiv 2) + wrap64 (b.tdiv 2)) < -2305843009213693953) := by
  have h1 := Tm.may_in ha
  have h2 := Tm.may_in hb
  have h3 := Tm.may_in hab
  have t1 : 2 * a.tdiv 2 + a.tmod 2 = a := Int.mul_tdiv_add_tmod a 2
  have t2 : 2 * b.tdiv 2 + b.tmod 2 = b := Int.mul_tdiv_add_tmod b 2
  have m1 : -2 < a.tmod 2 ∧ a.tmod 2 < 2 := ⟨Int.lt_tmod_of_pos a (by decide), Int.tmod_lt_of_pos a (by decide)⟩
  have m2 : -2 < b.tmod 2 ∧ b.tmod 2 < 2 := ⟨Int.lt_tmod_of_pos b (by decide), Int.tmod_lt_of_pos b (by decide)⟩
  generalize a.tdiv 2 = p at *
  generalize b.tdiv 2 = q at *
  generalize a.tmod 2 = r at *
  generalize b.tmod 2 = u at *
  unfold wrap64
  omega
theorem sum_sem (hV : Vals x y c E) (hI : MkI s) (hm : most ≤ 2000) (hW : WS s.l) {n : NodeA} (ho : n.op = 11) (hl : n.len = 1) (ha : PlA s n.a0) (sa : srt s.l n.a0 = 1) (hst : s.e = 0 → standsB n s.l.length = true) (he : (sumM most s n).1.e = 0) (hE : Ex (sumM most s n).1 c) {va : Int} (oa : OkV E n.a0 va) (hv : mayB (va + n.num) = true) : OkV E (sumM most s n).2 (va + n.num) := by
  have hEs : (sumM most s n).1.e = 0 → Ex (sumM most s n).1 c → s.e = 0 ∧ Ex s c := fun he hE => by
    have hp := Tm.num_pre s (addV (splitA s.l n.a0).2 n.num) (addE (splitA s.l n.a0).2 n.num)
    have hI' := hI
    by_cases h0 : s.e = 0
    · exact ⟨h0, hE.up (Tm.sum_out (most := most) hI hm (Tm.ok_of_st (hst h0) hI.len) ho ha hst).pre⟩
    · exfalso
      have hk : ¬ (numM s (addV (splitA s.l n.a0).2 n.num) (addE (splitA s.l n.a0).2 n.num)).1.e = 0 := fun h => h0 (hp.e h)
      unfold sumM at he
      simp only at he
      split at he
      · exact hk he
      · split at he
        · exact hk (Tm.put_e he)
        · exact hk (Tm.put_e he)
  obtain ⟨h0, hEs⟩ := hEs he hE
  have hp := Tm.num_pre s (addV (splitA s.l n.a0).2 n.num) (addE (splitA s.l n.a0).2 n.num)
  have hi := Tm.num_inv hI (n := addV (splitA s.l n.a0).2 n.num) (Tm.addE_c (splitA s.l n.a0).2 n.num)
  have hll := Tm.num_l s (addV (splitA s.l n.a0).2 n.num) (addE (splitA s.l n.a0).2 n.num)
  have hk : (numM s (addV (splitA s.l n.a0).2 n.num) (addE (splitA s.l n.a0).2 n.num)).1.e = 0 → mayB (numM s (addV (splitA s.l n.a0).2 n.num) (addE (splitA s.l n.a0).2 n.num)).2 = true ∧ (numM s (addV (splitA s.l n.a0).2 n.num) (addE (splitA s.l n.a0).2 n.num)).2 = (splitA s.l n.a0).2 + n.num := fun he => by
    obtain ⟨h1, h2, h3⟩ := Tm.num_ok he
    obtain ⟨_, _, h4, h5⟩ := Tm.add_z h1
    exact ⟨by rw [h3, h5]; exact h4, by rw [h3, h5]⟩
  have px := Tm.split_pl hI ha
  have x1 := split_sem hV hEs ha oa
  have mx := hEs.int hV px (Tm.split_srt hI hW ha sa) x1
  unfold sumM at he hE ⊢
  generalize numM s (addV (splitA s.l n.a0).2 n.num) (addE (splitA s.l n.a0).2 n.num) = K at *
  simp only at he hE ⊢
  by_cases k0 : K.2 = 0
  · rw [if_pos k0] at he hE ⊢
    obtain ⟨_, e⟩ := hk he
    show OkV E (splitA s.l n.a0).1 (va + n.num)
    rw [show va + n.num = va - (splitA s.l n.a0).2 by omega]
    exact x1
  · rw [if_neg k0] at he hE ⊢
    by_cases k1 : (splitA s.l n.a0).1 = 1
    · rw [if_pos k1] at he hE ⊢
      obtain ⟨mk, e⟩ := hk (Tm.put_e he)
      rw [k1] at x1
      have z := (zero_sem hV).2
      have e2 := x1.2
      refine put_sem hV hi hm (fun he => Tm.st_num (hk he).1) he hE (v := fun _ => 0) (fun j hj => absurd hj (by show ¬ (j : Int) < 0; omega)) ?_
      show (K.2, true) = _
      rw [show va + n.num = K.2 by omega]
    · rw [if_neg k1] at he hE ⊢
      obtain ⟨mk, e⟩ := hk (Tm.put_e he)
      have hsum : va - (splitA s.l n.a0).2 + K.2 = va + n.num := by omega
      refine put1 hV hi hm (fun he => Tm.stands_sum (by rw [hll]; exact hst h0) ho (px.up hp) (hk he).1) he hE hl x1 ?_
      unfold ndV
      rw [show ({ n with a0 := (splitA s.l n.a0).1, num := K.2 } : NodeA).op = 11 from ho]
      have hs2 : mayB (va - (splitA s.l n.a0).2 + K.2) = true := by rw [hsum]; exact hv
      have hw2 : wrap64 (va - (splitA s.l n.a0).2 + K.2) = va + n.num := by rw [hsum]; exact wrap_same (by have := Tm.may_in hv; omega)
      show (if 2305843009213693953 < wrap64 (wrap64 ((va - (splitA s.l n.a0).2).tdiv 2) + wrap64 (K.2.tdiv 2)) ∨ wrap64 (wrap64 ((va - (splitA s.l n.a0).2).tdiv 2) + wrap64 (K.2.tdiv 2)) < -2305843009213693953 then ((0 : Int), false) else (wrap64 (va - (splitA s.l n.a0).2 + K.2), mayB (wrap64 (va - (splitA s.l n.a0).2 + K.2)))) = _
      rw [if_neg (half_sum mx mk hs2), hw2, hv]
end
end Go.Proofs.YtfbjgadgfjnamaaGreatDoor
namespace Go.Proofs.YtfbjgadgfjnamaaGreatDoor
open Go.RowKit
open Tm (NodeA NodeOk TabR mayT okFrom standsB MkS MkI PlA Pre Out WS srt WsN nodA putM negM impM leM eqM eqI xorM behM iteM sumM imgM splitA diffM numM two2 one1 argA imA subN stepM WkS StepQ AllIm ImP QC)
set_option linter.unusedVariables false
section
variable {x : SigV} {y : WorV} {c : List NodeA} {E : List (Int × Bool)} {most : Int} {s : MkS}
theorem nd_eq {n : NodeA} {L : List Int} {X Y : Int} (h : ndV x y n L = (X, true)) (e : ndV x y n L = (Y, true)) : Y = X := by
  rw [h] at e
  exact (Prod.mk.inj e).1.symm
theorem img_sem (hV : Vals x y c E) (hI : MkI s) (hm : most ≤ 2000) (hW : WS s.l) {n : NodeA} (hs : standsB n s.l.length = true) (hw : WsN s.l n) (he : (imgM most s n).1.e = 0) (hE : Ex (imgM most s n).1 c) {v : Nat → Int} (hv : ∀ j : Nat, (j : Int) < n.len → OkV E (argN n j) (v j)) {X : Int} (hX : ndV x y n ((List.range n.len.toNat).map v) = (X, true)) : OkV E (imgM most s n).2 X := by
  have hs' : s.e = 0 → standsB n s.l.length = true := fun _ => hs
  have hn := Tm.ok_of_st hs hI.len
  have hE0 : Ex s c := hE.up (Tm.img_out (most := most) hI hm hn hs).pre
  obtain ⟨_, hl, ha⟩ := Tm.stands_args hs
  have p0 : (0 : Int) < n.len → PlA s n.a0 := fun h => ha 0 h
  have p1 : (1 : Int) < n.len → PlA s n.a1 := fun h => ha 1 h
  have p2 : (2 : Int) < n.len → PlA s n.a2 := fun h => ha 2 h
  have v0 : (0 : Int) < n.len → OkV E n.a0 (v 0) := fun h => hv 0 h
  have v1 : (1 : Int) < n.len → OkV E n.a1 (v 1) := fun h => hv 1 h
  have v2 : (2 : Int) < n.len → OkV E n.a2 (v 2) := fun h => hv 2 h
  unfold imgM at he hE ⊢
  by_cases c1 : n.op = 1
  · have hl : n.len = 1 := by rcases hl with h | h <;> first | omega | (rw [h, c1]; decide)
    rw [if_pos c1] at he hE ⊢
    have h := not_sem hV hI hm hW c1 hl (p0 (by omega)) hs' (hw.s1 c1).2 he hE (v0 (by omega))
    have hb := hE0.bit hV (p0 (by omega)) (hw.s1 c1).2 (v0 (by omega))
    rw [hl] at hX
    rw [← nd_eq hX (Y := 1 - v 0) (by
      unfold ndV
      rw [c1]
      show (wrap64 (1 - v 0), true) = _
      refine Prod.ext ?_ rfl
      show wrap64 (1 - v 0) = 1 - v 0
      unfold wrap64
      rcases hb with e | e <;> rw [e] <;> decide)]
    exact h
  rw [if_neg c1] at he hE ⊢
  by_cases c4 : n.op = 4
  · have hl : n.len = 2 := by rcases hl with h | h <;> first | omega | (rw [h, c4]; decide)
    obtain ⟨_, s1, s2⟩ := hw.s2 (by omega)
    rw [if_pos c4] at he hE ⊢
    rw [hl] at hX
    rw [← nd_eq hX (Y := bitN (!decide (v 0 = v 1))) (by unfold ndV; rw [c4]; rfl)]
    exact xor_sem hV hI hm hW (p0 (by omega)) (p1 (by omega)) (s1.trans s2.symm) he hE (v0 (by omega)) (v1 (by omega))
  rw [if_neg c4] at he hE ⊢
  by_cases c5 : n.op = 5
  · have hl : n.len = 2 := by rcases hl with h | h <;> first | omega | (rw [h, c5]; decide)
    obtain ⟨_, s1, s2⟩ := hw.s2 (by omega)
    rw [if_pos c5] at he hE ⊢
    rw [hl] at hX
    rw [← nd_eq hX (Y := bitN (decide (v 0 ≤ v 1))) (by unfold ndV; rw [c5]; rfl)]
    exact imp_sem hV hI hm hW (p0 (by omega)) (p1 (by omega)) s1 s2 he hE (v0 (by omega)) (v1 (by omega))
  rw [if_neg c5] at he hE ⊢
  by_cases c6 : n.op = 6
  · have hl : n.len = 2 := by rcases hl with h | h <;> first | omega | (rw [h, c6]; decide)
    rw [if_pos c6] at he hE ⊢
    rw [hl] at hX
    rw [← nd_eq hX (Y := bitN (decide (v 0 = v 1))) (by unfold ndV; rw [c6]; rfl)]
    exact eq_sem hV hI hm hW c6 hl (p0 (by omega)) (p1 (by omega)) hs' (hw.s6 c6).2 he hE (v0 (by omega)) (v1 (by omega))
  rw [if_neg c6] at he hE ⊢
  by_cases c7 : n.op = 7
  · have hl : n.len = 3 := by rcases hl with h | h <;> first | omega | (rw [h, c7]; decide)
    rw [if_pos c7] at he hE ⊢
    rw [hl] at hX
    rw [← nd_eq hX (Y := if v 0 = 1 then v 1 else v 2) (by unfold ndV; rw [c7]; rfl)]
    exact ite_sem hV hI hm c7 hl (p1 (by omega)) (p2 (by omega)) hs' he hE (v0 (by omega)) (v1 (by omega)) (v2 (by omega))
  rw [if_neg c7] at he hE ⊢
  by_cases c8 : n.op = 8
  · have hl : n.len = 2 := by rcases hl with h | h <;> first | omega | (rw [h, c8]; decide)
    obtain ⟨_, s1, s2⟩ := hw.s8 (by omega)
    rw [if_pos c8] at he hE ⊢
    rw [hl] at hX
    rw [← nd_eq hX (Y := bitN (decide (v 0 - v 1 ≤ 0))) (by
      unfold ndV
      rw [c8]
      refine Prod.ext (congrArg bitN (decide_eq_decide.2 ?_)) rfl
      show v 0 ≤ v 1 ↔ _
      omega)]
    exact le_sem hV hI hm hW (p0 (by omega)) (p1 (by omega)) s1 s2 0 he hE (v0 (by omega)) (v1 (by omega))
  rw [if_neg c8] at he hE ⊢
  by_cases c9 : n.op = 9
  · have hl : n.len = 2 := by rcases hl with h | h <;> first | omega | (rw [h, c9]; decide)
    obtain ⟨_, s1, s2⟩ := hw.s8 (by omega)
    rw [if_pos c9] at he hE ⊢
    rw [hl] at hX
    rw [← nd_eq hX (Y := bitN (decide (v 0 - v 1 ≤ -1))) (by
      unfold ndV
      rw [c9]
      refine Prod.ext (congrArg bitN (decide_eq_decide.2 ?_)) rfl
      show v 0 < v 1 ↔ _
      omega)]
    exact le_sem hV hI hm hW (p0 (by omega)) (p1 (by omega)) s1 s2 (-1) he hE (v0 (by omega)) (v1 (by omega))
  rw [if_neg c9] at he hE ⊢
  by_cases c11 : n.op = 11
  · have hl : n.len = 1 := by rcases hl with h | h <;> first | omega | (rw [h, c11]; decide)
    rw [if_pos c11] at he hE ⊢
    rw [hl] at hX
    have s1 := (hw.s11 c11).2
    have m0 := Tm.may_in (hE0.int hV (p0 (by omega)) s1 (v0 (by omega)))
    have m1 := Tm.may_in (num_may hs (.inr (.inl c11)))
    unfold ndV at hX
    rw [c11] at hX
    have hX' : (if 2305843009213693953 < wrap64 (wrap64 ((v 0).tdiv 2) + wrap64 (n.num.tdiv 2)) ∨ wrap64 (wrap64 ((v 0).tdiv 2) + wrap64 (n.num.tdiv 2)) < -2305843009213693953 then ((0 : Int), false) else (wrap64 (v 0 + n.num), mayB (wrap64 (v 0 + n.num)))) = (X, true) := hX
    split at hX'
    · exact absurd (Prod.mk.inj hX').2 (by decide)
    · rename_i hno
      have t1 : 2 * (v 0).tdiv 2 + (v 0).tmod 2 = v 0 := Int.mul_tdiv_add_tmod (v 0) 2
      have t2 : 2 * n.num.tdiv 2 + n.num.tmod 2 = n.num := Int.mul_tdiv_add_tmod n.num 2
      have q1 : -2 < (v 0).tmod 2 ∧ (v 0).tmod 2 < 2 := ⟨Int.lt_tmod_of_pos (v 0) (by decide), Int.tmod_lt_of_pos (v 0) (by decide)⟩
      have q2 : -2 < n.num.tmod 2 ∧ n.num.tmod 2 < 2 := ⟨Int.lt_tmod_of_pos n.num (by decide), Int.tmod_lt_of_pos n.num (by decide)⟩
      have hwr : wrap64 (v 0 + n.num) = v 0 + n.num := wrap_same (by
        unfold wrap64 at hno
        generalize (v 0).tdiv 2 = p at *
        generalize n.num.tdiv 2 = q at *
        generalize (v 0).tmod 2 = r at *
        generalize n.num.tmod 2 = u at *
        omega)
      rw [hwr] at hX'
      obtain ⟨e1, e2⟩ := Prod.mk.inj hX'
      rw [← e1]
      exact sum_sem hV hI hm hW c11 hl (p0 (by omega)) s1 hs' he hE (v0 (by omega)) e2
  rw [if_neg c11] at he hE ⊢
  by_cases c12 : n.op = 12
  · have hl : n.len = 2 := by rcases hl with h | h <;> first | omega | (rw [h, c12]; decide)
    obtain ⟨_, s1, s2⟩ := hw.s8 (by omega)
    rw [if_pos c12] at he hE ⊢
    rw [hl] at hX
    have m0 := hE0.int hV (p0 (by omega)) s1 (v0 (by omega))
    have m1 := hE0.int hV (p1 (by omega)) s2 (v1 (by omega))
    rw [← nd_eq hX (Y := bitN (decide (v 0 - v 1 ≤ n.num))) (by
      rw [← atM_may m0 m1 (num_may hs (.inr (.inr c12)))]
      unfold ndV
      rw [c12]; rfl)]
    exact le_sem hV hI hm hW (p0 (by omega)) (p1 (by omega)) s1 s2 n.num he hE (v0 (by omega)) (v1 (by omega))
  rw [if_neg c12] at he hE ⊢
  exact put_sem hV hI hm hs' he hE hv hX
end
/-! What is put besides the node itself is no application. -/
section
variable {most : Int} {P : NodeA → Prop}
theorem all_put {s : MkS} {n : NodeA} (h : ∀ m ∈ s.l, P m) (hn : P n) : ∀ m ∈ (putM most s n).1.l, P m := by
  unfold putM
  split
  · exact h
  · split
    · exact h
    · split
      · exact h
      · intro m hm
        rcases List.mem_append.1 hm with h1 | h1
        · exact h m h1
        · rw [List.mem_singleton.1 h1]; exact hn
theorem all_not {s : MkS} {n : NodeA} (h : ∀ m ∈ s.l, P m) (hn : P n) : ∀ m ∈ (Tm.notM most s n).1.l, P m := by
  unfold Tm.notM
  split
  · exact h
  · exact all_put h hn
variable (hP : ∀ m : NodeA, ¬ m.op = 13 → P m)
include hP
theorem all_neg {s : MkS} {i : Int} (h : ∀ m ∈ s.l, P m) : ∀ m ∈ (negM most s i).1.l, P m := all_not h (hP _ (by show ¬ (1 : Int) = 13; decide))
theorem all_le {s : MkS} {a b k : Int} (h : ∀ m ∈ s.l, P m) : ∀ m ∈ (leM most s a b k).1.l, P m := by
  have hd : ∀ m ∈ (diffM s a b k).1.l, P m := by rw [Tm.diff_l]; exact h
  unfold leM
  split
  · exact all_put hd (hP _ (by show ¬ (12 : Int) = 13; decide))
  · split
    · exact hd
    · exact all_neg hP hd
theorem all_eq {s : MkS} {n : NodeA} (h : ∀ m ∈ s.l, P m) (hn : P n) : ∀ m ∈ (eqM most s n).1.l, P m := by
  unfold eqM
  split
  · exact all_put h hn
  · split
    · exact all_put (all_le hP (all_le hP h)) (hP _ (by show ¬ (2 : Int) = 13; decide))
    · split
      · exact h
      · exact all_put h (hP _ (by show ¬ (6 : Int) = 13; decide))
theorem all_beh {s : MkS} {a b k : Int} (h : ∀ m ∈ s.l, P m) : ∀ m ∈ (behM most s a b k).l, P m := by
  unfold behM
  split
  · exact h
  · split
    · exact all_le hP (all_le hP h)
    · exact all_eq hP h (hP _ (by show ¬ (6 : Int) = 13; decide))
theorem all_img {s : MkS} {n : NodeA} (h : ∀ m ∈ s.l, P m) (hn : P n) : ∀ m ∈ (imgM most s n).1.l, P m := by
  unfold imgM
  split
  · exact all_not h hn
  split
  · exact all_neg hP (all_eq hP h (hP _ (by show ¬ (6 : Int) = 13; decide)))
  split
  · exact all_put (all_neg hP h) (hP _ (by show ¬ (3 : Int) = 13; decide))
  split
  · exact all_eq hP h hn
  split
  · unfold iteM
    split
    · exact h
    · exact all_beh hP (all_beh hP (all_put h hn))
  split
  · exact all_le hP h
  split
  · exact all_le hP h
  split
  · rename_i h11
    have hk : ∀ m ∈ (numM s (addV (splitA s.l n.a0).2 n.num) (addE (splitA s.l n.a0).2 n.num)).1.l, P m := by rw [Tm.num_l]; exact h
    unfold sumM
    simp only
    split
    · exact hk
    · split
      · exact all_put hk (hP _ (by show ¬ (10 : Int) = 13; decide))
      · exact all_put hk (hP _ (by show ¬ n.op = 13; omega))
  split
  · exact all_le hP h
  · exact all_put h hn
end
theorem srtN_srt (t : List NodeA) (i : Int) : srtN t i = srt t i := by
  unfold srtN srt nodA
  rw [List.getD_eq_getElem?_getD]
  cases t[i.toNat]? <;> rfl
theorem argN_A (n : NodeA) (j : Nat) : argN n j = argA n j := by
  match j with
  | 0 => rfl
  | 1 => rfl
  | k + 2 =>
    unfold argN
    rw [if_neg (by omega), if_neg (by omega)]; rfl
/-- Each application is one of the table's, of arguments of like sorts. -/
def AppQ (l : List NodeA) (s : MkS) : Prop := ∀ m ∈ s.l, m.op = 13 → ∃ n, n ∈ l ∧ n.op = 13 ∧ n.fn = m.fn ∧ n.sort = m.sort ∧ n.len = m.len ∧ sortsN s.l m = sortsN l n
theorem sortsN_up {l : List NodeA} (r : List NodeA) {n : NodeA} {k : Nat} (h : standsB n k = true) (hk : k ≤ l.length) : sortsN (l ++ r) n = sortsN l n := by
  obtain ⟨_, _, ha⟩ := Tm.stands_args h
  unfold sortsN
  refine List.map_congr_left fun j hj => ?_
  have := List.mem_range.1 hj
  have := ha j (by omega)
  rw [argN_A, srtN_srt, srtN_srt]
  exact Tm.srt_pre r this.1 (by omega)
/-- Images have the values of what they are images of, whatever is put besides. -/
def QM (x : SigV) (y : WorV) (l : List NodeA) (E : List (Int × Bool)) (s : MkS) (im : List Int) : Prop :=
  ∀ (c : List NodeA) (E' : List (Int × Bool)), Ex s c → Vals x y c E' → ∀ i : Nat, i < l.length → ¬ imA im i = -1 → (atV E i).2 = false → OkV E' (imA im i) (atV E i).1
def QS (x : SigV) (y : WorV) (l : List NodeA) (E : List (Int × Bool)) (s : MkS) (im : List Int) : Prop := QC l s im ∧ AppQ l s ∧ QM x y l E s im
theorem QS_new (x : SigV) (y : WorV) (l : List NodeA) (E : List (Int × Bool)) : QS x y l E ⟨Tm.newL, 0⟩ (List.replicate l.length (-1)) := by
  refine ⟨Tm.QC_new l, fun m hm ho => ?_, fun c E' _ _ i hi h => absurd (by unfold imA; rw [List.getD_eq_getElem?_getD, Int.toNat_natCast, List.getElem?_replicate, if_pos hi]; rfl) h⟩
  simp only [Tm.newL, List.mem_cons, List.not_mem_nil, or_false] at hm
  rcases hm with rfl | rfl <;> exact absurd ho (by decide)
theorem QS_step {x : SigV} {y : WorV} {l : List NodeA} {E : List (Int × Bool)} (hV : Vals x y l E) {most : Int} (hm : most ≤ 2000) (hok : ∀ n ∈ l, NodeOk n) (hst : ∀ (k : Nat) (n : NodeA), l[k]? = some n → standsB n k = true) (hws : ∀ n ∈ l, WsN l n) : StepQ (QS x y l E) most l := fun s im k n hw hk ha he => by
  have hkl := (List.getElem?_eq_some_iff.1 hk).1
  have hwC : WkS (QC l) l s im := hw.less hw.q.1
  have hQW := hw.q.1.1
  have hsn := Tm.sub_ok (s := s) (hok n (List.mem_of_getElem? hk)) hw.x n.len.toNat
  have hss := Tm.stands_sub (l := l) (hst k n hk) hw.imp ha
  have hwn := Tm.sub_ws hQW hk (hst k n hk) ha (hws n (List.mem_of_getElem? hk))
  have hout := Tm.img_out (most := most) hw.inv hm hsn hss
  have hfm := stands_form (hst k n hk)
  obtain ⟨_, _, hargs⟩ := Tm.stands_args (hst k n hk)
  have sub_arg : ∀ j : Nat, (j : Int) < n.len → argN (subN im n n.len.toNat) j = imA im (argN n j) := fun j hj => by
    rw [argN_A, argN_A, Tm.subN_arg _ _ _ _ (by omega), if_pos (by omega)]
  refine ⟨Tm.QC_step hm hok hst hws s im k n hwC hk ha he, ?_, fun c E' hE hV' i hi him ho => ?_⟩
  · obtain ⟨r, hr⟩ := hout.pre.pre
    have hold : ∀ m ∈ s.l, m.op = 13 → ∃ q, q ∈ l ∧ q.op = 13 ∧ q.fn = m.fn ∧ q.sort = m.sort ∧ q.len = m.len ∧ sortsN (imgM most s (subN im n n.len.toNat)).1.l m = sortsN l q := fun m hm' h13 => by
      obtain ⟨q, h1, h2, h3, h4, h5, h6⟩ := hw.q.2.1 m hm' h13
      obtain ⟨a, hg⟩ := List.getElem?_of_mem hm'
      refine ⟨q, h1, h2, h3, h4, h5, ?_⟩
      rw [hr, sortsN_up r (Tm.ok_at (Tm.mayT_ok hw.inv.may).2 hg).1 (Nat.le_of_lt (List.getElem?_eq_some_iff.1 hg).1)]
      exact h6
    refine all_img (P := fun m => m.op = 13 → ∃ q, q ∈ l ∧ q.op = 13 ∧ q.fn = m.fn ∧ q.sort = m.sort ∧ q.len = m.len ∧ sortsN (imgM most s (subN im n n.len.toNat)).1.l m = sortsN l q) (fun m h13 e => absurd e h13) (hold) (fun h13 => ⟨n, List.mem_of_getElem? hk, h13, rfl, rfl, rfl, ?_⟩)
    unfold sortsN
    refine List.map_congr_left fun j hj => ?_
    have hj' : (j : Int) < n.len := by have : j < n.len.toNat := List.mem_range.1 hj; omega
    rw [sub_arg j hj', srtN_srt, srtN_srt]
    have hai := ha j hj'
    have hrg := hargs j hj'
    rw [← argN_A] at hai hrg
    obtain ⟨i2, hi2⟩ : ∃ i2 : Nat, argN n j = (i2 : Int) := ⟨(argN n j).toNat, by omega⟩
    rw [hi2] at hai hrg ⊢
    have hpl := hw.imp.at hai
    rw [hr, Tm.srt_pre r hpl.1 hpl.2]
    exact hQW.2.2 i2 (by omega) hai
  · by_cases hik : i = k
    · subst hik
      show OkV E' (imA (im.set i _) i) _
      rw [Tm.imA_set (by omega) (by rw [hw.len]; exact hkl), if_pos rfl]
      obtain ⟨fa, fo, fv⟩ := hV.fine hk ho
      refine img_sem hV' hw.inv hm hQW.2.1 hss hwn he hE (v := fun j => (atV E (argN n j)).1) (fun j hj => ?_) ?_
      · have hj' : (j : Int) < n.len := hj
        rw [sub_arg j hj']
        obtain ⟨i2, m, e1, e2, e3, e4⟩ := hV.arg hk hj'
        have hfa := fa j hj'
        have hai := ha j hj'
        rw [← argN_A] at hai
        rw [e1] at hfa hai ⊢
        exact hw.q.2.2 c E' (hE.up hout.pre) hV' i2 (by omega) hai hfa
      · have : ndV x y (subN im n n.len.toNat) (argsV E n n.len.toNat) = ndV x y n (argsV E n n.len.toNat) := rfl
        exact this.trans (Prod.ext fv.symm fo)
    · have e : imA (im.set k (stepM most s im n).2) i = imA im i := by
        rw [Tm.imA_set (by omega) (by rw [hw.len]; exact hkl), if_neg (by omega)]
      rw [e] at him ⊢
      exact hw.q.2.2 c E' (hE.up hout.pre) hV' i hi him ho
end Go.Proofs.YtfbjgadgfjnamaaGreatDoor
namespace Go.Proofs.YtfbjgadgfjnamaaGreatDoor
open Go.RowKit
open Tm (NodeA NodeOk TabR mayT okFrom standsB MkS MkI PlA Pre Out WS srt WsN nodA imgM argA imA subN stepM WkS StepQ AllIm ImP QC badS sortsA srtA Cl ImsP OfErr FailP)
set_option linter.unusedVariables false
theorem srt_rng {c : List NodeA} (h : mayT c = true) {i : Int} (h0 : 0 ≤ i) (hl : i < (c.length : Int)) : srt c i = 0 ∨ srt c i = 1 ∨ srt c i = 2 ∨ srt c i = 3 ∨ srt c i = 4 ∨ srt c i = 5 := by
  obtain ⟨k, rfl⟩ : ∃ k : Nat, i = (k : Int) := ⟨i.toNat, by omega⟩
  have hst := (Tm.ok_at (Tm.mayT_ok h).2 (Tm.nodA_get (l := c) (k := k) (by omega))).1
  unfold Tm.standsB at hst
  rw [decide_eq_true_eq] at hst
  obtain ⟨_, s, _⟩ := hst
  unfold srt
  omega
theorem sorts_0 {c : List NodeA} {n : NodeA} (h : n.len = 0) : sortsN c n = [] := by unfold sortsN; rw [h]; rfl
theorem sorts_1 {c : List NodeA} {n : NodeA} (h : n.len = 1) : sortsN c n = [srt c n.a0] := by
  unfold sortsN; rw [h]
  show [srtN c n.a0] = _
  rw [srtN_srt]
theorem sorts_2 {c : List NodeA} {n : NodeA} (h : n.len = 2) : sortsN c n = [srt c n.a0, srt c n.a1] := by
  unfold sortsN; rw [h]
  show [srtN c n.a0, srtN c n.a1] = _
  rw [srtN_srt, srtN_srt]
theorem sorts_3 {c : List NodeA} {n : NodeA} (h : n.len = 3) : sortsN c n = [srt c n.a0, srt c n.a1, srt c n.a2] := by
  unfold sortsN; rw [h]
  show [srtN c n.a0, srtN c n.a1, srtN c n.a2] = _
  rw [srtN_srt, srtN_srt, srtN_srt]
theorem sortsA_N (c : List NodeA) (n : NodeA) : sortsA c n n.len.toNat = sortsN c n := by
  unfold sortsA sortsN
  refine List.map_congr_left fun j _ => ?_
  rw [argN_A, srtN_srt]; rfl
/-- A kind's Sort, of sorts that fit it, by either package. -/
theorem kind_ws {c : List NodeA} (hm : mayT c = true) {n : NodeA} {k : Nat} (hst : standsB n k = true) (hk : k ≤ c.length) (h13 : ¬ n.op = 13) (hw : WsN c n) : opE n.op (sortsN c n) = 0 ∧ opV n.op (sortsN c n) = n.sort ∧ badS c n = false := by
  have hfm := stands_form hst
  obtain ⟨_, hl, ha⟩ := Tm.stands_args hst
  have hlen := hl.resolve_left h13
  have key : opE n.op (sortsN c n) = 0 ∧ opV n.op (sortsN c n) = n.sort ∧ Tm.opA n.op (sortsN c n) = (n.sort, 0) := by
    have hr : n.op = 0 ∨ n.op = 1 ∨ n.op = 2 ∨ n.op = 3 ∨ n.op = 4 ∨ n.op = 5 ∨ n.op = 6 ∨ n.op = 7 ∨ n.op = 8 ∨ n.op = 9 ∨ n.op = 10 ∨ n.op = 11 ∨ n.op = 12 := by omega
    rcases hr with ho | ho | ho | ho | ho | ho | ho | ho | ho | ho | ho | ho | ho <;> rw [ho] at hlen ⊢
    · rw [sorts_0 hlen, hw.s0 ho]; exact ⟨rfl, rfl, rfl⟩
    · obtain ⟨e0, e1⟩ := hw.s1 ho
      rw [sorts_1 hlen, e0, e1]; exact ⟨rfl, rfl, rfl⟩
    · obtain ⟨e0, e1, e2⟩ := hw.s2 (by omega)
      rw [sorts_2 hlen, e0, e1, e2]; exact ⟨rfl, rfl, rfl⟩
    · obtain ⟨e0, e1, e2⟩ := hw.s2 (by omega)
      rw [sorts_2 hlen, e0, e1, e2]; exact ⟨rfl, rfl, rfl⟩
    · obtain ⟨e0, e1, e2⟩ := hw.s2 (by omega)
      rw [sorts_2 hlen, e0, e1, e2]; exact ⟨rfl, rfl, rfl⟩
    · obtain ⟨e0, e1, e2⟩ := hw.s2 (by omega)
      rw [sorts_2 hlen, e0, e1, e2]; exact ⟨rfl, rfl, rfl⟩
    · obtain ⟨e0, e1⟩ := hw.s6 ho
      have hl2 : n.len = 2 := hlen
      have p : 0 ≤ n.a0 ∧ n.a0 < (k : Int) := ha 0 (by omega)
      rw [sorts_2 hlen, e0, ← e1]
      rcases srt_rng hm p.1 (by omega) with e | e | e | e | e | e <;> rw [e] <;> exact ⟨rfl, rfl, rfl⟩
    · obtain ⟨e0, e1, e2⟩ := hw.s7 ho
      have hl2 : n.len = 3 := hlen
      have p : 0 ≤ n.a1 ∧ n.a1 < (k : Int) := ha 1 (by omega)
      rw [sorts_3 hlen, e0, e2, e1]
      have := srt_rng hm p.1 (by omega)
      rw [e1] at this
      rcases this with e | e | e | e | e | e <;> rw [e] <;> exact ⟨rfl, rfl, rfl⟩
    · obtain ⟨e0, e1, e2⟩ := hw.s8 (by omega)
      rw [sorts_2 hlen, e0, e1, e2]; exact ⟨rfl, rfl, rfl⟩
    · obtain ⟨e0, e1, e2⟩ := hw.s8 (by omega)
      rw [sorts_2 hlen, e0, e1, e2]; exact ⟨rfl, rfl, rfl⟩
    · rw [sorts_0 hlen, hw.s10 ho]; exact ⟨rfl, rfl, rfl⟩
    · obtain ⟨e0, e1⟩ := hw.s11 ho
      rw [sorts_1 hlen, e0, e1]; exact ⟨rfl, rfl, rfl⟩
    · obtain ⟨e0, e1, e2⟩ := hw.s8 (by omega)
      rw [sorts_2 hlen, e0, e1, e2]; exact ⟨rfl, rfl, rfl⟩
  refine ⟨key.1, key.2.1, ?_⟩
  unfold badS
  rw [if_neg h13]
  have e : srtA c n = (n.sort, 0) := by unfold srtA; rw [sortsA_N]; exact key.2.2
  rw [e]; simp
/-- A row that the document finds well sorted. -/
theorem ws_row {x : SigV} {t : List NodeA} {n : NodeA} {k : Nat} (hst : standsB n k = true) (h : rowT x t n = true) : WsN t n := by
  obtain ⟨r0, r1⟩ := row_facts h
  by_cases h13 : n.op = 13
  · exact ⟨fun e => by omega, fun e => by omega, fun e => by omega, fun e => by omega, fun e => by omega, fun e => by omega, fun e => by omega, fun e => by omega⟩
  unfold rulE at r0
  unfold rulV at r1
  rw [if_neg h13] at r0 r1
  obtain ⟨hm, s, hs, hs2⟩ := op_sorts r0
  rw [hs2] at r1
  subst r1
  rw [sortsN_len] at hm
  have hf := stands_form hst
  have hl := hf.2.2.2.2.resolve_left h13
  have g : ∀ j : Nat, (j : Int) < n.len → (sortsN t n).getD j 0 = srt t (argA n j) := fun j hj => by rw [sortsN_get hj, srtN_srt, argN_A]
  have two : n.op = 2 ∨ n.op = 3 ∨ n.op = 4 ∨ n.op = 5 ∨ n.op = 6 ∨ n.op = 8 ∨ n.op = 9 ∨ n.op = 12 → n.len = 2 := fun e => by
    rw [hl]; rcases e with e | e | e | e | e | e | e | e <;> rw [e] <;> decide
  refine ⟨fun e => ?_, fun e => ?_, fun e => ?_, fun e => ?_, fun e => ?_, fun e => ?_, fun e => ?_, fun e => ?_⟩
  · rw [e] at hs
    exact (Option.some.inj hs).symm
  · have hl1 : n.len = 1 := by rw [hl, e]; decide
    rw [e] at hs
    simp only [opO, Int.reduceEq, ite_false, or_self] at hs
    split at hs
    · rename_i hal
      exact ⟨(Option.some.inj hs).symm, (g 0 (by omega)).symm.trans (alike_at hal (j := 0) (by decide))⟩
    · cases hs
  · have hl2 := two (by omega)
    have hs' : (if alikeB (sortsN t n) 2 0 = true then some (0 : Int) else none) = some n.sort := by
      rcases e with e | e | e | e <;> rw [e] at hs <;> simp only [opO, Int.reduceEq, ite_false, or_self] at hs <;> exact hs
    split at hs'
    · rename_i hal
      exact ⟨(Option.some.inj hs').symm, (g 0 (by omega)).symm.trans (alike_at hal (j := 0) (by decide)), (g 1 (by omega)).symm.trans (alike_at hal (j := 1) (by decide))⟩
    · cases hs'
  · have hl2 := two (by omega)
    rw [e] at hs
    simp only [opO, Int.reduceEq, ite_false, ite_true] at hs
    split at hs
    · rename_i hal
      exact ⟨(Option.some.inj hs).symm, (g 0 (by omega)).symm.trans (hal.trans (g 1 (by omega)))⟩
    · cases hs
  · have hl3 : n.len = 3 := by rw [hl, e]; decide
    rw [e] at hs
    simp only [opO, Int.reduceEq, ite_false, ite_true] at hs
    split at hs
    · rename_i hal
      have e1 := Option.some.inj hs
      have q0 : (sortsN t n).getD 0 0 = srt t n.a0 := g 0 (by omega)
      have q1 : (sortsN t n).getD 1 0 = srt t n.a1 := g 1 (by omega)
      have q2 : (sortsN t n).getD 2 0 = srt t n.a2 := g 2 (by omega)
      exact ⟨q0.symm.trans hal.1, q1.symm.trans e1, q2.symm.trans (hal.2.symm.trans e1)⟩
    · cases hs
  · have hl2 := two (by omega)
    have hs' : (if alikeB (sortsN t n) 2 1 = true then some (0 : Int) else none) = some n.sort := by
      rcases e with e | e | e <;> rw [e] at hs <;> simp only [opO, Int.reduceEq, ite_false, ite_true, or_self, or_false, or_true] at hs <;> exact hs
    split at hs'
    · rename_i hal
      exact ⟨(Option.some.inj hs').symm, (g 0 (by omega)).symm.trans (alike_at hal (j := 0) (by decide)), (g 1 (by omega)).symm.trans (alike_at hal (j := 1) (by decide))⟩
    · cases hs'
  · rw [e] at hs
    exact (Option.some.inj hs).symm
  · have hl1 : n.len = 1 := by rw [hl, e]; decide
    rw [e] at hs
    simp only [opO, Int.reduceEq, ite_false, ite_true] at hs
    split at hs
    · rename_i hal
      exact ⟨(Option.some.inj hs).symm, (g 0 (by omega)).symm.trans (alike_at hal (j := 0) (by decide))⟩
    · cases hs
theorem Vals.ws {x : SigV} {y : WorV} {t : List NodeA} {E : List (Int × Bool)} (h : Vals x y t E) : ∀ n ∈ t, WsN t n := fun n hn => by
  obtain ⟨k, hk⟩ := List.getElem?_of_mem hn
  exact ws_row (Tm.ok_at (Tm.mayT_ok h.may).2 hk).1 (h.row k n hk)
theorem Vals.good {x : SigV} {y : WorV} {t : List NodeA} {E : List (Int × Bool)} (h : Vals x y t E) : t.any (badS t) = false := by
  rw [List.any_eq_false]
  intro n hn
  obtain ⟨k, hk⟩ := List.getElem?_of_mem hn
  by_cases h13 : n.op = 13
  · unfold badS; rw [if_pos h13]; simp
  · rw [(kind_ws h.may (Tm.ok_at (Tm.mayT_ok h.may).2 hk).1 (Nat.le_of_lt (List.getElem?_eq_some_iff.1 hk).1) h13 (h.ws n hn)).2.2]; simp
/-- A table that is well sorted and whose applications are another's has values. -/
theorem val_of {x : SigV} {y : WorV} {l : List NodeA} (hv : valE x y l = 0) {s : MkS} (hI : MkI s) (hW : WS s.l) (hA : AppQ l s) : valE x y s.l = 0 := by
  have hV := vals_of hv
  have hchk : checkQ x.a = true := by
    unfold valE at hv
    by_cases hc : mayT l = true ∧ worQ x y = true
    · rw [if_pos hc] at hv
      unfold tabE at hv
      by_cases h1 : checkQ x.a = true ∧ mayT l = true
      · exact h1.1
      · rw [if_neg h1] at hv; exact absurd hv (by decide)
    · rw [if_neg hc] at hv; exact absurd hv (by decide)
  have hrow : s.l.all (rowT x s.l) = true := by
    rw [List.all_eq_true]
    intro m hm
    obtain ⟨k, hk⟩ := List.getElem?_of_mem hm
    have hst := (Tm.ok_at (Tm.mayT_ok hI.may).2 hk).1
    unfold rowT
    by_cases h13 : m.op = 13
    · obtain ⟨n, h1, h2, h3, h4, h5, h6⟩ := hA m hm h13
      obtain ⟨j, hj⟩ := List.getElem?_of_mem h1
      obtain ⟨r0, r1⟩ := row_facts (hV.row j n hj)
      unfold rulE at r0 ⊢
      unfold rulV at r1 ⊢
      rw [if_pos h2] at r0 r1
      rw [if_pos h13, if_pos h13, h6, ← h3, ← h4, decide_eq_true r0, decide_eq_true r1]; rfl
    · obtain ⟨e1, e2, _⟩ := kind_ws hI.may hst (Nat.le_of_lt (List.getElem?_eq_some_iff.1 hk).1) h13 (hW m hm)
      unfold rulE rulV
      rw [if_neg h13, if_neg h13, decide_eq_true e1, decide_eq_true e2]; rfl
  have ht : tabE x s.l = 0 := by unfold tabE; rw [if_pos (And.intro hchk hI.may), if_pos hrow]
  unfold valE
  rw [if_pos (And.intro hI.may hV.wor), if_pos ht]
/-- What Of gives, in a world: the core table's values, and the images'. -/
theorem means_of {x : SigV} {y : WorV} {l : List NodeA} (hv : valE x y l = 0) {roots ims : List Int} {s : MkS} {im : List Int} (hw : WkS (QS x y l (evK x y l l.length)) l s im) (hi : ImsP (QS x y l (evK x y l l.length)) l roots s ims) (hr : ∀ r ∈ roots, 0 ≤ r ∧ r < (l.length : Int)) :
    valE x y s.l = 0 ∧ Cl s.l ∧ ∀ (j : Nat) (z r : Int), ims[j]? = some z → roots[j]? = some r → PlA s z ∧ srt s.l z = srt l r ∧ ((atV (evK x y l l.length) r).2 = false → (atV (evK x y s.l s.l.length) z).1 = (atV (evK x y l l.length) r).1) := by
  have hv2 := val_of hv hw.inv hw.q.1.1.2.1 hw.q.2.1
  refine ⟨hv2, Tm.cl_of hw.inv hw.q.1.1.1 hw.q.1.1.2.1 hw.q.1.2, fun j z r hz hjr => ?_⟩
  obtain ⟨s0, im0, w0, e0, n0, p0⟩ := hi j z r hz hjr
  have hrr := hr r (List.mem_of_getElem? hjr)
  obtain ⟨i, rfl⟩ : ∃ i : Nat, r = (i : Int) := ⟨r.toNat, by omega⟩
  rw [← e0] at n0 ⊢
  have hpl := w0.imp.at n0
  refine ⟨hpl.up p0, (Tm.srt_up hpl p0).trans (w0.q.1.1.2.2 i (by omega) n0), fun ho => ?_⟩
  exact (w0.q.2.2 s.l _ p0.pre (vals_of hv2) i (by omega) n0 ho).2
/-- Of's errors, of a table that has values. -/
theorem err_of {x : SigV} {y : WorV} {l : List NodeA} (hv : valE x y l = 0) {roots : List Int} {err : Int} {Q : MkS → List Int → Prop} {most : Int} (h : OfErr Q most l roots err) (h0 : ¬ err = 0) : err = 2 ∨ err = 10 ∨ err = 40 := by
  rcases h with ⟨rfl, _⟩ | ⟨_, _, hb⟩ | ⟨s', e, hI, hf⟩
  · exact .inl rfl
  · rw [(vals_of hv).good] at hb; cases hb
  · rcases hI.e with h1 | h1 | h1
    · exact absurd (e.trans h1) h0
    · exact .inr (.inl (e.trans h1))
    · exact .inr (.inr (e.trans h1))
end Go.Proofs.YtfbjgadgfjnamaaGreatDoor
