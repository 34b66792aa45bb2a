/- Core again: the second Of. -/
import Derived.Test.YtjibhkgphahbaaaDoorCpL0
namespace Go.Proofs.YtjibhkgphahbaaaDoor.Tm
open Go.RowKit
set_option linter.unusedVariables false
theorem len_le {α : Type} [DecidableEq α] : ∀ {l m : List α}, l.Nodup → (∀ x ∈ l, x ∈ m) → l.length ≤ m.length
  | [], m, _, _ => Nat.zero_le _
  | x :: r, m, hn, hs => by
    have h1 := List.nodup_cons.1 hn
    have hx := hs x (List.mem_cons_self ..)
    have h2 : r.length ≤ (m.erase x).length := len_le h1.2 (fun y hy => (List.mem_erase_of_ne (fun e => h1.1 (by rw [← e]; exact hy))).2 (hs y (List.mem_cons_of_mem _ hy)))
    rw [List.length_erase_of_mem hx] at h2
    have : 0 < m.length := List.length_pos_of_mem hx
    rw [List.length_cons]; omega
theorem ok_once {l : List NodeA} (h : okFrom [] l = true) {i j : Nat} {x : NodeA} (hi : l[i]? = some x) (hj : l[j]? = some x) : i = j := by
  rcases Nat.lt_trichotomy i j with h1 | h1 | h1
  · exact absurd hi ((ok_at h hj).2 i h1)
  · exact h1
  · exact absurd hj ((ok_at h hi).2 j h1)
theorem ok_nodup {l : List NodeA} (h : okFrom [] l = true) : l.Nodup := by
  rw [List.nodup_iff_pairwise_ne, List.pairwise_iff_getElem]
  intro i j hi hj hij e
  have h1 : l[i]? = some l[i] := List.getElem?_eq_getElem hi
  have h2 : l[j]? = some l[i] := by rw [List.getElem?_eq_getElem hj, e]
  have := ok_once h h1 h2
  omega
theorem MkI.once {s : MkS} (h : MkI s) {a b : Int} (ha : PlA s a) (hb : PlA s b) (e : nodA s.l a = nodA s.l b) : a = b := by
  obtain ⟨i, rfl, hi⟩ := ha.nat
  obtain ⟨j, rfl, hj⟩ := hb.nat
  have h1 := nodA_get hi
  have h2 := nodA_get hj
  rw [← e] at h2
  rw [ok_once (mayT_ok h.may).2 h1 h2]
theorem ok_of_st {n : NodeA} {k : Nat} (h : standsB n k = true) (hk : k ≤ 2000) : NodeOk n := by
  unfold standsB at h
  rw [decide_eq_true_eq] at h
  obtain ⟨⟨o1, o2, o3⟩, ⟨s1, s2⟩, a0, a1, a2⟩ := h
  have hl : 0 ≤ n.len ∧ n.len ≤ 3 ∧ (0 ≤ n.fn ∧ n.fn < 12) ∧ mayB n.num = true := by
    split at o3
    · exact ⟨o3.1, o3.2.1, ⟨o3.2.2.1, o3.2.2.2.1⟩, by rw [o3.2.2.2.2]; rfl⟩
    · rename_i h13
      have ha : 0 ≤ arityA n.op ∧ arityA n.op ≤ 3 := by
        have hr : n.op = 0 ∨ n.op = 1 ∨ n.op = 2 ∨ n.op = 3 ∨ n.op = 4 ∨ n.op = 5 ∨ n.op = 6 ∨ n.op = 7 ∨ n.op = 8 ∨ n.op = 9 ∨ n.op = 10 ∨ n.op = 11 ∨ n.op = 12 := by omega
        rcases hr with h | h | h | h | h | h | h | h | h | h | h | h | h <;> rw [h] <;> decide
      split at o3
      · exact ⟨by omega, by omega, by rw [o3.2.1]; decide, o3.2.2⟩
      · exact ⟨by omega, by omega, by rw [o3.2.1]; decide, by rw [o3.2.2]; rfl⟩
  have arg : ∀ (x : Int) (i : Nat), ArgP n.len x i k → I64 x := fun x i h => by
    by_cases hi : (i : Int) < n.len
    · have := h.1 hi; exact ⟨by omega, by omega⟩
    · rw [h.2 (by omega)]; exact z64
  exact ⟨⟨by omega, by omega⟩, ⟨by omega, by omega⟩, arg _ 0 a0, arg _ 1 a1, arg _ 2 a2, ⟨by omega, by omega⟩, ⟨by omega, by omega⟩, may_i64 hl.2.2.2⟩
def phi (im : List Int) (x : Int) : Int := if x = 0 ∨ x = 1 then x else if x < 0 then -1 else imA im x
def mapA (f : Int → Int) (n : NodeA) : NodeA := { n with a0 := if 0 < n.len then f n.a0 else n.a0, a1 := if 1 < n.len then f n.a1 else n.a1, a2 := if 2 < n.len then f n.a2 else n.a2 }
def ownEq (c : List NodeA) (n : NodeA) : Prop := n.op = 6 ∧ ¬ srt c n.a0 = 0
instance (c : List NodeA) (n : NodeA) : Decidable (ownEq c n) := by unfold ownEq; infer_instance
/-- A node of the first table as it lies in the second. -/
def mapN (c : List NodeA) (f : Int → Int) (n : NodeA) : NodeA := if ownEq c n then two2 6 (min (f n.a0) (f n.a1)) (max (f n.a0) (f n.a1)) 0 else mapA f n
/-- What is so of a core table: once more is no more. -/
structure Cl (c : List NodeA) : Prop where
  may : mayT c = true
  len : c.length ≤ 2000
  qo : QO c
  ws : WS c
  no4 : ∀ n ∈ c, ¬ n.op = 4 ∧ ¬ n.op = 5 ∧ ¬ n.op = 8 ∧ ¬ n.op = 9
  nn : ∀ n ∈ c, n.op = 1 → ¬ (nodA c n.a0).op = 1
  eq : ∀ n ∈ c, n.op = 6 → ¬ srt c n.a0 = 1 ∧ (¬ srt c n.a0 = 0 → n.a0 < n.a1)
  ite : ∀ (k : Nat) (n : NodeA), c[k]? = some n → n.op = 7 → ¬ n.a1 = n.a2 ∧
    (n.sort = 1 → ∀ i, i = n.a1 ∨ i = n.a2 → two2 12 k (splitA c i).1 (splitA c i).2 ∈ c ∧ two2 12 (splitA c i).1 k (-(splitA c i).2) ∈ c) ∧
    (¬ n.sort = 0 → ¬ n.sort = 1 → ∀ i, i = n.a1 ∨ i = n.a2 → two2 6 i k 0 ∈ c)
theorem Cl.st {c : List NodeA} (h : Cl c) {k : Nat} {n : NodeA} (hk : c[k]? = some n) : standsB n k = true := (ok_at (mayT_ok h.may).2 hk).1
theorem Cl.fits {c : List NodeA} (h : Cl c) {k : Nat} {n : NodeA} (hk : c[k]? = some n) : StandsP n k := by
  have := h.st hk
  unfold standsB at this
  exact of_decide_eq_true this
theorem own_two {c : List NodeA} (h : Cl c) {n : NodeA} (hn : n ∈ c) (ho : n.op = 6) : n.len = 2 ∧ n.a2 = 0 ∧ n.sort = 0 ∧ n.fn = 0 ∧ n.num = 0 := by
  obtain ⟨k, hk⟩ := List.getElem?_of_mem hn
  obtain ⟨⟨_, _, o3⟩, _, _, _, a2⟩ := h.fits hk
  rw [if_neg (by omega), if_neg (by omega)] at o3
  have hl : n.len = 2 := by rw [o3.1, ho]; decide
  exact ⟨hl, a2.2 (by omega), ((h.ws n hn).s6 ho).1, o3.2.1, o3.2.2⟩
theorem mapN_op (c : List NodeA) (f : Int → Int) (n : NodeA) : (mapN c f n).op = n.op := by
  unfold mapN
  split
  · rename_i h; exact h.1.symm
  · rfl
theorem mapN_rest {c : List NodeA} (h : Cl c) (f : Int → Int) {n : NodeA} (hn : n ∈ c) : (mapN c f n).len = n.len ∧ (mapN c f n).sort = n.sort ∧ (mapN c f n).fn = n.fn ∧ (mapN c f n).num = n.num := by
  unfold mapN
  split
  · rename_i ho
    obtain ⟨h1, h2, h3, h4, h5⟩ := own_two h hn ho.1
    rw [h1, h3, h4, h5]
    exact ⟨rfl, rfl, rfl, rfl⟩
  · exact ⟨rfl, rfl, rfl, rfl⟩
/-- All arguments are mapped. -/
def Mpd (f : Int → Int) (n : NodeA) : Prop := ∀ j : Nat, (j : Int) < n.len → ¬ f (argA n j) = -1
theorem mapA_agree {f g : Int → Int} (hf : ∀ x, ¬ f x = -1 → g x = f x) {n : NodeA} (hn : Mpd f n) : mapA g n = mapA f n := by
  unfold mapA
  have e0 : (if 0 < n.len then g n.a0 else n.a0) = if 0 < n.len then f n.a0 else n.a0 := by
    split
    · rename_i h; exact hf _ (hn 0 h)
    · rfl
  have e1 : (if 1 < n.len then g n.a1 else n.a1) = if 1 < n.len then f n.a1 else n.a1 := by
    split
    · rename_i h; exact hf _ (hn 1 h)
    · rfl
  have e2 : (if 2 < n.len then g n.a2 else n.a2) = if 2 < n.len then f n.a2 else n.a2 := by
    split
    · rename_i h; exact hf _ (hn 2 h)
    · rfl
  rw [e0, e1, e2]
theorem mapN_agree {c : List NodeA} (h : Cl c) {f g : Int → Int} (hf : ∀ x, ¬ f x = -1 → g x = f x) {n : NodeA} (hc : n ∈ c) (hn : Mpd f n) : mapN c g n = mapN c f n := by
  unfold mapN
  split
  · rename_i ho
    have hl := (own_two h hc ho.1).1
    rw [hf n.a0 (hn 0 (by omega)), hf n.a1 (hn 1 (by omega))]
  · exact mapA_agree hf hn
def ImN (c : List NodeA) (f : Int → Int) (m : NodeA) : Prop := ∃ n, n ∈ c ∧ m = mapN c f n ∧ Mpd f n
theorem ImN.agree {c : List NodeA} (h : Cl c) {f g : Int → Int} (hf : ∀ x, ¬ f x = -1 → g x = f x) {m : NodeA} (hm : ImN c f m) : ImN c g m := by
  obtain ⟨n, h1, h2, h3⟩ := hm
  exact ⟨n, h1, by rw [h2, mapN_agree h hf h1 h3], fun j hj => by rw [hf _ (h3 j hj)]; exact h3 j hj⟩
/-- The second table, each of whose nodes is one of the first. -/
structure Cov (c : List NodeA) (f : Int → Int) (s : MkS) : Prop where
  inv : MkI s
  e : s.e = 0
  im : ∀ m ∈ s.l, ImN c f m
theorem Cov.agree {c : List NodeA} (h : Cl c) {f g : Int → Int} (hf : ∀ x, ¬ f x = -1 → g x = f x) {s : MkS} (hs : Cov c f s) : Cov c g s := ⟨hs.inv, hs.e, fun m hm => (hs.im m hm).agree h hf⟩
theorem im_len {c : List NodeA} {f : Int → Int} {l : List NodeA} (h : okFrom [] l = true) (hi : ∀ m ∈ l, ImN c f m) : l.length ≤ c.length := by
  have := len_le (m := c.map (mapN c f)) (ok_nodup h) (fun x hx => by
    obtain ⟨n, h1, h2, _⟩ := hi x hx
    rw [h2]; exact List.mem_map_of_mem h1)
  rwa [List.length_map] at this
/-- A put of what is in the first table: no error. -/
theorem put_cov {c : List NodeA} (h : Cl c) {f : Int → Int} {s : MkS} {m : NodeA} (hs : Cov c f s) (hm : ImN c f m) (hst : standsB m s.l.length = true) : Cov c f (putM 2000 s m).1 ∧ Pre s (putM 2000 s m).1 ∧ PlA (putM 2000 s m).1 (putM 2000 s m).2 ∧ nodA (putM 2000 s m).1.l (putM 2000 s m).2 = m := by
  have ho := put_out (most := 2000) hs.inv (by decide) (ok_of_st hst hs.inv.len) (fun _ => hst)
  have key : (putM 2000 s m).1.e = 0 ∧ (∀ x ∈ (putM 2000 s m).1.l, ImN c f x) ∧ nodA (putM 2000 s m).1.l (putM 2000 s m).2 = m := by
    unfold putM
    rw [if_neg (fun h => h hs.e)]
    by_cases hi : m ∈ s.l
    · rw [if_pos hi]
      exact ⟨hs.e, hs.im, Option.some.inj ((nodA_get (fndN_lt.1 hi)).symm.trans (fndN_get hi))⟩
    · rw [if_neg hi]
      have hall : ∀ x ∈ s.l ++ [m], ImN c f x := fun x hx => by
        rcases List.mem_append.1 hx with h1 | h1
        · exact hs.im x h1
        · rw [List.mem_singleton.1 h1]; exact hm
      have hlen := im_len (mayT_ok (mayT_snoc hs.inv.may hst hi)).2 hall
      have hcl := h.len
      rw [List.length_append, List.length_singleton] at hlen
      rw [if_neg (by omega)]
      refine ⟨rfl, hall, ?_⟩
      have h1 : (s.l ++ [m])[s.l.length]? = some m := by rw [List.getElem?_append_right (Nat.le_refl _), Nat.sub_self]; rfl
      exact Option.some.inj ((nodA_get (l := s.l ++ [m]) (k := s.l.length) (by simp)).symm.trans h1)
  exact ⟨⟨ho.inv, key.1, key.2.1⟩, ho.pre, ho.pl, key.2.2⟩
end Go.Proofs.YtjibhkgphahbaaaDoor.Tm
namespace Go.Proofs.YtjibhkgphahbaaaDoor.Tm
open Go.RowKit
set_option linter.unusedVariables false
/-- What holds at each stop of the second walk. -/
structure Q2 (c : List NodeA) (s : MkS) (im : List Int) : Prop where
  cov : ∀ m ∈ s.l, ImN c (phi im) m
  at_ : ∀ k : Nat, k < c.length → ¬ phi im k = -1 → nodA s.l (phi im k) = mapN c (phi im) (nodA c k) ∧ Mpd (phi im) (nodA c k)
  z : imA im 0 = -1 ∨ imA im 0 = 0
  o : imA im 1 = -1 ∨ imA im 1 = 1
theorem phi_im {c : List NodeA} {s : MkS} {im : List Int} (h : Q2 c s im) {x : Int} (h0 : 0 ≤ x) (hx : ¬ imA im x = -1) : phi im x = imA im x := by
  unfold phi
  split
  · rename_i h1
    rcases h1 with rfl | rfl
    · exact (h.z.resolve_left hx).symm
    · exact (h.o.resolve_left hx).symm
  · rw [if_neg (by omega)]
theorem phi_pl {s : MkS} {im : List Int} (hi : MkI s) (hp : ImP s im) {x : Int} (hx : ¬ phi im x = -1) : PlA s (phi im x) := by
  unfold phi at hx ⊢
  split
  · rename_i h1
    rcases h1 with rfl | rfl
    · exact PlA.zero hi
    · exact PlA.one hi
  · rename_i h1
    rw [if_neg h1] at hx
    by_cases h2 : x < 0
    · rw [if_pos h2] at hx; exact absurd rfl hx
    · rw [if_neg h2] at hx ⊢; exact hp.at hx
/-- A place of the first table that is mapped: its node's kind and Sort. -/
theorem Q2.node {c : List NodeA} (h : Cl c) {s : MkS} {im : List Int} (hq : Q2 c s im) {k : Nat} (hk : k < c.length) (hx : ¬ phi im k = -1) : (nodA s.l (phi im k)).op = (nodA c k).op ∧ (nodA s.l (phi im k)).sort = (nodA c k).sort ∧ (nodA s.l (phi im k)).num = (nodA c k).num := by
  have e := (hq.at_ k hk hx).1
  rw [e]
  exact ⟨mapN_op _ _ _, (mapN_rest h _ (nodA_mem hk)).2.1, (mapN_rest h _ (nodA_mem hk)).2.2.2⟩
theorem Cl.arg {c : List NodeA} (h : Cl c) {k : Nat} (hk : k < c.length) {j : Nat} (hj : (j : Int) < (nodA c k).len) : ∃ m : Nat, argA (nodA c k) j = (m : Int) ∧ m < k := by
  obtain ⟨_, _, ha⟩ := stands_args (h.st (nodA_get hk))
  have := ha j hj
  exact ⟨(argA (nodA c k) j).toNat, by omega, by omega⟩
theorem Cl.out {c : List NodeA} (h : Cl c) {k : Nat} (hk : k < c.length) : ((nodA c k).len ≤ 0 → (nodA c k).a0 = 0) ∧ ((nodA c k).len ≤ 1 → (nodA c k).a1 = 0) ∧ ((nodA c k).len ≤ 2 → (nodA c k).a2 = 0) := by
  obtain ⟨_, _, a0, a1, a2⟩ := h.fits (nodA_get hk)
  exact ⟨a0.2, a1.2, a2.2⟩
theorem mapA_eq {f : Int → Int} {a b : NodeA} (e : mapA f a = mapA f b) (h0 : 0 < a.len → f a.a0 = f b.a0 → a.a0 = b.a0) (h1 : 1 < a.len → f a.a1 = f b.a1 → a.a1 = b.a1) (h2 : 2 < a.len → f a.a2 = f b.a2 → a.a2 = b.a2)
    (oa : (a.len ≤ 0 → a.a0 = 0) ∧ (a.len ≤ 1 → a.a1 = 0) ∧ (a.len ≤ 2 → a.a2 = 0)) (ob : (b.len ≤ 0 → b.a0 = 0) ∧ (b.len ≤ 1 → b.a1 = 0) ∧ (b.len ≤ 2 → b.a2 = 0)) : a = b := by
  obtain ⟨ao, al, aa, ab, ac, at_, af, an⟩ := a
  obtain ⟨bo, bl, ba, bb, bc, bs, bf, bn⟩ := b
  simp only [mapA, NodeA.mk.injEq] at e h0 h1 h2 oa ob
  obtain ⟨e1, e2, e3, e4, e5, e6, e7, e8⟩ := e
  subst e1 e2 e6 e7 e8
  simp only [NodeA.mk.injEq, true_and, and_true]
  refine ⟨?_, ?_, ?_⟩
  · by_cases hl : 0 < al
    · rw [if_pos hl, if_pos hl] at e3; exact h0 hl e3
    · rw [oa.1 (by omega), ob.1 (by omega)]
  · by_cases hl : 1 < al
    · rw [if_pos hl, if_pos hl] at e4; exact h1 hl e4
    · rw [oa.2.1 (by omega), ob.2.1 (by omega)]
  · by_cases hl : 2 < al
    · rw [if_pos hl, if_pos hl] at e5; exact h2 hl e5
    · rw [oa.2.2 (by omega), ob.2.2 (by omega)]
theorem own_mk {n : NodeA} (h0 : n.op = 6) (h1 : n.len = 2) (h2 : n.a2 = 0) (h3 : n.sort = 0) (h4 : n.fn = 0) (h5 : n.num = 0) : n = two2 6 n.a0 n.a1 0 := by
  obtain ⟨o, l, a, b, c, s, f, m⟩ := n
  simp only at h0 h1 h2 h3 h4 h5
  subst h0 h1 h2 h3 h4 h5
  rfl
theorem Q2.srt_of {c : List NodeA} (h : Cl c) {s : MkS} {im : List Int} (hq : Q2 c s im) {k p : Nat} (hk : k < c.length) (hp : (p : Int) < (nodA c k).len) (hm : Mpd (phi im) (nodA c k)) : srt s.l (phi im (argA (nodA c k) p)) = srt c (argA (nodA c k) p) := by
  obtain ⟨x, ex, hxl⟩ := h.arg hk hp
  have := hm p hp
  rw [ex] at this ⊢
  exact (hq.node h (by omega) this).2.1
theorem Q2.own_of {c : List NodeA} (h : Cl c) {s : MkS} {im : List Int} (hq : Q2 c s im) {i j : Nat} (hi : i < c.length) (hj : j < c.length) (a2 : Mpd (phi im) (nodA c i)) (b2 : Mpd (phi im) (nodA c j)) (em : mapN c (phi im) (nodA c i) = mapN c (phi im) (nodA c j)) (ho : ownEq c (nodA c i)) : ownEq c (nodA c j) := by
  have ho6 := ho.1
  have hj6 : (nodA c j).op = 6 := by have := congrArg NodeA.op em; rw [mapN_op, mapN_op] at this; omega
  have l1 := (own_two h (nodA_mem hi) ho6).1
  have l2 := (own_two h (nodA_mem hj) hj6).1
  have si0 : srt s.l (phi im (nodA c i).a0) = srt c (nodA c i).a0 := hq.srt_of h hi (p := 0) (by omega) a2
  have si1 : srt s.l (phi im (nodA c i).a1) = srt c (nodA c i).a1 := hq.srt_of h hi (p := 1) (by omega) a2
  have sj0 : srt s.l (phi im (nodA c j).a0) = srt c (nodA c j).a0 := hq.srt_of h hj (p := 0) (by omega) b2
  have wi := ((h.ws _ (nodA_mem hi)).s6 ho6).2
  refine Decidable.of_not_not (fun hoj => ?_)
  unfold mapN at em
  rw [if_pos ho, if_neg hoj] at em
  have m0 : min (phi im (nodA c i).a0) (phi im (nodA c i).a1) = (if 0 < (nodA c j).len then phi im (nodA c j).a0 else (nodA c j).a0) := congrArg NodeA.a0 em
  rw [if_pos (by omega)] at m0
  have z : srt c (nodA c j).a0 = 0 := Decidable.of_not_not (fun hz => hoj ⟨hj6, hz⟩)
  have : srt s.l (min (phi im (nodA c i).a0) (phi im (nodA c i).a1)) = srt c (nodA c i).a0 := by
    rcases Int.le_total (phi im (nodA c i).a0) (phi im (nodA c i).a1) with hle | hle
    · rw [Int.min_eq_left hle]; exact si0
    · rw [Int.min_eq_right hle, si1]; exact wi.symm
  rw [m0, sj0, z] at this
  exact ho.2 this.symm
/-- No two places of the first table are mapped to one. -/
theorem Q2.inj {c : List NodeA} (h : Cl c) {s : MkS} {im : List Int} (hq : Q2 c s im) : ∀ N i j : Nat, i + j ≤ N → i < c.length → j < c.length → ¬ phi im i = -1 → phi im i = phi im j → i = j := by
  intro N
  induction N with
  | zero => intro i j hN _ _ _ _; omega
  | succ N ih =>
    intro i j hN hi hj hx e
    have hy : ¬ phi im j = -1 := by rw [← e]; exact hx
    obtain ⟨a1, a2⟩ := hq.at_ i hi hx
    obtain ⟨b1, b2⟩ := hq.at_ j hj hy
    have em : mapN c (phi im) (nodA c i) = mapN c (phi im) (nodA c j) := by rw [← a1, ← b1, e]
    have hop : (nodA c i).op = (nodA c j).op := by have := congrArg NodeA.op em; rwa [mapN_op, mapN_op] at this
    have hlen : (nodA c i).len = (nodA c j).len := by have := congrArg NodeA.len em; rwa [(mapN_rest h _ (nodA_mem hi)).1, (mapN_rest h _ (nodA_mem hj)).1] at this
    -- arguments of one image are one
    have arg : ∀ p q : Nat, (p : Int) < (nodA c i).len → (q : Int) < (nodA c j).len → phi im (argA (nodA c i) p) = phi im (argA (nodA c j) q) → argA (nodA c i) p = argA (nodA c j) q := fun p q hp hq2 e2 => by
      obtain ⟨x, ex, hxl⟩ := h.arg hi hp
      obtain ⟨y, ey, hyl⟩ := h.arg hj hq2
      have hm := a2 p hp
      rw [ex] at hm e2
      rw [ey] at e2
      have hxy : x = y := ih x y (by omega) (by omega) (by omega) hm e2
      rw [ex, ey, hxy]
    have heq : nodA c i = nodA c j := by
      by_cases ho : ownEq c (nodA c i)
      · have ho6 := ho.1
        have hj6 : (nodA c j).op = 6 := by rw [← hop]; exact ho6
        obtain ⟨l1, x2, x3, x4, x5⟩ := own_two h (nodA_mem hi) ho6
        obtain ⟨l2, y2, y3, y4, y5⟩ := own_two h (nodA_mem hj) hj6
        have q0 : argA (nodA c i) 0 = (nodA c i).a0 := rfl
        have q1 : argA (nodA c i) 1 = (nodA c i).a1 := rfl
        have r0 : argA (nodA c j) 0 = (nodA c j).a0 := rfl
        have r1 : argA (nodA c j) 1 = (nodA c j).a1 := rfl
        have hoj := hq.own_of h hi hj a2 b2 em ho
        · unfold mapN at em
          rw [if_pos ho, if_pos hoj] at em
          have m0 : min (phi im (nodA c i).a0) (phi im (nodA c i).a1) = min (phi im (nodA c j).a0) (phi im (nodA c j).a1) := congrArg NodeA.a0 em
          have m1 : max (phi im (nodA c i).a0) (phi im (nodA c i).a1) = max (phi im (nodA c j).a0) (phi im (nodA c j).a1) := congrArg NodeA.a1 em
          have li := (h.eq _ (nodA_mem hi) ho6).2 ho.2
          have lj := (h.eq _ (nodA_mem hj) hj6).2 hoj.2
          have t00 := arg 0 0 (by omega) (by omega)
          have t01 := arg 0 1 (by omega) (by omega)
          have t10 := arg 1 0 (by omega) (by omega)
          have t11 := arg 1 1 (by omega) (by omega)
          rw [q0, r0] at t00
          rw [q0, r1] at t01
          rw [q1, r0] at t10
          rw [q1, r1] at t11
          have hh : (nodA c i).a0 = (nodA c j).a0 ∧ (nodA c i).a1 = (nodA c j).a1 := by
            by_cases c1 : phi im (nodA c i).a0 = phi im (nodA c j).a0
            · exact ⟨t00 c1, t11 (by omega)⟩
            · have := t01 (by omega)
              have := t10 (by omega)
              omega
          have e1 := own_mk ho6 l1 x2 x3 x4 x5
          have e2 := own_mk hj6 l2 y2 y3 y4 y5
          rw [e1, e2, hh.1, hh.2]
      · have hoj : ¬ ownEq c (nodA c j) := fun hoj => ho (hq.own_of h hj hi b2 a2 em.symm hoj)
        unfold mapN at em
        rw [if_neg ho, if_neg hoj] at em
        exact mapA_eq em (fun hl e0 => arg 0 0 hl (by omega) e0) (fun hl e0 => arg 1 1 hl (by omega) e0) (fun hl e0 => arg 2 2 hl (by omega) e0) (h.out hi) (h.out hj)
    have g1 := nodA_get hi
    have g2 := nodA_get hj
    rw [← heq] at g2
    exact ok_once (mayT_ok h.may).2 g1 g2
end Go.Proofs.YtjibhkgphahbaaaDoor.Tm
namespace Go.Proofs.YtjibhkgphahbaaaDoor.Tm
open Go.RowKit
set_option linter.unusedVariables false
theorem nodA_up {a b : MkS} {i : Int} (h : PlA a i) (k : Pre a b) : nodA b.l i = nodA a.l i := by
  obtain ⟨r, hr⟩ := k.pre
  rw [hr]; exact nodA_pre r h.1 h.2
/-- The node's image is set. -/
theorem Q2.fin {c : List NodeA} (h : Cl c) {s : MkS} {im : List Int} (hq : Q2 c s im) (hi : MkI s) (hp : ImP s im) (hlen : im.length = c.length) {k : Nat} (hk : k < c.length) (ha : Mpd (phi im) (nodA c k)) {s' : MkS} {v : Int} (hs' : Cov c (phi im) s') (pre : Pre s s') (hv : PlA s' v) (hn : nodA s'.l v = mapN c (phi im) (nodA c k)) :
    (∀ x, ¬ phi im x = -1 → phi (im.set k v) x = phi im x) ∧ phi (im.set k v) k = v ∧ Q2 c s' (im.set k v) := by
  have hkl : k < im.length := by omega
  have same : ¬ phi im k = -1 → v = phi im k := fun hx => by
    have hpl := phi_pl hi hp hx
    exact hs'.inv.once hv (hpl.up pre) (by rw [hn, nodA_up hpl pre, (hq.at_ k hk hx).1])
  have set : ∀ x : Int, ¬ x = 0 → ¬ x = 1 → phi (im.set k v) x = if x = (k : Int) then v else phi im x := fun x h0 h1 => by
    have h2 : ¬ (x = 0 ∨ x = 1) := by omega
    unfold phi
    rw [if_neg h2, if_neg h2]
    by_cases hx : x < 0
    · have h3 : ¬ x = (k : Int) := by omega
      rw [if_pos hx, if_pos hx, if_neg h3]
    · rw [if_neg hx, if_neg hx, imA_set (by omega) hkl]
  have low : ∀ (g : List Int) (x : Int), x = 0 ∨ x = 1 → phi g x = x := fun g x hx => by unfold phi; rw [if_pos hx]
  have agree : ∀ x, ¬ phi im x = -1 → phi (im.set k v) x = phi im x := fun x hx => by
    by_cases h01 : x = 0 ∨ x = 1
    · rw [low _ _ h01, low _ _ h01]
    · rw [set x (by omega) (by omega)]
      by_cases hxk : x = (k : Int)
      · rw [if_pos hxk, hxk]; rw [hxk] at hx; exact same hx
      · rw [if_neg hxk]
  have self : phi (im.set k v) k = v := by
    by_cases h01 : (k : Int) = 0 ∨ (k : Int) = 1
    · have e := low im k h01
      rw [low _ _ h01, same (by rw [e]; omega), e]
    · rw [set k (by omega) (by omega), if_pos rfl]
  refine ⟨agree, self, (hs'.agree h agree).im, fun j hj hx => ?_, ?_, ?_⟩
  · by_cases hold : phi im j = -1
    · have hjk : j = k := by
        refine Decidable.of_not_not (fun hne => ?_)
        by_cases h01 : (j : Int) = 0 ∨ (j : Int) = 1
        · rw [low _ _ h01] at hold; omega
        · rw [set j (by omega) (by omega), if_neg (by omega)] at hx
          exact hx hold
      subst hjk
      rw [self, hn, mapN_agree h agree (nodA_mem hj) ha]
      exact ⟨rfl, fun q hq2 => by rw [agree _ (ha q hq2)]; exact ha q hq2⟩
    · obtain ⟨e1, e2⟩ := hq.at_ j hj hold
      rw [agree _ hold, nodA_up (phi_pl hi hp hold) pre, e1, mapN_agree h agree (nodA_mem hj) e2]
      exact ⟨rfl, fun q hq2 => by rw [agree _ (e2 q hq2)]; exact e2 q hq2⟩
  · rw [imA_set (by decide) hkl]
    by_cases hk0 : (0 : Int) = (k : Int)
    · rw [if_pos hk0]
      have e := low im k (by omega)
      right
      rw [same (by rw [e]; omega), e]; exact hk0.symm
    · rw [if_neg hk0]; exact hq.z
  · rw [imA_set (by decide) hkl]
    by_cases hk0 : (1 : Int) = (k : Int)
    · rw [if_pos hk0]
      have e := low im k (by omega)
      right
      rw [same (by rw [e]; omega), e]; exact hk0.symm
    · rw [if_neg hk0]; exact hq.o
theorem Q2.up {c : List NodeA} {s s' : MkS} {im : List Int} (hq : Q2 c s im) (hi : MkI s) (hp : ImP s im) (hs' : Cov c (phi im) s') (pre : Pre s s') : Q2 c s' im :=
  ⟨hs'.im, fun k hk hx => ⟨by rw [nodA_up (phi_pl hi hp hx) pre]; exact (hq.at_ k hk hx).1, (hq.at_ k hk hx).2⟩, hq.z, hq.o⟩
theorem ImP.up {s s' : MkS} {im : List Int} (h : ImP s im) (pre : Pre s s') : ImP s' im := fun x hx => (h x hx).imp id (fun h => h.up pre)
/-- The base of a mapped place is mapped, and the offset is the same. -/
theorem Q2.split {c : List NodeA} (h : Cl c) {s : MkS} {im : List Int} (hq : Q2 c s im) {a : Nat} (ha : a < c.length) (hx : ¬ phi im a = -1) : ∃ x : Nat, (splitA c a).1 = (x : Int) ∧ x < c.length ∧ ¬ phi im x = -1 ∧ splitA s.l (phi im a) = (phi im x, (splitA c a).2) := by
  obtain ⟨e1, e2⟩ := hq.at_ a ha hx
  have hop : (nodA s.l (phi im a)).op = (nodA c a).op := (hq.node h ha hx).1
  have hnum : (nodA s.l (phi im a)).num = (nodA c a).num := (hq.node h ha hx).2.2
  have hc2 := mayT_len h.may
  unfold splitA
  rw [hop, hnum]
  by_cases h10 : (nodA c a).op = 10
  · rw [if_pos h10, if_pos h10]
    exact ⟨1, rfl, by omega, by unfold phi; rw [if_pos (.inr rfl)]; decide, by unfold phi; rw [if_pos (.inr rfl)]; rfl⟩
  · rw [if_neg h10, if_neg h10]
    by_cases h11 : (nodA c a).op = 11
    · rw [if_pos h11, if_pos h11]
      have hl : (nodA c a).len = 1 := by
        obtain ⟨_, hl, _⟩ := stands_args (h.st (nodA_get ha))
        rcases hl with h | h
        · omega
        · rw [h, h11]; decide
      obtain ⟨x, ex, hxl⟩ := h.arg ha (j := 0) (by omega)
      have ex : (nodA c a).a0 = (x : Int) := ex
      have hm := e2 0 (by omega)
      have hm : ¬ phi im (nodA c a).a0 = -1 := hm
      refine ⟨x, ex, by omega, by rw [← ex]; exact hm, ?_⟩
      rw [e1]
      have : (mapN c (phi im) (nodA c a)).a0 = phi im (nodA c a).a0 := by
        unfold mapN
        rw [if_neg (fun ho => by have := ho.1; omega)]
        show (if 0 < (nodA c a).len then _ else _) = _
        rw [if_pos (by omega)]
      rw [this, ex]
    · rw [if_neg h11, if_neg h11]
      exact ⟨a, rfl, ha, hx, rfl⟩
theorem two_map {c : List NodeA} {f : Int → Int} {x y d : Int} : mapN c f (two2 12 x y d) = two2 12 (f x) (f y) d := by
  unfold mapN
  rw [if_neg (fun ho => absurd ho.1 (by show ¬ (12 : Int) = 6; decide))]
  rfl
theorem two_mpd {f : Int → Int} {op x y d : Int} (hx : ¬ f x = -1) (hy : ¬ f y = -1) : Mpd f (two2 op x y d) := fun j hj => by
  have hj2 : (j : Int) < 2 := hj
  have hc : j = 0 ∨ j = 1 := by omega
  rcases hc with rfl | rfl
  · exact hx
  · exact hy
/-- A difference that is in the first table is put. -/
theorem Q2.le {c : List NodeA} (h : Cl c) {s : MkS} {im : List Int} (hq : Q2 c s im) (hs : Cov c (phi im) s) (hp : ImP s im) {a b : Nat} (ha : a < c.length) (hb : b < c.length) (ma : ¬ phi im a = -1) (mb : ¬ phi im b = -1) (hne : ¬ (splitA c a).1 = (splitA c b).1) (cst : Int)
    (o1 : addOk cst (-(splitA c a).2) = true) (o2 : addOk (cst - (splitA c a).2) (splitA c b).2 = true) (hin : two2 12 (splitA c a).1 (splitA c b).1 (cst - (splitA c a).2 + (splitA c b).2) ∈ c) :
    Cov c (phi im) (leM 2000 s (phi im a) (phi im b) cst).1 ∧ Pre s (leM 2000 s (phi im a) (phi im b) cst).1 ∧ PlA (leM 2000 s (phi im a) (phi im b) cst).1 (leM 2000 s (phi im a) (phi im b) cst).2 ∧
      nodA (leM 2000 s (phi im a) (phi im b) cst).1.l (leM 2000 s (phi im a) (phi im b) cst).2 = mapN c (phi im) (two2 12 (splitA c a).1 (splitA c b).1 (cst - (splitA c a).2 + (splitA c b).2)) := by
  obtain ⟨x, ex, hxl, mx, sx⟩ := hq.split h ha ma
  obtain ⟨y, ey, hyl, my, sy⟩ := hq.split h hb mb
  have hxy : ¬ phi im x = phi im y := fun e => hne (by rw [ex, ey, hq.inj h (x + y) x y (Nat.le_refl _) hxl hyl mx e])
  have hd : diffM s (phi im a) (phi im b) cst = (s, cst - (splitA c a).2 + (splitA c b).2) := by
    unfold diffM
    rw [sx, sy]
    have q1 : subE cst (splitA c a).2 = 0 := by unfold subE; rw [if_pos o1]
    have q2 : subV cst (splitA c a).2 = cst - (splitA c a).2 := by unfold subV; rw [if_pos o1]
    rw [q1, q2]
    have n1 : numM s (cst - (splitA c a).2) 0 = (s, cst - (splitA c a).2) := by unfold numM; rw [if_pos rfl]
    rw [n1]
    have q3 : addE (cst - (splitA c a).2) (splitA c b).2 = 0 := by unfold addE; rw [if_pos o2]
    have q4 : addV (cst - (splitA c a).2) (splitA c b).2 = cst - (splitA c a).2 + (splitA c b).2 := by unfold addV; rw [if_pos o2]
    show numM s (addV (cst - (splitA c a).2) (splitA c b).2) (addE (cst - (splitA c a).2) (splitA c b).2) = _
    rw [q3, q4]
    unfold numM; rw [if_pos rfl]
  have hmay : mayB (cst - (splitA c a).2 + (splitA c b).2) = true := by
    unfold addOk at o2
    simp only [Bool.and_eq_true] at o2
    exact o2.2.2
  have e : leM 2000 s (phi im a) (phi im b) cst = putM 2000 s (two2 12 (phi im x) (phi im y) (cst - (splitA c a).2 + (splitA c b).2)) := by
    unfold leM
    rw [sx, sy, hd, if_pos hxy]
  rw [e, ex, ey, two_map]
  rw [ex, ey] at hin
  have px := phi_pl hs.inv hp mx
  have py := phi_pl hs.inv hp my
  exact put_cov h hs ⟨_, hin, two_map.symm, two_mpd mx my⟩ (st_two (.inr ⟨rfl, hmay⟩) px py)
/-- An OpEq of a sort of its own that is in the first table is put. -/
theorem Q2.eqo {c : List NodeA} (h : Cl c) {s : MkS} {im : List Int} (hq : Q2 c s im) (hs : Cov c (phi im) s) (hp : ImP s im) {a b : Nat} (ha : a < c.length) (hb : b < c.length) (hab : a < b) (ma : ¬ phi im a = -1) (mb : ¬ phi im b = -1) (h0 : ¬ srt c a = 0) (hin : two2 6 a b 0 ∈ c) {u v : Int} (huv : u = phi im a ∧ v = phi im b ∨ u = phi im b ∧ v = phi im a) :
    Cov c (phi im) (eqM 2000 s (two2 6 u v 0)).1 ∧ Pre s (eqM 2000 s (two2 6 u v 0)).1 ∧ PlA (eqM 2000 s (two2 6 u v 0)).1 (eqM 2000 s (two2 6 u v 0)).2 ∧ nodA (eqM 2000 s (two2 6 u v 0)).1.l (eqM 2000 s (two2 6 u v 0)).2 = mapN c (phi im) (two2 6 a b 0) := by
  have hne : ¬ phi im a = phi im b := fun e => by
    have := hq.inj h (a + b) a b (Nat.le_refl _) ha hb ma e
    omega
  have hw := (h.ws _ hin).s6 rfl
  have h1 : ¬ srt c a = 1 := (h.eq _ hin rfl).1
  have hw2 : srt c a = srt c b := hw.2
  have sa : srt s.l (phi im a) = srt c a := (hq.node h ha ma).2.1
  have sb : srt s.l (phi im b) = srt c b := (hq.node h hb mb).2.1
  have su : srt s.l u = srt c a := by
    rcases huv with ⟨rfl, rfl⟩ | ⟨rfl, rfl⟩
    · exact sa
    · rw [sb, hw2]
  have huv2 : ¬ u = v := by
    rcases huv with ⟨rfl, rfl⟩ | ⟨rfl, rfl⟩
    · exact hne
    · exact fun e => hne e.symm
  have hmm : two2 6 (min u v) (max u v) 0 = two2 6 (min (phi im a) (phi im b)) (max (phi im a) (phi im b)) 0 := by
    rcases huv with ⟨rfl, rfl⟩ | ⟨rfl, rfl⟩
    · rfl
    · rw [Int.min_comm, Int.max_comm]
  have e : eqM 2000 s (two2 6 u v 0) = putM 2000 s (two2 6 (min (phi im a) (phi im b)) (max (phi im a) (phi im b)) 0) := by
    unfold eqM
    have su' : (nodA s.l (two2 6 u v 0).a0).sort = srt c a := su
    rw [su', if_neg h0, if_neg h1]
    show (if u = v then _ else putM 2000 s (two2 6 (min u v) (max u v) 0)) = _
    rw [if_neg huv2, hmm]
  have hmap : mapN c (phi im) (two2 6 a b 0) = two2 6 (min (phi im a) (phi im b)) (max (phi im a) (phi im b)) 0 := by
    unfold mapN
    rw [if_pos ⟨rfl, h0⟩]
    rfl
  rw [e, hmap]
  have pa := phi_pl hs.inv hp ma
  have pb := phi_pl hs.inv hp mb
  exact put_cov h hs ⟨_, hin, hmap.symm, two_mpd ma mb⟩ (st_two (.inl ⟨by omega, rfl⟩) ⟨by have := pa.1; have := pb.1; omega, by have := pa.2; have := pb.2; omega⟩ ⟨by have := pa.1; have := pb.1; omega, by have := pa.2; have := pb.2; omega⟩)
end Go.Proofs.YtjibhkgphahbaaaDoor.Tm
namespace Go.Proofs.YtjibhkgphahbaaaDoor.Tm
open Go.RowKit
set_option linter.unusedVariables false
theorem z_in : (-4611686018427387904 ≤ (0 : Int) ∧ (0 : Int) ≤ 4611686018427387904) := ⟨by decide, by decide⟩
theorem Cl.mki {c : List NodeA} (h : Cl c) : MkI ⟨c, 0⟩ := ⟨h.may, h.len, fun n hn => by
  obtain ⟨k, hk⟩ := List.getElem?_of_mem hn
  exact ok_of_st (h.st hk) (Nat.le_of_lt (Nat.lt_of_lt_of_le (List.getElem?_eq_some_iff.1 hk).1 h.len)), .inl rfl⟩
theorem Cl.zero {c : List NodeA} (h : Cl c) : nodA c 1 = zeroN := by
  have h1 := mayT_zero h.may
  have h2 := mayT_len h.may
  exact Option.some.inj ((nodA_get (l := c) (k := 1) (by omega)).symm.trans h1)
theorem Cl.len_ {c : List NodeA} (h : Cl c) {k : Nat} (hk : k < c.length) {o : Int} (ho : (nodA c k).op = o) (h13 : ¬ o = 13) : (nodA c k).len = arityA o := by
  obtain ⟨_, hl, _⟩ := stands_args (h.st (nodA_get hk))
  rcases hl with h | h
  · omega
  · rw [h, ho]
/-- The base of what lies ahead of an ite lies ahead of it. -/
theorem Cl.base_lt {c : List NodeA} (h : Cl c) {k b : Nat} (hk : k < c.length) (hb : b < k) (ho : (nodA c k).op = 7) : ¬ (splitA c b).1 = (k : Int) := by
  unfold splitA
  split
  · intro e
    have e : (1 : Int) = (k : Int) := e
    have : k = 1 := by omega
    subst this
    have hz := h.zero
    have : (nodA c 1).op = 7 := ho
    rw [hz] at this
    exact absurd this (by decide)
  · split
    · rename_i h11
      have hl := h.len_ (k := b) (by omega) h11 (by decide)
      obtain ⟨x, ex, hx⟩ := h.arg (k := b) (by omega) (j := 0) (by rw [hl]; decide)
      have ex : (nodA c b).a0 = (x : Int) := ex
      intro e
      have e : (nodA c b).a0 = (k : Int) := e
      omega
    · intro e
      have e : (b : Int) = (k : Int) := e
      omega
theorem add_may {x : Int} (h : mayB x = true) : addOk 0 x = true := by
  have := mayB_true.1 h
  exact addOk_true.2 ⟨⟨by decide, by decide⟩, this, by omega, by omega⟩
/-- What stands behind an ite is put. -/
theorem Q2.beh {c : List NodeA} (h : Cl c) {s : MkS} {im : List Int} (hq : Q2 c s im) (hs : Cov c (phi im) s) (hp : ImP s im) {k b : Nat} (hk : k < c.length) (hb : b < k) (mk : ¬ phi im k = -1) (mb : ¬ phi im b = -1) (ho : (nodA c k).op = 7) (hi : (b : Int) = (nodA c k).a1 ∨ (b : Int) = (nodA c k).a2) :
    Cov c (phi im) (behM 2000 s (nodA c k).sort (phi im k) (phi im b)) ∧ Pre s (behM 2000 s (nodA c k).sort (phi im k) (phi im b)) := by
  obtain ⟨_, hd, he⟩ := h.ite k _ (nodA_get hk) ho
  have hbl : b < c.length := by omega
  have hws := (h.ws _ (nodA_mem hk)).s7 ho
  have sk : splitA c k = ((k : Int), 0) := by
    unfold splitA
    rw [ho, if_neg (by decide), if_neg (by decide)]
  unfold behM
  by_cases s0 : (nodA c k).sort = 0
  · rw [if_pos s0]; exact ⟨hs, Pre.refl s⟩
  rw [if_neg s0]
  by_cases s1 : (nodA c k).sort = 1
  · rw [if_pos s1]
    obtain ⟨d1, d2⟩ := hd s1 b hi
    have hne := h.base_lt hk hb ho
    have hoff : mayB (splitA c b).2 = true := split_may (s := ⟨c, 0⟩) h.mki (i := (b : Int)) ⟨by omega, by show (b : Int) < (c.length : Int); omega⟩
    have hm0 := mayB_true.1 hoff
    have e1 : (0 : Int) - (splitA c k).2 + (splitA c b).2 = (splitA c b).2 := by rw [sk]; simp
    have e2 : (0 : Int) - (splitA c b).2 + (splitA c k).2 = -(splitA c b).2 := by rw [sk]; simp
    obtain ⟨c1, p1, _, _⟩ := hq.le h hs hp hk hbl mk mb (by rw [sk]; exact fun e => hne e.symm) 0 (by rw [sk]; rfl) (by rw [sk]; exact add_may hoff) (by rw [e1, sk]; exact d1)
    have hq1 := hq.up hs.inv hp c1 p1
    have hp1 := ImP.up hp p1
    obtain ⟨c2, p2, _, _⟩ := hq1.le h c1 hp1 hbl hk mb mk (by rw [sk]; exact hne) 0 (add_may (mayB_true.2 ⟨by omega, by omega⟩)) (by rw [sk]; exact addOk_true.2 ⟨⟨by omega, by omega⟩, z_in, by show -4611686018427387904 ≤ 0 - (splitA c b).2 + 0; omega, by show 0 - (splitA c b).2 + 0 ≤ 4611686018427387904; omega⟩) (by rw [e2, sk]; exact d2)
    exact ⟨c2, p1.trans p2⟩
  · rw [if_neg s1]
    have hin := he s0 s1 b hi
    have hsb : srt c b = (nodA c k).sort := by
      rcases hi with e | e <;> rw [e]
      · exact hws.2.1
      · exact hws.2.2
    obtain ⟨c1, p1, _, _⟩ := hq.eqo h hs hp hbl hk hb mb mk (by rw [hsb]; exact s0) hin (u := phi im k) (v := phi im b) (.inr ⟨rfl, rfl⟩)
    exact ⟨c1, p1⟩
theorem mapA_sub {im : List Int} {n : NodeA} (hl : 0 ≤ n.len) (h : ∀ j : Nat, (j : Int) < n.len → phi im (argA n j) = imA im (argA n j)) : subN im n n.len.toNat = mapA (phi im) n := by
  unfold subN mapA
  have e0 : (if 0 < n.len.toNat then imA im n.a0 else n.a0) = if 0 < n.len then phi im n.a0 else n.a0 := by
    by_cases h0 : 0 < n.len
    · rw [if_pos h0, if_pos (by omega)]; exact (h 0 h0).symm
    · rw [if_neg h0, if_neg (by omega)]
  have e1 : (if 1 < n.len.toNat then imA im n.a1 else n.a1) = if 1 < n.len then phi im n.a1 else n.a1 := by
    by_cases h0 : 1 < n.len
    · rw [if_pos h0, if_pos (by omega)]; exact (h 1 h0).symm
    · rw [if_neg h0, if_neg (by omega)]
  have e2 : (if 2 < n.len.toNat then imA im n.a2 else n.a2) = if 2 < n.len then phi im n.a2 else n.a2 := by
    by_cases h0 : 2 < n.len
    · rw [if_pos h0, if_pos (by omega)]; exact (h 2 h0).symm
    · rw [if_neg h0, if_neg (by omega)]
  rw [e0, e1, e2]
theorem step2 {c : List NodeA} (h : Cl c) {s : MkS} {im : List Int} {k : Nat} {n : NodeA} (hw : WkS (Q2 c) c s im) (hk : c[k]? = some n) (ha : AllIm im n) : (stepM 2000 s im n).1.e = 0 ∧ Q2 c (stepM 2000 s im n).1 (im.set k (stepM 2000 s im n).2) := by
  have hkl : k < c.length := (List.getElem?_eq_some_iff.1 hk).1
  obtain rfl : nodA c k = n := Option.some.inj ((nodA_get hkl).symm.trans hk)
  have hq := hw.q
  have hp := hw.imp
  have hc0 : Cov c (phi im) s := ⟨hw.inv, hw.ok, hq.cov⟩
  have harg : ∀ j : Nat, (j : Int) < (nodA c k).len → phi im (argA (nodA c k) j) = imA im (argA (nodA c k) j) := fun j hj => by
    obtain ⟨m, em, _⟩ := h.arg hkl hj
    exact phi_im hq (by omega) (ha j hj)
  have hm : Mpd (phi im) (nodA c k) := fun j hj => by rw [harg j hj]; exact ha j hj
  have hl0 : 0 ≤ (nodA c k).len := by
    obtain ⟨⟨o1, o2, o3⟩, _⟩ := h.fits (nodA_get hkl)
    by_cases h13 : (nodA c k).op = 13
    · rw [if_pos h13] at o3; exact o3.1
    · rw [h.len_ hkl rfl h13]
      have hr : (nodA c k).op = 0 ∨ (nodA c k).op = 1 ∨ (nodA c k).op = 2 ∨ (nodA c k).op = 3 ∨ (nodA c k).op = 4 ∨ (nodA c k).op = 5 ∨ (nodA c k).op = 6 ∨ (nodA c k).op = 7 ∨ (nodA c k).op = 8 ∨ (nodA c k).op = 9 ∨ (nodA c k).op = 10 ∨ (nodA c k).op = 11 ∨ (nodA c k).op = 12 := by omega
      rcases hr with h | h | h | h | h | h | h | h | h | h | h | h | h <;> rw [h] <;> decide
  have hsub := mapA_sub hl0 harg
  have hst : standsB (mapA (phi im) (nodA c k)) s.l.length = true := by rw [← hsub]; exact stands_sub (l := c) (h.st (nodA_get hkl)) hp ha
  have done : ∀ r : MkS × Int, Cov c (phi im) r.1 → Pre s r.1 → PlA r.1 r.2 → nodA r.1.l r.2 = mapN c (phi im) (nodA c k) → r.1.e = 0 ∧ Q2 c r.1 (im.set k r.2) := fun r h1 h2 h3 h4 => ⟨h1.e, (hq.fin h hw.inv hp hw.len hkl hm h1 h2 h3 h4).2.2⟩
  have plain : ¬ ownEq c (nodA c k) → (putM 2000 s (mapA (phi im) (nodA c k))).1.e = 0 ∧ Q2 c (putM 2000 s (mapA (phi im) (nodA c k))).1 (im.set k (putM 2000 s (mapA (phi im) (nodA c k))).2) := fun hno => by
    have e : mapN c (phi im) (nodA c k) = mapA (phi im) (nodA c k) := by unfold mapN; rw [if_neg hno]
    obtain ⟨h1, h2, h3, h4⟩ := put_cov h hc0 ⟨_, nodA_mem hkl, e.symm, hm⟩ hst
    exact done _ h1 h2 h3 (by rw [e]; exact h4)
  have nown : ¬ (nodA c k).op = 6 → ¬ ownEq c (nodA c k) := fun h6 ho => h6 ho.1
  have hmem := nodA_mem hkl
  obtain ⟨g4, g5, g8, g9⟩ := h.no4 _ hmem
  have m0 : 0 < (nodA c k).len → (mapA (phi im) (nodA c k)).a0 = phi im (nodA c k).a0 := fun hl => if_pos hl
  have m1 : 1 < (nodA c k).len → (mapA (phi im) (nodA c k)).a1 = phi im (nodA c k).a1 := fun hl => if_pos hl
  have m2 : 2 < (nodA c k).len → (mapA (phi im) (nodA c k)).a2 = phi im (nodA c k).a2 := fun hl => if_pos hl
  unfold stepM
  rw [hsub]
  unfold imgM
  rw [show (mapA (phi im) (nodA c k)).op = (nodA c k).op from rfl]
  by_cases c1 : (nodA c k).op = 1
  · rw [if_pos c1]
    have hl := h.len_ hkl c1 (by decide)
    obtain ⟨x, ex, hxl⟩ := h.arg hkl (j := 0) (by rw [hl]; decide)
    have ex : (nodA c k).a0 = (x : Int) := ex
    have hx : ¬ phi im x = -1 := by rw [← ex]; exact hm 0 (by rw [hl]; decide)
    unfold notM
    rw [m0 (by rw [hl]; decide), ex, (hq.node h (by omega) hx).1, if_neg (by rw [← ex]; exact h.nn _ hmem c1)]
    exact plain (nown (by omega))
  rw [if_neg c1, if_neg g4, if_neg g5]
  by_cases c6 : (nodA c k).op = 6
  · rw [if_pos c6]
    obtain ⟨hl, z2, z3, z4, z5⟩ := own_two h hmem c6
    have en := own_mk c6 hl z2 z3 z4 z5
    obtain ⟨x, ex, hxl⟩ := h.arg hkl (j := 0) (by omega)
    obtain ⟨y, ey, hyl⟩ := h.arg hkl (j := 1) (by omega)
    have ex : (nodA c k).a0 = (x : Int) := ex
    have ey : (nodA c k).a1 = (y : Int) := ey
    have hx : ¬ phi im x = -1 := by rw [← ex]; exact hm 0 (by omega)
    have hy : ¬ phi im y = -1 := by rw [← ey]; exact hm 1 (by omega)
    by_cases ho : ownEq c (nodA c k)
    · have hlt := (h.eq _ hmem c6).2 ho.2
      have e2 : two2 6 x y 0 = nodA c k := by rw [en, ex, ey]
      have e3 : mapA (phi im) (nodA c k) = two2 6 (phi im x) (phi im y) 0 := by
        rw [← e2]; rfl
      rw [e3]
      obtain ⟨h1, h2, h3, h4⟩ := hq.eqo h hc0 hp (a := x) (b := y) (by omega) (by omega) (by omega) hx hy (by rw [← ex]; exact ho.2) (by rw [e2]; exact hmem) (.inl ⟨rfl, rfl⟩)
      exact done _ h1 h2 h3 (by rw [h4, e2])
    · have z : srt c x = 0 := by rw [← ex]; exact Decidable.of_not_not (fun hz => ho ⟨c6, hz⟩)
      have sx : (nodA s.l (mapA (phi im) (nodA c k)).a0).sort = 0 := by
        rw [m0 (by omega), ex]
        exact ((hq.node h (by omega) hx).2.1).trans z
      unfold eqM
      rw [if_pos sx]
      exact plain ho
  rw [if_neg c6]
  by_cases c7 : (nodA c k).op = 7
  · rw [if_pos c7]
    have hl : (nodA c k).len = 3 := h.len_ hkl c7 (by decide)
    obtain ⟨x, ex, hxl⟩ := h.arg hkl (j := 1) (by omega)
    obtain ⟨y, ey, hyl⟩ := h.arg hkl (j := 2) (by omega)
    have ex : (nodA c k).a1 = (x : Int) := ex
    have ey : (nodA c k).a2 = (y : Int) := ey
    have hx : ¬ phi im x = -1 := by rw [← ex]; exact hm 1 (by omega)
    have hy : ¬ phi im y = -1 := by rw [← ey]; exact hm 2 (by omega)
    have hne := (h.ite k _ hk c7).1
    have hne2 : ¬ phi im x = phi im y := fun e => hne (by rw [ex, ey, hq.inj h (x + y) x y (Nat.le_refl _) (by omega) (by omega) hx e])
    have e : mapN c (phi im) (nodA c k) = mapA (phi im) (nodA c k) := by unfold mapN; rw [if_neg (nown c6)]
    obtain ⟨h1, h2, h3, h4⟩ := put_cov h hc0 ⟨_, hmem, e.symm, hm⟩ hst
    obtain ⟨ag, self, q1⟩ := hq.fin h hw.inv hp hw.len hkl hm h1 h2 h3 (by rw [e]; exact h4)
    unfold iteM
    rw [m1 (by omega), m2 (by omega), ex, ey, if_neg hne2]
    show (behM 2000 (behM 2000 (putM 2000 s (mapA (phi im) (nodA c k))).1 (nodA c k).sort (putM 2000 s (mapA (phi im) (nodA c k))).2 (phi im x)) (nodA c k).sort (putM 2000 s (mapA (phi im) (nodA c k))).2 (phi im y)).e = 0 ∧ Q2 c (behM 2000 (behM 2000 (putM 2000 s (mapA (phi im) (nodA c k))).1 (nodA c k).sort (putM 2000 s (mapA (phi im) (nodA c k))).2 (phi im x)) (nodA c k).sort (putM 2000 s (mapA (phi im) (nodA c k))).2 (phi im y)) (im.set k (putM 2000 s (mapA (phi im) (nodA c k))).2)
    generalize putM 2000 s (mapA (phi im) (nodA c k)) = P at h1 h2 h3 h4 ag self q1 ⊢
    have hc1 := h1.agree h ag
    have hp1 : ImP P.1 (im.set k P.2) := fun z hz => by
      rcases List.mem_or_eq_of_mem_set hz with h5 | h5
      · exact (hp z h5).imp id (fun h => h.up h2)
      · rw [h5]; exact .inr h3
    have mk : ¬ phi (im.set k P.2) k = -1 := by rw [self]; have := h3.1; omega
    have mx : ¬ phi (im.set k P.2) x = -1 := by rw [ag _ hx]; exact hx
    have my : ¬ phi (im.set k P.2) y = -1 := by rw [ag _ hy]; exact hy
    obtain ⟨b1, r1⟩ := q1.beh h hc1 hp1 hkl hxl mk mx c7 (.inl ex.symm)
    have q2 := q1.up h1.inv hp1 b1 r1
    obtain ⟨b2, r2⟩ := q2.beh h b1 (ImP.up hp1 r1) hkl hyl mk my c7 (.inr ey.symm)
    have q3 := q2.up b1.inv (ImP.up hp1 r1) b2 r2
    rw [self, ag _ hx, ag _ hy] at *
    exact ⟨b2.e, q3⟩
  rw [if_neg c7, if_neg g8, if_neg g9]
  by_cases c11 : (nodA c k).op = 11
  · rw [if_pos c11]
    have hl : (nodA c k).len = 1 := h.len_ hkl c11 (by decide)
    obtain ⟨x, ex, hxl⟩ := h.arg hkl (j := 0) (by omega)
    have ex : (nodA c k).a0 = (x : Int) := ex
    have hx : ¬ phi im x = -1 := by rw [← ex]; exact hm 0 (by omega)
    obtain ⟨n0, n11, n10⟩ := (h.qo _ hmem).1 c11
    rw [ex] at n11 n10
    have sc : splitA s.l (phi im x) = (phi im x, 0) := by
      have := hq.node h (by omega : x < c.length) hx
      unfold splitA
      rw [this.1, if_neg n10, if_neg n11]
    have hmay : mayB (nodA c k).num = true := by
      obtain ⟨⟨_, _, o3⟩, _⟩ := h.fits (nodA_get hkl)
      rw [if_neg (by omega), if_pos (by omega)] at o3
      exact o3.2.2
    have hone : ¬ phi im x = 1 := fun e => by
      have hc2 := mayT_len h.may
      have : x = 1 := hq.inj h (x + 1) x 1 (Nat.le_refl _) (by omega) (by omega) hx (e.trans rfl)
      subst this
      have hz := h.zero
      have : ¬ (nodA c 1).op = 10 := n10
      rw [hz] at this
      exact this rfl
    unfold sumM
    rw [m0 (by omega), ex, sc]
    have hnum : (mapA (phi im) (nodA c k)).num = (nodA c k).num := rfl
    have q3 : addE 0 (nodA c k).num = 0 := by unfold addE; rw [if_pos (add_may hmay)]
    have q4 : addV 0 (nodA c k).num = (nodA c k).num := by unfold addV; rw [if_pos (add_may hmay)]; omega
    have q5 : numM s (addV 0 (nodA c k).num) (addE 0 (nodA c k).num) = (s, (nodA c k).num) := by rw [q3, q4]; unfold numM; rw [if_pos rfl]
    simp only [hnum, q5]
    rw [if_neg n0, if_neg hone]
    have e9 : ({ mapA (phi im) (nodA c k) with a0 := phi im x, num := (nodA c k).num } : NodeA) = mapA (phi im) (nodA c k) := by
      unfold mapA
      rw [if_pos (show 0 < (nodA c k).len by omega), ex]
    rw [e9]
    exact plain (nown c6)
  rw [if_neg c11]
  by_cases c12 : (nodA c k).op = 12
  · rw [if_pos c12]
    have hl : (nodA c k).len = 2 := h.len_ hkl c12 (by decide)
    obtain ⟨x, ex, hxl⟩ := h.arg hkl (j := 0) (by omega)
    obtain ⟨y, ey, hyl⟩ := h.arg hkl (j := 1) (by omega)
    have ex : (nodA c k).a0 = (x : Int) := ex
    have ey : (nodA c k).a1 = (y : Int) := ey
    have hx : ¬ phi im x = -1 := by rw [← ex]; exact hm 0 (by omega)
    have hy : ¬ phi im y = -1 := by rw [← ey]; exact hm 1 (by omega)
    obtain ⟨b0, bx, by_⟩ := (h.qo _ hmem).2 c12
    rw [ex] at b0 bx
    rw [ey] at b0 by_
    have base : ∀ z : Nat, basA c z → splitA c z = ((z : Int), 0) := fun z hz => by
      unfold splitA
      by_cases h10 : (nodA c z).op = 10
      · have e1 := hz.2 h10
        rw [if_pos h10, e1, h.zero]; rfl
      · rw [if_neg h10, if_neg hz.1]
    have sx := base x bx
    have sy := base y by_
    obtain ⟨⟨_, _, o3⟩, _, _, _, a2⟩ := h.fits (nodA_get hkl)
    rw [if_neg (by omega), if_pos (by omega)] at o3
    have hmay := o3.2.2
    have hb := mayB_true.1 hmay
    have en : two2 12 x y (nodA c k).num = nodA c k := by
      have z3 := ((h.ws _ hmem).s8 (by omega)).1
      have z2 := a2.2 (by omega)
      rw [← ex, ← ey]
      generalize nodA c k = m at c12 hl z2 z3 o3
      obtain ⟨o, l, a, b, d, st, f, nu⟩ := m
      simp only at c12 hl z2 z3 o3
      have := o3.2.1
      subst c12 hl z2 z3 this
      rfl
    have ed : (nodA c k).num - (splitA c x).2 + (splitA c y).2 = (nodA c k).num := by rw [sx, sy]; simp
    obtain ⟨h1, h2, h3, h4⟩ := hq.le h hc0 hp (a := x) (b := y) (by omega) (by omega) hx hy (by rw [sx, sy]; exact b0) (nodA c k).num (by rw [sx]; exact addOk_true.2 ⟨hb, z_in, by show -4611686018427387904 ≤ (nodA c k).num + -0; omega, by show (nodA c k).num + -0 ≤ 4611686018427387904; omega⟩) (by rw [sx, sy]; exact addOk_true.2 ⟨by show -4611686018427387904 ≤ (nodA c k).num - 0 ∧ (nodA c k).num - 0 ≤ 4611686018427387904; omega, z_in, by show -4611686018427387904 ≤ (nodA c k).num - 0 + 0; omega, by show (nodA c k).num - 0 + 0 ≤ 4611686018427387904; omega⟩) (by rw [ed, sx, sy, en]; exact hmem)
    rw [m0 (by omega), m1 (by omega), ex, ey]
    refine done _ h1 h2 h3 ?_
    rw [ed, sx, sy, en] at h4
    exact h4
  rw [if_neg c12]
  exact plain (nown c6)
end Go.Proofs.YtjibhkgphahbaaaDoor.Tm
namespace Go.Proofs.YtjibhkgphahbaaaDoor.Tm
open Go.RowKit
set_option linter.unusedVariables false
def iteOk (l : List NodeA) (k : Int) (n : NodeA) : Prop := ¬ n.a1 = n.a2 ∧
    (n.sort = 1 → ∀ i, i = n.a1 ∨ i = n.a2 → two2 12 k (splitA l i).1 (splitA l i).2 ∈ l ∧ two2 12 (splitA l i).1 k (-(splitA l i).2) ∈ l) ∧
    (¬ n.sort = 0 → ¬ n.sort = 1 → ∀ i, i = n.a1 ∨ i = n.a2 → two2 6 i k 0 ∈ l)
structure okC (l : List NodeA) (k : Int) (n : NodeA) : Prop where
  no4 : ¬ n.op = 4 ∧ ¬ n.op = 5 ∧ ¬ n.op = 8 ∧ ¬ n.op = 9
  nn : n.op = 1 → ¬ (nodA l n.a0).op = 1
  eq : n.op = 6 → ¬ srt l n.a0 = 1 ∧ (¬ srt l n.a0 = 0 → n.a0 < n.a1)
  ite : n.op = 7 → iteOk l k n
theorem okC_easy {l : List NodeA} {k : Int} {n : NodeA} (h4 : ¬ n.op = 4) (h5 : ¬ n.op = 5) (h8 : ¬ n.op = 8) (h9 : ¬ n.op = 9) (h1 : ¬ n.op = 1) (h6 : ¬ n.op = 6) (h7 : ¬ n.op = 7) : okC l k n :=
  ⟨⟨h4, h5, h8, h9⟩, fun e => absurd e h1, fun e => absurd e h6, fun e => absurd e h7⟩
theorem split_pre {l : List NodeA} (r : List NodeA) {i : Int} (h0 : 0 ≤ i) (h : i < (l.length : Int)) : splitA (l ++ r) i = splitA l i := by unfold splitA; rw [nodA_pre r h0 h]
theorem iteOk.up {l : List NodeA} (r : List NodeA) {k : Int} {n : NodeA} (h : iteOk l k n) (h1 : 0 ≤ n.a1 ∧ n.a1 < (l.length : Int)) (h2 : 0 ≤ n.a2 ∧ n.a2 < (l.length : Int)) : iteOk (l ++ r) k n := by
  have hs : ∀ i, i = n.a1 ∨ i = n.a2 → splitA (l ++ r) i = splitA l i := fun i hi => by
    rcases hi with rfl | rfl
    · exact split_pre r h1.1 h1.2
    · exact split_pre r h2.1 h2.2
  exact ⟨h.1, fun e i hi => by rw [hs i hi]; exact ⟨List.mem_append_left _ (h.2.1 e i hi).1, List.mem_append_left _ (h.2.1 e i hi).2⟩, fun e e' i hi => List.mem_append_left _ (h.2.2 e e' i hi)⟩
theorem okC.up {l : List NodeA} (r : List NodeA) {k : Int} {q : Nat} {n : NodeA} (h : okC l k n) (hst : standsB n q = true) (hq : q ≤ l.length) : okC (l ++ r) k n := by
  obtain ⟨_, hl, ha⟩ := stands_args hst
  have lens : ∀ o, n.op = o → ¬ o = 13 → n.len = arityA o := fun o e h13 => by
    rcases hl with h | h
    · omega
    · rw [h, e]
  have pl : ∀ j : Nat, (j : Int) < n.len → 0 ≤ argA n j ∧ argA n j < (l.length : Int) := fun j hj => ⟨(ha j hj).1, by have := (ha j hj).2; omega⟩
  refine ⟨h.no4, fun e => ?_, fun e => ?_, fun e => ?_⟩
  · have p := pl 0 (by rw [lens 1 e (by decide)]; decide)
    have p : 0 ≤ n.a0 ∧ n.a0 < (l.length : Int) := p
    rw [nodA_pre r p.1 p.2]; exact h.nn e
  · have p := pl 0 (by rw [lens 6 e (by decide)]; decide)
    have p : 0 ≤ n.a0 ∧ n.a0 < (l.length : Int) := p
    rw [srt_pre r p.1 p.2]; exact h.eq e
  · exact (h.ite e).up r (pl 1 (by rw [lens 7 e (by decide)]; decide)) (pl 2 (by rw [lens 7 e (by decide)]; decide))
/-- All nodes but that at p are as those of a core table. -/
def CCx (p : Int) (l : List NodeA) : Prop := ∀ (k : Nat) (n : NodeA), l[k]? = some n → ¬ (k : Int) = p → okC l k n
theorem CC_put {p : Int} {most : Int} {s : MkS} {n : NodeA} (h : MkI s) (hC : CCx p s.l) (hs : s.e = 0 → standsB n s.l.length = true) (hn : s.e = 0 → okC s.l s.l.length n ∨ (s.l.length : Int) = p) : CCx p (putM most s n).1.l := by
  unfold putM
  by_cases he : s.e = 0
  · rw [if_neg (fun h => h he)]
    by_cases hi : n ∈ s.l
    · rw [if_pos hi]; exact hC
    · rw [if_neg hi]
      by_cases hl : most ≤ (s.l.length : Int)
      · rw [if_pos hl]; exact hC
      · rw [if_neg hl]
        intro k x hx hk
        rcases Nat.lt_trichotomy k s.l.length with h1 | h1 | h1
        · rw [List.getElem?_append_left h1] at hx
          exact (hC k x hx hk).up [n] (ok_at (mayT_ok h.may).2 hx).1 (Nat.le_of_lt h1)
        · subst h1
          rw [List.getElem?_append_right (Nat.le_refl _), Nat.sub_self] at hx
          obtain rfl : n = x := by simpa using hx
          exact ((hn he).resolve_right hk).up [n] (hs he) (Nat.le_refl _)
        · have := (List.getElem?_eq_some_iff.1 hx).1
          simp at this
          omega
  · rw [if_pos he]; exact hC
theorem CC_not {p : Int} {most : Int} {s : MkS} {n : NodeA} (h : MkI s) (hC : CCx p s.l) (ho : n.op = 1) (hs : s.e = 0 → standsB n s.l.length = true) : CCx p (notM most s n).1.l := by
  unfold notM
  split
  · exact hC
  · rename_i hne
    exact CC_put h hC hs (fun _ => .inl ⟨by omega, fun _ => hne, fun e => by omega, fun e => by omega⟩)
theorem CC_neg {p : Int} {most : Int} {s : MkS} {i : Int} (h : MkI s) (hC : CCx p s.l) (hi : PlA s i) : CCx p (negM most s i).1.l := CC_not h hC rfl (fun _ => st_one rfl hi)
theorem okC_two {l : List NodeA} {k op a b d : Int} (ho : op = 2 ∨ op = 3 ∨ op = 12) : okC l k (two2 op a b d) := by
  have e : (two2 op a b d).op = op := rfl
  exact okC_easy (by omega) (by omega) (by omega) (by omega) (by omega) (by omega) (by omega)
theorem CC_imp {p : Int} {most : Int} {s : MkS} {n : NodeA} (h : MkI s) (hm : most ≤ 2000) (hC : CCx p s.l) (ha : PlA s n.a0) (hb : PlA s n.a1) : CCx p (impM most s n).1.l := by
  have h1 := neg_out (most := most) h hm ha
  exact CC_put h1.inv (CC_neg h hC ha) (fun _ => st_two (.inl ⟨by decide, rfl⟩) h1.pl (hb.up h1.pre)) (fun _ => .inl (okC_two (by omega)))
theorem CC_le {p : Int} {most : Int} {s : MkS} (h : MkI s) (hm : most ≤ 2000) (hC : CCx p s.l) {a b : Int} (ha : PlA s a) (hb : PlA s b) (c : Int) : CCx p (leM most s a b c).1.l := by
  have hp := diff_pre s a b c
  have hi := diff_inv h a b c
  have hd := diff_l s a b c
  have px := (split_pl h ha).up hp
  have py := (split_pl h hb).up hp
  have hCd : CCx p (diffM s a b c).1.l := by rw [hd]; exact hC
  unfold leM
  split
  · exact CC_put hi hCd (fun he => st_two (.inr ⟨rfl, (diff_z he).2.1⟩) px py) (fun _ => .inl (okC_two (by omega)))
  · split
    · exact hCd
    · exact CC_neg hi hCd (PlA.zero hi)
theorem CC_eqI {p : Int} {most : Int} {s : MkS} (h : MkI s) (hm : most ≤ 2000) (hC : CCx p s.l) {a b : Int} (ha : PlA s a) (hb : PlA s b) : CCx p (eqI most s a b).1.l := by
  have h1 := le_out h hm ha hb 0
  have h2 := le_out h1.inv hm (hb.up h1.pre) (ha.up h1.pre) 0
  exact CC_put h2.inv (CC_le h1.inv hm (CC_le h hm hC ha hb 0) (hb.up h1.pre) (ha.up h1.pre) 0) (fun _ => st_two (.inl ⟨by decide, rfl⟩) (h1.pl.up h2.pre) h2.pl) (fun _ => .inl (okC_two (by omega)))
theorem CC_eq {p : Int} {most : Int} {s : MkS} {n : NodeA} (h : MkI s) (hm : most ≤ 2000) (hC : CCx p s.l) (ho : n.op = 6) (ha : PlA s n.a0) (hb : PlA s n.a1) (hs : s.e = 0 → standsB n s.l.length = true) (hsr : s.e = 0 → srt s.l n.a0 = srt s.l n.a1) : CCx p (eqM most s n).1.l := by
  unfold eqM
  split
  · rename_i z
    have z : srt s.l n.a0 = 0 := z
    exact CC_put h hC hs (fun _ => .inl ⟨by omega, fun e => by omega, fun _ => ⟨by omega, fun hz => absurd z hz⟩, fun e => by omega⟩)
  · rename_i z
    have z : ¬ srt s.l n.a0 = 0 := z
    split
    · exact CC_eqI h hm hC ha hb
    · rename_i z1
      have z1 : ¬ srt s.l n.a0 = 1 := z1
      split
      · exact hC
      · rename_i hab
        have hmn : PlA s (min n.a0 n.a1) := by rcases Int.le_total n.a0 n.a1 with hh | hh <;> simp only [Int.min_eq_left, Int.min_eq_right, hh] <;> assumption
        have hmx : PlA s (max n.a0 n.a1) := by rcases Int.le_total n.a0 n.a1 with hh | hh <;> simp only [Int.max_eq_left, Int.max_eq_right, hh] <;> assumption
        refine CC_put h hC (fun _ => st_two (.inl ⟨by decide, rfl⟩) hmn hmx) (fun he => .inl ⟨by show ¬ (6 : Int) = 4 ∧ ¬ (6 : Int) = 5 ∧ ¬ (6 : Int) = 8 ∧ ¬ (6 : Int) = 9; decide, fun e => absurd e (by show ¬ (6 : Int) = 1; decide), fun _ => ?_, fun e => absurd e (by show ¬ (6 : Int) = 7; decide)⟩)
        have hsm : srt s.l (min n.a0 n.a1) = srt s.l n.a0 := by
          rcases Int.le_total n.a0 n.a1 with hh | hh
          · rw [Int.min_eq_left hh]
          · rw [Int.min_eq_right hh]; exact (hsr he).symm
        refine ⟨?_, fun _ => ?_⟩
        · show ¬ srt s.l (min n.a0 n.a1) = 1
          rw [hsm]; exact z1
        · show min n.a0 n.a1 < max n.a0 n.a1
          omega
theorem CC_eq2 {p : Int} {most : Int} {s : MkS} {a b : Int} (h : MkI s) (hm : most ≤ 2000) (hC : CCx p s.l) (ha : PlA s a) (hb : PlA s b) (hsr : s.e = 0 → srt s.l a = srt s.l b) : CCx p (eqM most s (two2 6 a b 0)).1.l :=
  CC_eq h hm hC rfl ha hb (fun _ => st_two (.inl ⟨by decide, rfl⟩) ha hb) hsr
theorem CC_xor {p : Int} {most : Int} {s : MkS} {n : NodeA} (h : MkI s) (hm : most ≤ 2000) (hC : CCx p s.l) (ha : PlA s n.a0) (hb : PlA s n.a1) (hsr : s.e = 0 → srt s.l n.a0 = srt s.l n.a1) : CCx p (xorM most s n).1.l := by
  have h1 := eq2_out (a := n.a0) (b := n.a1) h hm ha hb
  exact CC_neg h1.inv (CC_eq2 h hm hC ha hb hsr) h1.pl
theorem CC_beh {p : Int} {most : Int} {s : MkS} {it i : Int} (h : MkI s) (hm : most ≤ 2000) (hC : CCx p s.l) (ha : PlA s it) (hb : PlA s i) (sort : Int) (hsr : s.e = 0 → srt s.l it = srt s.l i) : CCx p (behM most s sort it i).l := by
  unfold behM
  split
  · exact hC
  · split
    · have h1 := le_out h hm ha hb 0
      exact CC_le h1.inv hm (CC_le h hm hC ha hb 0) (hb.up h1.pre) (ha.up h1.pre) 0
    · exact CC_eq2 h hm hC ha hb hsr
theorem put_mem {most : Int} {s : MkS} {n : NodeA} (he : (putM most s n).1.e = 0) : n ∈ (putM most s n).1.l ∧ nodA (putM most s n).1.l (putM most s n).2 = n := by
  unfold putM at he ⊢
  by_cases h0 : s.e = 0
  · rw [if_neg (fun h => h h0)] at he ⊢
    by_cases hi : n ∈ s.l
    · rw [if_pos hi]
      exact ⟨hi, Option.some.inj ((nodA_get (fndN_lt.1 hi)).symm.trans (fndN_get hi))⟩
    · rw [if_neg hi] at he ⊢
      by_cases hl : most ≤ (s.l.length : Int)
      · rw [if_pos hl] at he; exact absurd he (show ¬ (40 : Int) = 0 by decide)
      · rw [if_neg hl]
        have h1 : (s.l ++ [n])[s.l.length]? = some n := by rw [List.getElem?_append_right (Nat.le_refl _), Nat.sub_self]; rfl
        exact ⟨List.mem_append_right _ (List.mem_singleton.2 rfl), Option.some.inj ((nodA_get (l := s.l ++ [n]) (k := s.l.length) (by simp)).symm.trans h1)⟩
  · rw [if_pos h0] at he; exact absurd he h0
theorem le_mem {most : Int} {s : MkS} {a b c : Int} (h : MkI s) (hm : most ≤ 2000) (ha : PlA s a) (hb : PlA s b) (he : (leM most s a b c).1.e = 0) (hne : ¬ (splitA s.l a).1 = (splitA s.l b).1) : two2 12 (splitA s.l a).1 (splitA s.l b).1 (c - (splitA s.l a).2 + (splitA s.l b).2) ∈ (leM most s a b c).1.l := by
  have hp := diff_pre s a b c
  unfold leM at he ⊢
  rw [if_pos hne] at he ⊢
  have hd : (diffM s a b c).1.e = 0 := (put_out (most := most) (n := two2 12 (splitA s.l a).1 (splitA s.l b).1 (diffM s a b c).2) (diff_inv h a b c) hm (ok_two (i8_lit (by decide)) ((split_pl h ha).i64 h.len) ((split_pl h hb).i64 h.len) (diff_i64 s a b c)) (fun e => st_two (.inr ⟨rfl, (diff_z e).2.1⟩) ((split_pl h ha).up hp) ((split_pl h hb).up hp))).pre.e he
  have := (put_mem he).1
  rw [(diff_z hd).2.2] at this ⊢
  exact this
theorem Pre.mem {a b : MkS} (h : Pre a b) {n : NodeA} (hn : n ∈ a.l) : n ∈ b.l := by
  obtain ⟨r, hr⟩ := h.pre
  rw [hr]; exact List.mem_append_left _ hn
theorem split_up {a b : MkS} {i : Int} (h : PlA a i) (k : Pre a b) : splitA b.l i = splitA a.l i := by
  obtain ⟨r, hr⟩ := k.pre
  rw [hr]; exact split_pre r h.1 h.2
/-- What behM puts is there. -/
theorem beh_mem {most : Int} {s : MkS} {it i sort : Int} (h : MkI s) (hm : most ≤ 2000) (ha : PlA s it) (hb : PlA s i) (he : (behM most s sort it i).e = 0) (hs : splitA s.l it = (it, 0)) (hne : ¬ (splitA s.l i).1 = it) (hlt : i < it) (hsi : srt s.l it = sort) :
    (sort = 1 → two2 12 it (splitA s.l i).1 (splitA s.l i).2 ∈ (behM most s sort it i).l ∧ two2 12 (splitA s.l i).1 it (-(splitA s.l i).2) ∈ (behM most s sort it i).l) ∧ (¬ sort = 0 → ¬ sort = 1 → two2 6 i it 0 ∈ (behM most s sort it i).l) := by
  unfold behM at he ⊢
  by_cases s0 : sort = 0
  · exact ⟨fun e => by omega, fun e => absurd s0 e⟩
  rw [if_neg s0] at he ⊢
  by_cases s1 : sort = 1
  · rw [if_pos s1] at he ⊢
    refine ⟨fun _ => ?_, fun _ e => absurd s1 e⟩
    have o1 := le_out h hm ha hb 0
    have o2 := le_out o1.inv hm (hb.up o1.pre) (ha.up o1.pre) 0
    have x1 := split_up hb o1.pre
    have x2 := split_up ha o1.pre
    have m1 := le_mem h hm ha hb (o2.pre.e he) (by rw [hs]; exact fun e => hne e.symm)
    have m2 := le_mem o1.inv hm (hb.up o1.pre) (ha.up o1.pre) he (by rw [x1, x2, hs]; exact hne)
    rw [hs] at m1
    rw [x1, x2, hs] at m2
    have e1 : (0 : Int) - (it, (0 : Int)).2 + (splitA s.l i).2 = (splitA s.l i).2 := by show (0 : Int) - 0 + _ = _; omega
    have e2 : (0 : Int) - (splitA s.l i).2 + (it, (0 : Int)).2 = -(splitA s.l i).2 := by show (0 : Int) - _ + 0 = _; omega
    rw [e1] at m1
    rw [e2] at m2
    exact ⟨o2.pre.mem m1, m2⟩
  · rw [if_neg s1] at he ⊢
    refine ⟨fun e => absurd e s1, fun _ _ => ?_⟩
    unfold eqM at he ⊢
    have e0 : (nodA s.l (two2 6 it i 0).a0).sort = sort := hsi
    have hmm : two2 6 (min (two2 6 it i 0).a0 (two2 6 it i 0).a1) (max (two2 6 it i 0).a0 (two2 6 it i 0).a1) 0 = two2 6 i it 0 := by
      show two2 6 (min it i) (max it i) 0 = _
      rw [Int.min_eq_right (by omega), Int.max_eq_left (by omega)]
    have hii : ¬ (two2 6 it i 0).a0 = (two2 6 it i 0).a1 := by show ¬ it = i; omega
    rw [e0, if_neg s0, if_neg s1, if_neg hii, hmm] at he ⊢
    exact (put_mem he).1
end Go.Proofs.YtjibhkgphahbaaaDoor.Tm
namespace Go.Proofs.YtjibhkgphahbaaaDoor.Tm
open Go.RowKit
set_option linter.unusedVariables false
theorem base_ne {s : MkS} (h : MkI s) {k b : Nat} (hk : k < s.l.length) (hb : b < k) (ho : (nodA s.l k).op = 7) : ¬ (splitA s.l b).1 = (k : Int) := by
  unfold splitA
  split
  · intro e
    have e : (1 : Int) = (k : Int) := e
    have : k = 1 := by omega
    subst this
    have hz := nod_one h
    have : (nodA s.l 1).op = 7 := ho
    rw [hz] at this
    exact absurd this (by decide)
  · split
    · rename_i h11
      have := stands_arg0 (h.stands (k := b) (by omega)) (.inr h11)
      intro e
      have e : (nodA s.l b).a0 = (k : Int) := e
      omega
    · intro e
      have e : (b : Int) = (k : Int) := e
      omega
theorem CC_put_own {most : Int} {s : MkS} {n : NodeA} (h : MkI s) (hC : CCx (-1) s.l) (hs : s.e = 0 → standsB n s.l.length = true) : CCx (putM most s n).2 (putM most s n).1.l := by
  have weak : ∀ p, CCx p s.l := fun p k x hx _ => hC k x hx (by omega)
  by_cases hl : (putM most s n).2 = (s.l.length : Int)
  · rw [hl]; exact CC_put h (weak _) hs (fun _ => .inr rfl)
  · have e : (putM most s n).1.l = s.l := by
      unfold putM at hl ⊢
      by_cases he : s.e = 0
      · rw [if_neg (fun h => h he)] at hl ⊢
        by_cases hi : n ∈ s.l
        · rw [if_pos hi]
        · rw [if_neg hi] at hl ⊢
          by_cases hm : most ≤ (s.l.length : Int)
          · rw [if_pos hm]
          · rw [if_neg hm] at hl; exact absurd rfl hl
      · rw [if_pos he]
    rw [e]; exact weak _
theorem CC_ite {most : Int} {s : MkS} {n : NodeA} (h : MkI s) (hm : most ≤ 2000) (hC : CCx (-1) s.l) (hn : NodeOk n) (ho : n.op = 7) (hb : PlA s n.a1) (hc : PlA s n.a2) (hs : s.e = 0 → standsB n s.l.length = true) (hw : WsN s.l n) (he : (iteM most s n).1.e = 0) : CCx (-1) (iteM most s n).1.l := by
  obtain ⟨_, w1, w2⟩ := hw.s7 ho
  unfold iteM at he ⊢
  by_cases h12 : n.a1 = n.a2
  · rw [if_pos h12]; exact hC
  rw [if_neg h12] at he ⊢
  have o1 := put_out (most := most) h hm hn hs
  have c1 := CC_put_own (most := most) h hC hs
  have pm : (putM most s n).1.e = 0 → n ∈ (putM most s n).1.l ∧ nodA (putM most s n).1.l (putM most s n).2 = n := put_mem
  generalize putM most s n = P at he o1 c1 pm ⊢
  have hb1 := hb.up o1.pre
  have hc1 := hc.up o1.pre
  have o2 := beh_out o1.inv hm o1.pl hb1 n.sort
  have o3 := beh_out o2.2 hm (o1.pl.up o2.1) (hc1.up o2.1) n.sort
  have he3 : (behM most (behM most P.1 n.sort P.2 n.a1) n.sort P.2 n.a2).e = 0 := he
  have he2 := o3.1.e he3
  have he1 := o2.1.e he2
  have hnod := (pm he1).2
  have sp : srt P.1.l P.2 = n.sort := by unfold srt; rw [hnod]
  have s1 : srt P.1.l n.a1 = n.sort := (srt_up hb o1.pre).trans w1
  have s2 : srt P.1.l n.a2 = n.sort := (srt_up hc o1.pre).trans w2
  have c2 := CC_beh o1.inv hm c1 o1.pl hb1 n.sort (fun _ => by rw [sp, s1])
  have sp2 : srt (behM most P.1 n.sort P.2 n.a1).l P.2 = n.sort := (srt_up o1.pl o2.1).trans sp
  have s22 : srt (behM most P.1 n.sort P.2 n.a1).l n.a2 = n.sort := (srt_up hc1 o2.1).trans s2
  have c3 := CC_beh o2.2 hm c2 (o1.pl.up o2.1) (hc1.up o2.1) n.sort (fun _ => by rw [sp2, s22])
  -- the ite itself
  obtain ⟨p, hp, hpl⟩ := o1.pl.nat
  have hst : standsB n p = true := by
    have := o1.inv.stands hpl
    rw [← hp, hnod] at this; exact this
  obtain ⟨_, hl, ha⟩ := stands_args hst
  have hlen : n.len = 3 := by
    rcases hl with h | h
    · omega
    · rw [h, ho]; decide
  have a1 : 0 ≤ n.a1 ∧ n.a1 < (p : Int) := ha 1 (by omega)
  have a2 : 0 ≤ n.a2 ∧ n.a2 < (p : Int) := ha 2 (by omega)
  have op7 : (nodA P.1.l p).op = 7 := by rw [← hp, hnod]; exact ho
  have spl : splitA P.1.l P.2 = (P.2, 0) := by
    unfold splitA
    rw [hnod, ho, if_neg (by decide), if_neg (by decide)]
  have bne : ∀ i, 0 ≤ i → i < (p : Int) → ¬ (splitA P.1.l i).1 = P.2 := fun i h0 h1 => by
    obtain ⟨b, rfl⟩ : ∃ b : Nat, i = (b : Int) := ⟨i.toNat, by omega⟩
    rw [hp]
    exact base_ne o1.inv hpl (by omega) op7
  obtain ⟨m1, m2⟩ := beh_mem o1.inv hm o1.pl hb1 he2 spl (bne _ a1.1 a1.2) (by rw [hp]; exact a1.2) sp
  have spl2 : splitA (behM most P.1 n.sort P.2 n.a1).l P.2 = (P.2, 0) := (split_up o1.pl o2.1).trans spl
  have e2 : splitA (behM most P.1 n.sort P.2 n.a1).l n.a2 = splitA P.1.l n.a2 := split_up hc1 o2.1
  obtain ⟨m3, m4⟩ := beh_mem o2.2 hm (o1.pl.up o2.1) (hc1.up o2.1) he3 spl2 (by rw [e2]; exact bne _ a2.1 a2.2) (by rw [hp]; exact a2.2) sp2
  rw [e2] at m3
  have f1 : splitA (behM most (behM most P.1 n.sort P.2 n.a1) n.sort P.2 n.a2).l n.a1 = splitA P.1.l n.a1 := (split_up (hb1.up o2.1) o3.1).trans (split_up hb1 o2.1)
  have f2 : splitA (behM most (behM most P.1 n.sort P.2 n.a1) n.sort P.2 n.a2).l n.a2 = splitA P.1.l n.a2 := (split_up (hc1.up o2.1) o3.1).trans e2
  have hok : iteOk (behM most (behM most P.1 n.sort P.2 n.a1) n.sort P.2 n.a2).l P.2 n := by
    refine ⟨h12, fun hs i hi => ?_, fun hs hs' i hi => ?_⟩
    · rcases hi with rfl | rfl
      · rw [f1]; exact ⟨o3.1.mem (m1 hs).1, o3.1.mem (m1 hs).2⟩
      · rw [f2]; exact m3 hs
    · rcases hi with rfl | rfl
      · exact o3.1.mem (m2 hs hs')
      · exact m4 hs hs'
  intro k x hx _
  by_cases hk : (k : Int) = P.2
  · have hxn : x = n := by
      have h1 := nodA_get (List.getElem?_eq_some_iff.1 hx).1
      have h2 := Option.some.inj (hx.symm.trans h1)
      rw [h2, hk]
      exact (nodA_up (o1.pl.up o2.1) o3.1).trans ((nodA_up o1.pl o2.1).trans hnod)
    rw [hxn, hk]
    exact ⟨by omega, fun e => by omega, fun e => by omega, fun _ => hok⟩
  · exact c3 k x hx hk
theorem CC_sum {most : Int} {s : MkS} {n : NodeA} (h : MkI s) (hm : most ≤ 2000) (hC : CCx (-1) s.l) (ho : n.op = 11) (ha : PlA s n.a0) (hs : s.e = 0 → standsB n s.l.length = true) : CCx (-1) (sumM most s n).1.l := by
  have hp := num_pre s (addV (splitA s.l n.a0).2 n.num) (addE (splitA s.l n.a0).2 n.num)
  have hi := num_inv h (n := addV (splitA s.l n.a0).2 n.num) (addE_c (splitA s.l n.a0).2 n.num)
  have hl := num_l s (addV (splitA s.l n.a0).2 n.num) (addE (splitA s.l n.a0).2 n.num)
  have hk : (numM s (addV (splitA s.l n.a0).2 n.num) (addE (splitA s.l n.a0).2 n.num)).1.e = 0 → s.e = 0 ∧ mayB (numM s (addV (splitA s.l n.a0).2 n.num) (addE (splitA s.l n.a0).2 n.num)).2 = true := fun he => by
    obtain ⟨h1, h2, h3⟩ := num_ok he
    obtain ⟨_, _, h4, h5⟩ := add_z h1
    exact ⟨h2, by rw [h3, h5]; exact h4⟩
  have px := split_pl h ha
  unfold sumM
  generalize numM s (addV (splitA s.l n.a0).2 n.num) (addE (splitA s.l n.a0).2 n.num) = k at *
  simp only
  have hCk : CCx (-1) k.1.l := by rw [hl]; exact hC
  split
  · exact hCk
  · split
    · exact CC_put hi hCk (fun he => st_num (hk he).2) (fun _ => .inl (okC_easy (by show ¬ (10 : Int) = 4; decide) (by show ¬ (10 : Int) = 5; decide) (by show ¬ (10 : Int) = 8; decide) (by show ¬ (10 : Int) = 9; decide) (by show ¬ (10 : Int) = 1; decide) (by show ¬ (10 : Int) = 6; decide) (by show ¬ (10 : Int) = 7; decide)))
    · exact CC_put hi hCk (fun he => stands_sum (by rw [hl]; exact hs (hk he).1) ho (px.up hp) (hk he).2) (fun _ => .inl (okC_easy (by show ¬ n.op = 4; omega) (by show ¬ n.op = 5; omega) (by show ¬ n.op = 8; omega) (by show ¬ n.op = 9; omega) (by show ¬ n.op = 1; omega) (by show ¬ n.op = 6; omega) (by show ¬ n.op = 7; omega)))
theorem CC_img {most : Int} {s : MkS} {n : NodeA} (h : MkI s) (hm : most ≤ 2000) (hC : CCx (-1) s.l) (hn : NodeOk n) (hs : standsB n s.l.length = true) (hw : WsN s.l n) (he : (imgM most s n).1.e = 0) : CCx (-1) (imgM most s n).1.l := by
  have hs' : s.e = 0 → standsB n s.l.length = true := fun _ => hs
  obtain ⟨_, hl, ha⟩ := stands_args hs
  have p0 : (0 : Int) < n.len → PlA s n.a0 := fun h => ha 0 h
  have p1 : (1 : Int) < n.len → PlA s n.a1 := fun h => ha 1 h
  have p2 : (2 : Int) < n.len → PlA s n.a2 := fun h => ha 2 h
  unfold imgM at he ⊢
  by_cases c1 : n.op = 1
  · rw [if_pos c1]; exact CC_not h hC c1 hs'
  rw [if_neg c1] at he ⊢
  by_cases c4 : n.op = 4
  · have hl : n.len = 2 := by rcases hl with h | h <;> first | omega | (rw [h, c4]; decide)
    obtain ⟨_, h1, h2⟩ := hw.s2 (by omega)
    rw [if_pos c4]; exact CC_xor h hm hC (p0 (by omega)) (p1 (by omega)) (fun _ => h1.trans h2.symm)
  rw [if_neg c4] at he ⊢
  by_cases c5 : n.op = 5
  · have hl : n.len = 2 := by rcases hl with h | h <;> first | omega | (rw [h, c5]; decide)
    rw [if_pos c5]; exact CC_imp h hm hC (p0 (by omega)) (p1 (by omega))
  rw [if_neg c5] at he ⊢
  by_cases c6 : n.op = 6
  · have hl : n.len = 2 := by rcases hl with h | h <;> first | omega | (rw [h, c6]; decide)
    rw [if_pos c6]; exact CC_eq h hm hC c6 (p0 (by omega)) (p1 (by omega)) hs' (fun _ => (hw.s6 c6).2)
  rw [if_neg c6] at he ⊢
  by_cases c7 : n.op = 7
  · have hl : n.len = 3 := by rcases hl with h | h <;> first | omega | (rw [h, c7]; decide)
    rw [if_pos c7] at he ⊢; exact CC_ite h hm hC hn c7 (p1 (by omega)) (p2 (by omega)) hs' hw he
  rw [if_neg c7] at he ⊢
  by_cases c8 : n.op = 8
  · have hl : n.len = 2 := by rcases hl with h | h <;> first | omega | (rw [h, c8]; decide)
    rw [if_pos c8]; exact CC_le h hm hC (p0 (by omega)) (p1 (by omega)) _
  rw [if_neg c8] at he ⊢
  by_cases c9 : n.op = 9
  · have hl : n.len = 2 := by rcases hl with h | h <;> first | omega | (rw [h, c9]; decide)
    rw [if_pos c9]; exact CC_le h hm hC (p0 (by omega)) (p1 (by omega)) _
  rw [if_neg c9] at he ⊢
  by_cases c11 : n.op = 11
  · have hl : n.len = 1 := by rcases hl with h | h <;> first | omega | (rw [h, c11]; decide)
    rw [if_pos c11]; exact CC_sum h hm hC c11 (p0 (by omega)) hs'
  rw [if_neg c11] at he ⊢
  by_cases c12 : n.op = 12
  · have hl : n.len = 2 := by rcases hl with h | h <;> first | omega | (rw [h, c12]; decide)
    rw [if_pos c12]; exact CC_le h hm hC (p0 (by omega)) (p1 (by omega)) _
  rw [if_neg c12]
  exact CC_put h hC hs' (fun _ => .inl (okC_easy c4 c5 c8 c9 c1 c6 c7))
/-- What holds at each stop of the first walk. -/
def QC (l0 : List NodeA) (s : MkS) (im : List Int) : Prop := QW l0 s im ∧ CCx (-1) s.l
theorem QC_new (l0 : List NodeA) : QC l0 ⟨newL, 0⟩ (List.replicate l0.length (-1)) := ⟨QW_new l0, fun k n hk _ => by
  have hm := List.mem_of_getElem? hk
  simp only [newL, List.mem_cons, List.not_mem_nil, or_false] at hm
  rcases hm with rfl | rfl <;> exact okC_easy (by decide) (by decide) (by decide) (by decide) (by decide) (by decide) (by decide)⟩
theorem QC_step {most : Int} {l : List NodeA} (hm : most ≤ 2000) (hok : ∀ n ∈ l, NodeOk n) (hst : ∀ (k : Nat) (n : NodeA), l[k]? = some n → standsB n k = true) (hws : ∀ n ∈ l, WsN l n) : StepQ (QC l) most l := fun s im k n hw hk ha he => by
  have hw' : WkS (QW l) l s im := hw.less hw.q.1
  have hsn := sub_ok (s := s) (hok n (List.mem_of_getElem? hk)) hw.x n.len.toNat
  have hss := stands_sub (l := l) (hst k n hk) hw.imp ha
  have hwn := sub_ws hw.q.1 hk (hst k n hk) ha (hws n (List.mem_of_getElem? hk))
  exact ⟨QW_step hm hok hst hws s im k n hw' hk ha he, CC_img hw.inv hm hw.q.2 hsn hss hwn he⟩
theorem cl_of {s : MkS} (h : MkI s) (hQ : QO s.l) (hW : WS s.l) (hC : CCx (-1) s.l) : Cl s.l := by
  have ok : ∀ n ∈ s.l, ∃ k : Int, okC s.l k n := fun n hn => by
    obtain ⟨k, hk⟩ := List.getElem?_of_mem hn
    exact ⟨k, hC k n hk (by omega)⟩
  exact ⟨h.may, h.len, hQ, hW, fun n hn => (ok n hn).elim fun _ h => h.no4, fun n hn => (ok n hn).elim fun _ h => h.nn, fun n hn => (ok n hn).elim fun _ h => h.eq, fun k n hk ho => (hC k n hk (by omega)).ite ho⟩
end Go.Proofs.YtjibhkgphahbaaaDoor.Tm
namespace Go.Proofs.YtjibhkgphahbaaaDoor.Tm
open Go.RowKit
set_option linter.unusedVariables false
theorem Cl.rng {c : List NodeA} (h : Cl c) {i : Int} (h0 : 0 ≤ i) (hl : i < (c.length : Int)) : srt c i = 0 ∨ srt c i = 1 ∨ srt c i = 2 ∨ srt c i = 3 ∨ srt c i = 4 ∨ srt c i = 5 := by
  obtain ⟨k, rfl⟩ : ∃ k : Nat, i = (k : Int) := ⟨i.toNat, by omega⟩
  obtain ⟨_, s, _⟩ := h.fits (nodA_get (l := c) (k := k) (by omega))
  unfold srt
  omega
/-- A core table is well sorted by package typing. -/
theorem Cl.good {c : List NodeA} (h : Cl c) {n : NodeA} (hn : n ∈ c) : badS c n = false := by
  obtain ⟨k, hk⟩ := List.getElem?_of_mem hn
  have hkl := (List.getElem?_eq_some_iff.1 hk).1
  have hw := h.ws n hn
  obtain ⟨⟨o1, o2, _⟩, _⟩ := h.fits hk
  obtain ⟨_, hl, ha⟩ := stands_args (h.st hk)
  unfold badS
  by_cases h13 : n.op = 13
  · rw [if_pos h13]
  rw [if_neg h13]
  have hlen := hl.resolve_left h13
  have s1 : n.len = 1 → sortsA c n n.len.toNat = [srt c n.a0] := fun h => by rw [h]; rfl
  have s2 : n.len = 2 → sortsA c n n.len.toNat = [srt c n.a0, srt c n.a1] := fun h => by rw [h]; rfl
  have s3 : n.len = 3 → sortsA c n n.len.toNat = [srt c n.a0, srt c n.a1, srt c n.a2] := fun h => by rw [h]; rfl
  have s0 : n.len = 0 → sortsA c n n.len.toNat = [] := fun h => by rw [h]; rfl
  have key : srtA c n = (n.sort, 0) := by
    obtain ⟨g4, g5, g8, g9⟩ := h.no4 n hn
    have hr : n.op = 0 ∨ n.op = 1 ∨ n.op = 2 ∨ n.op = 3 ∨ n.op = 6 ∨ n.op = 7 ∨ n.op = 10 ∨ n.op = 11 ∨ n.op = 12 := by omega
    unfold srtA
    rcases hr with ho | ho | ho | ho | ho | ho | ho | ho | ho <;> rw [ho] at hlen ⊢
    · rw [s0 hlen, hw.s0 ho]; rfl
    · obtain ⟨e0, e1⟩ := hw.s1 ho
      rw [s1 hlen, e0, e1]; rfl
    · obtain ⟨e0, e1, e2⟩ := hw.s2 (by omega)
      rw [s2 hlen, e0, e1, e2]; rfl
    · obtain ⟨e0, e1, e2⟩ := hw.s2 (by omega)
      rw [s2 hlen, e0, e1, e2]; rfl
    · obtain ⟨e0, e1⟩ := hw.s6 ho
      have hl2 : n.len = 2 := hlen
      have p := ha 0 (by omega)
      have p : 0 ≤ n.a0 ∧ n.a0 < (k : Int) := p
      rw [s2 hlen, e0, ← e1]
      rcases h.rng p.1 (by omega) with e | e | e | e | e | e <;> rw [e] <;> rfl
    · obtain ⟨e0, e1, e2⟩ := hw.s7 ho
      have hl2 : n.len = 3 := hlen
      have p := ha 1 (by omega)
      have p : 0 ≤ n.a1 ∧ n.a1 < (k : Int) := p
      rw [s3 hlen, e0, e2, e1]
      have := h.rng p.1 (by omega)
      rw [e1] at this
      rcases this with e | e | e | e | e | e <;> rw [e] <;> rfl
    · rw [s0 hlen, hw.s10 ho]; rfl
    · obtain ⟨e0, e1⟩ := hw.s11 ho
      rw [s1 hlen, e0, e1]; rfl
    · obtain ⟨e0, e1, e2⟩ := hw.s8 (by omega)
      rw [s2 hlen, e0, e1, e2]; rfl
  rw [key]
  simp
theorem Cl.first {c : List NodeA} (h : Cl c) : nodA c 0 = trueN := by
  have h1 := (mayT_ok h.may).1
  have h2 : (c.take 2)[0]? = some trueN := by rw [h1]; rfl
  rw [List.getElem?_take, if_pos (by decide)] at h2
  have h3 := mayT_len h.may
  exact Option.some.inj ((nodA_get (l := c) (k := 0) (by omega)).symm.trans h2)
theorem Q2_new {c : List NodeA} (h : Cl c) : Q2 c ⟨newL, 0⟩ (List.replicate c.length (-1)) := by
  have hc2 := mayT_len h.may
  have rep : ∀ x : Nat, imA (List.replicate c.length (-1)) x = -1 := fun x => by
    unfold imA
    rw [List.getD_eq_getElem?_getD, Int.toNat_natCast, List.getElem?_replicate]
    split <;> rfl
  have t0 : mapN c (phi (List.replicate c.length (-1))) trueN = trueN := by
    unfold mapN
    rw [if_neg (fun ho => absurd ho.1 (by decide))]; rfl
  have t1 : mapN c (phi (List.replicate c.length (-1))) zeroN = zeroN := by
    unfold mapN
    rw [if_neg (fun ho => absurd ho.1 (by decide))]; rfl
  have m0 : Mpd (phi (List.replicate c.length (-1))) trueN := fun j hj => absurd hj (by show ¬ (j : Int) < 0; omega)
  have m1 : Mpd (phi (List.replicate c.length (-1))) zeroN := fun j hj => absurd hj (by show ¬ (j : Int) < 0; omega)
  have i0 : trueN ∈ c := by rw [← h.first]; exact nodA_mem (l := c) (k := 0) (by omega)
  have i1 : zeroN ∈ c := by rw [← h.zero]; exact nodA_mem (l := c) (k := 1) (by omega)
  refine ⟨fun m hm => ?_, fun k hk hx => ?_, .inl (rep 0), .inl (rep 1)⟩
  · simp only [newL, List.mem_cons, List.not_mem_nil, or_false] at hm
    rcases hm with rfl | rfl
    · exact ⟨_, i0, t0.symm, m0⟩
    · exact ⟨_, i1, t1.symm, m1⟩
  · have h01 : k = 0 ∨ k = 1 := by
      refine Decidable.of_not_not (fun hne => hx ?_)
      unfold phi
      rw [if_neg (by omega), if_neg (by omega)]
      exact rep k
    rcases h01 with rfl | rfl
    · have e := h.first
      have e : nodA c (((0 : Nat) : Int)) = trueN := e
      rw [e, t0]
      exact ⟨rfl, m0⟩
    · have e := h.zero
      have e : nodA c (((1 : Nat) : Int)) = zeroN := e
      rw [e, t1]
      exact ⟨rfl, m1⟩
/-- Of of a core table: no error, no more nodes. -/
theorem Of2_any (c : List NodeA) (h : Cl c) (a : Option Addr) (cp : Nat) (xs : List Int) (b : Option Addr) (d : Nat) (w : World) (hG : GC w) (hA : TabR w c a cp) (hX : IntsR w xs b d) (hx : xs.length ≤ 3000) (hp : ∀ x ∈ xs, 0 ≤ x ∧ x < (c.length : Int)) :
    Calls Tryd.prog 7 #[.agg #[.slice a c.length cp], .slice b xs.length d, .int .i64 2000] w fun e w' => Below w.heap.size w w' ∧ ∃ (m : Nat) (a' : Option Addr) (c' : Nat) (b' : Option Addr) (d' : Nat), e = .returned (.tuple #[.agg #[.slice a' m c'], .slice b' xs.length d', .int .i64 0]) ∧ m ≤ c.length := by
  refine (Of_any (Q2 c) 2000 c a cp xs b d w hG.t hG.r hA h.len hX hx (by decide) (l64 (by decide)) (fun _ _ => Q2_new h) (fun _ _ s im k n hw hk ha _ => (step2 h hw hk ha).2)).mono ?_
  rintro e w' ⟨h1, ⟨err, rfl, h2, he⟩ | ⟨s, im, ims, a', c', b', d', rfl, ht, hi, hw, _, hlen⟩⟩
  · exfalso
    rcases he with ⟨_, he | he⟩ | ⟨_, _, he⟩ | ⟨s', _, _, h0, s, im, k, n, hw, hk, ha, e⟩
    · rw [h.may] at he; exact absurd he (by decide)
    · obtain ⟨x, hxm, hxb⟩ := List.any_eq_true.1 he
      have := hp x hxm
      unfold badP at hxb
      rw [if_neg (by omega)] at hxb
      have := of_decide_eq_true hxb
      omega
    · obtain ⟨n, hn, hb⟩ := List.any_eq_true.1 he
      rw [h.good hn] at hb; exact absurd hb (by decide)
    · rw [e] at h0
      exact h0 (step2 h hw hk ha).1
  · refine ⟨h1, s.l.length, a', c', b', d', by rw [hlen], im_len (mayT_ok hw.inv.may).2 hw.q.cov⟩
/-- What Of gives of a table and roots, for CoreAgain. -/
theorem OfA_any (l : List NodeA) (a : Option Addr) (c : Nat) (xs : List Int) (b : Option Addr) (d : Nat) (w : World) (hG : GC w) (hA : TabR w l a c) (hl : l.length ≤ 300) (hX : IntsR w xs b d) (hx : xs.length ≤ 100) :
    Calls Tryd.prog 7 #[.agg #[.slice a l.length c], .slice b xs.length d, .int .i64 2000] w fun e w' => Below w.heap.size w w' ∧ ((∃ err : Int, e = .returned (.tuple #[.agg #[.slice none 0 0], .slice none 0 0, .int .i64 err]) ∧ ¬ err = 0) ∨
    (∃ (t : List NodeA) (ims : List Int) (a' : Option Addr) (c' : Nat) (b' : Option Addr) (d' : Nat), e = .returned (.tuple #[.agg #[.slice a' t.length c'], .slice b' ims.length d', .int .i64 0]) ∧ TabR w' t a' c' ∧ IntsR w' ims b' d' ∧ Cl t ∧ ims.length ≤ 100 ∧ ∀ x ∈ ims, 0 ≤ x ∧ x < (t.length : Int))) := by
  refine (Of_any (QC l) 2000 l a c xs b d w hG.t hG.r hA (by omega) hX (by omega) (by decide) (l64 (by decide)) (fun _ _ => QC_new l) (fun hm hb => QC_step (by decide) hA.ok (fun k n hk => (ok_at (mayT_ok hm).2 hk).1) (fun n hn => ?_))).mono ?_
  · obtain ⟨k, hk⟩ := List.getElem?_of_mem hn
    exact ws_of_bad (ok_at (mayT_ok hm).2 hk).1 (by
      have := List.any_eq_false.1 hb n hn
      simpa using this)
  · rintro e w' ⟨h1, ⟨err, rfl, h2, _⟩ | ⟨s, im, ims, a', c', b', d', rfl, ht, hi, hw, him, hlen⟩⟩
    · exact ⟨h1, .inl ⟨err, rfl, h2⟩⟩
    · refine ⟨h1, .inr ⟨s.l, ims, a', c', b', d', rfl, ht, hi, cl_of hw.inv hw.q.1.1 hw.q.1.2.1 hw.q.2, by omega, fun x hx' => ?_⟩⟩
      obtain ⟨j, hj⟩ := List.getElem?_of_mem hx'
      have hjl := (List.getElem?_eq_some_iff.1 hj).1
      exact him.pl hj (List.getElem?_eq_getElem (by omega))
end Go.Proofs.YtjibhkgphahbaaaDoor.Tm
