/- The walk of the function Same of package sexpr. -/
import Derived.Test.YtodonngnigbpaaaGreatDoorSexMay
import Derived.Maps.OwnIn
import Derived.Deep.AppendLies
namespace Go.Proofs.YtodonngnigbpaaaGreatDoor
open Go.RowKit Go.Shelf
attribute [local go_sem] Oper.semAt_some
def evr (_ : Int) : Bool := true
theorem evr_kids (t : Tree) : ownL evr t = t.kids := by cases t; rfl
theorem whatever_evr (k : Int) (s : ByteArray) (a : Option Addr) (n c : Nat) (W : World) :
    Calls Tryz.prog 88 #[.agg #[.int .i8 k, .string s, .slice a n c]] W fun e w' => e = .returned (if evr k = true then .slice a n c else .slice none 0 0) ∧ Below W.heap.size W w' := whatever_any k s a n c W
/-- What is still to come of the first one: its rows, the outermost first. -/
def remL (d : Nat) : List (List Tree) → List (Nat × Tree)
  | [] => []
  | l :: ls => remL (d + 1) ls ++ preL evr d l
theorem remL_nil {d : Nat} {ra : List (List Tree)} (h : remL d ra = []) : ∀ l ∈ ra, l = [] := by
  induction ra generalizing d with
  | nil => simp
  | cons l r ih =>
    simp only [remL, List.append_eq_nil_iff] at h
    intro q hq
    rcases List.mem_cons.1 hq with rfl | hq
    · cases q with
      | nil => rfl
      | cons t q => rw [preL, preT_eq] at h; simp at h
    · exact ih h.1 q hq
theorem remL_empty {d : Nat} {ra : List (List Tree)} (h : ∀ l ∈ ra, l = []) : remL d ra = [] := by
  induction ra generalizing d with
  | nil => rfl
  | cons l r ih =>
    simp only [remL]
    rw [ih (fun q hq => h q (by simp [hq])), h l (by simp)]
    rfl
theorem remL_append (d : Nat) (ra rb : List (List Tree)) : remL d (ra ++ rb) = remL (d + ra.length) rb ++ remL d ra := by
  induction ra generalizing d with
  | nil => simp [remL]
  | cons l r ih =>
    simp only [List.cons_append, remL, ih, List.length_cons, List.append_assoc]
    congr 2
    omega
/-- The next one is the last row's that is not empty. -/
theorem remL_next {d k : Nat} {y : Tree} {ra : List (List Tree)} {more : List (Nat × Tree)} (h : remL d ra = (k, y) :: more) :
    ∃ pre l tail, ra = pre ++ [y :: l] ++ tail ∧ k = d + pre.length ∧ (∀ q ∈ tail, q = []) ∧ more = remL d (pre ++ [l] ++ [y.kids]) := by
  induction ra generalizing d more with
  | nil => simp [remL] at h
  | cons l r ih =>
    simp only [remL] at h
    by_cases he : remL (d + 1) r = []
    · rw [he, List.nil_append] at h
      cases l with
      | nil => simp [preL] at h
      | cons t l =>
        simp only [preL, preT_eq, List.cons_append, List.cons.injEq, Prod.mk.injEq] at h
        obtain ⟨⟨rfl, rfl⟩, rfl⟩ := h
        refine ⟨[], l, r, rfl, by simp, remL_nil he, ?_⟩
        simp [remL, evr_kids]
    · obtain ⟨p, rest, hp⟩ : ∃ p rest, remL (d + 1) r = p :: rest := by
        cases hr : remL (d + 1) r with
        | nil => exact absurd hr he
        | cons p rest => exact ⟨p, rest, rfl⟩
      rw [hp] at h
      simp only [List.cons_append, List.cons.injEq] at h
      obtain ⟨rfl, rfl⟩ := h
      obtain ⟨pre, l', tail, h1, h2, h3, h4⟩ := ih hp
      refine ⟨l :: pre, l', tail, by rw [h1]; rfl, by simp; omega, h3, ?_⟩
      rw [h4]
      simp [remL]
/-- Rows of the second one that are as long. -/
def Like (ra rb : List (List Tree)) : Prop := ra.map List.length = rb.map List.length
theorem like_split {pre tail : List (List Tree)} {y : Tree} {l : List Tree} {rb : List (List Tree)} (h : Like (pre ++ [y :: l] ++ tail) rb) (ht : ∀ q ∈ tail, q = []) :
    ∃ preb y' l' tailb, rb = preb ++ [y' :: l'] ++ tailb ∧ preb.length = pre.length ∧ Like pre preb ∧ l'.length = l.length ∧ tailb = tail ∧ rb.length = (pre ++ [y :: l] ++ tail).length := by
  unfold Like at h
  have hlen : rb.length = (pre ++ [y :: l] ++ tail).length := by have := congrArg List.length h; simpa using this.symm
  have hk : pre.length < rb.length := by rw [hlen]; simp
  have hd : rb = rb.take pre.length ++ rb[pre.length] :: rb.drop (pre.length + 1) := by
    rw [← List.drop_eq_getElem_cons hk, List.take_append_drop]
  have h1 : pre.map List.length = (rb.take pre.length).map List.length := by
    have := congrArg (List.take pre.length) h
    rw [List.append_assoc, List.map_append, List.take_left' (by simp)] at this
    rw [this, List.map_take]
  have h2 : rb[pre.length].length = l.length + 1 := by
    have := congrArg (fun x => x[pre.length]?) h
    simp only [List.append_assoc, List.map_append, List.getElem?_map] at this
    rw [List.getElem?_append_right (by simp)] at this
    simp [hk] at this
    omega
  have h3 : (rb.drop (pre.length + 1)).map List.length = tail.map List.length := by
    have := congrArg (List.drop (pre.length + 1)) h
    rw [List.map_append, List.drop_left' (by simp)] at this
    rw [this, List.map_drop]
  have h4 : rb.drop (pre.length + 1) = tail := by
    apply List.ext_getElem?
    intro i
    have h5 := congrArg (fun x => x[i]?) h3
    simp only [List.getElem?_map] at h5
    cases ha : tail[i]? with
    | none => rw [ha] at h5; simpa using h5
    | some q =>
      have hq := ht q (List.mem_of_getElem? ha)
      subst hq
      rw [ha] at h5
      cases hb : (rb.drop (pre.length + 1))[i]? with
      | none => rw [hb] at h5; simp at h5
      | some q' => rw [hb] at h5; simp at h5; rw [h5]
  obtain ⟨y', l', hyl⟩ : ∃ y' l', rb[pre.length] = y' :: l' := by
    cases hr : rb[pre.length] with
    | nil => rw [hr] at h2; simp at h2
    | cons y' l' => exact ⟨y', l', rfl⟩
  refine ⟨rb.take pre.length, y', l', rb.drop (pre.length + 1), by rw [← hyl]; simp, by simp; omega, h1, ?_, h4, hlen⟩
  rw [hyl] at h2; simpa using h2
theorem like_step {pre preb : List (List Tree)} {l l' : List Tree} {y y' : Tree} (h : Like pre preb) (hl : l'.length = l.length) (hk : y.kids.length = y'.kids.length) : Like (pre ++ [l] ++ [y.kids]) (preb ++ [l'] ++ [y'.kids]) := by
  unfold Like at *
  simp [h, hl, hk]
theorem eq_step {pre preb tail : List (List Tree)} {l l' : List Tree} {y y' : Tree} (hp : preb.length = pre.length) (hk : y.kind = y'.kind) (ht : y.text = y'.text) :
    pre ++ [y :: l] ++ tail = preb ++ [y' :: l'] ++ tail ↔ pre ++ [l] ++ [y.kids] = preb ++ [l'] ++ [y'.kids] := by
  have hy : y = y' ↔ y.kids = y'.kids := by
    constructor
    · intro h; rw [h]
    · intro h
      cases y; cases y'
      simp only [Tree.kind, Tree.text, Tree.kids] at *
      subst hk; subst ht; subst h; rfl
  constructor
  · intro h
    rw [List.append_assoc, List.append_assoc] at h
    obtain ⟨h1, h2⟩ := List.append_inj h hp.symm
    simp only [List.cons_append, List.nil_append, List.cons.injEq] at h2
    obtain ⟨⟨h3, h4⟩, _⟩ := h2
    rw [h1, h4, hy.1 h3]
  · intro h
    rw [List.append_assoc, List.append_assoc] at h
    obtain ⟨h1, h2⟩ := List.append_inj h hp.symm
    simp only [List.cons_append, List.nil_append, List.cons.injEq, and_true] at h2
    rw [h1, h2.1, hy.2 h2.2]
/-- The rows that are the same all along are empty, or unlike rows are not. -/
theorem like_end {ra rb : List (List Tree)} (h : Like ra rb) (he : ∀ l ∈ ra, l = []) : ra = rb := by
  unfold Like at h
  induction ra generalizing rb with
  | nil => cases rb with | nil => rfl | cons _ _ => simp at h
  | cons l r ih =>
    cases rb with
    | nil => simp at h
    | cons l' r' =>
      simp only [List.map_cons, List.cons.injEq] at h
      have hl := he l (by simp)
      subst hl
      have hl' : l' = [] := List.eq_nil_of_length_eq_zero (by simpa using h.1.symm)
      rw [hl', ih h.2 (fun q hq => he q (by simp [hq]))]
mutual
/-- What is within has an expression around it. -/
theorem preT_up (own : Int → Bool) : ∀ (t : Tree) (d : Nat) (x : Nat × Tree), x ∈ preT own d t → x.1 = d ∨ ∃ z ∈ preT own d t, z.1 + 1 = x.1 ∧ ownL own z.2 ≠ []
  | .node k s l, d, x, hx => by
    rw [preT_eq] at hx
    rcases List.mem_cons.1 hx with rfl | hx
    · exact .inl rfl
    · have hne : ownL own (.node k s l) ≠ [] := fun e => by rw [e] at hx; simp [preL] at hx
      have hl : ownL own (.node k s l) = l := by
        simp only [ownL] at hne ⊢
        split
        · rfl
        · rename_i hn; rw [if_neg hn] at hne; exact absurd rfl hne
      rw [hl] at hx
      rcases preL_up own l (d + 1) x hx with h | ⟨z, hz, h1, h2⟩
      · exact .inr ⟨(d, .node k s l), by rw [preT_eq]; exact List.mem_cons_self, by simp [h], hne⟩
      · exact .inr ⟨z, by rw [preT_eq, hl]; exact List.mem_cons_of_mem _ hz, h1, h2⟩
theorem preL_up (own : Int → Bool) : ∀ (l : List Tree) (d : Nat) (x : Nat × Tree), x ∈ preL own d l → x.1 = d ∨ ∃ z ∈ preL own d l, z.1 + 1 = x.1 ∧ ownL own z.2 ≠ []
  | [], _, _, hx => by simp [preL] at hx
  | t :: r, d, x, hx => by
    simp only [preL, List.mem_append] at hx ⊢
    rcases hx with hx | hx
    · rcases preT_up own t d x hx with h | ⟨z, hz, h⟩
      · exact .inl h
      · exact .inr ⟨z, .inl hz, h⟩
    · rcases preL_up own r d x hx with h | ⟨z, hz, h⟩
      · exact .inl h
      · exact .inr ⟨z, .inr hz, h⟩
end
theorem dep_all {t : Tree} {n : Nat} (h : ∀ x ∈ preT evr 0 t, x.2.kids ≠ [] → x.1 < n) : ∀ x ∈ preT evr 0 t, x.1 ≤ n := by
  intro x hx
  rcases preT_up evr t 0 x hx with h0 | ⟨z, hz, h1, h2⟩
  · omega
  · rw [evr_kids] at h2
    have := h z hz h2
    omega
end Go.Proofs.YtodonngnigbpaaaGreatDoor
namespace Go.Proofs.YtodonngnigbpaaaGreatDoor
open Go.RowKit Go.Shelf
attribute [local go_sem] Oper.semAt_some
/-- A row of the second one: where it lies, its cap, what is still to come of it. -/
abbrev RowB := Option Addr × Nat × List Tree
def cellB (r : RowB) : Value := .slice r.1 r.2.2.length r.2.1
theorem heap_push (w : World) (o : Obj) (k : Nat) : (w.alloc o).heap[k]? = if k = w.heap.size then some o else w.heap[k]? := by
  show (w.heap.push o)[k]? = _
  rw [Array.getElem?_push]
theorem wrap_few {d : Nat} (h : d < 1000) : wrap64 ((d : Int) + 1) = (d : Int) + 1 := by unfold wrap64; omega
structure RowBOk (A : World) (badB : Nat → Prop) (r : RowB) : Prop where
  len : r.2.2.length ≤ r.2.1
  cap : r.2.1 ≤ maxLen
  rd : RdL A badB r.2.2 r.1
structure SamS (n : Nat) (ta tb : Tree) (ys : List Itm) (g cap : Nat) (ra : List (List Tree)) (rB : List RowB) (A : World) : Prop where
  gn : g = n + 4 ∨ n + 8 ≤ g
  box : Boxed A (n + 5) 120 (.slice (some ⟨g, 0, none⟩) rB.length cap)
  row : A.ownsRow n 26 1 (.slice (some ⟨g, 0, none⟩) rB.length cap) rB.length (rB.map cellB)
  ok : ∀ r ∈ rB, RowBOk A (fun b => n ≤ b ∧ b ≠ n + 3) r
  res : Boxed A (n + 2) 4 (.bool false)
  rem : ys.map dt ++ remL 0 ra = preT evr 0 ta
  like : Like ra (rB.map (·.2.2))
  same : ta = tb ↔ ra = rB.map (·.2.2)
  few : rB.length ≤ 242
/-- Between two rounds. -/
def SamI (w : World) (ta tb : Tree) (R : Nat → Prop) (ys : List Itm) (A : World) : Prop :=
  ∃ g cap ra rB, ¬ R g ∧ SamS w.heap.size ta tb ys g cap ra rB A ∧ Below w.heap.size w A
/-- Where a round has left by a return. -/
def SamX (w : World) (ta tb : Tree) (_ : Nat → Prop) (c : Code) (_ : List Itm) (A : World) : Prop :=
  c = .ret ∧ ¬ ta = tb ∧ Boxed A (w.heap.size + 2) 4 (.bool false) ∧ Below w.heap.size w A
theorem SamS.keep {n : Nat} {ta tb : Tree} {ys : List Itm} {g cap : Nat} {ra : List (List Tree)} {rB : List RowB} {A B : World} (h : SamS n ta tb ys g cap ra rB A)
    (hk : ∀ b, b < n + 6 ∨ b = g → b < A.heap.size → B.heap[b]? = A.heap[b]?) : SamS n ta tb ys g cap ra rB B :=
  ⟨h.gn, (hk _ (.inl (by omega)) h.box.lt).trans h.box, ownsRow_heap h.row (fun g' e => by cases e; exact hk _ (.inr rfl) (h.row.lt g rfl).2),
    fun r hr => ⟨(h.ok r hr).len, (h.ok r hr).cap, RdL.keep (fun b hb hlt => hk b (.inl (by omega)) hlt) _ _ (h.ok r hr).rd⟩, (hk _ (.inl (by omega)) h.res.lt).trans h.res, h.rem, h.like, h.same, h.few⟩
theorem SamI.turn {w A B : World} {ta tb : Tree} {R R' : Nat → Prop} {D : Nat} {ys : List Itm} (hI : SamI w ta tb R ys A) (hR : ∀ b, R b → D ≤ b) (hD : w.heap.size + 8 ≤ D) (hA : w.heap.size ≤ A.heap.size) (hT : Turn R R' A B) : SamI w ta tb R' ys B := by
  obtain ⟨g, cap, ra, rB, hg, hs, hb⟩ := hI
  have hlt := (hs.row.lt g rfl).2
  exact ⟨g, cap, ra, rB, (hT.own hlt hg).2, hs.keep (fun b hb hbA => hT.block b hbA (fun hr => by
    rcases hb with hb | rfl
    · have := hR b hr; omega
    · exact hg hr)), below_turn hb hR (by omega) hA hT⟩
theorem SamI.put {w A : World} {ta tb : Tree} {R : Nat → Prop} {D l : Nat} {ys : List Itm} {o o' : Obj} (hI : SamI w ta tb R ys A) (hD : D ≤ l) (hn : w.heap.size + 8 ≤ D) (hl : A.heap[l]? = some o) (ho : o.isCells = false) : SamI w ta tb R ys (A.putObj l o') := by
  obtain ⟨g, cap, ra, rB, hg, hs, hb⟩ := hI
  refine ⟨g, cap, ra, rB, hg, hs.keep (fun b hb _ => World.putObj_heap_other (fun e => ?_)), below_put hb hD (by omega) hl⟩
  subst e
  rcases hb with hb | rfl
  · omega
  · rcases hs.row.2 with ⟨h', _⟩ | ⟨g', cap', cur, h', _, hgg, _⟩
    · simp at h'
    · simp only [Value.slice.injEq, Option.some.injEq, Addr.mk.injEq, and_true, true_and] at h'
      obtain ⟨rfl, rfl⟩ := h'
      rw [hgg] at hl; cases hl; cases ho
/-- Behind the assignment to the loop's variables. -/
def SamA (w : World) (a b fv : Value) (x : Itm) (q : Act) (W : World) : Prop :=
  ∃ Bx ya yc, w.heap.size + 8 ≤ Bx ∧ W.heap[Bx]? = some (.cells #[.int .i8 x.2.1.kind, .string (bytesL x.2.1.text), .slice ya x.2.1.kids.length yc] 35 (0, 0)) ∧ x.2.2 = .agg #[.int .i8 x.2.1.kind, .string (bytesL x.2.1.text), .slice ya x.2.1.kids.length yc] ∧
    q = { tmps := #[a, b, .pointer (some ⟨w.heap.size, 0, none⟩), .pointer (some ⟨w.heap.size + 1, 0, none⟩), .pointer (some ⟨w.heap.size + 1 + 1, 0, none⟩), .pointer (some ⟨w.heap.size + 1 + 1 + 1 + 1 + 1, 0, none⟩), .func (.func 88) #[] #[],
      .int .i64 x.1, .pointer (some ⟨Bx, 0, none⟩), undef, b, .slice (some ⟨w.heap.size + 1 + 1 + 1, 0, none⟩) 1 1, .slice (some ⟨w.heap.size + 1 + 1 + 1 + 1, 0, none⟩) 1 1, a, .func (.func 88) #[] #[], fv, .int .i64 x.1, x.2.2,
      undef, undef, undef, undef, undef, undef, undef, undef, undef, undef, undef, undef, undef, undef, undef, undef, undef, undef, undef, undef, undef, undef, undef, undef, undef, undef, undef, undef, undef, undef, undef, undef, undef, undef, undef, undef, undef, undef, undef, undef, undef, undef, undef, undef, undef, undef], defers := [] }
theorem sam_rows (A B : List Value) (x y : Value) : ((A ++ x :: B).set A.length y).take (A.length + 1) = A ++ [y] := by
  rw [List.set_append_right _ _ (Nat.le_refl _), Nat.sub_self, List.set_cons_zero, List.take_append, List.take_of_length_le (by omega), Nat.add_sub_cancel_left]
  rfl
theorem infoSl : (Tryz.prog.info? 26).map (fun i => (i.zero, i.size, i.bytes)) = some (some (.slice none 0 0), 1, 24) := by kernel_rfl
theorem own_take_to {w : World} {base g k m cap : Nat} {e : TypeId} {size : Nat} {xs : List Value} (h : w.ownsRow base e size (.slice (some ⟨g, 0, none⟩) m cap) m xs) (hk : k ≤ m) :
    w.ownsRow base e size (.slice (some ⟨g, 0, none⟩) k cap) k (xs.take (k * size)) := by
  rcases h.2 with ⟨h', h0⟩ | ⟨g', cap', cur, h', hb, hg, hnc, hcm, hcs, htake⟩
  · simp at h'
  · simp only [Value.slice.injEq, Option.some.injEq, Addr.mk.injEq, and_true, true_and] at h'
    obtain ⟨rfl, rfl⟩ := h'
    refine ⟨?_, .inr ⟨g, cap, cur, rfl, hb, hg, by omega, hcm, hcs, ?_⟩⟩
    · rw [List.length_take, h.1, Nat.min_eq_left (Nat.mul_le_mul_right _ hk)]
    · rw [← htake, List.take_take, Nat.min_eq_left (Nat.mul_le_mul_right _ hk)]
theorem sam_stop {w W W3 : World} {ta tb : Tree} {D : Nat} {keep R : Nat → Prop} {go : Itm → Prop} {pre : List Itm} {x : Itm} {q : Act} {I : (Nat → Prop) → List Itm → World → Prop} (hne : ¬ ta = tb) (hr : Boxed W3 (w.heap.size + 2) 4 (.bool false)) (hs : Below w.heap.size w W3) (hk : KeepsOthers W W3) :
    postR D keep R go I (SamX w ta tb) pre x W .ret q (W3.setCell ⟨w.heap.size + 1 + 1, 0, none⟩ (.bool false)) :=
  ⟨(hk.trans (KeepsOthers.setCell _ _ _)).from _, rfl, hne, hr.set _, hs.setCell (p := ⟨w.heap.size + 2, 0, none⟩) (by show w.heap.size ≤ w.heap.size + 2; omega) _⟩
set_option maxRecDepth 100000 in
set_option maxHeartbeats 4000000 in
theorem Same_in (ta tb : Tree) (va vb : Value) (w : World) (hdep : ∀ x ∈ preT evr 0 ta, x.2.kids ≠ [] → x.1 < 239) (bad : Nat → Prop) (hbd : ∀ b, ¬ bad b → b < w.heap.size) (hra : Rd w bad ta va) (hcl : Clean w bad) (hrb : Sx w tb vb) :
    CallsIn Fence.wide 8 Tryz.prog 59 #[va, vb] w fun e w' => (∃ r, e = .returned (.bool r) ∧ (r = true ↔ ta = tb)) ∧ Below w.heap.size w w' := by
  have HD := Lib.hid hdep
  obtain ⟨a, cap, rfl, hl, hc, hs, hk⟩ := hra.parts
  obtain ⟨ab, capb, rfl, hlb, hcb, hsb, hkb⟩ := hrb.parts
  have HK := Lib.hid hk
  have HKb := Lib.hid hkb
  have HC := Lib.hid hcl
  have HBD := Lib.hid hbd
  clear hdep hra hrb hk hkb hcl hbd
  refine callsIn_of_wp_marks Tryz.func59 rfl trivial ?_ rfl
  simp only [Tryz.ntmps59, List.size_toArray, List.length_cons, List.length_nil, Nat.reduceAdd, Nat.reduceSub, Array.replicate_succ, Array.replicate_zero, List.push_toArray, List.append_toArray, List.nil_append, List.cons_append]
  have hd : 1 ≤ 8 := by omega
  gi_wp2_with (refine ⟨trivial, ?_⟩; gi_at_call 52; refine (callsIn_wide.2 (within_any _ 88 _ _ _ _ _ _ rfl)).mono ?_; rintro e w' ⟨rfl, rfl⟩)
  obtain ⟨w8, hw8⟩ : ∃ w8, ((((((((w.alloc (.cells #[.int .i8 ta.kind, .string (bytesL ta.text), .slice a ta.kids.length cap] 35)).alloc (.cells #[.int .i8 tb.kind, .string (bytesL tb.text), .slice ab tb.kids.length capb] 35)).alloc (.cells #[.bool false] 4)).alloc (.cells #[.int .i8 tb.kind, .string (bytesL tb.text), .slice ab tb.kids.length capb] 35)).alloc (.cells #[.slice (some ⟨w.heap.size + 1 + 1 + 1, 0, none⟩) 1 1] 26)).alloc (.cells #[.slice (some ⟨w.heap.size + 1 + 1 + 1 + 1, 0, none⟩) 1 1] 120)).alloc (.cells #[.int .i8 ta.kind, .string (bytesL ta.text), .slice a ta.kids.length cap] 35)).alloc (.cells #[.func (.func 88) #[] #[]] 76)) = w8 := ⟨_, rfl⟩
  have hb8 : Below w.heap.size w w8 := by
    rw [← hw8]
    exact ((((((((Below.refl _ w).alloc (Nat.le_refl _) _).alloc (by simp) _).alloc (by simp; omega) _).alloc (by simp; omega) _).alloc (by simp; omega) _).alloc (by simp; omega) _).alloc (by simp; omega) _).alloc (by simp; omega) _
  have hsz : w8.heap.size = w.heap.size + 8 := by rw [← hw8]; simp
  have q2 : w8.heap[w.heap.size + 2]? = some (.cells #[.bool false] 4 (0, 0)) := by rw [← hw8, heap_push, if_neg (by simp only [World.size_alloc]; omega), heap_push, if_neg (by simp only [World.size_alloc]; omega), heap_push, if_neg (by simp only [World.size_alloc]; omega), heap_push, if_neg (by simp only [World.size_alloc]; omega), heap_push, if_neg (by simp only [World.size_alloc]; omega), heap_push, if_pos (by simp)]
  have q3 : w8.heap[w.heap.size + 3]? = some (.cells #[.int .i8 tb.kind, .string (bytesL tb.text), .slice ab tb.kids.length capb] 35 (0, 0)) := by rw [← hw8, heap_push, if_neg (by simp only [World.size_alloc]; omega), heap_push, if_neg (by simp only [World.size_alloc]; omega), heap_push, if_neg (by simp only [World.size_alloc]; omega), heap_push, if_neg (by simp only [World.size_alloc]; omega), heap_push, if_pos (by simp)]
  have q4 : w8.heap[w.heap.size + 4]? = some (.cells #[.slice (some ⟨w.heap.size + 1 + 1 + 1, 0, none⟩) 1 1] 26 (0, 0)) := by rw [← hw8, heap_push, if_neg (by simp only [World.size_alloc]; omega), heap_push, if_neg (by simp only [World.size_alloc]; omega), heap_push, if_neg (by simp only [World.size_alloc]; omega), heap_push, if_pos (by simp)]
  have q5 : w8.heap[w.heap.size + 5]? = some (.cells #[.slice (some ⟨w.heap.size + 1 + 1 + 1 + 1, 0, none⟩) 1 1] 120 (0, 0)) := by rw [← hw8, heap_push, if_neg (by simp only [World.size_alloc]; omega), heap_push, if_neg (by simp only [World.size_alloc]; omega), heap_push, if_pos (by simp)]
  have q6 : w8.heap[w.heap.size + 6]? = some (.cells #[.int .i8 ta.kind, .string (bytesL ta.text), .slice a ta.kids.length cap] 35 (0, 0)) := by rw [← hw8, heap_push, if_neg (by simp only [World.size_alloc]; omega), heap_push, if_pos (by simp)]
  have q7 : w8.heap[w.heap.size + 7]? = some (.cells #[.func (.func 88) #[] #[]] 76 (0, 0)) := by rw [← hw8, heap_push, if_pos (by simp)]
  rw [hw8]
  clear hw8
  have hnode : Tree.node ta.kind ta.text ta.kids = ta := by cases ta; rfl
  have hnodeb : Tree.node tb.kind tb.text tb.kids = tb := by cases tb; rfl
  refine wpIn_rangeFunc_R rfl hd (gf := 83) (lb := #[.pointer (some ⟨w.heap.size + 6, 0, none⟩), .pointer (some ⟨w.heap.size + 7, 0, none⟩)]) rfl trivial (enters_of Tryz.func83 (by kernel_rfl) rfl)
    (encs := encY) (S := SY evr ta) (Sp := SpY evr ta) (keep := fun b => ¬ bad b ∨ b = w.heap.size + 6 ∨ b = w.heap.size + 7) (go := fun _ => True)
    (fun W hW => by
      have h1 := within1_in evr 88 (enters_of Tryz.func88 (by kernel_rfl) rfl) whatever_evr (8 - 1) (by omega) (w.heap.size + 6) (w.heap.size + 7) ta.kind ta.text ta.kids a cap bad (fun _ => True) W
        ⟨hl, hc, hs⟩ ((hW.block _ (by omega)).trans q6) ((hW.block _ (by omega)).trans q7)
        (RdL.keep (fun b hn hlt => (hW.block b (by have := HBD.out b hn; omega)).trans (hb8.block b (by have := HBD.out b hn; omega))) _ _ HK.out)
        (fun b hb => by have := hW.size; have := HBD.out b hb; omega)
        (fun b hb _ => by
          obtain ⟨cs, ty, h⟩ := HC.out b hb (HBD.out b hb)
          exact ⟨cs, ty, ((hW.block b (by have := HBD.out b hb; omega)).trans (hb8.block b (by have := HBD.out b hb; omega))).trans h⟩)
        (fun x hx _ hne => by
          rw [hnode] at hx
          rw [evr_kids] at hne
          exact HD.out _ hx hne)
      rw [hnode] at h1
      exact h1)
    (fun b hb => by
      rcases hb with hb | hb
      · have := HBD.out b hb; omega
      · omega) (fun _ => rfl)
    (SamI w ta tb) (SamX w ta tb)
    (fun R R' pre A B hR hI hT => by
      obtain ⟨g, cap, ra, rB, hg, hs, hb⟩ := hI
      exact SamI.turn ⟨g, cap, ra, rB, hg, hs, hb⟩ (fun b hb => (hR b hb).1) (by omega) hb.size hT)
    (fun R pre A l o o' hI hD hl' ho => hI.put hD (by omega) hl' ho)
    (fun R R' c pre A B hR hI hT => ⟨hI.1, hI.2.1, boxed_turn hI.2.2.1 hR (by omega) hT, below_turn hI.2.2.2 hR (by omega) hI.2.2.2.size hT⟩)
    (fun R c pre A l o o' hI hD hl' ho => ⟨hI.1, hI.2.1, boxed_put hI.2.2.1 hD hl' ho, below_put hI.2.2.2 hD (by omega) hl'⟩)
    ?_ (fun _ x q W => SamA w (.agg #[.int .i8 ta.kind, .string (bytesL ta.text), .slice a ta.kids.length cap]) (.agg #[.int .i8 tb.kind, .string (bytesL tb.text), .slice ab tb.kids.length capb]) (.func (.func 83) #[] #[.pointer (some ⟨w.heap.size + 6, 0, none⟩), .pointer (some ⟨w.heap.size + 7, 0, none⟩)]) x q W) ?_ ?assign ?body ?done ?stop
  · intro B hB
    refine ⟨w.heap.size + 4, 1, [[ta]], [(some ⟨w.heap.size + 3, 0, none⟩, 1, [tb])], fun h => h, ?_, hb8.trans (hB.mono hb8.size)⟩
    have p3 := (hB.block _ (by omega)).trans q3
    have g0 := cell_of_row _ _ 0 _ _ _ p3
    have g1 := cell_of_row _ _ 1 _ _ _ p3
    have g2 := cell_of_row _ _ 2 _ _ _ p3
    simp only [List.getElem?_toArray, List.getElem?_cons_zero, List.getElem?_cons_succ] at g0 g1 g2
    refine ⟨.inl rfl, (hB.block _ (by omega)).trans q5, ⟨rfl, .inr ⟨_, 1, _, rfl, by omega, (hB.block _ (by omega)).trans q4, Nat.le_refl _, by simp [maxLen], rfl, rfl⟩⟩, ?_, (hB.block _ (by omega)).trans q2, by simp [remL, preL], rfl, by simp, by simp⟩
    intro r hr
    simp at hr
    subst hr
    refine ⟨by simp, by simp [maxLen], w.heap.size + 3, 0, _, _, _, rfl, by omega, frozen_of_row _ _ 0 _ _ p3, g0, g1, g2, ?_, trivial⟩
    rw [← hnodeb]
    exact ⟨ab, capb, rfl, hlb, hcb, hsb, RdL.mono (fun b _ h => h.1) _ _ (RdL.keep (fun b hn hlt => (hB.block b (by omega)).trans (hb8.block b (by omega))) _ _ HKb.out)⟩
  · rintro R x a' A l o o' ⟨Bx, ya, yc, h8, hBx, hv, ha⟩ hD hl' ho
    exact ⟨Bx, ya, yc, h8, (World.putObj_heap_other (fun e => by subst e; rw [hBx] at hl'; cases hl'; cases ho)).trans hBx, hv, ha⟩
  case assign =>
    rintro l R pre ⟨d, y, vy⟩ W K hR hWs hSp hI hK
    obtain ⟨ya, yc, hv, _⟩ := hSp.2 _ (List.mem_append_right _ (List.mem_singleton.2 rfl))
    simp only at hv
    subst hv
    simp only [encY]
    have HI := Lib.hid hI
    have HSp := Lib.hid hSp
    clear hI hSp
    gi_wp2
    refine hK _ _ ((KeepsOthers.alloc _ _).from _) ⟨by simp, fun b hb => Below.heap_alloc _ _ _ ?_⟩ ?_ ⟨W.heap.size, ya, yc, by omega, heap_alloc_new W _, rfl, rfl⟩
    · rcases hb with hb | hb
      · exact (hR b hb).2
      · rcases hb with hb | hb <;> first | omega | (have := HBD.out b hb; omega)
    · obtain ⟨g, cap', ra, rB, hg, hs', hb⟩ := HI.out
      exact ⟨g, cap', ra, rB, hg, hs'.keep (fun b _ hlt => Below.heap_alloc _ _ _ hlt), hb.alloc hb.size _⟩
  case body =>
    rintro l R pre ⟨d, y, vy⟩ a' W hR hWs hSp ⟨g, capg, ra, rB, hg, hS, hB⟩ ⟨Bx, ya, yc, h8, hBx, hv, rfl⟩
    simp only at hv hBx
    subst hv
    have hrem : remL 0 ra = (d, y) :: (remL 0 ra).drop 1 := by
      obtain ⟨rest, hrest⟩ := hSp.1
      rw [← hS.rem, List.map_append, List.append_assoc] at hrest
      have := List.append_cancel_left hrest
      rw [← this]; rfl
    obtain ⟨pr, lr, tail, hra, hk0, htail, hmore⟩ := remL_next hrem
    have hlike := hS.like
    rw [hra] at hlike
    obtain ⟨preb, y', l', tailb, hrb, hplen, hplike, hll, rfl, hlen⟩ := like_split hlike htail
    obtain ⟨rB1, rBt, hB1, hm1, hm2⟩ := List.map_eq_append_iff.1 hrb
    obtain ⟨rBp, rBm, hB2, hm3, hm4⟩ := List.map_eq_append_iff.1 hm1
    obtain ⟨⟨rad, rc, rl⟩, hB3, hm5⟩ := List.map_eq_singleton_iff.1 hm4
    subst hB3
    simp only at hm5
    subst hm5
    subst hB2
    have hdl : d = rBp.length := by
      have := congrArg List.length hm3
      simp at this
      omega
    have hml : rB.length = d + 1 + rBt.length := by rw [hB1, hdl]; simp; omega
    have hok := hS.ok (rad, rc, y' :: l') (by rw [hB1]; simp)
    obtain ⟨g', o', v0, v1, v2, hrad, hbg', hfz', hy0, hy1, hy2, hyr, hlrd⟩ := hok.rd
    simp only at hrad
    subst hrad
    obtain ⟨yb, ybc, hv', hybb, hybc, hybt, hybk⟩ := hyr.parts
    have Hyb := Lib.hid (And.intro hybb (And.intro hybc hybt))
    have Hoc := Lib.hid (And.intro hok.len hok.cap)
    clear hl hc hs hlb hcb hsb hybb hybc hybt
    simp only [Value.agg.injEq, Array.mk.injEq, List.cons.injEq, and_true] at hv'
    obtain ⟨rfl, rfl, rfl⟩ := hv'
    have hrow := hS.row
    have hfew := hS.few
    have hgn := hS.gn
    have hcapg : rB.length ≤ capg ∧ g < W.heap.size := by
      refine ⟨?_, (hrow.lt g rfl).2⟩
      rcases hrow.2 with ⟨h', _⟩ | ⟨g2, cap2, cur, h', _, _, h3, _⟩
      · simp at h'
      · simp only [Value.slice.injEq, Option.some.injEq, Addr.mk.injEq, and_true, true_and] at h'
        omega
    have hcell := hrow.cellAt d (by omega)
    have hcv : (rB.map cellB)[d]? = some (.slice (some ⟨g', o', none⟩) (l'.length + 1) rc) := by
      rw [hB1, hdl, List.append_assoc, List.map_append, List.getElem?_append_right (by simp)]
      simp [cellB]
    rw [hcv] at hcell
    have hcfz := hrow.frozenAt d
    have k5 : W.cell? ⟨w.heap.size + 1 + 1 + 1 + 1 + 1, 0, none⟩ = some (.slice (some ⟨g, 0, none⟩) rB.length capg) := hS.box.cell
    have f5 : W.frozen? ⟨w.heap.size + 1 + 1 + 1 + 1 + 1, 0, none⟩ = false := hS.box.frozen
    have k2 : W.cell? ⟨w.heap.size + 1 + 1, 0, none⟩ = some (.bool false) := hS.res.cell
    have f2 : W.frozen? ⟨w.heap.size + 1 + 1, 0, none⟩ = false := hS.res.frozen
    have c0 := cell_of_row _ _ 0 _ _ _ hBx
    have c1 := cell_of_row _ _ 1 _ _ _ hBx
    have c2 := cell_of_row _ _ 2 _ _ _ hBx
    simp only [List.getElem?_toArray, List.getElem?_cons_zero, List.getElem?_cons_succ] at c0 c1 c2
    have hBl := (Array.getElem?_eq_some_iff.1 hBx).1
    have hg'l : g' < W.heap.size := World.block_lt_of_cell? W ⟨g', o', none⟩ hy0
    have hg'n : g' < w.heap.size ∨ g' = w.heap.size + 3 := by omega
    have e0 := eq_false (x := (d : Int)) (y := 9223372036854775806) (by omega)
    have hd1000 : d < 1000 := by omega
    have hmx : Tryz.prog.follows .mixedOrders = true := by kernel_rfl
    have h5l := hS.box.lt
    have hbn := hB.size
    have a0 : ∀ v, (W.setCell ⟨w.heap.size + 1 + 1 + 1 + 1 + 1, 0, none⟩ v).cell? ⟨g, d, none⟩ = _ := fun v => (World.cell?_setCell_far W _ _ v (by show w.heap.size + 5 ≠ g; omega)).trans hcell
    have a1 : ∀ v, (W.setCell ⟨w.heap.size + 1 + 1 + 1 + 1 + 1, 0, none⟩ v).cell? ⟨g', o', none⟩ = _ := fun v => (World.cell?_setCell_far W _ _ v (by show w.heap.size + 5 ≠ g'; omega)).trans hy0
    have a2 : ∀ v, (W.setCell ⟨w.heap.size + 1 + 1 + 1 + 1 + 1, 0, none⟩ v).cell? ⟨g', o' + 1, none⟩ = _ := fun v => (World.cell?_setCell_far W _ _ v (by show w.heap.size + 5 ≠ g'; omega)).trans hy1
    have a3 : ∀ v, (W.setCell ⟨w.heap.size + 1 + 1 + 1 + 1 + 1, 0, none⟩ v).cell? ⟨g', o' + 1 + 1, none⟩ = _ := fun v => (World.cell?_setCell_far W _ _ v (by show w.heap.size + 5 ≠ g'; omega)).trans hy2
    have hlm : d + 1 ≤ capg := by omega
    have hR' : ¬ y = y' → ¬ ta = tb := fun hne he => by
      have h1 := hS.same.1 he
      rw [hra, hrb, List.append_assoc, List.append_assoc] at h1
      have h2 := (List.append_inj h1 hplen.symm).2
      simp only [List.cons_append, List.nil_append, List.cons.injEq] at h2
      exact hne h2.1.1
    have HR := Lib.hid hR'
    have Hrb := Lib.hid hrb
    have Htl := Lib.hid htail
    clear hR'
    have Hrem := Lib.hid hrem
    have Hra := Lib.hid hra
    have HB1 := Lib.hid hB1
    have Hm1 := Lib.hid hm1
    have Hm2 := Lib.hid hm2
    have Hm3 := Lib.hid hm3
    have Hml := Lib.hid hml
    have Hdl := Lib.hid hdl
    have HS := Lib.hid hS
    have HBB := Lib.hid hB
    have HBx := Lib.hid hBx
    have Hmore := Lib.hid hmore
    have Hlen := Lib.hid hlen
    have Hrow := Lib.hid hrow
    have HSp := Lib.hid hSp
    have Hok := Lib.hid hok
    have Hlrd := Lib.hid hlrd
    have Hybk := Lib.hid hybk
    have Hll := Lib.hid hll
    have Hpl := Lib.hid hplen
    have Hpk := Lib.hid hplike
    clear hrem hra hB1 hm1 hm2 hm3 hm4 hml hdl hS hB hBx hmore hlen hrow hSp hok hlrd hybk hll hplen hplike hcv hrb hlike htail hyr hk0 hd
    have hw1 := wrap_few hd1000
    gi_wp2
    obtain ⟨W2, hW2⟩ : ∃ W2, W2 = (W.setCell ⟨w.heap.size + 1 + 1 + 1 + 1 + 1, 0, none⟩ (.slice (some ⟨g, 0, none⟩) (d + 1) capg)).alloc (.cells #[.int .i8 y'.kind, .string (bytesL y'.text), .slice yb y'.kids.length ybc] 35) := ⟨_, rfl⟩
    rw [← hW2]
    have hs2 : W2.heap.size = W.heap.size + 1 := by rw [hW2]; simp [World.setCell]
    have hb2 : ∀ b, b < W.heap.size → b ≠ w.heap.size + 5 → W2.heap[b]? = W.heap[b]? := fun b hlt hne => by
      rw [hW2]
      exact (Below.heap_alloc _ _ _ (by simp [World.setCell]; omega)).trans (Below.heap_setCell _ _ _ _ hne)
    have hbx2 : Boxed W2 (w.heap.size + 5) 120 (.slice (some ⟨g, 0, none⟩) (d + 1) capg) := by
      rw [hW2]
      exact (HS.out.box.set _).alloc _
    have hy2' : W2.heap[W.heap.size]? = some (.cells #[.int .i8 y'.kind, .string (bytesL y'.text), .slice yb y'.kids.length ybc] 35 (0, 0)) := by
      rw [hW2]
      have := World.alloc_heap_new (W.setCell ⟨w.heap.size + 1 + 1 + 1 + 1 + 1, 0, none⟩ (.slice (some ⟨g, 0, none⟩) (d + 1) capg)) (.cells #[.int .i8 y'.kind, .string (bytesL y'.text), .slice yb y'.kids.length ybc] 35)
      have hsz' : (W.setCell ⟨w.heap.size + 1 + 1 + 1 + 1 + 1, 0, none⟩ (.slice (some ⟨g, 0, none⟩) (d + 1) capg)).heap.size = W.heap.size := by simp [World.setCell]
      rw [hsz'] at this
      exact this
    have hrow2 := ownsRow_heap HS.out.row (w' := W2) (fun g2 e => by cases e; exact hb2 g hcapg.2 (by omega))
    have k5 : W2.cell? ⟨w.heap.size + 1 + 1 + 1 + 1 + 1, 0, none⟩ = some (.slice (some ⟨g, 0, none⟩) (d + 1) capg) := hbx2.cell
    have f5 : W2.frozen? ⟨w.heap.size + 1 + 1 + 1 + 1 + 1, 0, none⟩ = false := hbx2.frozen
    have hres2 : Boxed W2 (w.heap.size + 2) 4 (.bool false) := (hb2 _ HS.out.res.lt (by omega)).trans HS.out.res
    have k2 : W2.cell? ⟨w.heap.size + 1 + 1, 0, none⟩ = some (.bool false) := hres2.cell
    have f2 : W2.frozen? ⟨w.heap.size + 1 + 1, 0, none⟩ = false := hres2.frozen
    have hcell2 : W2.cell? ⟨g, d, none⟩ = _ := (World.cell?_of_block (a := ⟨g, d, none⟩) (hb2 g (by omega) (by omega))).trans hcell
    have hcfz2 : W2.frozen? ⟨g, d, none⟩ = false := (World.frozen?_of_block (a := ⟨g, d, none⟩) (hb2 g (by omega) (by omega))).trans hcfz
    have hBx2 := (hb2 Bx hBl (by omega)).trans HBx.out
    have c0' := cell_of_row _ _ 0 _ _ _ hBx2
    have c1' := cell_of_row _ _ 1 _ _ _ hBx2
    have c2' := cell_of_row _ _ 2 _ _ _ hBx2
    have e0' := cell_of_row _ _ 0 _ _ _ hy2'
    have e1' := cell_of_row _ _ 1 _ _ _ hy2'
    have e2' := cell_of_row _ _ 2 _ _ _ hy2'
    simp only [List.getElem?_toArray, List.getElem?_cons_zero, List.getElem?_cons_succ] at c0' c1' c2' e0' e1' e2'
    have hs1 : (1 : Int) ≤ (l'.length : Int) + 1 := by omega
    have Hrow2 := Lib.hid hrow2
    have HBx2 := Lib.hid hBx2
    have Hy2 := Lib.hid hy2'
    have Hres2 := Lib.hid hres2
    have Hbx2 := Lib.hid hbx2
    have Hb2 := Lib.hid hb2
    have hsub2 : Below w.heap.size w W2 := by
      refine HBB.out.trans ⟨by rw [hW2]; rfl, by rw [hW2]; rfl, by rw [hW2]; rfl, by omega, fun b hb => hb2 b (by omega) (by omega)⟩
    have Hsub2 := Lib.hid hsub2
    have hko2 : KeepsOthers W W2 := by rw [hW2]; exact (KeepsOthers.setCell _ _ _).trans (KeepsOthers.alloc _ _)
    have Hko2 := Lib.hid hko2
    clear hrow2 hBx2 hy2' hres2 hbx2 hb2 hW2 a0 a1 a2 a3 c0 c1 c2 k5 f5 k2 f2 hcell hcfz hsub2 hko2
    have k5 : W2.cell? ⟨w.heap.size + 1 + 1 + 1 + 1 + 1, 0, none⟩ = some (.slice (some ⟨g, 0, none⟩) (d + 1) capg) := Hbx2.out.cell
    have f5 : W2.frozen? ⟨w.heap.size + 1 + 1 + 1 + 1 + 1, 0, none⟩ = false := Hbx2.out.frozen
    have k2 : W2.cell? ⟨w.heap.size + 1 + 1, 0, none⟩ = some (.bool false) := Hres2.out.cell
    have f2 : W2.frozen? ⟨w.heap.size + 1 + 1, 0, none⟩ = false := Hres2.out.frozen
    obtain ⟨na, hna⟩ : ∃ na : Option Addr, (if rc = 1 then some ⟨g', o', none⟩ else some ⟨g', o' + 3, none⟩) = na := ⟨_, rfl⟩
    refine wpIn_mono (Q := fun e q w' => e = .normal ∧ q = ({ tmps := List.toArray ((Value.agg #[.int .i8 ta.kind, .string (bytesL ta.text), .slice a ta.kids.length cap]) :: (Value.agg #[.int .i8 tb.kind, .string (bytesL tb.text), .slice ab tb.kids.length capb]) :: (Value.pointer (some ⟨w.heap.size, 0, none⟩)) :: (Value.pointer (some ⟨w.heap.size + 1, 0, none⟩)) :: (Value.pointer (some ⟨w.heap.size + 1 + 1, 0, none⟩)) :: (Value.pointer (some ⟨w.heap.size + 1 + 1 + 1 + 1 + 1, 0, none⟩)) :: (Value.func (.func 88) #[] #[]) :: (Value.int .i64 d) :: (Value.pointer (some ⟨Bx, 0, none⟩)) :: (Value.pointer (some ⟨W.heap.size, 0, none⟩)) :: (Value.agg #[.int .i8 tb.kind, .string (bytesL tb.text), .slice ab tb.kids.length capb]) :: (Value.slice (some ⟨w.heap.size + 1 + 1 + 1, 0, none⟩) 1 1) :: (Value.slice (some ⟨w.heap.size + 1 + 1 + 1 + 1, 0, none⟩) 1 1) :: (Value.agg #[.int .i8 ta.kind, .string (bytesL ta.text), .slice a ta.kids.length cap]) :: (Value.func (.func 88) #[] #[]) :: (Value.func (.func 83) #[] #[.pointer (some ⟨w.heap.size + 6, 0, none⟩), .pointer (some ⟨w.heap.size + 7, 0, none⟩)]) :: (Value.int .i64 d) :: (Value.agg #[.int .i8 y.kind, .string (bytesL y.text), .slice ya y.kids.length yc]) :: (Value.int .i64 d) :: (Value.bool false) :: (Value.slice (some ⟨g, 0, none⟩) rB.length capg) :: (Value.int .i64 d) :: (Value.int .i64 ((d : Int) + 1)) :: (Value.slice (some ⟨g, 0, none⟩) (d + 1) capg) :: (Value.slice (some ⟨g, 0, none⟩) (d + 1) capg) :: (Value.int .i64 d) :: (Value.pointer (some ⟨g, d, none⟩)) :: (Value.slice (some ⟨g', o', none⟩) (l'.length + 1) rc) :: (Value.pointer (some ⟨g', o', none⟩)) :: (Value.agg #[.int .i8 y'.kind, .string (bytesL y'.text), .slice yb y'.kids.length ybc]) :: (Value.slice (some ⟨g, 0, none⟩) (d + 1) capg) :: (Value.int .i64 d) :: (Value.slice (some ⟨g, 0, none⟩) (d + 1) capg) :: (Value.int .i64 d) :: (Value.pointer (some ⟨g, d, none⟩)) :: (Value.slice (some ⟨g', o', none⟩) (l'.length + 1) rc) :: (Value.slice na l'.length (rc - 1)) :: (Value.pointer (some ⟨g, d, none⟩)) :: undef :: undef :: undef :: undef :: undef :: undef :: undef :: undef :: undef :: undef :: undef :: undef :: undef :: undef :: undef :: undef :: undef :: undef :: undef :: undef :: undef :: undef :: undef :: undef :: undef :: undef :: []), defers := [] } : Act) ∧ w' = (W2.setCell ⟨g, d, none⟩ (.slice na l'.length (rc - 1))).drew) ?_ ?_
    · gi_region_with_o (fail)
      all_goals exact ⟨rfl, rfl, rfl⟩
    rintro e q w' ⟨rfl, rfl, rfl⟩
    obtain ⟨W3, hW3⟩ : ∃ W3, W3 = (W2.setCell ⟨g, d, none⟩ (.slice na l'.length (rc - 1))).drew := ⟨_, rfl⟩
    rw [← hW3]
    have hb3 : ∀ b, b ≠ g → W3.heap[b]? = W2.heap[b]? := fun b hne => by rw [hW3]; exact Below.heap_setCell _ _ _ _ hne
    have hs3 : W3.heap.size = W2.heap.size := by rw [hW3]; simp [World.setCell]
    have hbx3 : Boxed W3 (w.heap.size + 5) 120 (.slice (some ⟨g, 0, none⟩) (d + 1) capg) := (hb3 _ (by omega)).trans Hbx2.out
    have hres3 : Boxed W3 (w.heap.size + 2) 4 (.bool false) := (hb3 _ (by omega)).trans Hres2.out
    have hBx3 := (hb3 Bx (by
      intro e
      subst e
      have h1 := HBx2.out
      rcases Hrow2.out.2 with ⟨h', _⟩ | ⟨g2, cap2, cur, h', _, h3, _⟩
      · simp at h'
      · simp only [Value.slice.injEq, Option.some.injEq, Addr.mk.injEq, and_true, true_and] at h'
        obtain ⟨rfl, rfl⟩ := h'
        rw [h3] at h1; cases h1)).trans HBx2.out
    have hy3 := (hb3 W.heap.size (by omega)).trans Hy2.out
    have hrow3 := (Hrow2.out.stored d (.slice na l'.length (rc - 1))).1
    have hsub3 : Below w.heap.size w W3 := Hsub2.out.trans ⟨by rw [hW3]; rfl, by rw [hW3]; rfl, by rw [hW3]; rfl, by omega, fun b hb => hb3 b (by omega)⟩
    have hko3 : KeepsOthers W W3 := by rw [hW3]; exact (Hko2.out.trans (KeepsOthers.setCell _ _ _)).trans (KeepsOthers.drew _)
    have Hrow3 := Lib.hid (show W3.ownsRow w.heap.size 26 1 (.slice (some ⟨g, 0, none⟩) rB.length capg) rB.length ((rB.map cellB).set d (.slice na l'.length (rc - 1))) by rw [hW3]; exact hrow3)
    have HBx3 := Lib.hid hBx3
    have Hy3 := Lib.hid hy3
    have Hres3 := Lib.hid hres3
    have Hbx3 := Lib.hid hbx3
    have Hb3 := Lib.hid hb3
    have Hsub3 := Lib.hid hsub3
    have Hko3 := Lib.hid hko3
    have Hs3 := Lib.hid (show W3.heap.size = W.heap.size + 1 by omega)
    clear hs2 hs3 hb3 hbx3 hres3 hBx3 hy3 hrow3 hsub3 hko3 hW3 k5 f5 k2 f2 c0' c1' c2' e0' e1' e2' hcell2 hcfz2 hw1
    have k5 : W3.cell? ⟨w.heap.size + 1 + 1 + 1 + 1 + 1, 0, none⟩ = some (.slice (some ⟨g, 0, none⟩) (d + 1) capg) := Hbx3.out.cell
    have f5 : W3.frozen? ⟨w.heap.size + 1 + 1 + 1 + 1 + 1, 0, none⟩ = false := Hbx3.out.frozen
    have k2 : W3.cell? ⟨w.heap.size + 1 + 1, 0, none⟩ = some (.bool false) := Hres3.out.cell
    have f2 : W3.frozen? ⟨w.heap.size + 1 + 1, 0, none⟩ = false := Hres3.out.frozen
    have c0' := cell_of_row _ _ 0 _ _ _ HBx3.out
    have c1' := cell_of_row _ _ 1 _ _ _ HBx3.out
    have c2' := cell_of_row _ _ 2 _ _ _ HBx3.out
    have e0' := cell_of_row _ _ 0 _ _ _ Hy3.out
    have e1' := cell_of_row _ _ 1 _ _ _ Hy3.out
    have e2' := cell_of_row _ _ 2 _ _ _ Hy3.out
    simp only [List.getElem?_toArray, List.getElem?_cons_zero, List.getElem?_cons_succ] at c0' c1' c2' e0' e1' e2'
    by_cases hk1 : y.kind = y'.kind
    · by_cases ht1 : y.text = y'.text
      · by_cases hl1 : y.kids.length = y'.kids.length
        · have q1 := ne_false (x := y.kind) (y := y'.kind) hk1
          have q2' : (bytesL y.text).toList = (bytesL y'.text).toList := by rw [ht1]
          have q3 := ne_false (x := (y.kids.length : Int)) (y := (y'.kids.length : Int)) (by omega)
          have Heq := Lib.hid (And.intro hk1 (And.intro ht1 hl1))
          obtain ⟨i0, hi, hz0, hz1, hz2⟩ := info_parts infoSl
          have hrowd : W3.ownsRow w.heap.size 26 1 (.slice (some ⟨g, 0, none⟩) (d + 1) capg) (d + 1) (((rB.map cellB).set d (.slice na l'.length (rc - 1))).take ((d + 1) * 1)) := own_take_to Hrow3.out (by have := Hml.out; omega)
          have Hrowd := Lib.hid hrowd
          clear hk1 ht1 hl1 hrowd
          gi_wp2_with (gi_at_builtin; refine wpListIn_append_own_at _ rfl _ _ 120 rfl w.heap.size 26 i0 _ 1 24 Tryz.underlying120 hi hz0 hz1 hz2 rfl (by decide) _ (d + 1) _ rfl (Hrowd.out.alloc _) ⟨W3.heap.size, 0, none⟩ 1 1 [.slice yb y'.kids.length ybc] rfl rfl ?_ ?_ ?_ ?_ ?_ ?_)
          · exact World.news_of_block (cs := #[.slice yb y'.kids.length ybc]) (t := 26) (fr := (0, 0)) (heap_alloc_new W3 _)
          · simp [Value.oneCell']
          · have := Hml.out; unfold maxLen; omega
          · have := Hml.out; omega
          · have := Hsub3.out.size; simp; omega
          · intro v' W4 hown' hgrow _ hsame
            obtain ⟨g2, cap2, rfl⟩ := ownsRow_succ hown'
            obtain ⟨hy1k, hy1t, hy1l⟩ := Heq.out
            have hml2 := Hml.out
            have hg3 : g < W3.heap.size := by have := Hs3.out; have := hcapg.2; omega
            have hold : ∀ b, b < W3.heap.size → b ≠ g → W4.heap[b]? = W3.heap[b]? := fun b hb hne =>
              (hgrow.block b (by simp; omega) (fun e => hne (by simpa [Value.ownBlock] using e))).trans (Below.heap_alloc _ _ _ hb)
            have hs34 : W3.heap.size ≤ W4.heap.size := by have := hgrow.size; simp at this; omega
            have hg2 : g2 = g ∨ (W3.heap.size ≤ g2 ∧ g2 < W4.heap.size) := by
              rcases hsame with h | h
              · exact .inl (by simpa [Value.ownBlock] using h)
              · have : g2 = W3.heap.size + 1 := by simpa [Value.ownBlock] using h
                exact .inr ⟨by omega, (hown'.lt g2 rfl).2⟩
            have hbx4 : Boxed W4 (w.heap.size + 5) 120 (.slice (some ⟨g, 0, none⟩) (d + 1) capg) := (hold _ Hbx3.out.lt (by omega)).trans Hbx3.out
            have k54 : W4.cell? ⟨w.heap.size + 1 + 1 + 1 + 1 + 1, 0, none⟩ = some (.slice (some ⟨g, 0, none⟩) (d + 1) capg) := hbx4.cell
            have f54 : W4.frozen? ⟨w.heap.size + 1 + 1 + 1 + 1 + 1, 0, none⟩ = false := hbx4.frozen
            have Hown := Lib.hid hown'
            have Hgrow := Lib.hid hgrow
            have Hold := Lib.hid hold
            have Hbx4 := Lib.hid hbx4
            clear hown' hgrow hold hbx4 hsame
            have hdle : d ≤ 239 := dep_all HD.out (d, y) (HSp.out.1.subset (List.mem_map.2 ⟨_, List.mem_append_right _ (List.mem_singleton.2 rfl), rfl⟩))
            have hWlow : w8.heap.size ≤ W.heap.size := hWs
            have hkeep : ∀ b, b < w.heap.size ∨ b = w.heap.size + 3 → W4.heap[b]? = W.heap[b]? := fun b hb => by
              rw [Hold.out b (by have := Hs3.out; omega) (by omega), Hb3.out b (by omega), Hb2.out b (by omega) (by omega)]
            have hkp : ∀ b, b < W.heap.size → b ≠ g → b ≠ w.heap.size + 5 → W4.heap[b]? = W.heap[b]? := fun b hb h1 h2 => by
              rw [Hold.out b (by have := Hs3.out; omega) h1, Hb3.out b h1, Hb2.out b hb h2]
            have hsz4 : W.heap.size ≤ W4.heap.size := by have := Hs3.out; omega
            have hko4 : KeepsOthers W W4 := by
              refine (Hko3.out.trans (KeepsOthers.alloc W3 _)).trans (KeepsOthers.of_grownBy Hgrow.out fun j o ej hj => ?_)
              have hjg : j = g := by simpa [Value.ownBlock] using ej.symm
              subst hjg
              rcases (Hrowd.out.alloc (.cells #[.slice yb y'.kids.length ybc] 26)).2 with ⟨h', _⟩ | ⟨g3, cap3, cur3, h', _, hgb, _⟩
              · simp at h'
              · simp only [Value.slice.injEq, Option.some.injEq, Addr.mk.injEq, and_true, true_and] at h'
                obtain ⟨rfl, rfl⟩ := h'
                rw [hgb] at hj; cases hj; rfl
            have hsub4 : Below w.heap.size w W4 := by
              refine Hsub3.out.trans ⟨Hgrow.out.os, Hgrow.out.tape, Hgrow.out.output, hs34, fun b hb => Hold.out b (by have := Hs3.out; omega) (by omega)⟩
            have hres4 : Boxed W4 (w.heap.size + 2) 4 (.bool false) := (Hold.out _ Hres3.out.lt (by omega)).trans Hres3.out
            have hlB : (rBp ++ [((na, rc - 1, l') : RowB)] ++ [((yb, ybc, y'.kids) : RowB)]).length = d + 1 + 1 := by rw [Hdl.out]; simp
            have hset : ((rB.map cellB).set d (.slice na l'.length (rc - 1))).take (d + 1) ++ [Value.slice yb y'.kids.length ybc] = (rBp ++ [((na, rc - 1, l') : RowB)] ++ [((yb, ybc, y'.kids) : RowB)]).map cellB := by
              have h1 := sam_rows (rBp.map cellB) (rBt.map cellB) (cellB (some ⟨g', o', none⟩, rc, y' :: l')) (.slice na l'.length (rc - 1))
              rw [List.length_map, ← Hdl.out] at h1
              rw [HB1.out]
              simp only [List.map_append, List.map_cons, List.map_nil, List.append_assoc, List.cons_append, List.nil_append]
              rw [h1, List.append_assoc]
              rfl
            have hown5 := Hown.out
            rw [hset] at hown5
            have hS5 : SamS w.heap.size ta tb (pre ++ [((d, y, .agg #[.int .i8 y.kind, .string (bytesL y.text), .slice ya y.kids.length yc]) : Itm)]) g2 cap2 (pr ++ [lr] ++ [y.kids]) (rBp ++ [((na, rc - 1, l') : RowB)] ++ [((yb, ybc, y'.kids) : RowB)]) (W4.setCell ⟨w.heap.size + 1 + 1 + 1 + 1 + 1, 0, none⟩ (.slice (some ⟨g2, 0, none⟩) (d + 1 + 1) cap2)) := by
              have hsc : ∀ b, b ≠ w.heap.size + 5 → (W4.setCell ⟨w.heap.size + 1 + 1 + 1 + 1 + 1, 0, none⟩ (.slice (some ⟨g2, 0, none⟩) (d + 1 + 1) cap2)).heap[b]? = W4.heap[b]? := fun b hne => Below.heap_setCell _ _ _ _ hne
              have hrd : ∀ l a, RdL W (fun b => w.heap.size ≤ b ∧ b ≠ w.heap.size + 3) l a → RdL (W4.setCell ⟨w.heap.size + 1 + 1 + 1 + 1 + 1, 0, none⟩ (.slice (some ⟨g2, 0, none⟩) (d + 1 + 1) cap2)) (fun b => w.heap.size ≤ b ∧ b ≠ w.heap.size + 3) l a := fun l a h =>
                RdL.keep (fun b hb hlt => (hsc b (by omega)).trans (hkeep b (by omega))) l a h
              refine ⟨?_, ?_, ?_, fun r hr => ?_, (hsc _ (by omega)).trans hres4, ?_, ?_, ?_, by rw [hlB]; omega⟩
              · rcases hg2 with rfl | h
                · exact hgn
                · right; have := Hs3.out; omega
              · rw [hlB]; exact Hbx4.out.set _
              · rw [hlB]
                exact ownsRow_heap hown5 (fun g3 e => by cases e; exact hsc g2 (by have := Hs3.out; omega))
              · rcases List.mem_append.1 hr with hr | hr
                · rcases List.mem_append.1 hr with hr | hr
                  · have ho := HS.out.ok r (by rw [HB1.out]; simp [hr])
                    exact ⟨ho.len, ho.cap, hrd _ _ ho.rd⟩
                  · simp at hr
                    subst hr
                    obtain ⟨hoc1, hoc2⟩ := Hoc.out
                    simp only [List.length_cons] at hoc1
                    refine ⟨by show l'.length ≤ rc - 1; omega, by show rc - 1 ≤ maxLen; omega, ?_⟩
                    show RdL _ _ l' na
                    by_cases hrc : rc = 1
                    · have : l' = [] := List.eq_nil_of_length_eq_zero (by omega)
                      rw [this]; exact trivial
                    · rw [if_neg hrc] at hna
                      rw [← hna]
                      exact hrd _ _ Hlrd.out
                · simp at hr
                  subst hr
                  obtain ⟨hb1, hb2, _⟩ := Hyb.out
                  exact ⟨hb1, hb2, hrd _ _ Hybk.out⟩
              · have h1 := HS.out.rem
                rw [Hrem.out, Hmore.out] at h1
                rw [List.map_append, List.append_assoc]
                exact h1
              · have h1 := like_step Hpk.out Hll.out hy1l
                rw [List.map_append, List.map_append, Hm3.out]
                exact h1
              · rw [HS.out.same, Hra.out, Hrb.out, List.map_append, List.map_append, Hm3.out]
                exact eq_step Hpl.out hy1k hy1t
            have HS5 := Lib.hid hS5
            have Hkp := Lib.hid hkp
            have Hko4 := Lib.hid hko4
            have Hsub4 := Lib.hid hsub4
            clear hS5 hkp hko4 hsub4 hkeep hown5 hset hlB hres4
            gi_wp2
            refine ⟨(Hko4.out.trans (KeepsOthers.setCell _ _ _)).from _, ⟨by simp [World.setCell]; omega, fun b hb => ?_⟩, trivial, g2, cap2, _, _, ?_, HS5.out, Hsub4.out.setCell (p := ⟨w.heap.size + 5, 0, none⟩) (by show w.heap.size ≤ w.heap.size + 5; omega) _⟩
            · have hb' : b < W.heap.size ∧ b ≠ g ∧ b ≠ w.heap.size + 5 := by
                rcases hb with hb | hb
                · refine ⟨(hR b hb).2, fun e => hg (e ▸ hb), ?_⟩
                  have := (hR b hb).1; omega
                · rcases hb with hb | hb <;> first | omega | (have := HBD.out b hb; omega)
              exact (Below.heap_setCell _ _ _ _ hb'.2.2).trans (Hkp.out b hb'.1 hb'.2.1 hb'.2.2)
            · rcases hg2 with rfl | h
              · exact hg
              · intro hr
                have := (hR _ hr).2
                have := Hs3.out
                omega
        · have q1 := ne_false (x := y.kind) (y := y'.kind) hk1
          have q2' : (bytesL y.text).toList = (bytesL y'.text).toList := by rw [ht1]
          have q3 := ne_true (x := (y.kids.length : Int)) (y := (y'.kids.length : Int)) (by omega)
          have Hnot := Lib.hid (show ¬ y = y' from fun e => hl1 (by rw [e]))
          clear hk1 ht1 hl1
          gi_wp2
          exact sam_stop (HR.out Hnot.out) Hres3.out Hsub3.out Hko3.out
      · have q1 := ne_false (x := y.kind) (y := y'.kind) hk1
        have q2' : ¬ (bytesL y.text).toList = (bytesL y'.text).toList := by
          intro e
          rw [ByteArray.toList_eq, ByteArray.toList_eq, bytesL_list, bytesL_list] at e
          exact ht1 e
        have Hnot := Lib.hid (show ¬ y = y' from fun e => ht1 (by rw [e]))
        clear hk1 ht1
        gi_wp2
        exact sam_stop (HR.out Hnot.out) Hres3.out Hsub3.out Hko3.out
    · have q1 := ne_true (x := y.kind) (y := y'.kind) hk1
      have Hnot := Lib.hid (show ¬ y = y' from fun e => hk1 (by rw [e]))
      clear hk1
      gi_wp2
      exact sam_stop (HR.out Hnot.out) Hres3.out Hsub3.out Hko3.out
  case done =>
    rintro D R ys W hD hR hS ⟨g, capg, ra, rB, hg, hs', hB⟩ hKD
    have hre : remL 0 ra = [] := by
      have h1 := hs'.rem
      rw [← hS.1] at h1
      simpa using h1
    have hall : ta = tb := hs'.same.2 (like_end hs'.like (remL_nil hre))
    have k0 : W.cell? ⟨w.heap.size + 1 + 1, 0, none⟩ = some (.bool false) := hs'.res.cell
    have f0 : W.frozen? ⟨w.heap.size + 1 + 1, 0, none⟩ = false := hs'.res.frozen
    have HKD := Lib.hid hKD
    have H1 := Lib.hid hs'.res
    have H2 := Lib.hid hB
    have HA := Lib.hid hall
    clear hS hs' hB hre hall hKD
    gi_wp2
    have hK2 : (W.setCell ⟨w.heap.size + 1 + 1, 0, none⟩ (.bool true)).heap[D]? = some (.deferred (some [])) := (Below.heap_setCell _ _ _ _ (by show D ≠ w.heap.size + 2; omega)).trans HKD.out
    have hcell : ((W.setCell ⟨w.heap.size + 1 + 1, 0, none⟩ (.bool true)).putObj D (.deferred none)).cell? ⟨w.heap.size + 1 + 1, 0, none⟩ = some (.bool true) := (boxed_put (H1.out.set _) (Nat.le_refl D) hK2 rfl).cell
    refine ⟨by simp, .inl ⟨_, _, rfl, run_takeDeferred hK2, ?_⟩⟩
    refine ⟨.bool true, ?_, ⟨true, rfl, by simp [HA.out]⟩, below_put (H2.out.setCell (p := ⟨w.heap.size + 2, 0, none⟩) (by show w.heap.size ≤ w.heap.size + 2; omega) _) hD (by omega) hK2⟩
    simp [results, Tryz.results59, go_sem, hcell]
  case stop =>
    rintro D R c pre x W hD hR hSp ⟨rfl, hz, h1, h2⟩ hKD
    have HKD := Lib.hid hKD
    have H1 := Lib.hid h1
    have H2 := Lib.hid h2
    have HA := Lib.hid hz
    clear hSp hz h1 h2 hKD
    gi_wp2
    have hcell : (W.putObj D (.deferred none)).cell? ⟨w.heap.size + 1 + 1, 0, none⟩ = some (.bool false) := (boxed_put H1.out (Nat.le_refl D) HKD.out rfl).cell
    refine ⟨by simp, .inl ⟨_, _, rfl, run_takeDeferred HKD.out, ?_⟩⟩
    refine ⟨.bool false, ?_, ⟨false, rfl, by simp [HA.out]⟩, below_put H2.out hD (by omega) HKD.out⟩
    simp [results, Tryz.results59, go_sem, hcell]
theorem Same_any (ta tb : Tree) (va vb : Value) (w : World) (hdep : ∀ x ∈ preT evr 0 ta, x.2.kids ≠ [] → x.1 < 239) (bad : Nat → Prop) (hbd : ∀ b, ¬ bad b → b < w.heap.size) (hra : Rd w bad ta va) (hcl : Clean w bad) (hrb : Sx w tb vb) :
    Calls Tryz.prog 59 #[va, vb] w fun e w' => (∃ r, e = .returned (.bool r) ∧ (r = true ↔ ta = tb)) ∧ Below w.heap.size w w' := callsIn_wide.1 (Same_in ta tb va vb w hdep bad hbd hra hcl hrb)
end Go.Proofs.YtodonngnigbpaaaGreatDoor
