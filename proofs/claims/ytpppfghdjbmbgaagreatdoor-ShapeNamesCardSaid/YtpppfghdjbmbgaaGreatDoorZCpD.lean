/- Core: Is, whole. -/
import Derived.Test.YtpppfghdjbmbgaaGreatDoorZCoR
import Derived.Test.YtpppfghdjbmbgaaGreatDoorZOfJ
namespace Go.Proofs.YtpppfghdjbmbgaaGreatDoor.Tm
open Go.RowKit
set_option linter.unusedVariables false
/-- The node at a place is its own base. -/
def basA (l : List NodeA) (i : Int) : Prop := ¬ (nodA l i).op = 11 ∧ ((nodA l i).op = 10 → i = 1)
def okN (l : List NodeA) (n : NodeA) : Prop := (n.op = 11 → ¬ n.num = 0 ∧ ¬ (nodA l n.a0).op = 11 ∧ ¬ (nodA l n.a0).op = 10) ∧ (n.op = 12 → ¬ n.a0 = n.a1 ∧ basA l n.a0 ∧ basA l n.a1)
def QO (l : List NodeA) : Prop := ∀ n ∈ l, okN l n
theorem nodA_pre {l : List NodeA} (r : List NodeA) {i : Int} (h0 : 0 ≤ i) (h : i < (l.length : Int)) : nodA (l ++ r) i = nodA l i := by
  unfold nodA
  rw [List.getD_eq_getElem?_getD, List.getD_eq_getElem?_getD, List.getElem?_append_left (by omega)]
theorem basA_up {l : List NodeA} (r : List NodeA) {i : Int} (h0 : 0 ≤ i) (h1 : i < (l.length : Int)) (h : basA l i) : basA (l ++ r) i := by
  unfold basA
  rw [nodA_pre r h0 h1]; exact h
theorem okN_other {l : List NodeA} {n : NodeA} (h : ¬ n.op = 11) (h2 : ¬ n.op = 12) : okN l n := ⟨fun e => absurd e h, fun e => absurd e h2⟩
theorem stands_args {n : NodeA} {k : Nat} (h : standsB n k = true) : n.len ≤ 3 ∧ (n.op = 13 ∨ n.len = arityA n.op) ∧ ∀ j : Nat, (j : Int) < n.len → 0 ≤ argA n j ∧ argA n j < (k : Int) := by
  unfold standsB at h
  rw [decide_eq_true_eq] at h
  have h4 := (stands_iff n k).1 h
  obtain ⟨⟨_, _, h2⟩, _⟩ := h
  refine ⟨h4.1.2.2.2, ?_, fun j hj => (h4.2.1 j (by have := h4.1.2.2.2; omega)).1 hj⟩
  by_cases h13 : n.op = 13
  · exact .inl h13
  · rw [if_neg h13] at h2
    split at h2
    · exact .inr h2.1
    · exact .inr h2.1
theorem okN_up {l : List NodeA} (r : List NodeA) {n : NodeA} (h : okN l n) (h1 : n.op = 11 → 0 ≤ n.a0 ∧ n.a0 < (l.length : Int)) (h2 : n.op = 12 → (0 ≤ n.a0 ∧ n.a0 < (l.length : Int)) ∧ (0 ≤ n.a1 ∧ n.a1 < (l.length : Int))) : okN (l ++ r) n := by
  refine ⟨fun e => ?_, fun e => ?_⟩
  · obtain ⟨a, b⟩ := h1 e
    rw [nodA_pre r a b]; exact h.1 e
  · obtain ⟨⟨a, b⟩, ⟨c, d⟩⟩ := h2 e
    obtain ⟨h3, h4, h5⟩ := h.2 e
    exact ⟨h3, basA_up r a b h4, basA_up r c d h5⟩
theorem args_11 {n : NodeA} {k : Nat} (h : standsB n k = true) (e : n.op = 11) : 0 ≤ n.a0 ∧ n.a0 < (k : Int) := by
  obtain ⟨_, hl, ha⟩ := stands_args h
  have : n.len = 1 := by rcases hl with h | h <;> first | omega | (rw [h, e]; decide)
  exact ha 0 (by omega)
theorem args_12 {n : NodeA} {k : Nat} (h : standsB n k = true) (e : n.op = 12) : (0 ≤ n.a0 ∧ n.a0 < (k : Int)) ∧ (0 ≤ n.a1 ∧ n.a1 < (k : Int)) := by
  obtain ⟨_, hl, ha⟩ := stands_args h
  have : n.len = 2 := by rcases hl with h | h <;> first | omega | (rw [h, e]; decide)
  exact ⟨ha 0 (by omega), ha 1 (by omega)⟩
theorem okN_in {s : MkS} (h : MkI s) (r : List NodeA) {n : NodeA} (hn : n ∈ s.l) (hk : okN s.l n) : okN (s.l ++ r) n := by
  obtain ⟨k, hg⟩ := List.getElem?_of_mem hn
  have hlt := (List.getElem?_eq_some_iff.1 hg).1
  have hst := (ok_at (mayT_ok h.may).2 hg).1
  refine okN_up r hk (fun e => ?_) (fun e => ?_)
  · have := args_11 hst e; omega
  · have := args_12 hst e; omega
theorem QO_put {most : Int} {s : MkS} {n : NodeA} (h : MkI s) (hQ : QO s.l) (hs : s.e = 0 → standsB n s.l.length = true) (hn : s.e = 0 → okN s.l n) : QO (putM most s n).1.l := by
  unfold putM
  by_cases he : s.e = 0
  · rw [if_neg (fun h => h he)]
    by_cases hi : n ∈ s.l
    · rw [if_pos hi]; exact hQ
    · rw [if_neg hi]
      by_cases hl : most ≤ (s.l.length : Int)
      · rw [if_pos hl]; exact hQ
      · rw [if_neg hl]
        intro x hx
        rcases List.mem_append.1 hx with h1 | h1
        · exact okN_in h [n] h1 (hQ x h1)
        · rw [List.mem_singleton.1 h1]
          exact okN_up [n] (hn he) (fun e => args_11 (hs he) e) (fun e => args_12 (hs he) e)
  · rw [if_pos he]; exact hQ
theorem nod_one {s : MkS} (h : MkI s) : nodA s.l 1 = zeroN := by
  have h2 := (mayT_ok h.may).1
  have := congrArg (fun z : List NodeA => z[1]?) h2
  simp only [List.getElem?_take] at this
  rw [if_pos (by omega)] at this
  exact nodA_at' this
where
  nodA_at' {l : List NodeA} (h : l[1]? = newL[1]?) : nodA l 1 = zeroN := by
    unfold nodA
    rw [List.getD_eq_getElem?_getD, show (1 : Int).toNat = 1 from rfl, h]; rfl
theorem bas_one {s : MkS} (h : MkI s) : basA s.l 1 := by
  unfold basA
  rw [nod_one h]
  exact ⟨by decide, fun _ => rfl⟩
theorem split_bas {s : MkS} (h : MkI s) (hQ : QO s.l) {i : Int} (hi : PlA s i) : basA s.l (splitA s.l i).1 := by
  obtain ⟨k, rfl, hk⟩ := hi.nat
  unfold splitA
  split
  · exact bas_one h
  · rename_i h10
    split
    · rename_i h11
      have h1 := (hQ _ (nodA_mem hk)).1 h11
      exact ⟨h1.2.1, fun e => absurd e h1.2.2⟩
    · rename_i h11
      exact ⟨h11, fun e => absurd e h10⟩
theorem QO_not {most : Int} {s : MkS} {n : NodeA} (h : MkI s) (hQ : QO s.l) (ho : n.op = 1) (hs : s.e = 0 → standsB n s.l.length = true) : QO (notM most s n).1.l := by
  unfold notM
  split
  · exact hQ
  · exact QO_put h hQ hs (fun _ => okN_other (by omega) (by omega))
theorem QO_neg {most : Int} {s : MkS} {i : Int} (h : MkI s) (hQ : QO s.l) (hi : PlA s i) : QO (negM most s i).1.l := QO_not h hQ rfl (fun _ => st_one rfl hi)
theorem QO_imp {most : Int} {s : MkS} {n : NodeA} (h : MkI s) (hm : most ≤ 2000) (hQ : QO s.l) (ha : PlA s n.a0) (hb : PlA s n.a1) : QO (impM most s n).1.l := by
  have h1 := neg_out (most := most) h hm ha
  exact QO_put h1.inv (QO_neg h hQ ha) (fun _ => st_two (.inl ⟨by decide, rfl⟩) h1.pl (hb.up h1.pre)) (fun _ => okN_other (by show ¬ (3 : Int) = 11; decide) (by show ¬ (3 : Int) = 12; decide))
theorem QO_le {most : Int} {s : MkS} (h : MkI s) (hm : most ≤ 2000) (hQ : QO s.l) {a b : Int} (ha : PlA s a) (hb : PlA s b) (c : Int) : QO (leM most s a b c).1.l := by
  have hp := diff_pre s a b c
  have hi := diff_inv h a b c
  have hd := diff_l s a b c
  have px := (split_pl h ha).up hp
  have py := (split_pl h hb).up hp
  have hQd : QO (diffM s a b c).1.l := by rw [hd]; exact hQ
  have bx : basA (diffM s a b c).1.l (splitA s.l a).1 := by rw [hd]; exact split_bas h hQ ha
  have bY : basA (diffM s a b c).1.l (splitA s.l b).1 := by rw [hd]; exact split_bas h hQ hb
  unfold leM
  split
  · rename_i hne
    exact QO_put hi hQd (fun he => st_two (.inr ⟨rfl, (diff_z he).2.1⟩) px py) (fun _ => ⟨fun e => absurd e (by show ¬ (12 : Int) = 11; decide), fun _ => ⟨hne, bx, bY⟩⟩)
  · split
    · exact hQd
    · exact QO_neg hi hQd (PlA.zero hi)
theorem QO_eqI {most : Int} {s : MkS} (h : MkI s) (hm : most ≤ 2000) (hQ : QO s.l) {a b : Int} (ha : PlA s a) (hb : PlA s b) : QO (eqI most s a b).1.l := by
  have h1 := le_out h hm ha hb 0
  have h2 := le_out h1.inv hm (hb.up h1.pre) (ha.up h1.pre) 0
  exact QO_put h2.inv (QO_le h1.inv hm (QO_le h hm hQ ha hb 0) (hb.up h1.pre) (ha.up h1.pre) 0) (fun _ => st_two (.inl ⟨by decide, rfl⟩) (h1.pl.up h2.pre) h2.pl) (fun _ => okN_other (by show ¬ (2 : Int) = 11; decide) (by show ¬ (2 : Int) = 12; decide))
theorem QO_eq {most : Int} {s : MkS} {n : NodeA} (h : MkI s) (hm : most ≤ 2000) (hQ : QO s.l) (ho : n.op = 6) (ha : PlA s n.a0) (hb : PlA s n.a1) (hs : s.e = 0 → standsB n s.l.length = true) : QO (eqM most s n).1.l := by
  unfold eqM
  split
  · exact QO_put h hQ hs (fun _ => okN_other (by omega) (by omega))
  · split
    · exact QO_eqI h hm hQ ha hb
    · split
      · exact hQ
      · have hmn : PlA s (min n.a0 n.a1) := by rcases Int.le_total n.a0 n.a1 with hh | hh <;> simp only [Int.min_eq_left, Int.min_eq_right, hh] <;> assumption
        have hmx : PlA s (max n.a0 n.a1) := by rcases Int.le_total n.a0 n.a1 with hh | hh <;> simp only [Int.max_eq_left, Int.max_eq_right, hh] <;> assumption
        exact QO_put h hQ (fun _ => st_two (.inl ⟨by decide, rfl⟩) hmn hmx) (fun _ => okN_other (by show ¬ (6 : Int) = 11; decide) (by show ¬ (6 : Int) = 12; decide))
theorem QO_eq2 {most : Int} {s : MkS} {a b : Int} (h : MkI s) (hm : most ≤ 2000) (hQ : QO s.l) (ha : PlA s a) (hb : PlA s b) : QO (eqM most s (two2 6 a b 0)).1.l :=
  QO_eq h hm hQ rfl ha hb (fun _ => st_two (.inl ⟨by decide, rfl⟩) ha hb)
theorem QO_xor {most : Int} {s : MkS} {n : NodeA} (h : MkI s) (hm : most ≤ 2000) (hQ : QO s.l) (ha : PlA s n.a0) (hb : PlA s n.a1) : QO (xorM most s n).1.l := by
  have h1 := eq2_out (a := n.a0) (b := n.a1) h hm ha hb
  exact QO_neg h1.inv (QO_eq2 h hm hQ ha hb) h1.pl
theorem QO_beh {most : Int} {s : MkS} {it i : Int} (h : MkI s) (hm : most ≤ 2000) (hQ : QO s.l) (ha : PlA s it) (hb : PlA s i) (sort : Int) : QO (behM most s sort it i).l := by
  unfold behM
  split
  · exact hQ
  · split
    · have h1 := le_out h hm ha hb 0
      exact QO_le h1.inv hm (QO_le h hm hQ ha hb 0) (hb.up h1.pre) (ha.up h1.pre) 0
    · exact QO_eq2 h hm hQ ha hb
theorem QO_ite {most : Int} {s : MkS} {n : NodeA} (h : MkI s) (hm : most ≤ 2000) (hQ : QO s.l) (hn : NodeOk n) (ho : n.op = 7) (hb : PlA s n.a1) (hc : PlA s n.a2) (hs : s.e = 0 → standsB n s.l.length = true) : QO (iteM most s n).1.l := by
  unfold iteM
  split
  · exact hQ
  · have h1 := put_out (most := most) h hm hn hs
    have q1 := QO_put (most := most) h hQ hs (fun _ => okN_other (by omega) (by omega))
    have h2 := beh_out h1.inv hm h1.pl (hb.up h1.pre) n.sort
    have q2 := QO_beh h1.inv hm q1 h1.pl (hb.up h1.pre) n.sort
    exact QO_beh h2.2 hm q2 (h1.pl.up h2.1) ((hc.up h1.pre).up h2.1) n.sort
theorem QO_sum {most : Int} {s : MkS} {n : NodeA} (h : MkI s) (hm : most ≤ 2000) (hQ : QO s.l) (ho : n.op = 11) (ha : PlA s n.a0) (hs : s.e = 0 → standsB n s.l.length = true) : QO (sumM most s n).1.l := by
  have hp := num_pre s (addV (splitA s.l n.a0).2 n.num) (addE (splitA s.l n.a0).2 n.num)
  have hi := num_inv h (n := addV (splitA s.l n.a0).2 n.num) (addE_c (splitA s.l n.a0).2 n.num)
  have hl := num_l s (addV (splitA s.l n.a0).2 n.num) (addE (splitA s.l n.a0).2 n.num)
  have hk : (numM s (addV (splitA s.l n.a0).2 n.num) (addE (splitA s.l n.a0).2 n.num)).1.e = 0 → s.e = 0 ∧ mayB (numM s (addV (splitA s.l n.a0).2 n.num) (addE (splitA s.l n.a0).2 n.num)).2 = true := fun he => by
    obtain ⟨h1, h2, h3⟩ := num_ok he
    obtain ⟨_, _, h4, h5⟩ := add_z h1
    exact ⟨h2, by rw [h3, h5]; exact h4⟩
  have px := split_pl h ha
  have bx := split_bas h hQ ha
  unfold sumM
  generalize numM s (addV (splitA s.l n.a0).2 n.num) (addE (splitA s.l n.a0).2 n.num) = k at *
  simp only
  have hQk : QO k.1.l := by rw [hl]; exact hQ
  split
  · exact hQk
  · rename_i hk0
    split
    · exact QO_put hi hQk (fun he => st_num (hk he).2) (fun _ => okN_other (by show ¬ (10 : Int) = 11; decide) (by show ¬ (10 : Int) = 12; decide))
    · rename_i h1
      refine QO_put hi hQk (fun he => stands_sum (by rw [hl]; exact hs (hk he).1) ho (px.up hp) (hk he).2) (fun _ => ⟨fun _ => ⟨hk0, ?_, fun e => ?_⟩, fun e => absurd (ho.symm.trans e) (by decide)⟩)
      · show ¬ (nodA k.1.l (splitA s.l n.a0).1).op = 11
        rw [hl]; exact bx.1
      · have e' : (nodA s.l (splitA s.l n.a0).1).op = 10 := by
          have e2 : (nodA k.1.l (splitA s.l n.a0).1).op = 10 := e
          rw [hl] at e2; exact e2
        exact h1 (bx.2 e')
theorem QO_img {most : Int} {s : MkS} {n : NodeA} (h : MkI s) (hm : most ≤ 2000) (hQ : QO s.l) (hn : NodeOk n) (hs : standsB n s.l.length = true) : QO (imgM most s n).1.l := by
  have hs' : s.e = 0 → standsB n s.l.length = true := fun _ => hs
  obtain ⟨_, hl, ha⟩ := stands_args hs
  have p0 : (0 : Int) < n.len → PlA s n.a0 := fun h => ha 0 h
  have p1 : (1 : Int) < n.len → PlA s n.a1 := fun h => ha 1 h
  have p2 : (2 : Int) < n.len → PlA s n.a2 := fun h => ha 2 h
  unfold imgM
  by_cases c1 : n.op = 1
  · rw [if_pos c1]; exact QO_not h hQ c1 hs'
  rw [if_neg c1]
  by_cases c4 : n.op = 4
  · have hl : n.len = 2 := by rcases hl with h | h <;> first | omega | (rw [h, c4]; decide)
    rw [if_pos c4]; exact QO_xor h hm hQ (p0 (by omega)) (p1 (by omega))
  rw [if_neg c4]
  by_cases c5 : n.op = 5
  · have hl : n.len = 2 := by rcases hl with h | h <;> first | omega | (rw [h, c5]; decide)
    rw [if_pos c5]; exact QO_imp h hm hQ (p0 (by omega)) (p1 (by omega))
  rw [if_neg c5]
  by_cases c6 : n.op = 6
  · have hl : n.len = 2 := by rcases hl with h | h <;> first | omega | (rw [h, c6]; decide)
    rw [if_pos c6]; exact QO_eq h hm hQ c6 (p0 (by omega)) (p1 (by omega)) hs'
  rw [if_neg c6]
  by_cases c7 : n.op = 7
  · have hl : n.len = 3 := by rcases hl with h | h <;> first | omega | (rw [h, c7]; decide)
    rw [if_pos c7]; exact QO_ite h hm hQ hn c7 (p1 (by omega)) (p2 (by omega)) hs'
  rw [if_neg c7]
  by_cases c8 : n.op = 8
  · have hl : n.len = 2 := by rcases hl with h | h <;> first | omega | (rw [h, c8]; decide)
    rw [if_pos c8]; exact QO_le h hm hQ (p0 (by omega)) (p1 (by omega)) _
  rw [if_neg c8]
  by_cases c9 : n.op = 9
  · have hl : n.len = 2 := by rcases hl with h | h <;> first | omega | (rw [h, c9]; decide)
    rw [if_pos c9]; exact QO_le h hm hQ (p0 (by omega)) (p1 (by omega)) _
  rw [if_neg c9]
  by_cases c11 : n.op = 11
  · have hl : n.len = 1 := by rcases hl with h | h <;> first | omega | (rw [h, c11]; decide)
    rw [if_pos c11]; exact QO_sum h hm hQ c11 (p0 (by omega)) hs'
  rw [if_neg c11]
  by_cases c12 : n.op = 12
  · have hl : n.len = 2 := by rcases hl with h | h <;> first | omega | (rw [h, c12]; decide)
    rw [if_pos c12]; exact QO_le h hm hQ (p0 (by omega)) (p1 (by omega)) _
  rw [if_neg c12]
  exact QO_put h hQ hs' (fun _ => okN_other c11 c12)
theorem QO_new : QO newL := fun n hn => by
  simp only [newL, List.mem_cons, List.not_mem_nil, or_false] at hn
  rcases hn with rfl | rfl
  · exact okN_other (by decide) (by decide)
  · exact okN_other (by decide) (by decide)
end Go.Proofs.YtpppfghdjbmbgaaGreatDoor.Tm
namespace Go.Proofs.YtpppfghdjbmbgaaGreatDoor
open Go.RowKit
set_option linter.unusedVariables false
theorem RAdd_any (a b : Int) (w : World) :
    Calls Tryz.prog 79 #[.int .i64 a, .int .i64 b] w fun e w' => e = .returned (.tuple #[.int .i64 (addV a b), .int .i64 (addE a b)]) ∧ w = w' := by
  cases hok : addOk a b with
  | true =>
    obtain ⟨⟨p1, p2⟩, ⟨p3, p4⟩, p5, p6⟩ := addOk_true.1 hok
    have m1 := Lib.hid (mayB_true.2 ⟨p1, p2⟩)
    have m2 := Lib.hid ((mayB_true (n := b)).2 ⟨by omega, by omega⟩)
    have m3 := Lib.hid ((mayB_true (n := a + b)).2 ⟨by omega, by omega⟩)
    have HK := Lib.hid hok; clear hok
    go_enter Tryz.func79, Tryz.ntmps79
    go_wp2_with (go_at_call 48; refine (RMay_any _ _).mono ?_; rintro e w' ⟨rfl, rfl⟩)
    · have h : (!mayB (a + b)) = true := by assumption
      rw [m3.out] at h; cases h
    · go_ret2
      exact ⟨ret_two (val_int (by simp [addV, HK.out])) (val_int (by simp [addE, HK.out])), rfl⟩
  | false =>
    have hno := Lib.hid (addOk_no hok)
    have HK := Lib.hid hok; clear hok
    go_enter Tryz.func79, Tryz.ntmps79
    go_wp2_with (go_at_call 48; refine (RMay_any _ _).mono ?_; rintro e w' ⟨rfl, rfl⟩)
    all_goals first
      | (exfalso; have := hno.out; simp_all; done)
      | (go_ret2; exact ⟨ret_two (val_int (by simp [addV, HK.out])) (val_int (by simp [addE, HK.out])), rfl⟩)
end Go.Proofs.YtpppfghdjbmbgaaGreatDoor
namespace Go.Proofs.YtpppfghdjbmbgaaGreatDoor.Tm
open Go.RowKit
set_option linter.unusedVariables false
theorem RAdd_00 (w : World) : Calls Tryz.prog 79 #[.int .i64 0, .int .i64 0] w fun e w' => e = .returned (.tuple #[.int .i64 0, .int .i64 0]) ∧ w = w' := RAdd_any 0 0 w
set_option maxRecDepth 100000 in
set_option maxHeartbeats 4000000 in
theorem ROfB_any (l : List NodeA) (a : Option Addr) (c i : Nat) (n : NodeA) (w : World) (hA : TabR w l a c) (hl : l.length ≤ 3000) (hm : mayT l = true) (hn : l[i]? = some n) (hs : n.sort = 1) (h11 : ¬ n.op = 11) (h10 : n.op = 10 → i = 1 ∧ n.num = 0) :
    Calls Tryz.prog 78 #[.agg #[.slice a l.length c], .int .i64 i] w fun e w' => e = .returned (.tuple #[.int .i64 i, .int .i64 0, .int .i64 0]) ∧ Below w.heap.size w w' := by
  obtain ⟨W0, hW0⟩ : ∃ W0, W0 = w.alloc (.cells #[.slice a l.length c] 33) := ⟨_, rfl⟩
  have HB0 : Hid (Below w.heap.size w W0) := by show Below _ _ _; rw [hW0]; exact (Below.refl _ w).alloc (Nat.le_refl _) _
  have HXR : Hid (∀ V, Below W0.heap.size W0 V → V.heap[w.heap.size]? = some (.cells #[.slice a l.length c] 33 (0, 0))) := fun V hV => by
    have hx0 : W0.heap[w.heap.size]? = some (.cells #[.slice a l.length c] 33 (0, 0)) := by rw [hW0]; exact heap_alloc_new w _
    exact (hV.block _ (Array.getElem?_eq_some_iff.1 hx0).1).trans hx0
  have HC : Hid (Calls Tryz.prog 22 #[.agg #[.slice a l.length c]] W0 fun e w' => e = .returned (.int .i64 0) ∧ Below W0.heap.size W0 w') := RCheck_any l a c 0 W0 (hA.below HB0.out) hl (by rw [hm]; rfl)
  have HA := Lib.hid hA
  have HN := Lib.hid hn
  have hcap := hA.le
  have hil := (List.getElem?_eq_some_iff.1 hn).1
  have hii : (i : Int) < (l.length : Int) := by omega
  have hi0 : (0 : Int) ≤ (i : Int) := by omega
  have hmx : l.length ≤ 9223372036854775807 := by omega
  have e1 := ne_f hs
  have e11 := eq_f h11
  have HS := Lib.hid hs
  clear hA hm hn hs
  obtain ⟨x0, _, xz⟩ := box3' (HXR.out W0 (Below.refl _ _))
  clear x0 xz
  have HR : Hid (∀ V, Below W0.heap.size W0 V → V.cell? ⟨w.heap.size, 0, none⟩ = some (.slice a l.length c) ∧ V.frozen? ⟨w.heap.size, 0, none⟩ = false ∧ w.heap.size < V.heap.size) := fun V hV => box3' (HXR.out V hV)
  have HND : Hid (∀ V, Below W0.heap.size W0 V → ∃ g o : Nat, a = some ⟨g, o, none⟩ ∧ g < V.heap.size ∧ V.cell? ⟨g, o + i * 8, none⟩ = some (.int .i8 n.op) ∧ V.cell? ⟨g, o + i * 8 + 5, none⟩ = some (.int .i64 n.sort) ∧ V.cell? ⟨g, o + i * 8 + 7, none⟩ = some (.int .i64 n.num)) := fun V hV => by
    obtain ⟨g, o, h, hg, q0, q1, q2, q3, q4, q5, q6, q7⟩ := (HA.out.below (HB0.out.trans (hV.mono HB0.out.size))).node HN.out
    exact ⟨g, o, h, hg, q0, q5, q7⟩
  obtain ⟨g, o, rfl, _⟩ := HND.out W0 (Below.refl _ _)
  have HND2 : Hid (∀ V, Below W0.heap.size W0 V → g < V.heap.size ∧ V.cell? ⟨g, o + i * 8, none⟩ = some (.int .i8 n.op) ∧ V.cell? ⟨g, o + i * 8 + 5, none⟩ = some (.int .i64 n.sort) ∧ V.cell? ⟨g, o + i * 8 + 7, none⟩ = some (.int .i64 n.num)) := fun V hV => by
    obtain ⟨g', o', h, r⟩ := HND.out V hV
    cases h; exact r
  clear HND
  by_cases ht : n.op = 10
  · obtain ⟨rfl, hnum⟩ := h10 ht
    have e10 := eq_t ht
    rw [hnum] at HND2
    clear hnum ht h11 h10
    go_enter Tryz.func78, Tryz.ntmps78
    go_wp2_with (first
      | (go_at_call 22; rw [← hW0]; clear hW0; refine HC.out.mono ?_; rintro e w1 ⟨rfl, hb1⟩; have HB1 := Lib.hid hb1; clear hb1; obtain ⟨x0, _, xz⟩ := HR.out w1 HB1.out; obtain ⟨gz, q0, q5, q7⟩ := HND2.out w1 HB1.out)
      | fail)
    go_loopw [1, 7] (fun v i' wr => v = .int .i64 ((1 : Nat) : Int) ∧ i' = .int .i64 0 ∧ Hid (Below W0.heap.size W0 wr)) (fun _ _ _ => 0)
    case atStart => exact ⟨rfl, rfl, HB1⟩
    case round =>
      obtain ⟨rfl, rfl, HW⟩ := hrel
      clear x0 xz gz q0 q5 q7
      obtain ⟨x0, _, xz⟩ := HR.out wr HW.out
      obtain ⟨gz, q0, q5, q7⟩ := HND2.out wr HW.out
      have HWw : Hid (Below w.heap.size w wr) := HB0.out.trans (HW.out.mono HB0.out.size)
      go_wp2_with (first | (go_at_call 79; refine (RAdd_00 _).mono ?_; rintro e w2 ⟨rfl, rfl⟩) | fail)
      refine bodyPost_ret (v := .tuple #[.int .i64 ((1 : Nat) : Int), .int .i64 0, .int .i64 0]) (by simp [results, Tryz.results78, go_sem]) rfl ⟨rfl, HWw.out⟩
  · have e10 := eq_f ht
    clear ht h11 h10
    go_enter Tryz.func78, Tryz.ntmps78
    go_wp2_with (first
      | (go_at_call 22; rw [← hW0]; clear hW0; refine HC.out.mono ?_; rintro e w1 ⟨rfl, hb1⟩; have HB1 := Lib.hid hb1; clear hb1; obtain ⟨x0, _, xz⟩ := HR.out w1 HB1.out; obtain ⟨gz, q0, q5, q7⟩ := HND2.out w1 HB1.out)
      | fail)
    go_loopw [1, 7] (fun v i' wr => v = .int .i64 i ∧ i' = .int .i64 0 ∧ Hid (Below W0.heap.size W0 wr)) (fun _ _ _ => 0)
    case atStart => exact ⟨rfl, rfl, HB1⟩
    case round =>
      obtain ⟨rfl, rfl, HW⟩ := hrel
      clear x0 xz gz q0 q5 q7
      obtain ⟨x0, _, xz⟩ := HR.out wr HW.out
      obtain ⟨gz, q0, q5, q7⟩ := HND2.out wr HW.out
      have HWw : Hid (Below w.heap.size w wr) := HB0.out.trans (HW.out.mono HB0.out.size)
      go_wp2
      refine bodyPost_ret (v := .tuple #[.int .i64 i, .int .i64 0, .int .i64 0]) (by simp [results, Tryz.results78, go_sem]) rfl ⟨rfl, HWw.out⟩
end Go.Proofs.YtpppfghdjbmbgaaGreatDoor.Tm
namespace Go.Proofs.YtpppfghdjbmbgaaGreatDoor.Tm
open Go.RowKit
set_option linter.unusedVariables false
def isBaB (l : List NodeA) (i : Int) : Bool := decide ((splitA l i).1 = i) && decide ((nodA l i).sort = 1)
/-- The node is as those of a core table are. -/
def isCoB (l : List NodeA) (n : NodeA) : Bool :=
  if n.op = 4 ∨ n.op = 5 ∨ n.op = 8 ∨ n.op = 9 then false
  else if n.op = 1 then !decide ((nodA l n.a0).op = 1)
  else if n.op = 6 then !(decide ((nodA l n.a0).sort = 1) && decide ((nodA l n.a1).sort = 1)) && (!decide (n.a0 = n.a1) || decide ((nodA l n.a0).sort = 0))
  else if n.op = 12 then !decide (n.a0 = n.a1) && isBaB l n.a0 && isBaB l n.a1
  else true
def badC (l : List NodeA) (n : NodeA) : Bool := !isCoB l n
end Go.Proofs.YtpppfghdjbmbgaaGreatDoor.Tm
namespace Go.Proofs.YtpppfghdjbmbgaaGreatDoor.Tm
open Go.RowKit
set_option linter.unusedVariables false
def isB (l : List NodeA) : Bool := ordB l && !l.any (badC l)
end Go.Proofs.YtpppfghdjbmbgaaGreatDoor.Tm
