/- Package offset's sum in memory: a step of it. -/
import Derived.Test.YtinogambkfihpaaDoorTmN
import Derived.Test.YtinogambkfihpaaDoorTmM
import Derived.Test.YtinogambkfihpaaDoorTmC
import Derived.BigQuiet
namespace Go.Proofs.YtinogambkfihpaaDoor.Tm
open Go.RowKit
set_option linter.unusedVariables false
theorem put_new (l : List NodeA) (a : Option Addr) (c : Nat) (n : NodeA) (most : Int) (w : World) (hG : GT w) (hA : TabR w l a c) (hn : NodeOk n) (hmo : I64 most) (hl : l.length ≤ 900) (hm : mayT l = true) (hs : standsB n l.length = true) (hi : n ∉ l) (hlt : (l.length : Int) < most) :
    Calls Tryd.prog 16 #[.agg #[.slice a l.length c], .agg #[.int .i8 n.op, .int .i8 n.len, .int .i64 n.a0, .int .i64 n.a1, .int .i64 n.a2, .int .i64 n.sort, .int .i64 n.fn, .int .i64 n.num], .int .i64 most] w fun e w' => ∃ L a' c', L = l ++ [n] ∧ e = .returned (.tuple #[.agg #[.slice a' L.length c'], .int .i64 l.length, .int .i64 0]) ∧ TabR w' L a' c' ∧ Below w.heap.size w w' := by
  refine (Put_any l a c n most w hG hA hn hmo hl).mono ?_
  rintro e w' ⟨hb, ⟨h, _⟩ | ⟨_, _, h, _⟩ | ⟨_, _, _, h, _⟩ | ⟨_, _, _, _, L, a', c', hL, he, hT⟩⟩
  · exact absurd ⟨hm, hs⟩ h
  · exact absurd h hi
  · omega
  · exact ⟨L, a', c', hL, he, hT, hb⟩
theorem put_there (l : List NodeA) (a : Option Addr) (c : Nat) (n : NodeA) (most : Int) (w : World) (hG : GT w) (hA : TabR w l a c) (hn : NodeOk n) (hmo : I64 most) (hl : l.length ≤ 900) (hm : mayT l = true) (hs : standsB n l.length = true) (hi : n ∈ l) :
    Calls Tryd.prog 16 #[.agg #[.slice a l.length c], .agg #[.int .i8 n.op, .int .i8 n.len, .int .i64 n.a0, .int .i64 n.a1, .int .i64 n.a2, .int .i64 n.sort, .int .i64 n.fn, .int .i64 n.num], .int .i64 most] w fun e w' => ∃ a' c', e = .returned (.tuple #[.agg #[.slice a' l.length c'], .int .i64 (fndN l n), .int .i64 0]) ∧ TabR w' l a' c' ∧ Below w.heap.size w w' := by
  refine (Put_any l a c n most w hG hA hn hmo hl).mono ?_
  rintro e w' ⟨hb, ⟨h, _⟩ | ⟨_, _, _, a', c', he, hT⟩ | ⟨_, _, h, _⟩ | ⟨_, _, h, _⟩⟩
  · exact absurd ⟨hm, hs⟩ h
  · exact ⟨a', c', he, hT, hb⟩
  · exact absurd hi h
  · exact absurd hi h
theorem put_many (l : List NodeA) (a : Option Addr) (c : Nat) (n : NodeA) (most : Int) (w : World) (hG : GT w) (hA : TabR w l a c) (hn : NodeOk n) (hmo : I64 most) (hl : l.length ≤ 900) (hm : mayT l = true) (hs : standsB n l.length = true) (hi : n ∉ l) (hlt : most ≤ (l.length : Int)) :
    Calls Tryd.prog 16 #[.agg #[.slice a l.length c], .agg #[.int .i8 n.op, .int .i8 n.len, .int .i64 n.a0, .int .i64 n.a1, .int .i64 n.a2, .int .i64 n.sort, .int .i64 n.fn, .int .i64 n.num], .int .i64 most] w fun e w' => e = .returned (.tuple #[.agg #[.slice none 0 0], .int .i64 0, .int .i64 40]) ∧ Below w.heap.size w w' := by
  refine (Put_any l a c n most w hG hA hn hmo hl).mono ?_
  rintro e w' ⟨hb, ⟨h, _⟩ | ⟨_, _, h, _⟩ | ⟨_, _, _, _, he⟩ | ⟨_, _, _, h, _⟩⟩
  · exact absurd ⟨hm, hs⟩ h
  · exact absurd h hi
  · exact ⟨he, hb⟩
  · omega
/-- What a node that was put has come to. -/
structure OnceP (l : List NodeA) (n : NodeA) (L : List NodeA) (k : Nat) : Prop where
  may : mayT L = true
  take : L.take l.length = l
  at_ : L[k]? = some n
  le : l.length ≤ L.length
  ge : L.length ≤ l.length + 1
  lt : k < L.length
  st : standsB n L.length = true
  fnd : fndN L n = k
theorem once_there {l : List NodeA} {n : NodeA} (hm : mayT l = true) (hs : standsB n l.length = true) (hi : n ∈ l) : OnceP l n l (fndN l n) :=
  ⟨hm, by simp, fndN_get hi, Nat.le_refl _, by omega, fndN_lt.1 hi, hs, rfl⟩
theorem once_new {l : List NodeA} {n : NodeA} (hm : mayT l = true) (hs : standsB n l.length = true) (hi : n ∉ l) : OnceP l n (l ++ [n]) l.length := by
  have hm2 := mayT_snoc hm hs hi
  have hg : (l ++ [n])[l.length]? = some n := by simp
  exact ⟨hm2, by simp, hg, by simp, by simp, by simp, stands_more hs (by simp), fndN_uni (mayT_ok hm2).2 hg⟩
theorem put_two (l : List NodeA) (a : Option Addr) (c : Nat) (n : NodeA) (most : Int) (w : World) (hG : GT w) (hA : TabR w l a c) (hn : NodeOk n) (hmo : I64 most) (hl : l.length ≤ 900) (hm : mayT l = true) :
    Calls Tryd.prog 16 #[.agg #[.slice a l.length c], .agg #[.int .i8 n.op, .int .i8 n.len, .int .i64 n.a0, .int .i64 n.a1, .int .i64 n.a2, .int .i64 n.sort, .int .i64 n.fn, .int .i64 n.num], .int .i64 most] w fun e w' => Below w.heap.size w w' ∧
      ((∃ er : Int, (er = 2 ∨ er = 40) ∧ e = .returned (.tuple #[.agg #[.slice none 0 0], .int .i64 0, .int .i64 er])) ∨
       (∃ (L : List NodeA) (a' : Option Addr) (c' k : Nat), e = .returned (.tuple #[.agg #[.slice a' L.length c'], .int .i64 k, .int .i64 0]) ∧ TabR w' L a' c' ∧ OnceP l n L k)) := by
  refine (Put_any l a c n most w hG hA hn hmo hl).mono ?_
  rintro e w' ⟨hb, ⟨_, he⟩ | ⟨_, hs, hi, a', c', he, hT⟩ | ⟨_, _, _, _, he⟩ | ⟨_, hs, hi, _, L, a', c', rfl, he, hT⟩⟩
  · exact ⟨hb, .inl ⟨2, .inl rfl, he⟩⟩
  · exact ⟨hb, .inr ⟨l, a', c', _, he, hT, once_there hm hs hi⟩⟩
  · exact ⟨hb, .inl ⟨40, .inr rfl, he⟩⟩
  · exact ⟨hb, .inr ⟨_, a', c', _, he, hT, once_new hm hs hi⟩⟩
end Go.Proofs.YtinogambkfihpaaDoor.Tm
namespace Go.Proofs.YtinogambkfihpaaDoor.Tm
open Go.RowKit
set_option linter.unusedVariables false
/-- All old blocks but one are as they were. -/
structure But (b : Nat) (w w' : World) : Prop where
  os : w'.os = w.os
  tape : w'.tape = w.tape
  output : w'.output = w.output
  size : w.heap.size ≤ w'.heap.size
  block : ∀ k, k < w.heap.size → k ≠ b → w'.heap[k]? = w.heap[k]?
theorem But.refl (b : Nat) (w : World) : But b w w := ⟨rfl, rfl, rfl, Nat.le_refl _, fun _ _ _ => rfl⟩
theorem But.of {b : Nat} {w w' : World} (h : Below w.heap.size w w') : But b w w' := ⟨h.os, h.tape, h.output, h.size, fun k hk _ => h.block k hk⟩
theorem But.trans {b : Nat} {u v w : World} (h : But b u v) (k : But b v w) : But b u w :=
  ⟨k.os.trans h.os, k.tape.trans h.tape, k.output.trans h.output, Nat.le_trans h.size k.size, fun i hi hb => (k.block i (Nat.lt_of_lt_of_le hi h.size) hb).trans (h.block i hi hb)⟩
theorem But.set {b o : Nat} {u w : World} {v : Value} (h : But b u w) : But b u (w.setCell ⟨b, o, none⟩ v) :=
  ⟨h.os, h.tape, h.output, by simpa using h.size, fun i hi hb => (Below.heap_setCell _ _ _ _ hb).trans (h.block i hi hb)⟩
theorem But.alloc {b : Nat} {u w : World} (h : But b u w) (o : Obj) : But b u (w.alloc o) :=
  ⟨h.os, h.tape, h.output, by simpa using Nat.le_succ_of_le h.size, fun i hi hb => (Below.heap_alloc _ _ _ (Nat.lt_of_lt_of_le hi h.size)).trans (h.block i hi hb)⟩
theorem But.drew {b : Nat} {u w : World} (h : But b u w) : But b u w.drew := ⟨h.os, h.tape, h.output, h.size, h.block⟩
/-- What is below b is as it was. -/
theorem But.below {b : Nat} {u w w' : World} (hb : Below b u w) (h : But b w w') (hs : b ≤ u.heap.size) : Below b u w' :=
  ⟨h.os.trans hb.os, h.tape.trans hb.tape, h.output.trans hb.output, Nat.le_trans hb.size h.size, fun k hk => (h.block k (Nat.lt_of_lt_of_le (Nat.lt_of_lt_of_le hk hs) hb.size) (by omega)).trans (hb.block k hk)⟩
/-- A step of a sum: what has an error keeps it. -/
def stepA (s : Int × Int) (b : Int) : Int × Int := if s.2 = 0 then (addV s.1 b, addE s.1 b) else s
def stepS (s : Int × Int) (b : Int) : Int × Int := if s.2 = 0 then (subV s.1 b, subE s.1 b) else s
theorem stepA_ok {n : Int} {b : Int} : stepA (n, 0) b = (addV n b, addE n b) := rfl
theorem stepS_ok {n : Int} {b : Int} : stepS (n, 0) b = (subV n b, subE n b) := rfl
theorem stepA_err {s : Int × Int} {b : Int} (h : s.2 ≠ 0) : stepA s b = s := if_neg h
theorem stepS_err {s : Int × Int} {b : Int} (h : s.2 ≠ 0) : stepS s b = s := if_neg h
theorem addV_i64 {a b : Int} : I64 (addV a b) := by
  unfold addV
  split
  · rename_i h
    have := addOk_true.1 h
    exact ⟨by omega, by omega⟩
  · exact ⟨by omega, by omega⟩
theorem subV_i64 {a b : Int} : I64 (subV a b) := by
  unfold subV
  split
  · rename_i h
    have := addOk_true.1 h
    exact ⟨by omega, by omega⟩
  · exact ⟨by omega, by omega⟩
theorem addE_cases (a b : Int) : addE a b = 0 ∨ addE a b = 10 := by unfold addE; split <;> simp
theorem subE_cases (a b : Int) : subE a b = 0 ∨ subE a b = 10 := by unfold subE; split <;> simp
/-- A sum's box. -/
def Sum (w : World) (b : Nat) (s : Int × Int) : Prop := w.heap[b]? = some (.cells #[.int .i64 s.1, .int .i64 s.2] 76 (0, 0))
theorem Sum.c0 {w : World} {b : Nat} {s : Int × Int} (h : Sum w b s) : w.cell? ⟨b, 0, none⟩ = some (.int .i64 s.1) := (cell_of_row _ _ 0 _ _ _ h).trans rfl
theorem Sum.c1 {w : World} {b : Nat} {s : Int × Int} (h : Sum w b s) : w.cell? ⟨b, 1, none⟩ = some (.int .i64 s.2) := (cell_of_row _ _ 1 _ _ _ h).trans rfl
theorem Sum.fz {w : World} {b : Nat} {s : Int × Int} (h : Sum w b s) (i : Nat) : w.frozen? ⟨b, i, none⟩ = false := by unfold Sum at h; simp [World.frozen?, h]
theorem Sum.lt {w : World} {b : Nat} {s : Int × Int} (h : Sum w b s) : b < w.heap.size := (Array.getElem?_eq_some_iff.1 h).1
theorem Sum.keep {w w' : World} {b : Nat} {s : Int × Int} (h : Sum w b s) (hb : Below w.heap.size w w') : Sum w' b s := (hb.block _ h.lt).trans h
theorem Sum.set0 {w : World} {b : Nat} {s : Int × Int} (h : Sum w b s) (n : Int) : Sum (w.setCell ⟨b, 0, none⟩ (.int .i64 n)) b (n, s.2) := by
  exact heap_setCell_same w b 0 _ _ _ h
theorem Sum.set1 {w : World} {b : Nat} {s : Int × Int} (h : Sum w b s) (n : Int) : Sum (w.setCell ⟨b, 1, none⟩ (.int .i64 n)) b (s.1, n) := by
  exact heap_setCell_same w b 1 _ _ _ h
/-- What then answers: nothing; the sum's box has gone a step. -/
def ThenPost (w : World) (b : Nat) (s : Int × Int) (e : Ending) (w' : World) : Prop := e = .returned (.tuple #[]) ∧ Sum w' b s ∧ But b w w'
theorem then_err (b : Nat) (s : Int × Int) (g : Nat) (x : Int) (w : World) (hs : Sum w b s) (he : s.2 ≠ 0) :
    Calls Tryd.prog 26 #[.pointer (some ⟨b, 0, none⟩), .func (.func g) #[] #[], .int .i64 x] w (ThenPost w b s) := by
  have c1 := hs.c1
  have hz := hs.lt
  have HS := Lib.hid hs
  obtain ⟨n, e⟩ := s
  have h0 : (e == 0) = false := eq_f he
  simp only at c1
  clear hs he
  go_enter Tryd.func26, Tryd.ntmps26
  go_wp2
  refine bodyPost_ret (v := .tuple #[]) (by simp [results, Tryd.results26, go_sem]) rfl ?_
  exact ⟨rfl, HS.out, But.refl _ _⟩
theorem then_add (b : Nat) (s : Int × Int) (x : Int) (w : World) (hs : Sum w b s) (hn : I64 s.1) (hx : I64 x) :
    Calls Tryd.prog 26 #[.pointer (some ⟨b, 0, none⟩), .func (.func 28) #[] #[], .int .i64 x] w (ThenPost w b (stepA s x)) := by
  by_cases he : s.2 = 0
  rotate_left
  · rw [stepA_err he]
    exact then_err b s _ x w hs he
  obtain ⟨n, e⟩ := s
  obtain rfl : e = 0 := he
  rw [stepA_ok]
  have c0 := hs.c0
  have c1 := hs.c1
  have hz := hs.lt
  have HS := Lib.hid hs
  have HA : Hid (∀ V, Calls Tryd.prog 28 #[.int .i64 n, .int .i64 x] V fun e w' => e = .returned (.tuple #[.int .i64 (addV n x), .int .i64 (addE n x)]) ∧ Below V.heap.size V w') := fun V => Add_any n x V hn hx
  obtain ⟨r0, hr0⟩ : ∃ r, addV n x = r := ⟨_, rfl⟩
  obtain ⟨r1, hr1⟩ : ∃ r, addE n x = r := ⟨_, rfl⟩
  rw [hr0, hr1] at HA
  rw [hr0, hr1]
  simp only at c0 c1
  clear hs hn hx hr0 hr1
  go_enter Tryd.func26, Tryd.ntmps26
  go_wp2_with (go_at_call 28; refine (HA.out _).mono ?_; rintro e w1 ⟨rfl, hb1⟩; have HB1 := Lib.hid hb1; have s1 := HS.out.keep hb1; have f0 := s1.fz 0; have d0 := s1.c0; have d1 := s1.c1; have zz := s1.lt; have f1 := s1.fz 1; simp only at d0 d1; clear c0 c1; have HS1 := Lib.hid s1; clear hb1 s1)
  refine bodyPost_ret (v := .tuple #[]) (by simp [results, Tryd.results26, go_sem]) rfl ?_
  exact ⟨rfl, (HS1.out.set0 r0).set1 r1, ((But.of HB1.out).set).set⟩
theorem then_sub (b : Nat) (s : Int × Int) (x : Int) (w : World) (hs : Sum w b s) (hn : I64 s.1) (hx : I64 x) :
    Calls Tryd.prog 26 #[.pointer (some ⟨b, 0, none⟩), .func (.func 27) #[] #[], .int .i64 x] w (ThenPost w b (stepS s x)) := by
  by_cases he : s.2 = 0
  rotate_left
  · rw [stepS_err he]
    exact then_err b s _ x w hs he
  obtain ⟨n, e⟩ := s
  obtain rfl : e = 0 := he
  rw [stepS_ok]
  have c0 := hs.c0
  have c1 := hs.c1
  have hz := hs.lt
  have HS := Lib.hid hs
  have HA : Hid (∀ V, Calls Tryd.prog 27 #[.int .i64 n, .int .i64 x] V fun e w' => e = .returned (.tuple #[.int .i64 (subV n x), .int .i64 (subE n x)]) ∧ Below V.heap.size V w') := fun V => Sub_any n x V hn hx
  obtain ⟨r0, hr0⟩ : ∃ r, subV n x = r := ⟨_, rfl⟩
  obtain ⟨r1, hr1⟩ : ∃ r, subE n x = r := ⟨_, rfl⟩
  rw [hr0, hr1] at HA
  rw [hr0, hr1]
  simp only at c0 c1
  clear hs hn hx hr0 hr1
  go_enter Tryd.func26, Tryd.ntmps26
  go_wp2_with (go_at_call 27; refine (HA.out _).mono ?_; rintro e w1 ⟨rfl, hb1⟩; have HB1 := Lib.hid hb1; have s1 := HS.out.keep hb1; have f0 := s1.fz 0; have d0 := s1.c0; have d1 := s1.c1; have zz := s1.lt; have f1 := s1.fz 1; simp only at d0 d1; clear c0 c1; have HS1 := Lib.hid s1; clear hb1 s1)
  refine bodyPost_ret (v := .tuple #[]) (by simp [results, Tryd.results26, go_sem]) rfl ?_
  exact ⟨rfl, (HS1.out.set0 r0).set1 r1, ((But.of HB1.out).set).set⟩
end Go.Proofs.YtinogambkfihpaaDoor.Tm
