/- Put in its cases; what a node that was put has come to. -/
import Derived.Test.YtgjidlfemfomcaaDoorTmN
import Derived.Test.YtgjidlfemfomcaaDoorTmM
namespace Go.Proofs.YtgjidlfemfomcaaDoor
open Go.RowKit
set_option linter.unusedVariables false
theorem put_new (l : List NodeA) (a : Option Addr) (c : Nat) (n : NodeA) (most : Int) (w : World) (hG : GT w) (hA : TabR w l a c) (hn : NodeOk n) (hmo : I64 most) (hl : l.length ≤ 900) (hm : mayT l = true) (hs : standsB n l.length = true) (hi : n ∉ l) (hlt : (l.length : Int) < most) :
    Calls Tryd.prog 27 #[.agg #[.slice a l.length c], .agg #[.int .i8 n.op, .int .i8 n.len, .int .i64 n.a0, .int .i64 n.a1, .int .i64 n.a2, .int .i64 n.sort, .int .i64 n.fn, .int .i64 n.num], .int .i64 most] w fun e w' => ∃ L a' c', L = l ++ [n] ∧ e = .returned (.tuple #[.agg #[.slice a' L.length c'], .int .i64 l.length, .int .i64 0]) ∧ TabR w' L a' c' ∧ Below w.heap.size w w' := by
  refine (Put_any l a c n most w hG hA hn hmo hl).mono ?_
  rintro e w' ⟨hb, ⟨h, _⟩ | ⟨_, _, h, _⟩ | ⟨_, _, _, h, _⟩ | ⟨_, _, _, _, L, a', c', hL, he, hT⟩⟩
  · exact absurd ⟨hm, hs⟩ h
  · exact absurd h hi
  · omega
  · exact ⟨L, a', c', hL, he, hT, hb⟩
theorem put_there (l : List NodeA) (a : Option Addr) (c : Nat) (n : NodeA) (most : Int) (w : World) (hG : GT w) (hA : TabR w l a c) (hn : NodeOk n) (hmo : I64 most) (hl : l.length ≤ 900) (hm : mayT l = true) (hs : standsB n l.length = true) (hi : n ∈ l) :
    Calls Tryd.prog 27 #[.agg #[.slice a l.length c], .agg #[.int .i8 n.op, .int .i8 n.len, .int .i64 n.a0, .int .i64 n.a1, .int .i64 n.a2, .int .i64 n.sort, .int .i64 n.fn, .int .i64 n.num], .int .i64 most] w fun e w' => ∃ a' c', e = .returned (.tuple #[.agg #[.slice a' l.length c'], .int .i64 (fndN l n), .int .i64 0]) ∧ TabR w' l a' c' ∧ Below w.heap.size w w' := by
  refine (Put_any l a c n most w hG hA hn hmo hl).mono ?_
  rintro e w' ⟨hb, ⟨h, _⟩ | ⟨_, _, _, a', c', he, hT⟩ | ⟨_, _, h, _⟩ | ⟨_, _, h, _⟩⟩
  · exact absurd ⟨hm, hs⟩ h
  · exact ⟨a', c', he, hT, hb⟩
  · exact absurd hi h
  · exact absurd hi h
theorem put_many (l : List NodeA) (a : Option Addr) (c : Nat) (n : NodeA) (most : Int) (w : World) (hG : GT w) (hA : TabR w l a c) (hn : NodeOk n) (hmo : I64 most) (hl : l.length ≤ 900) (hm : mayT l = true) (hs : standsB n l.length = true) (hi : n ∉ l) (hlt : most ≤ (l.length : Int)) :
    Calls Tryd.prog 27 #[.agg #[.slice a l.length c], .agg #[.int .i8 n.op, .int .i8 n.len, .int .i64 n.a0, .int .i64 n.a1, .int .i64 n.a2, .int .i64 n.sort, .int .i64 n.fn, .int .i64 n.num], .int .i64 most] w fun e w' => e = .returned (.tuple #[.agg #[.slice none 0 0], .int .i64 0, .int .i64 40]) ∧ Below w.heap.size w w' := by
  refine (Put_any l a c n most w hG hA hn hmo hl).mono ?_
  rintro e w' ⟨hb, ⟨h, _⟩ | ⟨_, _, h, _⟩ | ⟨_, _, _, _, he⟩ | ⟨_, _, _, h, _⟩⟩
  · exact absurd ⟨hm, hs⟩ h
  · exact absurd h hi
  · exact ⟨he, hb⟩
  · omega
/-- What a node that was put has come to. -/
structure OnceP (l : List NodeA) (n : NodeA) (L : List NodeA) (k : Nat) : Prop where
  may : mayT L = true
  take : L.take l.length = l
  at_ : L[k]? = some n
  le : l.length ≤ L.length
  ge : L.length ≤ l.length + 1
  lt : k < L.length
  st : standsB n L.length = true
  fnd : fndN L n = k
theorem once_there {l : List NodeA} {n : NodeA} (hm : mayT l = true) (hs : standsB n l.length = true) (hi : n ∈ l) : OnceP l n l (fndN l n) :=
  ⟨hm, by simp, fndN_get hi, Nat.le_refl _, by omega, fndN_lt.1 hi, hs, rfl⟩
theorem once_new {l : List NodeA} {n : NodeA} (hm : mayT l = true) (hs : standsB n l.length = true) (hi : n ∉ l) : OnceP l n (l ++ [n]) l.length := by
  have hm2 := mayT_snoc hm hs hi
  have hg : (l ++ [n])[l.length]? = some n := by simp
  exact ⟨hm2, by simp, hg, by simp, by simp, by simp, stands_more hs (by simp), fndN_uni (mayT_ok hm2).2 hg⟩
theorem put_two (l : List NodeA) (a : Option Addr) (c : Nat) (n : NodeA) (most : Int) (w : World) (hG : GT w) (hA : TabR w l a c) (hn : NodeOk n) (hmo : I64 most) (hl : l.length ≤ 900) (hm : mayT l = true) :
    Calls Tryd.prog 27 #[.agg #[.slice a l.length c], .agg #[.int .i8 n.op, .int .i8 n.len, .int .i64 n.a0, .int .i64 n.a1, .int .i64 n.a2, .int .i64 n.sort, .int .i64 n.fn, .int .i64 n.num], .int .i64 most] w fun e w' => Below w.heap.size w w' ∧
      ((∃ er : Int, (er = 2 ∨ er = 40) ∧ e = .returned (.tuple #[.agg #[.slice none 0 0], .int .i64 0, .int .i64 er])) ∨
       (∃ (L : List NodeA) (a' : Option Addr) (c' k : Nat), e = .returned (.tuple #[.agg #[.slice a' L.length c'], .int .i64 k, .int .i64 0]) ∧ TabR w' L a' c' ∧ OnceP l n L k)) := by
  refine (Put_any l a c n most w hG hA hn hmo hl).mono ?_
  rintro e w' ⟨hb, ⟨_, he⟩ | ⟨_, hs, hi, a', c', he, hT⟩ | ⟨_, _, _, _, he⟩ | ⟨_, hs, hi, _, L, a', c', rfl, he, hT⟩⟩
  · exact ⟨hb, .inl ⟨2, .inl rfl, he⟩⟩
  · exact ⟨hb, .inr ⟨l, a', c', _, he, hT, once_there hm hs hi⟩⟩
  · exact ⟨hb, .inl ⟨40, .inr rfl, he⟩⟩
  · exact ⟨hb, .inr ⟨_, a', c', _, he, hT, once_new hm hs hi⟩⟩
end Go.Proofs.YtgjidlfemfomcaaDoor
