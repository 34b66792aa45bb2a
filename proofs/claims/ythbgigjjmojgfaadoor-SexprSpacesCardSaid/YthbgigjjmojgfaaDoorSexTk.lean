/- The method take of package sexpr's reader. -/
import Derived.Test.YthbgigjjmojgfaaDoorSexPut
namespace Go.Proofs.YthbgigjjmojgfaaDoor
open Go.RowKit
/-- What package sexpr's table of kinds holds. -/
structure Kinds (w : World) : Prop where
  lt : 0 < w.heap.size
  k0 : w.cell? ⟨0, 0, none⟩ = some (.int .i8 0)
  k1 : w.cell? ⟨0, 1, none⟩ = some (.int .i8 0)
  k2 : w.cell? ⟨0, 2, none⟩ = some (.int .i8 0)
  k3 : w.cell? ⟨0, 3, none⟩ = some (.int .i8 1)
  k4 : w.cell? ⟨0, 4, none⟩ = some (.int .i8 2)
theorem Kinds.below {w w' : World} {B : Nat} (h : Kinds w) (hb : Below B w w') (hB : 0 < B) : Kinds w' :=
  ⟨Nat.lt_of_lt_of_le h.lt hb.size, (hb.cell (p := ⟨_, 0, none⟩) hB).trans h.k0, (hb.cell (p := ⟨_, 1, none⟩) hB).trans h.k1, (hb.cell (p := ⟨_, 2, none⟩) hB).trans h.k2, (hb.cell (p := ⟨_, 3, none⟩) hB).trans h.k3, (hb.cell (p := ⟨_, 4, none⟩) hB).trans h.k4⟩
theorem take_open (n₀ rb : Nat) (T : ByteArray) (p q : Int) (s s' : RS) (w : World) (hK : Kinds w) (h : RM w n₀ rb s) (hn : n₀ ≤ w.heap.size)
    (hbeg : ∀ W, RM W n₀ rb s → Calls Tryd.prog 40 #[.pointer (some ⟨rb, 0, none⟩)] W fun e w' => e = .returned (.tuple #[]) ∧ RM w' n₀ rb s' ∧ Below n₀ W w' ∧ W.grownBy w' (some rb)) (M : Nat) (hM : rb < M) :
    Calls Tryd.prog 26 #[.pointer (some ⟨rb, 0, none⟩), .agg #[.int .i8 0, .string T, .int .i64 p, .int .i64 q]] w fun e w' => e = .returned (.bool true) ∧ RM w' n₀ rb s' ∧ Below n₀ w w' ∧ ∀ b, M ≤ b → b < w.heap.size → w'.heap[b]? = w.heap[b]? := by
  have HB := Lib.hid hbeg
  have HR := Lib.hid h
  obtain ⟨kl, k0, k1, k2, k3, k4⟩ := hK
  clear h hbeg
  go_enter Tryd.func26, Tryd.ntmps26
  go_wp2
  go_region
  go_wp2_with fail
  have hb1 : Below w.heap.size w ((((w.alloc (.cells #[.int .i8 0, .string T, .int .i64 p, .int .i64 q] 47)).alloc (.cells #[.int .i8 0, .string T, .slice none 0 0] 26))).drew) := (((Below.refl _ _).alloc (Nat.le_refl _) _).alloc (by simp) _).drew
  refine (HB.out _ (HR.out.keep hb1)).mono ?_
  rintro e w2 ⟨rfl, hr2, hb2, hg2⟩
  go_wp2
  go_ret
  exact ⟨rfl, hr2, (hb1.mono hn).trans hb2, fun b h1 h2 => (hg2.block b (Nat.lt_of_lt_of_le h2 hb1.size) (fun e => by have := Option.some.inj e; omega)).trans (hb1.block b h2)⟩
theorem take_none (n₀ rb : Nat) (T : ByteArray) (p q : Int) (w : World) (hK : Kinds w) (h : RM w n₀ rb (.run [])) :
    Calls Tryd.prog 26 #[.pointer (some ⟨rb, 0, none⟩), .agg #[.int .i8 1, .string T, .int .i64 p, .int .i64 q]] w fun e w' => e = .returned (.bool false) ∧ Below w.heap.size w w' := by
  obtain ⟨K, cur, vs, hr⟩ := h
  obtain ⟨c60, c61, cf⟩ := hr.toRBase.facts
  have hlt : rb < w.heap.size := hr.toRBase.rblt
  have c60' : w.cell? ⟨rb, 60, none⟩ = some (.int .i64 0) := c60
  obtain ⟨kl, k0, k1, k2, k3, k4⟩ := hK
  clear hr c60
  go_enter Tryd.func26, Tryd.ntmps26
  go_wp2
  go_region
  go_wp2
  go_ret
  exact ⟨rfl, (((Below.refl _ _).alloc (Nat.le_refl _) _).alloc (by simp) _).drew⟩
theorem take_leaf (n₀ rb : Nat) (kt kx : Int) (T : ByteArray) (p q : Int) (s' : RS) (w : World) (hk : (kt = 2 ∧ kx = 0) ∨ (kt = 3 ∧ kx = 1) ∨ (kt = 4 ∧ kx = 2)) (hK : Kinds w) (hn : n₀ ≤ w.heap.size) (M : Nat)
    (hput : ∀ W, Below w.heap.size w W → Calls Tryd.prog 42 #[.pointer (some ⟨rb, 0, none⟩), .agg #[.int .i8 kx, .string T, .slice none 0 0]] W fun e w' => e = .returned (.tuple #[]) ∧ RM w' n₀ rb s' ∧ Below n₀ W w' ∧ ∀ b, M ≤ b → b < W.heap.size → w'.heap[b]? = W.heap[b]?) :
    Calls Tryd.prog 26 #[.pointer (some ⟨rb, 0, none⟩), .agg #[.int .i8 kt, .string T, .int .i64 p, .int .i64 q]] w fun e w' => e = .returned (.bool true) ∧ RM w' n₀ rb s' ∧ Below n₀ w w' ∧ ∀ b, M ≤ b → b < w.heap.size → w'.heap[b]? = w.heap[b]? := by
  have HB := Lib.hid hput
  obtain ⟨kl, k0, k1, k2, k3, k4⟩ := hK
  clear hput
  rcases hk with ⟨rfl, rfl⟩ | ⟨rfl, rfl⟩ | ⟨rfl, rfl⟩
  · go_enter Tryd.func26, Tryd.ntmps26
    go_wp2
    go_region
    go_wp2_with fail
    have hb1 : Below w.heap.size w ((((w.alloc (.cells #[.int .i8 2, .string T, .int .i64 p, .int .i64 q] 47)).alloc (.cells #[.int .i8 0, .string T, .slice none 0 0] 26))).drew) := (((Below.refl _ _).alloc (Nat.le_refl _) _).alloc (by simp) _).drew
    refine (HB.out _ hb1).mono ?_
    rintro e w2 ⟨rfl, hr2, hb2, hg2⟩
    go_wp2
    go_ret
    exact ⟨rfl, hr2, (hb1.mono hn).trans hb2, fun b h1 h2 => (hg2 b h1 (Nat.lt_of_lt_of_le h2 hb1.size)).trans (hb1.block b h2)⟩
  · go_enter Tryd.func26, Tryd.ntmps26
    go_wp2
    go_region
    go_wp2_with fail
    have hb1 : Below w.heap.size w ((((w.alloc (.cells #[.int .i8 3, .string T, .int .i64 p, .int .i64 q] 47)).alloc (.cells #[.int .i8 1, .string T, .slice none 0 0] 26))).drew) := (((Below.refl _ _).alloc (Nat.le_refl _) _).alloc (by simp) _).drew
    refine (HB.out _ hb1).mono ?_
    rintro e w2 ⟨rfl, hr2, hb2, hg2⟩
    go_wp2
    go_ret
    exact ⟨rfl, hr2, (hb1.mono hn).trans hb2, fun b h1 h2 => (hg2 b h1 (Nat.lt_of_lt_of_le h2 hb1.size)).trans (hb1.block b h2)⟩
  · go_enter Tryd.func26, Tryd.ntmps26
    go_wp2
    go_region
    go_wp2_with fail
    have hb1 : Below w.heap.size w ((((w.alloc (.cells #[.int .i8 4, .string T, .int .i64 p, .int .i64 q] 47)).alloc (.cells #[.int .i8 2, .string T, .slice none 0 0] 26))).drew) := (((Below.refl _ _).alloc (Nat.le_refl _) _).alloc (by simp) _).drew
    refine (HB.out _ hb1).mono ?_
    rintro e w2 ⟨rfl, hr2, hb2, hg2⟩
    go_wp2
    go_ret
    exact ⟨rfl, hr2, (hb1.mono hn).trans hb2, fun b h1 h2 => (hg2 b h1 (Nat.lt_of_lt_of_le h2 hb1.size)).trans (hb1.block b h2)⟩
theorem take_close (n₀ rb : Nat) (T : ByteArray) (p q : Int) (d M : Nat) (s' : RS) (w : World) (hK : Kinds w) (hn : n₀ ≤ w.heap.size) (hd : w.cell? ⟨rb, 60, none⟩ = some (.int .i64 (d + 1 : Nat))) (hrb : rb < M) (hMw : M ≤ w.heap.size)
    (R : World → Value → Prop) (hend : ∀ W, Below w.heap.size w W → Calls Tryd.prog 41 #[.pointer (some ⟨rb, 0, none⟩)] W fun e w' => (∃ a n cap, e = .returned (.agg #[.int .i8 3, .string ⟨#[]⟩, .slice a n cap]) ∧ R w' (.agg #[.int .i8 3, .string ⟨#[]⟩, .slice a n cap])) ∧ Below n₀ W w' ∧ W.grownBy w' (some rb))
    (hkeep : ∀ W W' v, R W v → W.heap.size ≤ W'.heap.size → (∀ b, b < M → W'.heap[b]? = W.heap[b]?) → ∀ a n cap, v = .agg #[.int .i8 3, .string ⟨#[]⟩, .slice a n cap] → Calls Tryd.prog 42 #[.pointer (some ⟨rb, 0, none⟩), v] W' fun e w' => e = .returned (.tuple #[]) ∧ RM w' n₀ rb s' ∧ Below n₀ W' w' ∧ ∀ b, M ≤ b → b < W'.heap.size → w'.heap[b]? = W'.heap[b]?) :
    Calls Tryd.prog 26 #[.pointer (some ⟨rb, 0, none⟩), .agg #[.int .i8 1, .string T, .int .i64 p, .int .i64 q]] w fun e w' => e = .returned (.bool true) ∧ RM w' n₀ rb s' ∧ Below n₀ w w' ∧ ∀ b, M ≤ b → b < w.heap.size → w'.heap[b]? = w.heap[b]? := by
  have HE := Lib.hid hend
  have HK := Lib.hid hkeep
  obtain ⟨kl, k0, k1, k2, k3, k4⟩ := hK
  have e1 := eq_false (x := ((d + 1 : Nat) : Int)) (y := 0) (by omega)
  have hrw : rb < w.heap.size := by omega
  clear hend hkeep
  go_enter Tryd.func26, Tryd.ntmps26
  go_wp2
  go_region
  go_wp2_with fail
  have hb1 : Below w.heap.size w ((((w.alloc (.cells #[.int .i8 1, .string T, .int .i64 p, .int .i64 q] 47)).alloc (.cells #[.int .i8 0, .string T, .slice none 0 0] 26))).drew) := (((Below.refl _ _).alloc (Nat.le_refl _) _).alloc (by simp) _).drew
  have HB1 := Lib.hid hb1
  refine (HE.out _ hb1).mono ?_
  rintro e w2 ⟨⟨a, n, cap, rfl, hr2⟩, hb2, hg2⟩
  have hx2 : w2.heap[w.heap.size + 1]? = some (.cells #[.int .i8 0, .string T, .slice none 0 0] 26 (0, 0)) := (hg2.block _ (by simp) (by simp; omega)).trans (by
    have := heap_alloc_new (w.alloc (.cells #[.int .i8 1, .string T, .int .i64 p, .int .i64 q] 47)) (.cells #[.int .i8 0, .string T, .slice none 0 0] 26)
    have hs : (w.alloc (.cells #[.int .i8 1, .string T, .int .i64 p, .int .i64 q] 47)).heap.size = w.heap.size + 1 := by simp
    rw [hs] at this
    exact this)
  obtain ⟨B, hB⟩ : ∃ B, B = w.heap.size + 1 := ⟨_, rfl⟩
  rw [← hB] at hx2
  try rw [← hB]
  have x0 := cell_of_row _ _ 0 _ _ _ hx2
  have x1 := cell_of_row _ _ 1 _ _ _ hx2
  have x2 := cell_of_row _ _ 2 _ _ _ hx2
  have xf : ∀ i, w2.frozen? ⟨B, i, none⟩ = false := fun i => frozen_of_row w2 B i _ _ hx2
  simp only [List.getElem?_toArray, List.getElem?_cons_zero, List.getElem?_cons_succ] at x0 x1 x2
  have hBl : w.heap.size ≤ B := by omega
  have hbw : Below n₀ w w2 := (hb1.mono hn).trans hb2
  have HBW := Lib.hid hbw
  have HR2 := Lib.hid hr2
  have HX := Lib.hid hx2
  have Hh := Lib.hid hB
  have HG2 : Hid (∀ b, M ≤ b → b < w.heap.size → w2.heap[b]? = w.heap[b]?) := fun b h1 h2 => (hg2.block b (Nat.lt_of_lt_of_le h2 hb1.size) (fun e => by have := Option.some.inj e; omega)).trans (hb1.block b h2)
  have hs2 : w.heap.size ≤ w2.heap.size := Nat.le_trans hb1.size hg2.size
  clear hb1 hr2 hb2 hg2 hx2 hB hbw k0 k1 k2 k3 k4 hd
  go_wp2_with fail
  refine (HK.out w2 _ _ HR2.out (by simp [World.setCell]) (fun b hb => ((Below.heap_setCell _ _ _ _ (by show b ≠ B; omega)).trans (Below.heap_setCell _ _ _ _ (by show b ≠ B; omega))).trans (Below.heap_setCell _ _ _ _ (by show b ≠ B; omega))) a n cap rfl).mono ?_
  rintro e w3 ⟨rfl, hr3, hb3, hg3⟩
  have hbz := ((HBW.out.setCell (p := ⟨B, 0, none⟩) (by show n₀ ≤ B; omega) (.int .i8 3)).setCell (p := ⟨B, 1, none⟩) (by show n₀ ≤ B; omega) (.string ⟨#[]⟩)).setCell (p := ⟨B, 2, none⟩) (by show n₀ ≤ B; omega) (.slice a n cap)
  go_wp2
  go_ret
  exact ⟨rfl, hr3, hbz.trans hb3, fun b h1 h2 => (hg3 b h1 (by simp [World.setCell]; omega)).trans ((((Below.heap_setCell _ _ _ _ (by show b ≠ B; omega)).trans (Below.heap_setCell _ _ _ _ (by show b ≠ B; omega))).trans (Below.heap_setCell _ _ _ _ (by show b ≠ B; omega))).trans (HG2.out b h1 h2))⟩
/-- What a token makes of what has been read. -/
def takeS (s : RS) (k : Nat) (t : List UInt8) : Option RS :=
  if k = 0 then some (pushS s) else
  if k = 1 then (match s with
    | .run [] => none
    | .run (l :: st) => some (putS st (.node 3 [] l))
    | .deep n => some (.deep (n - 1))
    | .fin _ => none) else
  match s with
  | .run st => some (putS st (.node ((k : Int) - 2) t []))
  | .deep n => some (.deep n)
  | .fin _ => none
/-- How great what has been read may be. -/
def OkS (N : Nat) : RS → Prop
  | .run st => st.length ≤ N ∧ ∀ l ∈ st, l.length ≤ N
  | .deep n => n ≤ N ∧ 1 ≤ n
  | .fin _ => False
theorem put_run (n₀ rb N M : Nat) (st : List (List Tree)) (t : Tree) (v : Value) (w : World) (h : RXb M w n₀ rb st t v) (hok : OkS N (.run st)) (hN : N ≤ 1000000) :
    Calls Tryd.prog 42 #[.pointer (some ⟨rb, 0, none⟩), v] w fun e w' => e = .returned (.tuple #[]) ∧ RM w' n₀ rb (putS st t) ∧ Below n₀ w w' ∧ ∀ b, M ≤ b → b < w.heap.size → w'.heap[b]? = w.heap[b]? := by
  cases st with
  | nil => exact put_nil n₀ rb M t v w h
  | cons l r => exact put_cons n₀ rb M l r t v w h (Nat.le_trans (hok.2 l (by simp)) hN)
theorem RXb.to' {M : Nat} {w w' : World} {n₀ rb : Nat} {st : List (List Tree)} {t : Tree} {v : Value} (h : RXb M w n₀ rb st t v) (hs : w.heap.size ≤ w'.heap.size) (hk : ∀ b, b < M → w'.heap[b]? = w.heap[b]?) : RXb M w' n₀ rb st t v := by
  obtain ⟨K, cur, vs, hr, hrd, h1, h2, h3⟩ := h
  exact ⟨K, cur, vs, ⟨hr.toRBase.keep (hk _ h3), hr.few, hr.k.keep hs (fun b hb => hk b (h1 b hb)), StkM.keep st vs (fun b hb => hk b (by
    rcases hb with hb | ⟨v, hv, hb⟩
    · exact h1 b hb
    · exact h2 v hv b hb)) (fun _ _ => rfl) hr.stk⟩, Rd.keep (fun b hb _ => hk b (h1 b (Classical.not_not.1 hb))) t v hrd, h1, h2, h3⟩
theorem RM.rblt {w : World} {n₀ rb : Nat} {s : RS} (h : RM w n₀ rb s) : rb < w.heap.size := by
  cases s with
  | run st => obtain ⟨K, cur, vs, hr⟩ := h; exact hr.toRBase.rblt
  | deep n => obtain ⟨cur, hr⟩ := h; exact hr.rblt
  | fin t => obtain ⟨K, cur, v0, v1, v2, hr, _⟩ := h; exact hr.rblt
theorem take_run (n₀ rb N k : Nat) (t : List UInt8) (p q : Int) (s s' : RS) (w0 w : World) (hK : Kinds w) (h : RM w0 n₀ rb s) (hb0 : Below w0.heap.size w0 w) (hn : n₀ ≤ w.heap.size) (hok : OkS N s) (hN : N < 1000000) (hk : k ≤ 4) (ht : t.length ≤ maxLen) (hs : takeS s k t = some s') :
    Calls Tryd.prog 26 #[.pointer (some ⟨rb, 0, none⟩), .agg #[.int .i8 k, .string (bytesL t), .int .i64 p, .int .i64 q]] w fun e w' => e = .returned (.bool true) ∧ RM w' n₀ rb s' ∧ Below n₀ w w' ∧ ∀ b, w0.heap.size ≤ b → b < w.heap.size → w'.heap[b]? = w.heap[b]? := by
  unfold takeS at hs
  by_cases h0 : k = 0
  · subst h0
    rw [if_pos rfl] at hs
    cases hs
    refine take_open n₀ rb (bytesL t) p q s _ w hK (h.keep hb0) hn (fun W hW => ?_) w0.heap.size h.rblt
    cases s with
    | run st =>
      by_cases hd : st.length = 60
      · have := begin_full n₀ rb st W hW hd
        simp only [pushS, if_pos hd]
        exact this
      · have hlt : st.length < 60 := by
          obtain ⟨K, cur, vs, hr⟩ := hW
          have := hr.few; omega
        have := begin_run n₀ rb st W hW hlt
        simp only [pushS, if_neg hd]
        exact this
    | deep n => exact begin_deep n₀ rb n W hW (by have := hok.1; omega)
    | fin t => exact hok.elim
  · rw [if_neg h0] at hs
    by_cases h1 : k = 1
    · subst h1
      rw [if_pos rfl] at hs
      cases s with
      | fin t => exact hok.elim
      | run st =>
        cases st with
        | nil => cases hs
        | cons l st =>
          simp only [Option.some.injEq] at hs
          subst hs
          have hd : w.cell? ⟨rb, 60, none⟩ = some (.int .i64 (st.length + 1 : Nat)) := by
            obtain ⟨K, cur, vs, hr⟩ := h.keep hb0
            exact hr.toRBase.facts.1
          refine take_close n₀ rb (bytesL t) p q st.length w0.heap.size _ w hK hn hd h.rblt hb0.size (fun W v => RXb w0.heap.size W n₀ rb st (.node 3 [] l) v) (fun W hW => ?_) (fun W W' v hX hsz hkp a n cap hv => ?_)
          · refine (end_run n₀ rb w0.heap.size l st W (RM.bound h (hb0.trans (hW.mono hb0.size)))).mono ?_
            rintro e w' ⟨⟨a, cap, he, hx⟩, h2, h3⟩
            exact ⟨⟨a, _, cap, he, hx⟩, h2, h3⟩
          · exact put_run n₀ rb N w0.heap.size st _ v W' (hX.to' hsz hkp) ⟨by have := hok.1; simp only [List.length_cons] at this; omega, fun l' hl => hok.2 l' (by simp [hl])⟩ (by omega)
      | deep n =>
        simp only [Option.some.injEq] at hs
        subst hs
        obtain ⟨n, rfl⟩ : ∃ m, n = m + 1 := ⟨n - 1, by have := hok.2; omega⟩
        have hw := h.keep hb0
        have hd : w.cell? ⟨rb, 60, none⟩ = some (.int .i64 (n + 1 : Nat)) := by
          obtain ⟨cur, hr⟩ := hw
          exact hr.facts.1
        refine take_close n₀ rb (bytesL t) p q n w0.heap.size _ w hK hn hd h.rblt hb0.size (fun W v => (∃ cur, RBase W n₀ rb cur n true)) (fun W hW => ?_) (fun W W' v hX hsz hkp a m cap hv => ?_)
        · refine (end_deep n₀ rb n W (RM.keep (s := .deep (n + 1)) hw hW) (by have := hok.1; omega)).mono ?_
          rintro e w' ⟨he, h1, h2, h3⟩
          exact ⟨⟨_, 0, 0, he, h1⟩, h2, h3⟩
        · subst hv
          obtain ⟨cur', hr'⟩ := hX
          have hr'' := hr'.keep (hkp rb h.rblt)
          refine (put_deep n₀ rb n 3 ⟨#[]⟩ a m cap W' ⟨cur', hr''⟩).mono ?_
          rintro e w' ⟨he, h1, h2⟩
          have hnW : n₀ ≤ W'.heap.size := by have := hr''.rblt; have := hr''.n0; omega
          exact ⟨he, h1, h2.mono hnW, fun b _ hb => h2.block b hb⟩
    · rw [if_neg h1] at hs
      have hkk : ((k : Int) = 2 ∧ (k : Int) - 2 = 0) ∨ ((k : Int) = 3 ∧ (k : Int) - 2 = 1) ∨ ((k : Int) = 4 ∧ (k : Int) - 2 = 2) := by omega
      refine take_leaf n₀ rb k (k - 2) (bytesL t) p q s' w hkk hK hn w0.heap.size (fun W hW => ?_)
      cases s with
      | fin t => exact hok.elim
      | run st =>
        simp only [Option.some.injEq] at hs
        subst hs
        obtain ⟨K, cur, vs, hr, q1, q2, q3⟩ := RM.bound h (hb0.trans (hW.mono hb0.size))
        exact put_run n₀ rb N w0.heap.size st _ _ W ⟨K, cur, vs, hr, ⟨none, 0, rfl, by simp, by simp, ht, trivial⟩, q1, q2, q3⟩ hok (by omega)
      | deep n =>
        simp only [Option.some.injEq] at hs
        subst hs
        have hW2 : RM W n₀ rb (.deep n) := (h.keep hb0).keep hW
        refine (put_deep n₀ rb n _ _ none 0 0 W hW2).mono ?_
        rintro e w' ⟨he, h1, h2⟩
        obtain ⟨cur, hr⟩ := hW2
        have hnW : n₀ ≤ W.heap.size := by have := hr.rblt; have := hr.n0; omega
        exact ⟨he, h1, h2.mono hnW, fun b _ hb => h2.block b hb⟩
theorem takeS_ok {N k : Nat} {t : List UInt8} {s s' : RS} (hok : OkS N s) (hs : takeS s k t = some s') : (OkS (N + 1) s' ∧ s' ≠ .run []) ∨ (∃ t, s' = .fin t) ∨ s' = .deep 0 := by
  have hput : ∀ st t, OkS N (.run st) → (OkS (N + 1) (putS st t) ∧ putS st t ≠ .run []) ∨ (∃ t', putS st t = .fin t') ∨ putS st t = .deep 0 := by
    intro st t h
    cases st with
    | nil => exact .inr (.inl ⟨t, rfl⟩)
    | cons l r =>
      refine .inl ⟨⟨by have := h.1; simp only [List.length_cons] at this ⊢; omega, fun l' hl => ?_⟩, by simp [putS]⟩
      rcases List.mem_cons.1 hl with rfl | hl
      · have := h.2 l (by simp); simp; omega
      · have := h.2 l' (by simp [hl]); omega
  unfold takeS at hs
  by_cases h0 : k = 0
  · rw [if_pos h0] at hs
    cases hs
    cases s with
    | fin t => exact hok.elim
    | deep n => exact .inl ⟨⟨by have := hok.1; omega, by omega⟩, by simp [pushS]⟩
    | run st =>
      simp only [pushS]
      split
      · exact .inl ⟨⟨by have := hok.1; omega, by omega⟩, by simp⟩
      · refine .inl ⟨⟨by have := hok.1; simp; omega, fun l' hl => ?_⟩, by simp⟩
        rcases List.mem_cons.1 hl with rfl | hl
        · simp
        · have := hok.2 l' hl; omega
  · rw [if_neg h0] at hs
    by_cases h1 : k = 1
    · rw [if_pos h1] at hs
      cases s with
      | fin t => exact hok.elim
      | deep n =>
        simp only [Option.some.injEq] at hs
        subst hs
        by_cases hn : n = 1
        · subst hn; exact .inr (.inr rfl)
        · exact .inl ⟨⟨by have := hok.1; omega, by have := hok.2; omega⟩, by simp⟩
      | run st =>
        cases st with
        | nil => cases hs
        | cons l r =>
          simp only [Option.some.injEq] at hs
          subst hs
          exact hput r _ ⟨by have := hok.1; simp only [List.length_cons] at this; omega, fun l' hl => hok.2 l' (by simp [hl])⟩
    · rw [if_neg h1] at hs
      cases s with
      | fin t => exact hok.elim
      | deep n =>
        simp only [Option.some.injEq] at hs
        subst hs
        exact .inl ⟨⟨by have := hok.1; omega, hok.2⟩, by simp⟩
      | run st =>
        simp only [Option.some.injEq] at hs
        subst hs
        exact hput st _ hok
theorem takeS_none {k : Nat} {t : List UInt8} {s : RS} {N : Nat} (hok : OkS N s) (hs : takeS s k t = none) : k = 1 ∧ s = .run [] := by
  unfold takeS at hs
  by_cases h0 : k = 0
  · rw [if_pos h0] at hs; cases hs
  · rw [if_neg h0] at hs
    by_cases h1 : k = 1
    · rw [if_pos h1] at hs
      cases s with
      | fin t => exact hok.elim
      | deep n => cases hs
      | run st =>
        cases st with
        | nil => exact ⟨h1, rfl⟩
        | cons l r => cases hs
    · rw [if_neg h1] at hs
      cases s with
      | fin t => exact hok.elim
      | deep n => cases hs
      | run st => cases hs
end Go.Proofs.YthbgigjjmojgfaaDoor
