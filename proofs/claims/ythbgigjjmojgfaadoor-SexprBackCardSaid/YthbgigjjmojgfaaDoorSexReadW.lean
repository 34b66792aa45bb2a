/- What package sexpr's Read answers. -/
import Derived.Test.YthbgigjjmojgfaaDoorSexTk
import Derived.Test.YthbgigjjmojgfaaDoorLexNext
namespace Go.Proofs.YthbgigjjmojgfaaDoor
open Go.RowKit
def emptyT : Tree := .node 0 [] []
/-- An answer of Read. -/
structure RdR where
  t : Tree
  stop : Nat
  err : Nat
/-- What is read from byte p on, where s has been read. -/
def contR (L : List UInt8) : Nat → RS → Nat → RdR
  | _, .fin t, p => ⟨t, p, 0⟩
  | _, .deep 0, p => ⟨emptyT, p, 22⟩
  | 0, _, _ => ⟨emptyT, 0, 99⟩
  | f + 1, s, p =>
    if (nextL L p).err ≠ 0 then ⟨emptyT, (nextL L p).tok.pos, (nextL L p).err⟩ else
    if (nextL L p).ok = false then ⟨emptyT, L.length, 21⟩ else
    match takeS s (nextL L p).tok.kind (nextL L p).tok.text with
    | none => ⟨emptyT, (nextL L p).tok.pos, 20⟩
    | some s' => contR L f s' (nextL L p).tok.stop
def readL (L : List UInt8) (k : Nat) : RdR := contR L (L.length + 1 - k) (.run []) k
/-- A value that was made here: its rows are blocks of one's own. -/
def RdOut (B : Nat) (w : World) (t : Tree) (v : Value) : Prop := ∃ K : Nat → Prop, (∀ b, K b → B ≤ b ∧ b < w.heap.size) ∧ (∀ b, K b → ∃ cs, w.heap[b]? = some (.cells cs 26 (0, 0))) ∧ Rd w (fun b => ¬ K b) t v
theorem RdOut.empty (B : Nat) (w : World) : RdOut B w emptyT (.agg #[.int .i8 0, .string ⟨#[]⟩, .slice none 0 0]) := ⟨fun _ => False, fun _ h => h.elim, fun _ h => h.elim, none, 0, rfl, by simp, by simp, by simp, trivial⟩
def ReadPost (w : World) (X : RdR) (e : Ending) (w' : World) : Prop := ∃ v, e = .returned (.tuple #[v, .int .i64 X.stop, .int .i64 X.err]) ∧ RdOut w.heap.size w' X.t v ∧ Below w.heap.size w w'
def depS : RS → Nat
  | .run st => st.length
  | .deep n => n
  | .fin _ => 0
def isDeep : RS → Bool
  | .deep _ => true
  | _ => false
theorem RM.cells {w : World} {n₀ rb : Nat} {s : RS} (h : RM w n₀ rb s) : w.cell? ⟨rb, 60, none⟩ = some (.int .i64 (depS s)) ∧ w.cell? ⟨rb, 61, none⟩ = some (.bool (isDeep s)) ∧ rb < w.heap.size := by
  cases s with
  | run st => obtain ⟨K, cur, vs, hr⟩ := h; exact ⟨hr.toRBase.facts.1, hr.toRBase.facts.2.1, hr.toRBase.rblt⟩
  | deep n => obtain ⟨cur, hr⟩ := h; exact ⟨hr.facts.1, hr.facts.2.1, hr.rblt⟩
  | fin t => obtain ⟨K, cur, v0, v1, v2, hr, _⟩ := h; exact ⟨hr.facts.1, hr.facts.2.1, hr.rblt⟩
/-- The reader as it is made. -/
theorem RM.start {w : World} {n₀ rb : Nat} {cur : Array Value} (h : w.heap[rb]? = some (.cells cur 45 (0, 0))) (hs : cur.size = 65) (h60 : cur[60]? = some (.int .i64 0)) (h61 : cur[61]? = some (.bool false)) (hn : n₀ ≤ rb) : RM w n₀ rb (.run []) :=
  ⟨fun _ => False, cur, [], ⟨⟨h, hs, h60, h61, hn⟩, by simp, ⟨fun _ h => h.elim, id, fun _ h => h.elim⟩, rfl⟩⟩
theorem Read_neg (s : ByteArray) (at_ : Int) (w : World) (ha : at_ < 0) :
    Calls Tryd.prog 9 #[.string s, .int .i64 at_] w (ReadPost w ⟨emptyT, 0, 2⟩) := by
  have e1 : decide (at_ < 0) = true := by simp [ha]
  go_enter Tryd.func9, Tryd.ntmps9
  go_wp2
  have hh := heap_alloc_new w (.cells #[.int .i8 0, .string ⟨#[]⟩, .slice none 0 0] 26)
  have c0 := cell_of_row _ _ 0 _ _ _ hh
  have c1 := cell_of_row _ _ 1 _ _ _ hh
  have c2 := cell_of_row _ _ 2 _ _ _ hh
  exact bodyPost_ret (v := .tuple #[.agg #[.int .i8 0, .string ⟨#[]⟩, .slice none 0 0], .int .i64 0, .int .i64 2]) (by simp [results, Tryd.results9, go_sem, c0, c1, c2]) rfl ⟨_, rfl, RdOut.empty _ _, (Below.refl _ _).alloc (Nat.le_refl _) _⟩
/-- Where the reader is: what is read from byte e on makes X. -/
def RI (L : List UInt8) (at_ : Int) (X : RdR) (r : RS) (e : Int) (f : Nat) : Prop :=
  contR L f r (clampN e L.length) = X ∧ L.length + 1 - clampN e L.length ≤ f ∧
  ((r = .run [] ∧ e = at_) ∨ (at_ < e ∧ e ≤ L.length ∧ ((OkS (clampN e L.length) r ∧ r ≠ .run []) ∨ (∃ t, r = .fin t) ∨ r = .deep 0)))
theorem contR_fin (L : List UInt8) (f : Nat) (t : Tree) (p : Nat) : contR L f (.fin t) p = ⟨t, p, 0⟩ := by cases f <;> rfl
theorem contR_deep (L : List UInt8) (f : Nat) (p : Nat) : contR L f (.deep 0) p = ⟨emptyT, p, 22⟩ := by cases f <;> rfl
theorem contR_go (L : List UInt8) (f : Nat) (r : RS) (p N : Nat) (h : OkS N r) : contR L (f + 1) r p = if (nextL L p).err ≠ 0 then ⟨emptyT, (nextL L p).tok.pos, (nextL L p).err⟩ else
    if (nextL L p).ok = false then ⟨emptyT, L.length, 21⟩ else
    match takeS r (nextL L p).tok.kind (nextL L p).tok.text with
    | none => ⟨emptyT, (nextL L p).tok.pos, 20⟩
    | some s' => contR L f s' (nextL L p).tok.stop := by
  cases r with
  | fin t => exact h.elim
  | run st => rfl
  | deep n =>
    obtain ⟨n, rfl⟩ : ∃ m, n = m + 1 := ⟨n - 1, by have := h.2; omega⟩
    rfl
theorem tokN_kind4 {l : List UInt8} {k m : Nat} {t : List UInt8} (h : tokN l = some (k, t, m)) : k ≤ 4 ∧ t.length ≤ 100 := by
  obtain ⟨c, r, _, h1, _, _, _, h2⟩ := tokN_some h
  exact ⟨kindN_le h1, h2⟩
theorem RI.step {L : List UInt8} {at_ : Int} {X : RdR} {r : RS} {e : Int} {f : Nat} (h : RI L at_ X r e f) (ha : 0 ≤ at_) :
    (∃ t, r = .fin t ∧ at_ < e ∧ X = ⟨t, e.toNat, 0⟩) ∨ (r = .deep 0 ∧ at_ < e ∧ X = ⟨emptyT, e.toNat, 22⟩) ∨
    (OkS (clampN e L.length) r ∧ (e = at_ ∨ (at_ < e ∧ 0 < depS r)) ∧
     ((∃ n, nextL L (clampN e L.length) = ⟨⟨0, [], n, 0⟩, false, 20⟩ ∧ X = ⟨emptyT, n, 20⟩) ∨ (nextL L (clampN e L.length) = ⟨⟨0, [], 0, 0⟩, false, 0⟩ ∧ X = ⟨emptyT, L.length, 21⟩) ∨
      ∃ k t n m, nextL L (clampN e L.length) = ⟨⟨k, t, n, m⟩, true, 0⟩ ∧ k ≤ 4 ∧ t.length ≤ 100 ∧ clampN e L.length < m ∧ m ≤ L.length ∧
        ((takeS r k t = none ∧ k = 1 ∧ r = .run [] ∧ X = ⟨emptyT, n, 20⟩) ∨ ∃ r' f', takeS r k t = some r' ∧ RI L at_ X r' m f'))) := by
  obtain ⟨h1, h2, h3⟩ := h
  have hcl : clampN e L.length ≤ L.length := clampN_le _ _
  have hterm : (∃ t, r = .fin t) → at_ < e → e ≤ L.length → (∃ t, r = .fin t ∧ at_ < e ∧ X = ⟨t, e.toNat, 0⟩) := by
    rintro ⟨t, rfl⟩ h4 h5
    refine ⟨t, rfl, h4, ?_⟩
    rw [← h1, contR_fin]
    have : clampN e L.length = e.toNat := by unfold clampN; split <;> (try split) <;> omega
    rw [this]
  have hterm2 : r = .deep 0 → at_ < e → e ≤ L.length → (r = .deep 0 ∧ at_ < e ∧ X = ⟨emptyT, e.toNat, 22⟩) := by
    rintro rfl h4 h5
    refine ⟨rfl, h4, ?_⟩
    rw [← h1, contR_deep]
    have : clampN e L.length = e.toNat := by unfold clampN; split <;> (try split) <;> omega
    rw [this]
  have hcase : (OkS (clampN e L.length) r ∧ (e = at_ ∨ (at_ < e ∧ 0 < depS r)) ∧ at_ ≤ e) ∨ (∃ t, r = .fin t ∧ at_ < e ∧ X = ⟨t, e.toNat, 0⟩) ∨ (r = .deep 0 ∧ at_ < e ∧ X = ⟨emptyT, e.toNat, 22⟩) := by
    rcases h3 with ⟨rfl, rfl⟩ | ⟨h4, h5, h6⟩
    · exact .inl ⟨⟨by simp, fun l hl => by cases hl⟩, .inl rfl, Int.le_refl _⟩
    · rcases h6 with ⟨h6, h7⟩ | h6 | h6
      · refine .inl ⟨h6, .inr ⟨h4, ?_⟩, by omega⟩
        cases r with
        | fin t => exact h6.elim
        | deep n => exact h6.2
        | run st =>
          cases st with
          | nil => exact absurd rfl h7
          | cons l r => simp [depS]
      · exact .inr (.inl (hterm h6 h4 h5))
      · exact .inr (.inr (hterm2 h6 h4 h5))
  rcases hcase with ⟨hok, hd, hle⟩ | h6 | h6
  · refine .inr (.inr ⟨hok, hd, ?_⟩)
    obtain ⟨f, rfl⟩ : ∃ g, f = g + 1 := ⟨f - 1, by omega⟩
    rw [contR_go L f r _ _ hok] at h1
    by_cases herr : (nextL L (clampN e L.length)).err ≠ 0
    · rw [if_pos herr] at h1
      obtain ⟨_, _, hx, _⟩ := nextL_err herr
      exact .inl ⟨skipA L (clampN e L.length), hx, by rw [← h1, hx]⟩
    · rw [if_neg herr] at h1
      cases hk : (nextL L (clampN e L.length)).ok with
      | false =>
        rw [hk, if_pos rfl] at h1
        exact .inr (.inl ⟨(nextL_end hk (Classical.not_not.1 herr)).2, h1.symm⟩)
      | true =>
        rw [hk, if_neg (by simp)] at h1
        obtain ⟨hs1, hs2, _⟩ := nextL_stop hcl hk
        obtain ⟨kd, t, m, htok, hx⟩ := nextL_ok hk
        rw [hx] at h1 hs1 hs2
        obtain ⟨hk4, ht⟩ := tokN_kind4 htok
        refine .inr (.inr ⟨kd, t, skipA L (clampN e L.length), skipA L (clampN e L.length) + m, hx, hk4, ht, hs1, hs2, ?_⟩)
        simp only at h1
        cases htk : takeS r kd t with
        | none =>
          rw [htk] at h1
          obtain ⟨q1, q2⟩ := takeS_none hok htk
          exact .inl ⟨rfl, q1, q2, h1.symm⟩
        | some r' =>
          rw [htk] at h1
          simp only at h1 hs1 hs2
          have hcm : clampN ((skipA L (clampN e L.length) + m : Nat) : Int) L.length = skipA L (clampN e L.length) + m := clampN_nat hs2
          have hce : e ≤ L.length → e = clampN e L.length := by intro hle2; unfold clampN; split <;> (try split) <;> omega
          have hne : e ≤ L.length := by
            apply Classical.byContradiction; intro hgt
            have : clampN e L.length = L.length := by unfold clampN; split <;> (try split) <;> omega
            omega
          have := hce hne
          refine .inr ⟨r', f, rfl, by rw [hcm]; exact h1, by rw [hcm]; omega, .inr ⟨by omega, by omega, ?_⟩⟩
          rw [hcm]
          have hok' : OkS (skipA L (clampN e L.length) + m - 1) r := by
            have hle3 : clampN e L.length ≤ skipA L (clampN e L.length) + m - 1 := by omega
            cases r with
            | fin t => exact hok
            | run st => exact ⟨Nat.le_trans hok.1 hle3, fun l hl => Nat.le_trans (hok.2 l hl) hle3⟩
            | deep n => exact ⟨Nat.le_trans hok.1 hle3, hok.2⟩
          have hq := takeS_ok hok' htk
          rw [show skipA L (clampN e L.length) + m - 1 + 1 = skipA L (clampN e L.length) + m by omega] at hq
          exact hq
  · exact .inl h6
  · exact .inr (.inl h6)
theorem zero45 : (Tryd.zeroCells45.size, Tryd.zeroCells45[60]?, Tryd.zeroCells45[61]?) = (65, some (.int .i64 0), some (.bool false)) := by kernel_rfl
set_option maxHeartbeats 2000000 in
theorem Read_nat (s : ByteArray) (at_ : Int) (w : World) (hG : Globs w) (hK : Kinds w) (hs : s.size < 900000) (ha : 0 ≤ at_) (h63 : at_ < 9223372036854775808) :
    Calls Tryd.prog 9 #[.string s, .int .i64 at_] w (ReadPost w (readL s.data.toList (clampN at_ s.size))) := by
  have HL : Hid (s.data.toList.length = s.size) := by show _ = _; simp
  have e1 : decide (at_ < 0) = false := by simp; omega
  obtain ⟨X, hX⟩ : ∃ X, X = readL s.data.toList (clampN at_ s.size) := ⟨_, rfl⟩
  rw [← hX]
  have HX := Lib.hid hX
  have HG := Lib.hid hG
  have HK := Lib.hid hK
  have HS := Lib.hid hs
  clear hX hG hK hs
  go_enter Tryd.func9, Tryd.ntmps9
  go_wp2
  obtain ⟨W1, hW1⟩ : ∃ W1, W1 = (w.alloc (.cells #[.int .i8 0, .string ⟨#[]⟩, .slice none 0 0] 26)).alloc (.cells Tryd.zeroCells45 45) := ⟨_, rfl⟩
  rw [← hW1]
  have HB1 : Hid (Below w.heap.size w W1) := by show Below _ _ _; rw [hW1]; exact ((Below.refl _ _).alloc (Nat.le_refl _) _).alloc (by simp) _
  have HM1 : Hid (RM W1 (w.heap.size + 1) (w.heap.size + 1) (.run [])) := by
    show RM _ _ _ _
    obtain ⟨z1, z2, z3⟩ : Tryd.zeroCells45.size = 65 ∧ Tryd.zeroCells45[60]? = some (.int .i64 0) ∧ Tryd.zeroCells45[61]? = some (.bool false) := by
      have := zero45
      simp only [Prod.mk.injEq] at this
      exact this
    refine RM.start (cur := Tryd.zeroCells45) ?_ z1 z2 z3 (Nat.le_refl _)
    rw [hW1]
    have := heap_alloc_new (w.alloc (.cells #[.int .i8 0, .string ⟨#[]⟩, .slice none 0 0] 26)) (.cells Tryd.zeroCells45 45)
    rw [World.size_alloc] at this
    exact this
  have HC1 : Hid (W1.heap[w.heap.size]? = some (.cells #[.int .i8 0, .string ⟨#[]⟩, .slice none 0 0] 26 (0, 0))) := by
    show _ = _
    rw [hW1]
    exact (Below.heap_alloc _ _ _ (by simp)).trans (heap_alloc_new w _)
  have HR0 : Hid (RI s.data.toList at_ X (.run []) at_ (s.data.toList.length + 1 - clampN at_ s.data.toList.length)) := by
    refine ⟨?_, Nat.le_refl _, .inl ⟨rfl, rfl⟩⟩
    rw [HX.out, HL.out]; unfold readL; rw [HL.out]
  have hsz1 : w.heap.size + 1 < W1.heap.size := by rw [hW1]; simp
  clear hW1
  go_loopw [5] (fun i wr => ∃ (r : RS) (e : Int) (f : Nat), i = .int .i64 e ∧ 0 ≤ e ∧ e < 9223372036854775808 ∧ Hid (RI s.data.toList at_ X r e f) ∧ Hid (RM wr (w.heap.size + 1) (w.heap.size + 1) r) ∧ Hid (Below (w.heap.size + 1) W1 wr) ∧ w.heap.size + 1 < wr.heap.size) (fun i _ => s.size + 1 - clampN (intOf i) s.size)
  case atStart => exact ⟨_, at_, _, rfl, ha, h63, HR0, HM1, Below.refl _ _, hsz1⟩
  case round =>
    obtain ⟨r, e, f, rfl, he0, he1, HI, HM, HB, hzr⟩ := hrel
    obtain ⟨c60, c61, _⟩ := HM.out.cells
    have HBw : Hid (Below w.heap.size w wr) := HB1.out.trans (HB.out.mono (Nat.le_succ _))
    have HGr : Hid (Globs wr) := HG.out.below HBw.out
    have HKr : Hid (Kinds wr) := HK.out.below HBw.out HK.out.lt
    have HCr : Hid (wr.heap[w.heap.size]? = some (.cells #[.int .i8 0, .string ⟨#[]⟩, .slice none 0 0] 26 (0, 0))) := (HB.out.block _ (Nat.lt_succ_self _)).trans HC1.out
    rcases HI.out.step ha with ⟨t, rfl, hne, hXX⟩ | ⟨rfl, hne, hXX⟩ | ⟨hok, hd, hnx⟩
    · obtain ⟨K, cur, v0, v1, v2, hr, hko, q0, q1, q2, hrd⟩ := HM.out
      obtain ⟨a, cap, hv, hl, hc, hs, hk⟩ := hrd.parts
      simp only [Value.agg.injEq, Array.mk.injEq, List.cons.injEq, and_true] at hv
      obtain ⟨rfl, rfl, rfl⟩ := hv
      have c62 := (cell_of_row wr (w.heap.size + 1) 62 cur _ _ hr.heap).trans q0
      have c63 := (cell_of_row wr (w.heap.size + 1) 63 cur _ _ hr.heap).trans q1
      have c64 := (cell_of_row wr (w.heap.size + 1) 64 cur _ _ hr.heap).trans q2
      have c60' : wr.cell? ⟨w.heap.size + 1, 60, none⟩ = some (.int .i64 0) := c60
      have c61' : wr.cell? ⟨w.heap.size + 1, 61, none⟩ = some (.bool false) := c61
      have k0 := cell_of_row _ _ 0 _ _ _ HCr.out
      have k1 := cell_of_row _ _ 1 _ _ _ HCr.out
      have k2 := cell_of_row _ _ 2 _ _ _ HCr.out
      have kf : ∀ i, wr.frozen? ⟨w.heap.size, i, none⟩ = false := fun i => frozen_of_row wr _ i _ _ HCr.out
      simp only [List.getElem?_toArray, List.getElem?_cons_zero, List.getElem?_cons_succ] at k0 k1 k2
      have e2 := eq_false (x := e) (y := at_) (by omega)
      have HXX := Lib.hid hXX
      have HKO := Lib.hid hko
      have HRD := Lib.hid hrd
      clear hr hko q0 q1 q2 hrd hl hc hs hk hXX c60 c61
      go_wp2
      have hh : ∀ v0 v1 v2, (((wr.setCell ⟨w.heap.size, 0, none⟩ v0).setCell ⟨w.heap.size, 1, none⟩ v1).setCell ⟨w.heap.size, 2, none⟩ v2).heap[w.heap.size]? = some (.cells #[v0, v1, v2] 26 (0, 0)) := fun v0 v1 v2 => rb_set (i := 2) (rb_set (i := 1) (rb_set (i := 0) HCr.out))
      have h9 := hh (.int .i8 t.kind) (.string (bytesL t.text)) (.slice a t.kids.length cap)
      have r0 := cell_of_row _ _ 0 _ _ _ h9
      have r1 := cell_of_row _ _ 1 _ _ _ h9
      have r2 := cell_of_row _ _ 2 _ _ _ h9
      have HXe := HXX.out
      have hkk : ∀ b, b ≠ w.heap.size → (((wr.setCell ⟨w.heap.size, 0, none⟩ (.int .i8 t.kind)).setCell ⟨w.heap.size, 1, none⟩ (.string (bytesL t.text))).setCell ⟨w.heap.size, 2, none⟩ (.slice a t.kids.length cap)).heap[b]? = wr.heap[b]? := fun b hb => ((Below.heap_setCell _ _ _ _ hb).trans (Below.heap_setCell _ _ _ _ hb)).trans (Below.heap_setCell _ _ _ _ hb)
      have hKk : ∀ b, K b → b ≠ w.heap.size := fun b hb => by have := (HKO.out.low b hb).1; omega
      exact bodyPost_ret (v := .tuple #[.agg #[.int .i8 t.kind, .string (bytesL t.text), .slice a t.kids.length cap], .int .i64 e, .int .i64 0]) (by simp [results, Tryd.results9, go_sem, r0, r1, r2]) rfl
        ⟨.agg #[.int .i8 t.kind, .string (bytesL t.text), .slice a t.kids.length cap], by rw [HXe]; simp [Int.toNat_of_nonneg he0],
          by rw [HXe]; exact ⟨K, fun b hb => ⟨by have := (HKO.out.low b hb).1; omega, by simpa [World.setCell] using (HKO.out.low b hb).2⟩, fun b hb => by rw [hkk b (hKk b hb)]; exact HKO.out.cells b hb, Rd.keep (fun b hb _ => hkk b (hKk b (Classical.not_not.1 hb))) t _ HRD.out⟩,
          ((HBw.out.setCell (p := ⟨w.heap.size, 0, none⟩) (Nat.le_refl _) _).setCell (p := ⟨w.heap.size, 1, none⟩) (Nat.le_refl _) _).setCell (p := ⟨w.heap.size, 2, none⟩) (Nat.le_refl _) _⟩
    · have c60' : wr.cell? ⟨w.heap.size + 1, 60, none⟩ = some (.int .i64 0) := c60
      have c61' : wr.cell? ⟨w.heap.size + 1, 61, none⟩ = some (.bool true) := c61
      have k0 := cell_of_row _ _ 0 _ _ _ HCr.out
      have k1 := cell_of_row _ _ 1 _ _ _ HCr.out
      have k2 := cell_of_row _ _ 2 _ _ _ HCr.out
      have kf : ∀ i, wr.frozen? ⟨w.heap.size, i, none⟩ = false := fun i => frozen_of_row wr _ i _ _ HCr.out
      simp only [List.getElem?_toArray, List.getElem?_cons_zero, List.getElem?_cons_succ] at k0 k1 k2
      have e2 := eq_false (x := e) (y := at_) (by omega)
      have HXX := Lib.hid hXX
      clear hXX c60 c61
      go_wp2
      have h9 := rb_set (i := 2) (v := .slice none 0 0) (rb_set (i := 1) (v := .string ⟨#[]⟩) (rb_set (i := 0) (v := .int .i8 0) HCr.out))
      have r0 := cell_of_row _ _ 0 _ _ _ h9
      have r1 := cell_of_row _ _ 1 _ _ _ h9
      have r2 := cell_of_row _ _ 2 _ _ _ h9
      have HXe := HXX.out
      exact bodyPost_ret (v := .tuple #[.agg #[.int .i8 0, .string ⟨#[]⟩, .slice none 0 0], .int .i64 e, .int .i64 22]) (by simp [results, Tryd.results9, go_sem, r0, r1, r2]) rfl
        ⟨.agg #[.int .i8 0, .string ⟨#[]⟩, .slice none 0 0], by rw [HXe]; simp [Int.toNat_of_nonneg he0], by rw [HXe]; exact RdOut.empty _ _,
          ((HBw.out.setCell (p := ⟨w.heap.size, 0, none⟩) (Nat.le_refl _) _).setCell (p := ⟨w.heap.size, 1, none⟩) (Nat.le_refl _) _).setCell (p := ⟨w.heap.size, 2, none⟩) (Nat.le_refl _) _⟩
    · have HOK := Lib.hid hok
      rw [HL.out] at hnx
      have hFin : ∀ (wz : World) (n : Nat) (ee : Int), wz.heap[w.heap.size]? = some (.cells #[.int .i8 0, .string ⟨#[]⟩, .slice none 0 0] 26 (0, 0)) → Below w.heap.size w wz → X = ⟨emptyT, n, ee.toNat⟩ → 0 ≤ ee → ∃ v, (∃ h0 h1 h2, wz.cell? ⟨w.heap.size, 0, none⟩ = some h0 ∧ wz.cell? ⟨w.heap.size, 1, none⟩ = some h1 ∧ wz.cell? ⟨w.heap.size, 2, none⟩ = some h2 ∧ v = .tuple #[.agg #[h0, h1, h2], .int .i64 n, .int .i64 ee]) ∧ ReadPost w X (.returned v) wz := by
        intro wz n ee h1 h2 h3 h4
        have r0 := cell_of_row _ _ 0 _ _ _ h1
        have r1 := cell_of_row _ _ 1 _ _ _ h1
        have r2 := cell_of_row _ _ 2 _ _ _ h1
        simp only [List.getElem?_toArray, List.getElem?_cons_zero, List.getElem?_cons_succ] at r0 r1 r2
        refine ⟨.tuple #[.agg #[.int .i8 0, .string ⟨#[]⟩, .slice none 0 0], .int .i64 n, .int .i64 ee], ⟨_, _, _, r0, r1, r2, rfl⟩, ?_⟩
        rw [h3]
        exact ⟨_, by simp [Int.toNat_of_nonneg h4], RdOut.empty _ _, h2⟩
      have HFin := Lib.hid hFin
      obtain ⟨d, hdd⟩ : ∃ d, d = depS r := ⟨_, rfl⟩
      rw [← hdd] at c60 hd
      obtain ⟨dp, hdp⟩ : ∃ d, d = isDeep r := ⟨_, rfl⟩
      rw [← hdp] at c61
      clear hFin hdd hdp hok
      rcases hnx with ⟨n, hnx, hXX⟩ | ⟨hnx, hXX⟩ | ⟨k, t, n, m, hnx, hk4, ht, hm1, hm2, hnx2⟩
      · have HN : Hid (∀ W : World, Globs W → Calls Tryd.prog 25 #[.string s, .int .i64 e] W fun e w' => e = .returned (nxtV ⟨⟨0, [], n, 0⟩, false, 20⟩) ∧ Below W.heap.size W w') := fun W hW => by
          have := Next_any s e W hW (by have := HS.out; omega)
          rw [hnx] at this
          exact this
        have HXX := Lib.hid hXX
        clear hnx hXX
        rcases hd with rfl | ⟨hd1, hd2⟩
        · skip
          go_wp2_with fail
          refine (HN.out _ HGr.out).mono ?_
          rintro e9 w2 ⟨rfl, hb2⟩
          have hC2 : w2.heap[w.heap.size]? = some (.cells #[.int .i8 0, .string ⟨#[]⟩, .slice none 0 0] 26 (0, 0)) := (hb2.block _ (by omega)).trans HCr.out
          have hz2 : w.heap.size + 1 < w2.heap.size := by have := hb2.size; omega
          have hne2 : ¬ w.heap.size = w2.heap.size := by omega
          have hne3 : ¬ w2.heap.size = w.heap.size := by omega
          have HC2 := Lib.hid hC2
          have HBW2 : Hid (Below w.heap.size w w2) := HBw.out.trans (hb2.mono (by omega))
          have k0 := cell_of_row _ _ 0 _ _ _ hC2
          have k1 := cell_of_row _ _ 1 _ _ _ hC2
          have k2 := cell_of_row _ _ 2 _ _ _ hC2
          have kf : ∀ i, w2.frozen? ⟨w.heap.size, i, none⟩ = false := fun i => frozen_of_row w2 _ i _ _ hC2
          simp only [List.getElem?_toArray, List.getElem?_cons_zero, List.getElem?_cons_succ] at k0 k1 k2
          unfold nxtV tokV
          go_wp2
          obtain ⟨w3, hw3⟩ : ∃ w3, w3 = w2.alloc (.cells #[.int .i8 0, .string (bytesL []), .int .i64 n, .int .i64 0] 47) := ⟨_, rfl⟩
          rw [← hw3]
          have hT3 : w3.heap[w2.heap.size]? = some (.cells #[.int .i8 0, .string (bytesL []), .int .i64 n, .int .i64 0] 47 (0, 0)) := by rw [hw3]; exact heap_alloc_new w2 _
          have hC3 : w3.heap[w.heap.size]? = some (.cells #[.int .i8 0, .string ⟨#[]⟩, .slice none 0 0] 26 (0, 0)) := by rw [hw3]; exact (Below.heap_alloc _ _ _ (by omega)).trans HC2.out
          have HC3 := Lib.hid hC3
          have HBW3 : Hid (Below w.heap.size w w3) := by show Below _ _ _; rw [hw3]; exact HBW2.out.alloc (by omega) _
          have j0 := cell_of_row _ _ 0 _ _ _ hC3
          have j1 := cell_of_row _ _ 1 _ _ _ hC3
          have j2 := cell_of_row _ _ 2 _ _ _ hC3
          have j3 := cell_of_row _ _ 2 _ _ _ hT3
          have jf : ∀ i, w3.frozen? ⟨w.heap.size, i, none⟩ = false := fun i => frozen_of_row w3 _ i _ _ hC3
          simp only [List.getElem?_toArray, List.getElem?_cons_zero, List.getElem?_cons_succ] at j0 j1 j2 j3
          clear hw3 hT3 hC3 k0 k1 k2 kf
          go_region
          all_goals go_wp2
          all_goals
            have h9 := rb_set (i := 2) (v := .slice none 0 0) (rb_set (i := 1) (v := .string ⟨#[]⟩) (rb_set (i := 0) (v := .int .i8 0) (w := w3) (cur := #[.int .i8 0, .string ⟨#[]⟩, .slice none 0 0]) (rb := w.heap.size) HC3.out))
            have r0 := cell_of_row _ _ 0 _ _ _ h9
            have r1 := cell_of_row _ _ 1 _ _ _ h9
            have r2 := cell_of_row _ _ 2 _ _ _ h9
            have HXe := HXX.out
            exact bodyPost_ret (v := .tuple #[.agg #[.int .i8 0, .string ⟨#[]⟩, .slice none 0 0], .int .i64 n, .int .i64 20]) (by simp [results, Tryd.results9, go_sem, r0, r1, r2]) rfl
              ⟨.agg #[.int .i8 0, .string ⟨#[]⟩, .slice none 0 0], by rw [HXe]; simp, by rw [HXe]; exact RdOut.empty _ _,
                (((HBW3.out.setCell (p := ⟨w.heap.size, 0, none⟩) (Nat.le_refl _) _).setCell (p := ⟨w.heap.size, 1, none⟩) (Nat.le_refl _) _).setCell (p := ⟨w.heap.size, 2, none⟩) (Nat.le_refl _) _).drew⟩
        · have e2 := eq_false (x := e) (y := at_) (by omega)
          have e3 : decide ((d : Int) > 0) = true := by simp; omega
          go_wp2_with fail
          refine (HN.out _ HGr.out).mono ?_
          rintro e9 w2 ⟨rfl, hb2⟩
          have hC2 : w2.heap[w.heap.size]? = some (.cells #[.int .i8 0, .string ⟨#[]⟩, .slice none 0 0] 26 (0, 0)) := (hb2.block _ (by omega)).trans HCr.out
          have hz2 : w.heap.size + 1 < w2.heap.size := by have := hb2.size; omega
          have hne2 : ¬ w.heap.size = w2.heap.size := by omega
          have hne3 : ¬ w2.heap.size = w.heap.size := by omega
          have HC2 := Lib.hid hC2
          have HBW2 : Hid (Below w.heap.size w w2) := HBw.out.trans (hb2.mono (by omega))
          have k0 := cell_of_row _ _ 0 _ _ _ hC2
          have k1 := cell_of_row _ _ 1 _ _ _ hC2
          have k2 := cell_of_row _ _ 2 _ _ _ hC2
          have kf : ∀ i, w2.frozen? ⟨w.heap.size, i, none⟩ = false := fun i => frozen_of_row w2 _ i _ _ hC2
          simp only [List.getElem?_toArray, List.getElem?_cons_zero, List.getElem?_cons_succ] at k0 k1 k2
          unfold nxtV tokV
          go_wp2
          obtain ⟨w3, hw3⟩ : ∃ w3, w3 = w2.alloc (.cells #[.int .i8 0, .string (bytesL []), .int .i64 n, .int .i64 0] 47) := ⟨_, rfl⟩
          rw [← hw3]
          have hT3 : w3.heap[w2.heap.size]? = some (.cells #[.int .i8 0, .string (bytesL []), .int .i64 n, .int .i64 0] 47 (0, 0)) := by rw [hw3]; exact heap_alloc_new w2 _
          have hC3 : w3.heap[w.heap.size]? = some (.cells #[.int .i8 0, .string ⟨#[]⟩, .slice none 0 0] 26 (0, 0)) := by rw [hw3]; exact (Below.heap_alloc _ _ _ (by omega)).trans HC2.out
          have HC3 := Lib.hid hC3
          have HBW3 : Hid (Below w.heap.size w w3) := by show Below _ _ _; rw [hw3]; exact HBW2.out.alloc (by omega) _
          have j0 := cell_of_row _ _ 0 _ _ _ hC3
          have j1 := cell_of_row _ _ 1 _ _ _ hC3
          have j2 := cell_of_row _ _ 2 _ _ _ hC3
          have j3 := cell_of_row _ _ 2 _ _ _ hT3
          have jf : ∀ i, w3.frozen? ⟨w.heap.size, i, none⟩ = false := fun i => frozen_of_row w3 _ i _ _ hC3
          simp only [List.getElem?_toArray, List.getElem?_cons_zero, List.getElem?_cons_succ] at j0 j1 j2 j3
          clear hw3 hT3 hC3 k0 k1 k2 kf
          go_region
          all_goals go_wp2
          all_goals
            have h9 := rb_set (i := 2) (v := .slice none 0 0) (rb_set (i := 1) (v := .string ⟨#[]⟩) (rb_set (i := 0) (v := .int .i8 0) (w := w3) (cur := #[.int .i8 0, .string ⟨#[]⟩, .slice none 0 0]) (rb := w.heap.size) HC3.out))
            have r0 := cell_of_row _ _ 0 _ _ _ h9
            have r1 := cell_of_row _ _ 1 _ _ _ h9
            have r2 := cell_of_row _ _ 2 _ _ _ h9
            have HXe := HXX.out
            exact bodyPost_ret (v := .tuple #[.agg #[.int .i8 0, .string ⟨#[]⟩, .slice none 0 0], .int .i64 n, .int .i64 20]) (by simp [results, Tryd.results9, go_sem, r0, r1, r2]) rfl
              ⟨.agg #[.int .i8 0, .string ⟨#[]⟩, .slice none 0 0], by rw [HXe]; simp, by rw [HXe]; exact RdOut.empty _ _,
                (((HBW3.out.setCell (p := ⟨w.heap.size, 0, none⟩) (Nat.le_refl _) _).setCell (p := ⟨w.heap.size, 1, none⟩) (Nat.le_refl _) _).setCell (p := ⟨w.heap.size, 2, none⟩) (Nat.le_refl _) _).drew⟩
      · have HN : Hid (∀ W : World, Globs W → Calls Tryd.prog 25 #[.string s, .int .i64 e] W fun e w' => e = .returned (nxtV ⟨⟨0, [], 0, 0⟩, false, 0⟩) ∧ Below W.heap.size W w') := fun W hW => by
          have := Next_any s e W hW (by have := HS.out; omega)
          rw [hnx] at this
          exact this
        have HXX := Lib.hid hXX
        clear hnx hXX
        rcases hd with rfl | ⟨hd1, hd2⟩
        · skip
          go_wp2_with fail
          refine (HN.out _ HGr.out).mono ?_
          rintro e9 w2 ⟨rfl, hb2⟩
          have hC2 : w2.heap[w.heap.size]? = some (.cells #[.int .i8 0, .string ⟨#[]⟩, .slice none 0 0] 26 (0, 0)) := (hb2.block _ (by omega)).trans HCr.out
          have hz2 : w.heap.size + 1 < w2.heap.size := by have := hb2.size; omega
          have hne2 : ¬ w.heap.size = w2.heap.size := by omega
          have hne3 : ¬ w2.heap.size = w.heap.size := by omega
          have HC2 := Lib.hid hC2
          have HBW2 : Hid (Below w.heap.size w w2) := HBw.out.trans (hb2.mono (by omega))
          have k0 := cell_of_row _ _ 0 _ _ _ hC2
          have k1 := cell_of_row _ _ 1 _ _ _ hC2
          have k2 := cell_of_row _ _ 2 _ _ _ hC2
          have kf : ∀ i, w2.frozen? ⟨w.heap.size, i, none⟩ = false := fun i => frozen_of_row w2 _ i _ _ hC2
          simp only [List.getElem?_toArray, List.getElem?_cons_zero, List.getElem?_cons_succ] at k0 k1 k2
          have ka0 : ∀ o, (w2.alloc o).cell? ⟨w.heap.size, 0, none⟩ = _ := fun o => (World.cell?_of_block (a := ⟨w.heap.size, 0, none⟩) (Below.heap_alloc w2 o _ (show w.heap.size < w2.heap.size by omega))).trans k0
          have ka1 : ∀ o, (w2.alloc o).cell? ⟨w.heap.size, 1, none⟩ = _ := fun o => (World.cell?_of_block (a := ⟨w.heap.size, 1, none⟩) (Below.heap_alloc w2 o _ (show w.heap.size < w2.heap.size by omega))).trans k1
          have ka2 : ∀ o, (w2.alloc o).cell? ⟨w.heap.size, 2, none⟩ = _ := fun o => (World.cell?_of_block (a := ⟨w.heap.size, 2, none⟩) (Below.heap_alloc w2 o _ (show w.heap.size < w2.heap.size by omega))).trans k2
          have kg : ∀ o i, (w2.alloc o).frozen? ⟨w.heap.size, i, none⟩ = false := fun o i => (World.frozen?_of_block (a := ⟨w.heap.size, i, none⟩) (Below.heap_alloc w2 o _ (show w.heap.size < w2.heap.size by omega))).trans (kf i)
          unfold nxtV tokV
          go_wp2
          have h9 := rb_set (i := 2) (v := .slice none 0 0) (rb_set (i := 1) (v := .string ⟨#[]⟩) (rb_set (i := 0) (v := .int .i8 0) (w := w2.alloc (.cells #[.int .i8 0, .string (bytesL []), .int .i64 0, .int .i64 0] 47)) (cur := #[.int .i8 0, .string ⟨#[]⟩, .slice none 0 0]) (rb := w.heap.size) ((Below.heap_alloc _ _ _ (by omega)).trans HC2.out)))
          have r0 := cell_of_row _ _ 0 _ _ _ h9
          have r1 := cell_of_row _ _ 1 _ _ _ h9
          have r2 := cell_of_row _ _ 2 _ _ _ h9
          have HXe := HXX.out
          exact bodyPost_ret (v := .tuple #[.agg #[.int .i8 0, .string ⟨#[]⟩, .slice none 0 0], .int .i64 s.size, .int .i64 21]) (by simp [results, Tryd.results9, go_sem, r0, r1, r2]) rfl
            ⟨.agg #[.int .i8 0, .string ⟨#[]⟩, .slice none 0 0], by rw [HXe]; simp, by rw [HXe]; exact RdOut.empty _ _,
              ((((HBW2.out.alloc (by omega) _).setCell (p := ⟨w.heap.size, 0, none⟩) (Nat.le_refl _) _).setCell (p := ⟨w.heap.size, 1, none⟩) (Nat.le_refl _) _).setCell (p := ⟨w.heap.size, 2, none⟩) (Nat.le_refl _) _)⟩
        · have e2 := eq_false (x := e) (y := at_) (by omega)
          have e3 : decide ((d : Int) > 0) = true := by simp; omega
          go_wp2_with fail
          refine (HN.out _ HGr.out).mono ?_
          rintro e9 w2 ⟨rfl, hb2⟩
          have hC2 : w2.heap[w.heap.size]? = some (.cells #[.int .i8 0, .string ⟨#[]⟩, .slice none 0 0] 26 (0, 0)) := (hb2.block _ (by omega)).trans HCr.out
          have hz2 : w.heap.size + 1 < w2.heap.size := by have := hb2.size; omega
          have hne2 : ¬ w.heap.size = w2.heap.size := by omega
          have hne3 : ¬ w2.heap.size = w.heap.size := by omega
          have HC2 := Lib.hid hC2
          have HBW2 : Hid (Below w.heap.size w w2) := HBw.out.trans (hb2.mono (by omega))
          have k0 := cell_of_row _ _ 0 _ _ _ hC2
          have k1 := cell_of_row _ _ 1 _ _ _ hC2
          have k2 := cell_of_row _ _ 2 _ _ _ hC2
          have kf : ∀ i, w2.frozen? ⟨w.heap.size, i, none⟩ = false := fun i => frozen_of_row w2 _ i _ _ hC2
          simp only [List.getElem?_toArray, List.getElem?_cons_zero, List.getElem?_cons_succ] at k0 k1 k2
          have ka0 : ∀ o, (w2.alloc o).cell? ⟨w.heap.size, 0, none⟩ = _ := fun o => (World.cell?_of_block (a := ⟨w.heap.size, 0, none⟩) (Below.heap_alloc w2 o _ (show w.heap.size < w2.heap.size by omega))).trans k0
          have ka1 : ∀ o, (w2.alloc o).cell? ⟨w.heap.size, 1, none⟩ = _ := fun o => (World.cell?_of_block (a := ⟨w.heap.size, 1, none⟩) (Below.heap_alloc w2 o _ (show w.heap.size < w2.heap.size by omega))).trans k1
          have ka2 : ∀ o, (w2.alloc o).cell? ⟨w.heap.size, 2, none⟩ = _ := fun o => (World.cell?_of_block (a := ⟨w.heap.size, 2, none⟩) (Below.heap_alloc w2 o _ (show w.heap.size < w2.heap.size by omega))).trans k2
          have kg : ∀ o i, (w2.alloc o).frozen? ⟨w.heap.size, i, none⟩ = false := fun o i => (World.frozen?_of_block (a := ⟨w.heap.size, i, none⟩) (Below.heap_alloc w2 o _ (show w.heap.size < w2.heap.size by omega))).trans (kf i)
          unfold nxtV tokV
          go_wp2
          have h9 := rb_set (i := 2) (v := .slice none 0 0) (rb_set (i := 1) (v := .string ⟨#[]⟩) (rb_set (i := 0) (v := .int .i8 0) (w := w2.alloc (.cells #[.int .i8 0, .string (bytesL []), .int .i64 0, .int .i64 0] 47)) (cur := #[.int .i8 0, .string ⟨#[]⟩, .slice none 0 0]) (rb := w.heap.size) ((Below.heap_alloc _ _ _ (by omega)).trans HC2.out)))
          have r0 := cell_of_row _ _ 0 _ _ _ h9
          have r1 := cell_of_row _ _ 1 _ _ _ h9
          have r2 := cell_of_row _ _ 2 _ _ _ h9
          have HXe := HXX.out
          exact bodyPost_ret (v := .tuple #[.agg #[.int .i8 0, .string ⟨#[]⟩, .slice none 0 0], .int .i64 s.size, .int .i64 21]) (by simp [results, Tryd.results9, go_sem, r0, r1, r2]) rfl
            ⟨.agg #[.int .i8 0, .string ⟨#[]⟩, .slice none 0 0], by rw [HXe]; simp, by rw [HXe]; exact RdOut.empty _ _,
              ((((HBW2.out.alloc (by omega) _).setCell (p := ⟨w.heap.size, 0, none⟩) (Nat.le_refl _) _).setCell (p := ⟨w.heap.size, 1, none⟩) (Nat.le_refl _) _).setCell (p := ⟨w.heap.size, 2, none⟩) (Nat.le_refl _) _)⟩
      · have HN : Hid (∀ W : World, Globs W → Calls Tryd.prog 25 #[.string s, .int .i64 e] W fun e w' => e = .returned (nxtV ⟨⟨k, t, n, m⟩, true, 0⟩) ∧ Below W.heap.size W w') := fun W hW => by
          have := Next_any s e W hW (by have := HS.out; omega)
          rw [hnx] at this
          exact this
        clear hnx
        have HSZ := Lib.hid hm1
        rcases hnx2 with hnx2 | hnx2
        · obtain ⟨hnone, rfl, rfl, hXX⟩ := hnx2
          have HT : Hid (∀ W : World, Kinds W → RM W (w.heap.size + 1) (w.heap.size + 1) (.run []) → Calls Tryd.prog 26 #[.pointer (some ⟨w.heap.size + 1, 0, none⟩), .agg #[.int .i8 1, .string (bytesL t), .int .i64 n, .int .i64 m]] W fun e w' => e = .returned (.bool false) ∧ Below W.heap.size W w') := fun W h1 h2 => take_none _ _ _ _ _ W h1 h2
          have HXX := Lib.hid hXX
          clear hXX hnone hm1
          rcases hd with rfl | ⟨hd1, hd2⟩
          · skip
            go_wp2_with fail
            refine (HN.out _ HGr.out).mono ?_
            rintro e9 w2 ⟨rfl, hb2⟩
            have hC2 : w2.heap[w.heap.size]? = some (.cells #[.int .i8 0, .string ⟨#[]⟩, .slice none 0 0] 26 (0, 0)) := (hb2.block _ (by omega)).trans HCr.out
            have hz2 : w.heap.size + 1 < w2.heap.size := by have := hb2.size; omega
            have hne2 : ¬ w.heap.size = w2.heap.size := by omega
            have hne3 : ¬ w2.heap.size = w.heap.size := by omega
            have HC2 := Lib.hid hC2
            have HBW2 : Hid (Below w.heap.size w w2) := HBw.out.trans (hb2.mono (by omega))
            have k0 := cell_of_row _ _ 0 _ _ _ hC2
            have k1 := cell_of_row _ _ 1 _ _ _ hC2
            have k2 := cell_of_row _ _ 2 _ _ _ hC2
            have kf : ∀ i, w2.frozen? ⟨w.heap.size, i, none⟩ = false := fun i => frozen_of_row w2 _ i _ _ hC2
            simp only [List.getElem?_toArray, List.getElem?_cons_zero, List.getElem?_cons_succ] at k0 k1 k2
            unfold nxtV tokV
            have HK2 := Lib.hid (HKr.out.below (hb2.mono (by omega : w.heap.size ≤ wr.heap.size)) HK.out.lt)
            have HM2 := Lib.hid (HM.out.keep hb2)
            have Hb2 := Lib.hid hb2
            go_wp2_with fail
            have hb3 : Below w2.heap.size w2 (w2.alloc (.cells #[.int .i8 1, .string (bytesL t), .int .i64 n, .int .i64 m] 47)) := (Below.refl _ _).alloc (Nat.le_refl _) _
            refine (HT.out _ (HK2.out.below (hb3.mono (by omega : w.heap.size ≤ w2.heap.size)) HK.out.lt) (HM2.out.keep hb3)).mono ?_
            rintro e8 w3 ⟨rfl, hb4⟩
            have hC3 : w3.heap[w.heap.size]? = some (.cells #[.int .i8 0, .string ⟨#[]⟩, .slice none 0 0] 26 (0, 0)) := (hb4.block _ (by simp; omega)).trans ((hb3.block _ (by omega)).trans HC2.out)
            have hT3 : w3.heap[w2.heap.size]? = some (.cells #[.int .i8 1, .string (bytesL t), .int .i64 n, .int .i64 m] 47 (0, 0)) := (hb4.block _ (by simp)).trans (heap_alloc_new w2 _)
            have HC3 := Lib.hid hC3
            have HBW3 : Hid (Below w.heap.size w w3) := (HBW2.out.trans (hb3.mono (by omega))).trans (hb4.mono (by simp; omega))
            have j0 := cell_of_row _ _ 0 _ _ _ hC3
            have j1 := cell_of_row _ _ 1 _ _ _ hC3
            have j2 := cell_of_row _ _ 2 _ _ _ hC3
            have j3 := cell_of_row _ _ 2 _ _ _ hT3
            have jf : ∀ i, w3.frozen? ⟨w.heap.size, i, none⟩ = false := fun i => frozen_of_row w3 _ i _ _ hC3
            simp only [List.getElem?_toArray, List.getElem?_cons_zero, List.getElem?_cons_succ] at j0 j1 j2 j3
            clear hb3 hb4 hC3 hT3
            go_wp2
            go_region
            all_goals go_wp2
            all_goals
              have h9 := rb_set (i := 2) (v := .slice none 0 0) (rb_set (i := 1) (v := .string ⟨#[]⟩) (rb_set (i := 0) (v := .int .i8 0) (w := w3) (cur := #[.int .i8 0, .string ⟨#[]⟩, .slice none 0 0]) (rb := w.heap.size) HC3.out))
              have r0 := cell_of_row _ _ 0 _ _ _ h9
              have r1 := cell_of_row _ _ 1 _ _ _ h9
              have r2 := cell_of_row _ _ 2 _ _ _ h9
              have HXe := HXX.out
              exact bodyPost_ret (v := .tuple #[.agg #[.int .i8 0, .string ⟨#[]⟩, .slice none 0 0], .int .i64 n, .int .i64 20]) (by simp [results, Tryd.results9, go_sem, r0, r1, r2]) rfl
                ⟨.agg #[.int .i8 0, .string ⟨#[]⟩, .slice none 0 0], by rw [HXe]; simp, by rw [HXe]; exact RdOut.empty _ _,
                  (((HBW3.out.setCell (p := ⟨w.heap.size, 0, none⟩) (Nat.le_refl _) _).setCell (p := ⟨w.heap.size, 1, none⟩) (Nat.le_refl _) _).setCell (p := ⟨w.heap.size, 2, none⟩) (Nat.le_refl _) _).drew⟩
          · have e2 := eq_false (x := e) (y := at_) (by omega)
            have e3 : decide ((d : Int) > 0) = true := by simp; omega
            go_wp2_with fail
            refine (HN.out _ HGr.out).mono ?_
            rintro e9 w2 ⟨rfl, hb2⟩
            have hC2 : w2.heap[w.heap.size]? = some (.cells #[.int .i8 0, .string ⟨#[]⟩, .slice none 0 0] 26 (0, 0)) := (hb2.block _ (by omega)).trans HCr.out
            have hz2 : w.heap.size + 1 < w2.heap.size := by have := hb2.size; omega
            have hne2 : ¬ w.heap.size = w2.heap.size := by omega
            have hne3 : ¬ w2.heap.size = w.heap.size := by omega
            have HC2 := Lib.hid hC2
            have HBW2 : Hid (Below w.heap.size w w2) := HBw.out.trans (hb2.mono (by omega))
            have k0 := cell_of_row _ _ 0 _ _ _ hC2
            have k1 := cell_of_row _ _ 1 _ _ _ hC2
            have k2 := cell_of_row _ _ 2 _ _ _ hC2
            have kf : ∀ i, w2.frozen? ⟨w.heap.size, i, none⟩ = false := fun i => frozen_of_row w2 _ i _ _ hC2
            simp only [List.getElem?_toArray, List.getElem?_cons_zero, List.getElem?_cons_succ] at k0 k1 k2
            unfold nxtV tokV
            have HK2 := Lib.hid (HKr.out.below (hb2.mono (by omega : w.heap.size ≤ wr.heap.size)) HK.out.lt)
            have HM2 := Lib.hid (HM.out.keep hb2)
            have Hb2 := Lib.hid hb2
            go_wp2_with fail
            have hb3 : Below w2.heap.size w2 (w2.alloc (.cells #[.int .i8 1, .string (bytesL t), .int .i64 n, .int .i64 m] 47)) := (Below.refl _ _).alloc (Nat.le_refl _) _
            refine (HT.out _ (HK2.out.below (hb3.mono (by omega : w.heap.size ≤ w2.heap.size)) HK.out.lt) (HM2.out.keep hb3)).mono ?_
            rintro e8 w3 ⟨rfl, hb4⟩
            have hC3 : w3.heap[w.heap.size]? = some (.cells #[.int .i8 0, .string ⟨#[]⟩, .slice none 0 0] 26 (0, 0)) := (hb4.block _ (by simp; omega)).trans ((hb3.block _ (by omega)).trans HC2.out)
            have hT3 : w3.heap[w2.heap.size]? = some (.cells #[.int .i8 1, .string (bytesL t), .int .i64 n, .int .i64 m] 47 (0, 0)) := (hb4.block _ (by simp)).trans (heap_alloc_new w2 _)
            have HC3 := Lib.hid hC3
            have HBW3 : Hid (Below w.heap.size w w3) := (HBW2.out.trans (hb3.mono (by omega))).trans (hb4.mono (by simp; omega))
            have j0 := cell_of_row _ _ 0 _ _ _ hC3
            have j1 := cell_of_row _ _ 1 _ _ _ hC3
            have j2 := cell_of_row _ _ 2 _ _ _ hC3
            have j3 := cell_of_row _ _ 2 _ _ _ hT3
            have jf : ∀ i, w3.frozen? ⟨w.heap.size, i, none⟩ = false := fun i => frozen_of_row w3 _ i _ _ hC3
            simp only [List.getElem?_toArray, List.getElem?_cons_zero, List.getElem?_cons_succ] at j0 j1 j2 j3
            clear hb3 hb4 hC3 hT3
            go_wp2
            go_region
            all_goals go_wp2
            all_goals
              have h9 := rb_set (i := 2) (v := .slice none 0 0) (rb_set (i := 1) (v := .string ⟨#[]⟩) (rb_set (i := 0) (v := .int .i8 0) (w := w3) (cur := #[.int .i8 0, .string ⟨#[]⟩, .slice none 0 0]) (rb := w.heap.size) HC3.out))
              have r0 := cell_of_row _ _ 0 _ _ _ h9
              have r1 := cell_of_row _ _ 1 _ _ _ h9
              have r2 := cell_of_row _ _ 2 _ _ _ h9
              have HXe := HXX.out
              exact bodyPost_ret (v := .tuple #[.agg #[.int .i8 0, .string ⟨#[]⟩, .slice none 0 0], .int .i64 n, .int .i64 20]) (by simp [results, Tryd.results9, go_sem, r0, r1, r2]) rfl
                ⟨.agg #[.int .i8 0, .string ⟨#[]⟩, .slice none 0 0], by rw [HXe]; simp, by rw [HXe]; exact RdOut.empty _ _,
                  (((HBW3.out.setCell (p := ⟨w.heap.size, 0, none⟩) (Nat.le_refl _) _).setCell (p := ⟨w.heap.size, 1, none⟩) (Nat.le_refl _) _).setCell (p := ⟨w.heap.size, 2, none⟩) (Nat.le_refl _) _).drew⟩
        · obtain ⟨r', f', hsome, hI2⟩ := hnx2
          have HI2 := Lib.hid hI2
          have HT : Hid (∀ W : World, Kinds W → Below wr.heap.size wr W → w.heap.size + 1 ≤ W.heap.size → Calls Tryd.prog 26 #[.pointer (some ⟨w.heap.size + 1, 0, none⟩), .agg #[.int .i8 k, .string (bytesL t), .int .i64 n, .int .i64 m]] W fun e w' => e = .returned (.bool true) ∧ RM w' (w.heap.size + 1) (w.heap.size + 1) r' ∧ Below (w.heap.size + 1) W w' ∧ ∀ b, wr.heap.size ≤ b → b < W.heap.size → w'.heap[b]? = W.heap[b]?) := fun W h1 h2 h3 => take_run _ _ (clampN e s.data.toList.length) k t n m r r' wr W h1 HM.out h2 h3 HOK.out (by have := HS.out; rw [HL.out]; have := clampN_le e s.size; omega) hk4 (by simp only [maxLen]; omega) hsome
          clear hsome hI2 hm1
          rcases hd with rfl | ⟨hd1, hd2⟩
          · skip
            go_wp2_with fail
            refine (HN.out _ HGr.out).mono ?_
            rintro e9 w2 ⟨rfl, hb2⟩
            have hC2 : w2.heap[w.heap.size]? = some (.cells #[.int .i8 0, .string ⟨#[]⟩, .slice none 0 0] 26 (0, 0)) := (hb2.block _ (by omega)).trans HCr.out
            have hz2 : w.heap.size + 1 < w2.heap.size := by have := hb2.size; omega
            have hne2 : ¬ w.heap.size = w2.heap.size := by omega
            have hne3 : ¬ w2.heap.size = w.heap.size := by omega
            have HC2 := Lib.hid hC2
            have HBW2 : Hid (Below w.heap.size w w2) := HBw.out.trans (hb2.mono (by omega))
            have k0 := cell_of_row _ _ 0 _ _ _ hC2
            have k1 := cell_of_row _ _ 1 _ _ _ hC2
            have k2 := cell_of_row _ _ 2 _ _ _ hC2
            have kf : ∀ i, w2.frozen? ⟨w.heap.size, i, none⟩ = false := fun i => frozen_of_row w2 _ i _ _ hC2
            simp only [List.getElem?_toArray, List.getElem?_cons_zero, List.getElem?_cons_succ] at k0 k1 k2
            unfold nxtV tokV
            have HK2 := Lib.hid (HKr.out.below (hb2.mono (by omega : w.heap.size ≤ wr.heap.size)) HK.out.lt)
            have Hb2 := Lib.hid hb2
            go_wp2_with fail
            have hb3 : Below w2.heap.size w2 (w2.alloc (.cells #[.int .i8 k, .string (bytesL t), .int .i64 n, .int .i64 m] 47)) := (Below.refl _ _).alloc (Nat.le_refl _) _
            refine (HT.out _ (HK2.out.below (hb3.mono (by omega : w.heap.size ≤ w2.heap.size)) HK.out.lt) (Hb2.out.trans (hb3.mono Hb2.out.size)) (by simp; omega)).mono ?_
            rintro e8 w3 ⟨rfl, hm3, hb4, hg4⟩
            have hT3 : w3.heap[w2.heap.size]? = some (.cells #[.int .i8 k, .string (bytesL t), .int .i64 n, .int .i64 m] 47 (0, 0)) := (hg4 _ Hb2.out.size (by simp)).trans (heap_alloc_new w2 _)
            have j3 := cell_of_row _ _ 3 _ _ _ hT3
            simp only [List.getElem?_toArray, List.getElem?_cons_zero, List.getElem?_cons_succ] at j3
            have hz3 : w.heap.size + 1 < w3.heap.size := by have := hb4.size; simp at this; omega
            have HB3 : Hid (Below (w.heap.size + 1) W1 w3) := ((HB.out.trans (Hb2.out.mono (by omega))).trans (hb3.mono (by omega))).trans hb4
            have HM3 := Lib.hid hm3
            clear hb3 hb4 hT3 hg4 hm3
            go_wp2
            go_roundw
            case rel => exact ⟨r', m, f', rfl, by omega, by have := HS.out; omega, HI2, HM3, HB3, hz3⟩
            case measure =>
              simp only [intOf]
              rw [clampN_nat hm2]
              have := HSZ.out
              omega
          · have e2 := eq_false (x := e) (y := at_) (by omega)
            have e3 : decide ((d : Int) > 0) = true := by simp; omega
            go_wp2_with fail
            refine (HN.out _ HGr.out).mono ?_
            rintro e9 w2 ⟨rfl, hb2⟩
            have hC2 : w2.heap[w.heap.size]? = some (.cells #[.int .i8 0, .string ⟨#[]⟩, .slice none 0 0] 26 (0, 0)) := (hb2.block _ (by omega)).trans HCr.out
            have hz2 : w.heap.size + 1 < w2.heap.size := by have := hb2.size; omega
            have hne2 : ¬ w.heap.size = w2.heap.size := by omega
            have hne3 : ¬ w2.heap.size = w.heap.size := by omega
            have HC2 := Lib.hid hC2
            have HBW2 : Hid (Below w.heap.size w w2) := HBw.out.trans (hb2.mono (by omega))
            have k0 := cell_of_row _ _ 0 _ _ _ hC2
            have k1 := cell_of_row _ _ 1 _ _ _ hC2
            have k2 := cell_of_row _ _ 2 _ _ _ hC2
            have kf : ∀ i, w2.frozen? ⟨w.heap.size, i, none⟩ = false := fun i => frozen_of_row w2 _ i _ _ hC2
            simp only [List.getElem?_toArray, List.getElem?_cons_zero, List.getElem?_cons_succ] at k0 k1 k2
            unfold nxtV tokV
            have HK2 := Lib.hid (HKr.out.below (hb2.mono (by omega : w.heap.size ≤ wr.heap.size)) HK.out.lt)
            have Hb2 := Lib.hid hb2
            go_wp2_with fail
            have hb3 : Below w2.heap.size w2 (w2.alloc (.cells #[.int .i8 k, .string (bytesL t), .int .i64 n, .int .i64 m] 47)) := (Below.refl _ _).alloc (Nat.le_refl _) _
            refine (HT.out _ (HK2.out.below (hb3.mono (by omega : w.heap.size ≤ w2.heap.size)) HK.out.lt) (Hb2.out.trans (hb3.mono Hb2.out.size)) (by simp; omega)).mono ?_
            rintro e8 w3 ⟨rfl, hm3, hb4, hg4⟩
            have hT3 : w3.heap[w2.heap.size]? = some (.cells #[.int .i8 k, .string (bytesL t), .int .i64 n, .int .i64 m] 47 (0, 0)) := (hg4 _ Hb2.out.size (by simp)).trans (heap_alloc_new w2 _)
            have j3 := cell_of_row _ _ 3 _ _ _ hT3
            simp only [List.getElem?_toArray, List.getElem?_cons_zero, List.getElem?_cons_succ] at j3
            have hz3 : w.heap.size + 1 < w3.heap.size := by have := hb4.size; simp at this; omega
            have HB3 : Hid (Below (w.heap.size + 1) W1 w3) := ((HB.out.trans (Hb2.out.mono (by omega))).trans (hb3.mono (by omega))).trans hb4
            have HM3 := Lib.hid hm3
            clear hb3 hb4 hT3 hg4 hm3
            go_wp2
            go_roundw
            case rel => exact ⟨r', m, f', rfl, by omega, by have := HS.out; omega, HI2, HM3, HB3, hz3⟩
            case measure =>
              simp only [intOf]
              rw [clampN_nat hm2]
              have := HSZ.out
              omega
end Go.Proofs.YthbgigjjmojgfaaDoor
