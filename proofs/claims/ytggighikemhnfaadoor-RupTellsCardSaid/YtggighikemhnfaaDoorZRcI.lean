/- The document's Core. -/
import Derived.Test.YtggighikemhnfaaDoorZRcH
namespace Go.Proofs.YtggighikemhnfaaDoor.Tm
open Go.RowKit
set_option linter.unusedVariables false
theorem info_boo : (Tryd.prog.info? 4).map (fun i => (i.zero, i.size, i.bytes)) = some (some (.bool false), 1, 1) := by kernel_rfl
theorem made_boo (k : Nat) : madeCells (Value.bool false).cells (k * 1) = Array.replicate k (Value.bool false) := by
  apply Array.ext
  · simp [size_madeCells]
  · intro i h1 h2
    simp [madeCells, Value.cells, Nat.mod_one]
theorem make_boo (k : Nat) (hk : k ≤ 1000000) (w : World) : (Instr.makeSlice 40 (.int .i64 k) (.int .i64 k)).run Tryd.prog w = .ok (.slice (some ⟨w.heap.size, 0, none⟩) k k) (w.alloc (.cells (Array.replicate k (Value.bool false)) 4)) := by
  obtain ⟨i0, hi, hz0, hz1, hz2⟩ := info_parts info_boo
  have := run_make (P := Tryd.prog) w 40 4 i0 _ Tryd.underlying40 hi hz0 .i64 .i64 k k (by omega) (by omega) (by rw [hz2]; omega) (by omega)
  rw [hz1] at this
  rw [Int.toNat_natCast, made_boo] at this
  exact this
theorem boos_set {w : World} {b : Nat} {vs : List Bool} {ty : TypeId} (h : w.heap[b]? = some (.cells ⟨vs.map Value.bool⟩ ty (0, 0))) (i : Nat) (x : Bool) : (w.setCell ⟨b, i, none⟩ (.bool x)).heap[b]? = some (.cells ⟨(vs.set i x).map Value.bool⟩ ty (0, 0)) := by
  simp [World.setCell, Array.getElem?_modify, h, List.map_set]
theorem boos_cell {w : World} {b : Nat} {vs : List Bool} {ty : TypeId} (h : w.heap[b]? = some (.cells ⟨vs.map Value.bool⟩ ty (0, 0))) {i : Nat} {x : Bool} (hx : vs[i]? = some x) : w.cell? ⟨b, i, none⟩ = some (.bool x) := by
  rw [cell_of_row w b i _ _ _ h, ← Array.getElem?_toList]
  simp [hx]
def tfL (n k : Nat) : List Bool := List.replicate k true ++ List.replicate (n - k) false
theorem tfL_len {n k : Nat} (h : k ≤ n) : (tfL n k).length = n := by simp [tfL]; omega
theorem tfL_step {n k : Nat} (h : k < n) : (tfL n k).set k true = tfL n (k + 1) := by
  unfold tfL
  rw [List.set_append_right _ _ (by simp)]
  rw [List.length_replicate, Nat.sub_self, show n - k = (n - (k + 1)) + 1 by omega, List.replicate_succ, List.set_cons_zero, List.replicate_succ']
  simp
theorem tfL_all (n : Nat) : tfL n n = List.replicate n true := by simp [tfL]
/-- What is left, as bools: all ahead of m, and K. -/
def BsP (bs : List Bool) (n m : Nat) (K : List Nat) : Prop := bs.length = n ∧ ∀ i, i < n → (bs[i]? = some true ↔ i < m ∨ i ∈ K)
theorem BsP.off {bs : List Bool} {n m : Nat} {K : List Nat} (h : BsP bs n (m + 1) K) (hm : m < n) (hK : m ∉ K) : BsP (bs.set m false) n m K := by
  refine ⟨by rw [List.length_set]; exact h.1, fun i hi => ?_⟩
  by_cases e : i = m
  · subst e
    rw [List.getElem?_set_self (by rw [h.1]; exact hi)]
    constructor
    · intro h2; cases h2
    · rintro (h2 | h2)
      · omega
      · exact absurd h2 hK
  · rw [List.getElem?_set_ne (fun h => e h.symm), h.2 i hi]
    constructor
    · rintro (h2 | h2)
      · exact .inl (by omega)
      · exact .inr h2
    · rintro (h2 | h2)
      · exact .inl (by omega)
      · exact .inr h2
theorem BsP.put {bs : List Bool} {n m : Nat} {K : List Nat} (h : BsP bs n m K) (hm : m < n) (hK : m ∉ K) (q : Bool) : BsP (bs.set m q) n m (if q = true then m :: K else K) := by
  refine ⟨by rw [List.length_set]; exact h.1, fun i hi => ?_⟩
  by_cases e : i = m
  · subst e
    rw [List.getElem?_set_self (by rw [h.1]; exact hi)]
    cases q with
    | true => simp
    | false => simp [hK]
  · rw [List.getElem?_set_ne (fun h => e h.symm), h.2 i hi]
    cases q with
    | true => simp [e]
    | false => simp
def seF (rs : List RowD) (bs : List Bool) (k : Nat) : List RowD := (List.range k).filterMap (fun i => if bs[i]? = some true then rs[i]? else none)
theorem seF_step {rs : List RowD} {bs : List Bool} {k : Nat} {y : RowD} {v : Bool} (hb : bs[k]? = some v) (hy : rs[k]? = some y) : seF rs bs (k + 1) = if v = true then seF rs bs k ++ [y] else seF rs bs k := by
  unfold seF
  rw [List.range_succ, List.filterMap_append]
  cases v with
  | true => simp [hb, hy]
  | false => simp [hb]
theorem seF_mem {rs : List RowD} {bs : List Bool} {k : Nat} {y : RowD} : y ∈ seF rs bs k ↔ ∃ i, i < k ∧ bs[i]? = some true ∧ rs[i]? = some y := by
  unfold seF
  rw [List.mem_filterMap]
  constructor
  · rintro ⟨i, h1, h2⟩
    rw [List.mem_range] at h1
    split at h2
    · rename_i h3
      exact ⟨i, h1, h3, h2⟩
    · cases h2
  · rintro ⟨i, h1, h2, h3⟩
    exact ⟨i, List.mem_range.2 h1, by rw [if_pos h2]; exact h3⟩
theorem seF_len (rs : List RowD) (bs : List Bool) (k : Nat) : (seF rs bs k).length ≤ k := by
  have := List.length_filterMap_le (fun i => if bs[i]? = some true then rs[i]? else none) (List.range k)
  rw [List.length_range] at this
  exact this
theorem sel_mem {cls : List (List Int)} {K : List Nat} {d : List Int} : d ∈ sel cls K ↔ ∃ i ∈ K, cls[i]? = some d := by
  unfold sel
  rw [List.mem_filterMap]
theorem seF_fol {rs : List RowD} {cls : List (List Int)} {bs : List Bool} {m : Nat} {K : List Nat} {c : List Int} (hcl : rs.map (·.xs) = cls) (h : BsP bs rs.length m K) (hm : m ≤ rs.length) (hK : ∀ x ∈ K, x < rs.length) : Fol ((seF rs bs rs.length).map (·.xs)) c ↔ Fol (cls.take m ++ sel cls K) c := by
  have hg : ∀ (i : Nat) (d : List Int), cls[i]? = some d ↔ ∃ y : RowD, rs[i]? = some y ∧ y.xs = d := fun i d => by
    rw [← hcl, List.getElem?_map]
    generalize rs[i]? = u
    cases u with
    | none => exact ⟨fun h => (by cases h), fun h => h.elim (fun y h => (by cases h.1))⟩
    | some z => exact ⟨fun h => ⟨z, rfl, Option.some.inj h⟩, fun h => h.elim (fun y h => by have e := Option.some.inj h.1; subst e; exact congrArg some h.2)⟩
  constructor
  · refine fun hF => hF.mono (fun d hd => ?_)
    obtain ⟨y, hy, rfl⟩ := List.mem_map.1 hd
    obtain ⟨i, h1, h2, h3⟩ := seF_mem.1 hy
    rcases (h.2 i h1).1 h2 with h4 | h4
    · refine List.mem_append_left _ (List.mem_of_getElem? (i := i) ?_)
      rw [List.getElem?_take_of_lt h4]
      exact (hg i _).2 ⟨y, h3, rfl⟩
    · exact List.mem_append_right _ (sel_mem.2 ⟨i, h4, (hg i _).2 ⟨y, h3, rfl⟩⟩)
  · refine fun hF => hF.mono (fun d hd => ?_)
    rcases List.mem_append.1 hd with hd | hd
    · obtain ⟨i, hi⟩ := List.getElem?_of_mem hd
      have him : i < m := by
        have := (List.getElem?_eq_some_iff.1 hi).1
        rw [List.length_take] at this
        omega
      rw [List.getElem?_take_of_lt him] at hi
      obtain ⟨y, h1, rfl⟩ := (hg i d).1 hi
      exact List.mem_map.2 ⟨y, seF_mem.2 ⟨i, by omega, (h.2 i (by omega)).2 (.inl him), h1⟩, rfl⟩
    · obtain ⟨i, hi, h2⟩ := sel_mem.1 hd
      obtain ⟨y, h1, rfl⟩ := (hg i d).1 h2
      exact List.mem_map.2 ⟨y, seF_mem.2 ⟨i, hK i hi, (h.2 i (hK i hi)).2 (.inr hi), h1⟩, rfl⟩
theorem sorted_ext : ∀ (A B : List Nat), A.Pairwise (· < ·) → B.Pairwise (· < ·) → (∀ x, x ∈ A ↔ x ∈ B) → A = B
  | [], [], _, _, _ => rfl
  | [], b :: B, _, _, h => by have := (h b).2 (by simp); cases this
  | a :: A, [], _, _, h => by have := (h a).1 (by simp); cases this
  | a :: A, b :: B, hA, hB, h => by
    obtain ⟨a1, a2⟩ := List.pairwise_cons.1 hA
    obtain ⟨b1, b2⟩ := List.pairwise_cons.1 hB
    have e : a = b := by
      rcases List.mem_cons.1 ((h a).1 (by simp)) with e | e
      · exact e
      · rcases List.mem_cons.1 ((h b).2 (by simp)) with e2 | e2
        · exact e2.symm
        · have := a1 b e2
          have := b1 a e
          omega
    subst e
    rw [sorted_ext A B a2 b2 (fun x => ?_)]
    constructor
    · intro hx
      rcases List.mem_cons.1 ((h x).1 (List.mem_cons_of_mem _ hx)) with e | e
      · have := a1 x hx; omega
      · exact e
    · intro hx
      rcases List.mem_cons.1 ((h x).2 (List.mem_cons_of_mem _ hx)) with e | e
      · have := b1 x hx; omega
      · exact e
def ouF (bs : List Bool) (k : Nat) : List Nat := (List.range k).filter (fun i => bs[i]? = some true)
theorem ouF_step {bs : List Bool} {k : Nat} {v : Bool} (hb : bs[k]? = some v) : ouF bs (k + 1) = if v = true then ouF bs k ++ [k] else ouF bs k := by
  unfold ouF
  rw [List.range_succ, List.filter_append]
  cases v with
  | true => simp [hb]
  | false => simp [hb]
theorem ouF_len (bs : List Bool) (k : Nat) : (ouF bs k).length ≤ k := by
  have := List.length_filter_le (fun i => decide (bs[i]? = some true)) (List.range k)
  rw [List.length_range] at this
  exact this
theorem ouF_eq {bs : List Bool} {n : Nat} {K : List Nat} (h : BsP bs n 0 K) (hp : K.Pairwise (· < ·)) (hK : ∀ x ∈ K, x < n) : ouF bs n = K := by
  refine sorted_ext _ _ (List.Pairwise.filter _ List.pairwise_lt_range) hp (fun x => ?_)
  unfold ouF
  rw [List.mem_filter, List.mem_range]
  constructor
  · rintro ⟨h1, h2⟩
    rcases (h.2 x h1).1 (by simpa using h2) with h3 | h3
    · omega
    · exact h3
  · intro hx
    exact ⟨hK x hx, by simpa using (h.2 x (hK x hx)).2 (.inr hx)⟩
/-- What the rounds keep. -/
structure CoK (cls : List (List Int)) (c : List Int) (bs : List Bool) (m : Nat) (K : List Nat) : Prop where
  bits : BsP bs cls.length m K
  le : m ≤ cls.length
  pw : K.Pairwise (· < ·)
  mem : ∀ x ∈ K, m ≤ x ∧ x < cls.length
  eq : coreF cls c cls.length [] = coreF cls c m K
theorem CoK.next {cls : List (List Int)} {c : List Int} {bs : List Bool} {m : Nat} {K : List Nat} (h : CoK cls c bs (m + 1) K) (q : Bool) (hq : q = true ↔ Fol (cls.take m ++ sel cls K) c) : ∃ K', CoK cls c ((bs.set m false).set m (!q)) m K' := by
  have hm : m < cls.length := h.le
  have hnK : m ∉ K := fun hx => by have := (h.mem m hx).1; omega
  have hb := (h.bits.off hm hnK).put hm hnK (!q)
  cases q with
  | true => exact ⟨K, hb, by omega, h.pw, fun x hx => ⟨by have := (h.mem x hx).1; omega, (h.mem x hx).2⟩, h.eq.trans (core_skip (m + 1) (by omega) (hq.1 rfl))⟩
  | false =>
    refine ⟨m :: K, hb, by omega, List.pairwise_cons.2 ⟨fun x hx => (h.mem x hx).1, h.pw⟩, fun x hx => ?_, h.eq.trans (core_keep (fun hF => by have := hq.2 hF; cases this))⟩
    rcases List.mem_cons.1 hx with rfl | hx
    · exact ⟨Nat.le_refl _, hm⟩
    · exact ⟨by have := (h.mem x hx).1; omega, (h.mem x hx).2⟩
set_option maxRecDepth 100000 in
set_option maxHeartbeats 4000000 in
theorem RCore_any (rs : List RowD) (a : Option Addr) (c : Nat) (xs : List Int) (b : Option Addr) (d : Nat) (cls : List (List Int)) (w : World) (hcl : rs.map (·.xs) = cls) (hR : RowsR w rs a c) (hA : IntsR w xs b d) (hl : rs.length ≤ 400) (hx : ∀ y ∈ rs, y.xs.length ≤ 100) (hxl : xs.length ≤ 1000) :
    Calls Tryd.prog 32 #[.slice a rs.length c, .slice b xs.length d] w fun e w' => ∃ (P : List Nat) (a' : Option Addr) (c' : Nat), e = .returned (.slice a' P.length c') ∧ Hid (CoreP cls xs P ∧ IntsR w' (P.map (fun i : Nat => (i : Int))) a' c' ∧ Below w.heap.size w w') := by
  obtain ⟨i0, hi0, hiz0, hiz1, hiz2⟩ := info_parts info_int
  have hmk := fun W => make_boo rs.length (by omega) W
  have HLt : Hid (cls.length = rs.length) := by show cls.length = _; rw [← hcl, List.length_map]
  have HCl := Lib.hid hcl
  have HFo : Hid (∀ V M am cm, Below w.heap.size w V → RowsR V M am cm → M.length ≤ 400 → (∀ y ∈ M, y ∈ rs) → Calls Tryd.prog 25 #[.slice am M.length cm, .slice b xs.length d] V fun e w' => (∃ q : Bool, e = .returned (.bool q) ∧ (q = true ↔ Fol (M.map (·.xs)) xs)) ∧ Hid (Below V.heap.size V w')) := fun V M am cm hV hM hl2 hs => RFollows_any M am cm xs b d _ V rfl hM (hA.below hV) (by omega) (fun y hy => by have := hx y (hs y hy); omega) hxl
  have HR : Hid (∀ V, Below w.heap.size w V → RowsR V rs a c) := fun V hV => hR.below hV
  have l1 : rs.length ≤ c := hR.le
  have l2 : c ≤ 9223372036854775807 := by have := hR.cap; simp only [maxLen] at this; omega
  have HF0 := Lib.hid (HFo.out w rs a c (Below.refl _ _) hR hl (fun y hy => hy))
  clear hcl hR hA hx hxl
  go_enter Tryd.func32, Tryd.ntmps32
  go_wp2_with fail
  with_reducible refine HF0.out.mono ?_
  rintro e w1 ⟨⟨q, rfl, hq⟩, HB1⟩
  rw [HCl.out] at hq
  have HQ := Lib.hid hq
  clear hq HF0
  cases q with
  | false =>
    go_wp2_with fail
    go_ret
    exact ⟨[], none, 0, rfl, ⟨.inl ⟨fun h => (by have := HQ.out.2 h; cases this), rfl⟩, ints_nil _, HB1.out⟩⟩
  | true =>
    have HF : Hid (Fol cls xs) := HQ.out.1 rfl
    have HT0 : Hid ((w1.alloc (.cells (Array.replicate rs.length (Value.bool false)) 4)).heap[w1.heap.size]? = some (.cells ⟨(tfL rs.length 0).map Value.bool⟩ 4 (0, 0)) ∧ Below w.heap.size w (w1.alloc (.cells (Array.replicate rs.length (Value.bool false)) 4))) := ⟨by
      have : tfL rs.length 0 = List.replicate rs.length false := by simp [tfL]
      rw [this, List.map_replicate]
      exact (heap_alloc_new w1 _).trans (by simp [← List.toArray_replicate]), HB1.out.alloc HB1.out.size _⟩
    have HZ1 : Hid (w.heap.size ≤ w1.heap.size) := HB1.out.size
    go_wp2_with fail
    go_loopw [6] (fun iv wr => ∃ k : Nat, k ≤ rs.length ∧ iv = .int .i64 k ∧ Hid (wr.heap[w1.heap.size]? = some (.cells ⟨(tfL rs.length k).map Value.bool⟩ 4 (0, 0)) ∧ Below w.heap.size w wr)) (fun iv _ => rs.length - (intOf iv).toNat)
    case atStart => exact ⟨0, Nat.zero_le _, rfl, HT0⟩
    case round =>
      clear HT0
      rename World => wr
      obtain ⟨k, hkl, rfl, HT⟩ := hrel
      by_cases hlt : k < rs.length
      · have hlt2 : (k : Int) < (rs.length : Int) := by omega
        obtain ⟨v0, hv0⟩ : ∃ v0, (tfL rs.length k)[k]? = some v0 := ⟨_, List.getElem?_eq_getElem (by rw [tfL_len hkl]; exact hlt)⟩
        have r0 := boos_cell HT.out.1 hv0
        have f0 := row_frozen HT.out.1 k
        have hbs : w1.heap.size < wr.heap.size := (Array.getElem?_eq_some_iff.1 HT.out.1).1
        have HTn : Hid ((wr.setCell ⟨w1.heap.size, k, none⟩ (.bool true)).heap[w1.heap.size]? = some (.cells ⟨(tfL rs.length (k + 1)).map Value.bool⟩ 4 (0, 0)) ∧ Below w.heap.size w (wr.setCell ⟨w1.heap.size, k, none⟩ (.bool true))) := ⟨by rw [← tfL_step hlt]; exact boos_set HT.out.1 k _, below_set HT.out.2 HZ1.out _⟩
        clear hv0
        go_wp2
        go_roundw
        case rel => exact ⟨k + 1, by omega, by go_num, HTn⟩
        case measure => simp [intOf]; omega
      · obtain rfl : k = rs.length := by omega
        have HK0 : Hid (CoK cls xs (List.replicate rs.length true) rs.length []) := by
          have e := HLt.out
          exact ⟨⟨by rw [List.length_replicate, e], fun i hi => ⟨fun _ => .inl (by omega), fun _ => by rw [List.getElem?_replicate, if_pos (by omega)]⟩⟩, by omega, List.Pairwise.nil, fun x hx => (by cases hx), by rw [e]⟩
        have HS0 : Hid (wr.heap[w1.heap.size]? = some (.cells ⟨(List.replicate rs.length true).map Value.bool⟩ 4 (0, 0)) ∧ Below w.heap.size w wr) := by have h := HT.out; rw [tfL_all] at h; exact h
        have hwi : IntKind.i64.wrap ((rs.length : Int) - 1) = (rs.length : Int) - 1 := i64_keep (by omega) (by omega)
        clear HT
        go_wp2_with fail
        go_loopw [7] (fun iv w2 => ∃ (m : Nat) (i : Int) (bs : List Bool) (K : List Nat), i = (m : Int) - 1 ∧ iv = .int .i64 i ∧ Hid (CoK cls xs bs m K) ∧ Hid (w2.heap[w1.heap.size]? = some (.cells ⟨bs.map Value.bool⟩ 4 (0, 0)) ∧ Below w.heap.size w w2)) (fun iv _ => (intOf iv + 1).toNat)
        case atStart => exact ⟨rs.length, _, _, [], rfl, rfl, HK0, HS0⟩
        case round =>
          clear HK0 HS0 hwi
          rename World => w2
          obtain ⟨m, i, bs, K, hi, rfl, HK, HS⟩ := hrel
          by_cases h0 : 0 < m
          · obtain ⟨m1, hm1⟩ : ∃ m1, m = m1 + 1 := ⟨m - 1, by omega⟩
            subst hm1
            obtain rfl : i = (m1 : Int) := by omega
            have hml : m1 < rs.length := by have := HK.out.le; have := HLt.out; omega
            have hml2 : (m1 : Int) < (rs.length : Int) := by omega
            have hbl : bs.length = rs.length := HK.out.bits.1.trans HLt.out
            obtain ⟨v0, hv0⟩ : ∃ v0, bs[m1]? = some v0 := ⟨_, List.getElem?_eq_getElem (by omega)⟩
            have r0 := boos_cell HS.out.1 hv0
            have f0 := row_frozen HS.out.1 m1
            have hbs : w1.heap.size < w2.heap.size := (Array.getElem?_eq_some_iff.1 HS.out.1).1
            obtain ⟨W3, hW3⟩ : ∃ W3, w2.setCell ⟨w1.heap.size, m1, none⟩ (.bool false) = W3 := ⟨_, rfl⟩
            have HS3 : Hid (W3.heap[w1.heap.size]? = some (.cells ⟨(bs.set m1 false).map Value.bool⟩ 4 (0, 0)) ∧ Below w.heap.size w W3) := by
              rw [← hW3]
              exact ⟨boos_set HS.out.1 m1 _, below_set HS.out.2 HZ1.out _⟩
            have HW3 := Lib.hid hW3
            obtain ⟨bt, hbt⟩ : ∃ bt, bs.set m1 false = bt := ⟨_, rfl⟩
            have hbtl : bt.length = rs.length := by rw [← hbt, List.length_set]; exact hbl
            rw [hbt] at HS3
            have HBt := Lib.hid hbt
            have HM0 : Hid (RowsO W3 W3.heap.size (seF rs bt 0) (.slice none 0 0) ∧ Below W3.heap.size W3 W3) := ⟨⟨rfl, .inl ⟨rfl, rfl⟩⟩, Below.refl _ _⟩
            have HBl := Lib.hid hbtl
            clear hv0 hW3 hbt HS h0 hi hbl hbtl
            go_wp2_with fail
            try rw [HW3.out]
            go_loopw [8, 9] (fun mv kv wr => ∃ (k : Nat) (M : List RowD) (am : Option Addr) (cm : Nat), k ≤ rs.length ∧ kv = .int .i64 k ∧ mv = .slice am M.length cm ∧ Hid (M = seF rs bt k) ∧ Hid (RowsO wr W3.heap.size M (.slice am M.length cm) ∧ Below W3.heap.size W3 wr)) (fun _ kv _ => rs.length - (intOf kv).toNat)
            case atStart => exact ⟨0, [], none, 0, Nat.zero_le _, rfl, rfl, rfl, HM0⟩
            case round =>
              clear HM0
              obtain ⟨k, M, am, cm, hkl, rfl, rfl, HM, HO⟩ := hrel
              have hMk : M.length ≤ 400 := by have := seF_len rs bt k; rw [← HM.out] at this; omega
              by_cases hlt : k < rs.length
              · have hlt2 : (k : Int) < (rs.length : Int) := by omega
                obtain ⟨y, hy⟩ : ∃ y, rs[k]? = some y := ⟨_, List.getElem?_eq_getElem hlt⟩
                obtain ⟨v1, hv1⟩ : ∃ v1, bt[k]? = some v1 := ⟨_, List.getElem?_eq_getElem (by rw [HBl.out]; exact hlt)⟩
                have hbw : Below w.heap.size w wr := ball HS3.out.2 HO.out.2
                have hbk := (HO.out.2.block _ (Array.getElem?_eq_some_iff.1 HS3.out.1).1).trans HS3.out.1
                have r1 := boos_cell hbk hv1
                have z1 : w1.heap.size < wr.heap.size := (Array.getElem?_eq_some_iff.1 hbk).1
                have hRr := HR.out wr hbw
                obtain ⟨g, o, ha, hg, q0⟩ := hRr.cell hy
                have hst := seF_step (rs := rs) hv1 hy
                rw [← HM.out] at hst
                have hLr : RowsR (wr.alloc (.cells #[.slice y.a y.xs.length y.c] 23)) [y] (some ⟨wr.heap.size, 0, none⟩) 1 := lits_row y (hRr.ok y (List.mem_of_getElem? hy))
                have hOa : RowsO (wr.alloc (.cells #[.slice y.a y.xs.length y.c] 23)) W3.heap.size M (.slice am M.length cm) := World.ownsRow.alloc HO.out.1 _
                have hza : W3.heap.size ≤ (wr.alloc (.cells #[.slice y.a y.xs.length y.c] 23)).heap.size := by have := HO.out.2.size; simp; omega
                clear hy hv1 hbw hbk hRr
                subst ha
                cases v1 with
                | true =>
                  have HMn : Hid (M ++ [y] = seF rs bt (k + 1)) := by show _ = _; rw [hst, if_pos rfl]
                  clear hst
                  go_wp2_with (at_builtin; refine wpList_appR rfl _ _ rfl rfl W3.heap.size _ M [y] (some ⟨wr.heap.size, 0, none⟩) 1 (by rfl) (by rfl) hOa hLr hza (by simp; omega) ?_; intro v9 w9 ho9 hg9; have HB9 : Hid (Below W3.heap.size W3 w9) := (HO.out.2.alloc HO.out.2.size (.cells #[.slice y.a y.xs.length y.c] 23)).grown hg9 hza (fun k e => (own_lt hOa e).1); obtain ⟨M9, hM9⟩ : ∃ M9, M ++ [y] = M9 := ⟨_, rfl⟩; rw [hM9] at ho9 HMn; obtain ⟨a9, c9, rfl, _⟩ := own_at ho9; have HO9 : Hid (RowsO w9 W3.heap.size M9 (.slice a9 M9.length c9) ∧ Below W3.heap.size W3 w9) := ⟨ho9, HB9.out⟩; clear ho9 hg9 hOa hLr hza hM9)
                  go_roundw
                  case rel => exact ⟨k + 1, M9, a9, c9, by omega, by go_num, rfl, HMn, HO9⟩
                  case measure => simp [intOf]; omega
                | false =>
                  have HMn : Hid (M = seF rs bt (k + 1)) := by show _ = _; rw [hst, if_neg (by decide)]
                  clear hst hLr hOa hza
                  go_wp2
                  go_roundw
                  case rel => exact ⟨k + 1, M, am, cm, by omega, by go_num, rfl, HMn, HO⟩
                  case measure => simp [intOf]; omega
              · obtain rfl : k = rs.length := by omega
                have HWr : Hid (Below w.heap.size w wr) := ball HS3.out.2 HO.out.2
                have HSub : Hid (∀ y ∈ M, y ∈ rs) := fun y hy => by rw [HM.out] at hy; obtain ⟨i, _, _, h⟩ := seF_mem.1 hy; exact List.mem_of_getElem? h
                have HF1 := Lib.hid (HFo.out wr M am cm HWr.out (RowsO.rows HO.out.1 (fun y hy => (HR.out _ HWr.out).ok y (HSub.out y hy))) hMk HSub.out)
                have HBr : Hid (Below W3.heap.size W3 wr) := HO.out.2
                clear HO
                go_wp2_with fail
                with_reducible refine HF1.out.mono ?_
                rintro e w4 ⟨⟨q, rfl, hq⟩, HB4⟩
                have hnK : m1 ∉ K := fun hx => by have := (HK.out.mem m1 hx).1; omega
                have hq2 : q = true ↔ Fol (cls.take m1 ++ sel cls K) xs := by
                  rw [HM.out] at hq
                  refine hq.trans (seF_fol HCl.out ?_ (by omega) (fun x hx => by have := (HK.out.mem x hx).2; have := HLt.out; omega))
                  rw [← HBt.out, ← HLt.out]
                  exact HK.out.bits.off (by have := HLt.out; omega) hnK
                obtain ⟨K', hK'⟩ := HK.out.next q hq2
                rw [HBt.out] at hK'
                have HKn := Lib.hid hK'
                have HB34 : Hid (Below W3.heap.size W3 w4) := ball HBr.out HB4.out
                have hb4 := (HB34.out.block _ (Array.getElem?_eq_some_iff.1 HS3.out.1).1).trans HS3.out.1
                obtain ⟨v2, hv2⟩ : ∃ v2, bt[m1]? = some v2 := ⟨_, List.getElem?_eq_getElem (by rw [HBl.out]; exact hml)⟩
                have r2 := boos_cell hb4 hv2
                have f2 := row_frozen hb4 m1
                have z2 : w1.heap.size < w4.heap.size := (Array.getElem?_eq_some_iff.1 hb4).1
                have HSn : Hid ((w4.setCell ⟨w1.heap.size, m1, none⟩ (.bool (!q))).heap[w1.heap.size]? = some (.cells ⟨(bt.set m1 (!q)).map Value.bool⟩ 4 (0, 0)) ∧ Below w.heap.size w (w4.setCell ⟨w1.heap.size, m1, none⟩ (.bool (!q)))) := ⟨boos_set hb4 m1 _, below_set (ball HS3.out.2 HB34.out) HZ1.out _⟩
                have hwm : IntKind.i64.wrap ((m1 : Int) - 1) = (m1 : Int) - 1 := i64_keep (by omega) (by omega)
                clear hq hq2 hK' hb4 hv2 HF1
                cases q with
                | true =>
                  go_wp2_with fail
                  go_roundw
                  case rel => exact ⟨m1, _, _, K', rfl, rfl, HKn, HSn⟩
                  case measure => simp [intOf] <;> omega
                | false =>
                  go_wp2_with fail
                  go_roundw
                  case rel => exact ⟨m1, _, _, K', rfl, rfl, HKn, HSn⟩
                  case measure => simp [intOf] <;> omega
          · obtain rfl : m = 0 := by omega
            obtain rfl : i = -1 := by omega
            have HBl : Hid (bs.length = rs.length) := HK.out.bits.1.trans HLt.out
            have HO0 : Hid (RowO w2 w2.heap.size [] (.slice none 0 0) ∧ Below w2.heap.size w2 w2) := ⟨⟨rfl, .inl ⟨rfl, rfl⟩⟩, Below.refl _ _⟩
            have HP0 : Hid (([] : List Nat) = ouF bs 0) := by show _ = _; simp [ouF]
            clear hi h0
            go_wp2_with fail
            go_loopw [10, 11] (fun pv kv wr => ∃ (k : Nat) (P : List Nat) (pa : Option Addr) (pc : Nat), k ≤ rs.length ∧ kv = .int .i64 k ∧ pv = .slice pa P.length pc ∧ Hid (P = ouF bs k) ∧ Hid (RowO wr w2.heap.size (P.map (fun i : Nat => (i : Int))) (.slice pa P.length pc) ∧ Below w2.heap.size w2 wr)) (fun _ kv _ => rs.length - (intOf kv).toNat)
            case atStart => exact ⟨0, [], none, 0, Nat.zero_le _, rfl, rfl, HP0, HO0⟩
            case round =>
              clear HP0 HO0
              obtain ⟨k, P, pa, pc, hkl, rfl, rfl, HP, HO⟩ := hrel
              have hPk : P.length ≤ 400 := by have := ouF_len bs k; rw [← HP.out] at this; omega
              by_cases hlt : k < rs.length
              · have hlt2 : (k : Int) < (rs.length : Int) := by omega
                obtain ⟨v1, hv1⟩ : ∃ v1, bs[k]? = some v1 := ⟨_, List.getElem?_eq_getElem (by rw [HBl.out]; exact hlt)⟩
                have hbk := (HO.out.2.block _ (Array.getElem?_eq_some_iff.1 HS.out.1).1).trans HS.out.1
                have r1 := boos_cell hbk hv1
                have z1 : w1.heap.size < wr.heap.size := (Array.getElem?_eq_some_iff.1 hbk).1
                have hst := ouF_step hv1
                rw [← HP.out] at hst
                have hown : wr.ownsRow w2.heap.size 3 1 (.slice pa P.length pc) P.length ((P.map (fun i : Nat => (i : Int))).map (Value.int .i64)) := by
                  have h := HO.out.1
                  unfold RowO at h
                  rw [List.length_map] at h
                  exact h
                have hzw : w2.heap.size ≤ wr.heap.size := HO.out.2.size
                clear hv1 hbk
                cases v1 with
                | true =>
                  obtain ⟨P', hP'⟩ : ∃ P', P ++ [k] = P' := ⟨_, rfl⟩
                  have HPl : Hid (P'.length = P.length + 1) := by show _ = _; rw [← hP']; simp
                  have HPe := Lib.hid hP'
                  have HPn : Hid (P' = ouF bs (k + 1)) := by show _ = _; rw [hst, if_pos rfl, hP']
                  clear hst hP'
                  go_wp2_with (at_builtin; refine wpList_append_lies _ rfl _ _ 23 rfl w2.heap.size 3 i0 _ 1 8 Tryd.underlying23 hi0 hiz0 hiz1 hiz2 rfl (by decide) (Value.slice pa P.length pc) P.length ((P.map (fun i : Nat => (i : Int))).map (Value.int .i64)) (by rfl) (World.ownsRow.alloc hown _) ⟨wr.heap.size, 0, none⟩ 1 1 [.int .i64 (k : Int)] (by rfl) rfl (World.news_of_block (B := wr.heap.size) (cs := #[.int .i64 (k : Int)]) (t := 3) (fr := (0, 0)) (heap_alloc_new wr _)) (by simp [Value.oneCell']) (by omega) (by simp only [maxLen]; omega) (by omega) (by simp; omega) _ rfl ?_; intro g9 c9 w9 hown9 hgrow9 hat9 hlt9; have HO9 : Hid (RowO w9 w2.heap.size (P'.map (fun i : Nat => (i : Int))) (.slice (some ⟨g9, 0, none⟩) P'.length c9) ∧ Below w2.heap.size w2 w9) := ⟨by rw [HPl.out]; unfold RowO; rw [← HPe.out, List.length_map, List.length_append, List.map_append, List.map_append]; exact hown9, (HO.out.2.alloc HO.out.2.size (.cells #[.int .i64 (k : Int)] 3)).grown hgrow9 (by simp; omega) (fun k e => (own_lt hown e).1)⟩; clear hown9 hgrow9 hat9 hlt9 hown hzw)
                  go_roundw
                  case rel => exact ⟨k + 1, P', some ⟨g9, 0, none⟩, c9, by omega, by go_num, by rw [HPl.out], HPn, HO9⟩
                  case measure => simp [intOf]; omega
                | false =>
                  have HPn : Hid (P = ouF bs (k + 1)) := by show _ = _; rw [hst, if_neg (by decide)]
                  clear hst hown
                  go_wp2
                  go_roundw
                  case rel => exact ⟨k + 1, P, pa, pc, by omega, by go_num, rfl, HPn, HO⟩
                  case measure => simp [intOf]; omega
              · obtain rfl : k = rs.length := by omega
                have HE : Hid (CoreP cls xs P ∧ IntsR wr (P.map (fun i : Nat => (i : Int))) pa pc ∧ Below w.heap.size w wr) := by
                  have e : P = K := by rw [HP.out, ← HLt.out]; exact ouF_eq HK.out.bits HK.out.pw (fun x hx => (HK.out.mem x hx).2)
                  refine ⟨.inr ⟨HF.out, ?_⟩, HO.out.1.at (by simp) (fun x hx => ?_), ball HS.out.2 HO.out.2⟩
                  · rw [e, HK.out.eq]
                    unfold coreF
                    rfl
                  · obtain ⟨i, hi, rfl⟩ := List.mem_map.1 hx
                    have := (HK.out.mem i (e ▸ hi)).2
                    have := HLt.out
                    exact ⟨by omega, by omega⟩
                go_wp2
                go_ret
                exact ⟨P, pa, pc, rfl, HE⟩
end Go.Proofs.YtggighikemhnfaaDoor.Tm
