/- Package term's reached. -/
import Derived.Test.YtdjiebiobdhihaaDoorTmQ
namespace Go.Proofs.YtdjiebiobdhihaaDoor
open Go.RowKit Go.Shelf
set_option linter.unusedVariables false
attribute [local go_sem] Oper.semAt_some
/-- A root is marked, if it is a place. -/
def mark1 (N : Nat) (bs : List Bool) (r : Int) : List Bool := if 0 ≤ r ∧ r < N then bs.set r.toNat true else bs
def markL (N : Nat) (rs : List Int) : List Bool := rs.foldl (mark1 N) (List.replicate N false)
/-- What a node that is reached reaches at once. -/
def stepR (l : List NodeA) (k : Nat) (bs : List Bool) : List Bool :=
  if bs.getD k false = true then (match l[k]? with | some n => (belowL n k).foldl (fun b a => b.set a true) bs | none => bs) else bs
def downL (l : List NodeA) : Nat → List Bool → List Bool
  | 0, bs => bs
  | k + 1, bs => downL l k (stepR l k bs)
def reachB (l : List NodeA) (rs : List Int) : List Bool := downL l l.length (markL l.length rs)
theorem mark1_len (N : Nat) (bs : List Bool) (r : Int) : (mark1 N bs r).length = bs.length := by
  unfold mark1
  split <;> simp
theorem foldl_mark_len (N : Nat) : ∀ (rs : List Int) (bs : List Bool), (rs.foldl (mark1 N) bs).length = bs.length
  | [], bs => rfl
  | r :: q, bs => by rw [List.foldl_cons, foldl_mark_len N q, mark1_len]
theorem markL_len (N : Nat) (rs : List Int) : (markL N rs).length = N := by unfold markL; rw [foldl_mark_len]; simp
theorem set_len : ∀ (xs : List Nat) (bs : List Bool), (xs.foldl (fun b a => b.set a true) bs).length = bs.length
  | [], bs => rfl
  | a :: q, bs => by rw [List.foldl_cons, set_len q]; simp
theorem stepR_len (l : List NodeA) (k : Nat) (bs : List Bool) : (stepR l k bs).length = bs.length := by
  unfold stepR
  split
  · split
    · exact set_len _ _
    · rfl
  · rfl
theorem markL_snoc (N : Nat) {rs : List Int} {j : Nat} {r : Int} (h : rs[j]? = some r) : markL N (rs.take (j + 1)) = mark1 N (markL N (rs.take j)) r := by
  rw [take_snoc h]
  simp [markL, List.foldl_append]
/-- Between two rounds of reached's loops. -/
structure ReS (l : List NodeA) (a : Option Addr) (c : Nat) (w : World) (bs : List Bool) (ds : List Deferred) (W : World) : Prop where
  bel : Below w.heap.size w W
  big : w.heap.size + 3 ≤ W.heap.size
  len : bs.length = l.length
  b0 : W.heap[w.heap.size]? = some (.cells #[.slice a l.length c] 24 (0, 0))
  row : W.heap[w.heap.size + 1]? = some (.cells (boolRow bs) 4 (0, 0))
  b2 : W.heap[w.heap.size + 1 + 1]? = some (.cells #[.slice (some ⟨w.heap.size + 1, 0, none⟩) l.length l.length] 54 (0, 0))
  marks : Marks (w.heap.size + 3) ds W
theorem three_allocs (W : World) (S : Nat) (o2 o3 o4 : Obj) (hS : S < W.heap.size) (w4 : World) (h4 : ((W.alloc o2).alloc o3).alloc o4 = w4) :
    W.grownBy w4 (some S) ∧ w4.heap.size = W.heap.size + 3 ∧ w4.heap[W.heap.size + 1]? = some o3 ∧ w4.heap[W.heap.size + 1 + 1]? = some o4 ∧ w4.heap[S]? = W.heap[S]? := by
  subst h4
  have e3 := heap_alloc_new (W.alloc o2) o3
  have e4 := heap_alloc_new ((W.alloc o2).alloc o3) o4
  simp only [World.size_alloc] at e3 e4
  refine ⟨⟨rfl, rfl, rfl, by simp <;> omega, fun k hk hn => ?_⟩, by simp, ?_, e4, ?_⟩
  · exact (Below.heap_alloc _ _ _ (by simp <;> omega)).trans ((Below.heap_alloc _ _ _ (by simp <;> omega)).trans (Below.heap_alloc _ _ _ hk))
  · exact (Below.heap_alloc _ _ _ (by simp)).trans e3
  · exact (Below.heap_alloc _ _ _ (by simp <;> omega)).trans ((Below.heap_alloc _ _ _ (by simp <;> omega)).trans (Below.heap_alloc _ _ _ hS))
def ReI (S : Nat) (w4 : World) (bs : List Bool) (at_ : Nat) (pre : List (KS at_)) (W : World) : Prop :=
  w4.grownBy W (some S) ∧ W.heap[S]? = some (.cells (boolRow ((pre.map (·.1)).foldl (fun b a => b.set a true) bs)) 4 (0, 0))
theorem ReI_own (S : Nat) (w4 : World) (bs : List Bool) (at_ : Nat) (hS : S < w4.heap.size) : OwnFrom w4.heap.size (ReI S w4 bs at_) := by
  rintro pre A B row ⟨h1, h2⟩ hg hr
  refine ⟨grown_trans h1 hg (fun r e => (hr r e).1), (hg.block S (Array.getElem?_eq_some_iff.1 h2).1 (fun e => by have := (hr S e.symm).1; omega)).trans h2⟩
set_option maxRecDepth 100000 in
set_option maxHeartbeats 4000000 in
theorem reached_in (l : List NodeA) (a : Option Addr) (c : Nat) (rs : List Int) (ra : Option Addr) (rc : Nat) (w : World) (hA : TabR w l a c) (hl : l.length ≤ 1000) (hR : At w w.heap.size (rs.map (Value.int .i64)) ra) (hrl : rs.length ≤ rc) (hrm : rs.length ≤ 1000000) (hri : ∀ x ∈ rs, I64 x) :
    CallsIn Fence.wide 8 Tryd.prog 25 #[.agg #[.slice a l.length c], .slice ra rs.length rc] w fun e w' => e = .returned (.slice (some ⟨w.heap.size + 1, 0, none⟩) l.length l.length) ∧ w'.heap[w.heap.size + 1]? = some (.cells (boolRow (reachB l rs)) 4 (0, 0)) ∧ Below w.heap.size w w' := by
  have hmk := make_bool (l.length : Int) l.length rfl (by omega)
  have HA := Lib.hid hA
  have HR := Lib.hid hR
  have HRI := Lib.hid hri
  have hle := hA.le
  clear hA hR hri
  refine callsIn_of_wp_marks Tryd.func25 rfl trivial ?_ rfl
  simp only [Tryd.ntmps25, List.size_toArray, List.length_cons, List.length_nil, Nat.reduceAdd, Nat.reduceSub, Array.replicate_succ, Array.replicate_zero, List.push_toArray, List.append_toArray, List.nil_append, List.cons_append]
  have hd : 1 ≤ 8 := by omega
  gi_wp2
  have H0 : Hid (ReS l a c w (markL l.length (rs.take 0)) [] (((w.alloc (.cells #[.slice a l.length c] 24)).alloc (.cells (boolRow (List.replicate l.length false)) 4)).alloc (.cells #[.slice (some ⟨w.heap.size + 1, 0, none⟩) l.length l.length] 54))) := by
    have e0 := heap_alloc_new w (.cells #[.slice a l.length c] 24)
    have e1 := heap_alloc_new (w.alloc (.cells #[.slice a l.length c] 24)) (.cells (boolRow (List.replicate l.length false)) 4)
    have e2 := heap_alloc_new ((w.alloc (.cells #[.slice a l.length c] 24)).alloc (.cells (boolRow (List.replicate l.length false)) 4)) (.cells #[.slice (some ⟨w.heap.size + 1, 0, none⟩) l.length l.length] 54)
    simp only [World.size_alloc] at e1 e2
    refine ⟨(((Below.refl _ w).alloc (Nat.le_refl _) _).alloc (by simp) _).alloc (by simp; omega) _, by simp, markL_len _ _, ?_, ?_, e2, Marks.nil _ _⟩
    · exact (Below.heap_alloc _ _ _ (by simp; omega)).trans ((Below.heap_alloc _ _ _ (by simp)).trans e0)
    · exact (Below.heap_alloc _ _ _ (by simp)).trans e1
  clear hmk
  gi_loopw [16] (fun i wr => ∃ j : Nat, j ≤ rs.length ∧ i = .int .i64 j ∧ Hid (ReS l a c w (markL l.length (rs.take j)) [] wr)) (fun i _ => rs.length - (intOf i).toNat)
  case atStart => exact ⟨0, Nat.zero_le _, rfl, H0⟩
  case round =>
    obtain ⟨j, hj, rfl, HF⟩ := hrel
    clear H0
    have hw := HF.out.big
    have x2 : wr.cell? ⟨w.heap.size + 1 + 1, 0, none⟩ = some (.slice (some ⟨w.heap.size + 1, 0, none⟩) l.length l.length) := (cell_of_row _ _ 0 _ _ _ HF.out.b2).trans rfl
    have z1 : w.heap.size + 1 < wr.heap.size := by omega
    have z2 : w.heap.size + 1 + 1 < wr.heap.size := by omega
    by_cases hlt : j < rs.length
    · obtain ⟨r, hr⟩ : ∃ r, rs[j]? = some r := ⟨_, List.getElem?_eq_getElem hlt⟩
      obtain ⟨g, o, rfl, hg, hc⟩ := (HR.out.below HF.out.bel) (by simp; omega)
      have xr : wr.cell? ⟨g, o + j, none⟩ = some (.int .i64 r) := hc j _ (by rw [List.getElem?_map, hr]; rfl)
      have hmk := markL_snoc l.length hr
      have hri := HRI.out r (List.mem_of_getElem? hr)
      obtain ⟨hr1, hr2⟩ := hri
      clear hc hr
      by_cases h1 : r < 0
      · have hm : mark1 l.length (markL l.length (rs.take j)) r = markL l.length (rs.take j) := by unfold mark1; rw [if_neg (by omega)]
        have HN : Hid (ReS l a c w (markL l.length (rs.take (j + 1))) [] wr) := by show ReS _ _ _ _ _ _ _; rw [hmk, hm]; exact HF.out
        clear hmk hm
        gi_wp2
        go_roundw
        case rel => exact ⟨j + 1, by omega, by go_num, HN⟩
        case measure => simp [intOf]; omega
      by_cases h2 : (l.length : Int) ≤ r
      · have hm : mark1 l.length (markL l.length (rs.take j)) r = markL l.length (rs.take j) := by unfold mark1; rw [if_neg (by omega)]
        have HN : Hid (ReS l a c w (markL l.length (rs.take (j + 1))) [] wr) := by show ReS _ _ _ _ _ _ _; rw [hmk, hm]; exact HF.out
        clear hmk hm
        gi_wp2
        go_roundw
        case rel => exact ⟨j + 1, by omega, by go_num, HN⟩
        case measure => simp [intOf]; omega
      · obtain ⟨q, rfl⟩ : ∃ q : Nat, r = q := ⟨r.toNat, by omega⟩
        have hq : q < l.length := by omega
        have hm : mark1 l.length (markL l.length (rs.take j)) q = (markL l.length (rs.take j)).set q true := by unfold mark1; rw [if_pos ⟨by omega, by omega⟩]; rfl
        have HN : Hid (ReS l a c w (markL l.length (rs.take (j + 1))) [] (wr.setCell ⟨w.heap.size + 1, q, none⟩ (.bool true))) := by
          have h := HF.out
          show ReS _ _ _ _ _ _ _
          rw [hmk, hm]
          exact ⟨h.bel.setCell (p := ⟨w.heap.size + 1, q, none⟩) (by show w.heap.size ≤ w.heap.size + 1; omega) _, by simpa [World.setCell] using h.big, by rw [List.length_set]; exact h.len, (Below.heap_setCell _ _ _ _ (by show w.heap.size ≠ w.heap.size + 1; omega)).trans h.b0, bool_set h.row q true, (Below.heap_setCell _ _ _ _ (by show w.heap.size + 1 + 1 ≠ w.heap.size + 1; omega)).trans h.b2, Marks.nil _ _⟩
        have xb : (markL l.length (rs.take j))[q]? = some ((markL l.length (rs.take j))[q]'(by rw [HF.out.len]; exact hq)) := List.getElem?_eq_getElem _
        have xq := bool_cell HF.out.row xb
        have xf := row_frozen HF.out.row
        clear hmk hm xb
        gi_wp2
        go_roundw
        case rel => exact ⟨j + 1, by omega, by go_num, HN⟩
        case measure => simp [intOf]; omega
    · obtain rfl : j = rs.length := by omega
      have HFe : Hid (ReS l a c w (markL l.length rs) [] wr) := by have := HF; rw [List.take_length] at this; exact this
      have hlm : (l.length : Int) ≤ 1000 := by omega
      clear HF
      gi_wp2
      refine wpIn_loop (fun a' W => ∃ (k : Nat) (bs : List Bool) (ds : List Deferred) (v9 v35 v36 v37 v38 v39 v40 v41 v42 v43 v44 v45 v46 v47 v48 v49 : Value), k ≤ l.length ∧ a' = { tmps := #[Value.agg #[Value.slice a l.length c], Value.slice ra rs.length rc, Value.pointer (some ⟨w.heap.size, 0, none⟩), undef, Value.slice none 0 0, Value.pointer (some ⟨w.heap.size + 1 + 1, 0, none⟩), undef, u7, Value.int .i64 ((k : Int) - 1), v9, Value.pointer (some ⟨w.heap.size, 0, none⟩), Value.slice a l.length c, Value.int .i64 l.length, Value.slice (some ⟨w.heap.size + 1, 0, none⟩) l.length l.length, Value.slice ra rs.length rc, Value.int .i64 rs.length, Value.int .i64 rs.length, Value.bool false, u18, u19, u20, u21, u22, u23, u24, u25, u26, u27, u28, u29, u30, u31, Value.slice (some ⟨w.heap.size + 1, 0, none⟩) l.length l.length, Value.int .i64 l.length, Value.int .i64 ((l.length : Int) - 1), v35, v36, v37, v38, v39, v40, v41, v42, v43, v44, v45, v46, v47, v48, v49, undef], defers := ds } ∧ Hid (ReS l a c w bs ds W) ∧ Hid (downL l k bs = reachB l rs)) (fun a' _ => (intOf (a'.tmps.getD 8 undef) + 1).toNat) ?_ ?_
      · exact ⟨l.length, _, [], undef, undef, undef, undef, undef, undef, undef, undef, undef, undef, undef, undef, undef, undef, undef, undef, Nat.le_refl _, rfl, HFe, rfl⟩
      · rintro a' W ⟨k, bs, ds, v9, v35, v36, v37, v38, v39, v40, v41, v42, v43, v44, v45, v46, v47, v48, v49, hk, rfl, HS, HD⟩
        clear HFe x2 hw z1 z2
        have hw := HS.out.big
        have x0 : W.cell? ⟨w.heap.size, 0, none⟩ = some (.slice a l.length c) := (cell_of_row _ _ 0 _ _ _ HS.out.b0).trans rfl
        have x2 : W.cell? ⟨w.heap.size + 1 + 1, 0, none⟩ = some (.slice (some ⟨w.heap.size + 1, 0, none⟩) l.length l.length) := (cell_of_row _ _ 0 _ _ _ HS.out.b2).trans rfl
        have z0 : w.heap.size < W.heap.size := by omega
        have z1 : w.heap.size + 1 < W.heap.size := by omega
        have z2 : w.heap.size + 1 + 1 < W.heap.size := by omega
        cases k with
        | zero =>
          have HQ : Hid (bs = reachB l rs) := HD.out
          gi_wp2
          refine Marks.leave (by simp) HS.out.marks (fun w' hb hc => ?_)
          exact ⟨_, results_tmp rfl _ _ _, rfl, by rw [← HQ.out]; exact hc _ _ _ _ HS.out.row, HS.out.bel.trans (hb.mono (by omega))⟩
        | succ m =>
          have em : (((m + 1 : Nat) : Int) - 1) = (m : Int) := by omega
          rw [em]
          obtain ⟨n, hn⟩ : ∃ n, l[m]? = some n := ⟨_, List.getElem?_eq_getElem (by omega)⟩
          obtain ⟨b, hb⟩ : ∃ b, bs[m]? = some b := ⟨_, List.getElem?_eq_getElem (by rw [HS.out.len]; omega)⟩
          have xm := bool_cell HS.out.row hb
          have HN := Lib.hid hn
          have HBm := Lib.hid hb
          have hml : m < l.length := by omega
          have hmi : (m : Int) ≤ 1000 := by omega
          clear hn hb em
          cases b with
          | false =>
            have HDn : Hid (downL l m bs = reachB l rs) := by
              show _ = _
              rw [← HD.out]
              simp only [downL, stepR]
              rw [List.getD_eq_getElem?_getD, HBm.out]
              rfl
            gi_wp2
            exact ⟨⟨m, bs, ds, _, _, _, _, _, _, _, _, _, _, _, _, _, _, _, _, by omega, rfl, HS, HDn⟩, by simp [intOf] <;> omega⟩
          | true =>
            have hno := HA.out.ok n (List.mem_of_getElem? HN.out)
            have HBel : Hid (Calls Tryd.prog 34 #[.agg #[.slice a l.length c], .int .i64 m] W fun e w' => e = .returned (.func (.func 36) #[] #[.pointer (some ⟨W.heap.size + 1 + 1, 0, none⟩), .pointer (some ⟨W.heap.size + 1, 0, none⟩)]) ∧ ((W.alloc (.cells #[.slice a l.length c] 24)).alloc (.cells #[.int .i64 m] 3)).alloc (.cells #[.int .i8 n.op, .int .i8 n.len, .int .i64 n.a0, .int .i64 n.a1, .int .i64 n.a2, .int .i64 n.sort, .int .i64 n.fn, .int .i64 n.num] 28) = w') := below_any l a c m n W (HA.out.below HS.out.bel) HN.out hl
            gi_wp2_with (refine ⟨trivial, ?_⟩; gi_at_call 34; refine (callsIn_wide.2 HBel.out).mono ?_; rintro e w4 ⟨rfl, hw4⟩)
            obtain ⟨hg4, hs4, hi4, hn4, hr4⟩ := three_allocs W (w.heap.size + 1) _ _ _ z1 w4 hw4
            rw [HS.out.row] at hr4
            clear hw4 HBel xm
            refine wpIn_rangeFunc_ownG rfl hd (gf := 36) (lb := #[.pointer (some ⟨W.heap.size + 1 + 1, 0, none⟩), .pointer (some ⟨W.heap.size + 1, 0, none⟩)]) rfl trivial (enters_of Tryd.func36 (by kernel_rfl) rfl)
              (below_stops _ (by omega) _ _ n m (by omega) hno w4 hn4 hi4) (fun h k => h.trans k) (keepI_b (by omega) (by omega)) (Below.refl _ _) (fun _ => rfl)
              (ReI (w.heap.size + 1) w4 bs m) (fun _ _ _ => False) (ReI_own _ _ _ _ (by omega)) (fun _ _ _ _ _ hs _ _ => hs) ⟨⟨rfl, rfl, rfl, Nat.le_refl _, fun _ _ _ => rfl⟩, hr4⟩
              (fun y => { tmps := #[Value.agg #[Value.slice a l.length c], Value.slice ra rs.length rc, Value.pointer (some ⟨w.heap.size, 0, none⟩), undef, Value.slice none 0 0, Value.pointer (some ⟨w.heap.size + 1 + 1, 0, none⟩), undef, u7, Value.int .i64 m, Value.int .i64 y.1, Value.pointer (some ⟨w.heap.size, 0, none⟩), Value.slice a l.length c, Value.int .i64 l.length, Value.slice (some ⟨w.heap.size + 1, 0, none⟩) l.length l.length, Value.slice ra rs.length rc, Value.int .i64 rs.length, Value.int .i64 rs.length, Value.bool false, u18, u19, u20, u21, u22, u23, u24, u25, u26, u27, u28, u29, u30, u31, Value.slice (some ⟨w.heap.size + 1, 0, none⟩) l.length l.length, Value.int .i64 l.length, Value.int .i64 ((l.length : Int) - 1), Value.int .i64 m, Value.bool true, v37, v38, Value.slice (some ⟨w.heap.size + 1, 0, none⟩) l.length l.length, Value.int .i64 m, Value.pointer (some ⟨w.heap.size + 1, m, none⟩), Value.bool true, Value.agg #[Value.slice a l.length c], Value.int .i64 m, Value.func (.func 36) #[] #[.pointer (some ⟨W.heap.size + 1 + 1, 0, none⟩), .pointer (some ⟨W.heap.size + 1, 0, none⟩)], Value.int .i64 y.1, v47, v48, v49, undef], defers := [] }) ?assign ?body ?done ?stop
            case assign =>
              intro l' y V K hK
              simp only [encK]
              gi_wp2
              exact hK
            case body =>
              rintro l' pre y V ⟨hg, hr⟩ hlen
              have HVb : ∀ b, b < W.heap.size → b ≠ w.heap.size + 1 → V.heap[b]? = W.heap[b]? := fun b hb hne => (hg.block b (by omega) (fun e => hne (Option.some.inj e))).trans (hg4.block b hb (fun e => hne (Option.some.inj e)))
              have v2 : V.cell? ⟨w.heap.size + 1 + 1, 0, none⟩ = some (.slice (some ⟨w.heap.size + 1, 0, none⟩) l.length l.length) := (cell_of_row _ _ 0 _ _ _ ((HVb _ z2 (by omega)).trans HS.out.b2)).trans rfl
              have hyk := y.2
              have hln : ((pre.map (·.1)).foldl (fun b a => b.set a true) bs).length = l.length := by rw [set_len]; exact HS.out.len
              obtain ⟨vb, hvb⟩ : ∃ b, ((pre.map (·.1)).foldl (fun b a => b.set a true) bs)[y.1]? = some b := ⟨_, List.getElem?_eq_getElem (by rw [hln]; omega)⟩
              have vy := bool_cell hr hvb
              have vf := row_frozen hr
              have hvz : w.heap.size + 1 < V.heap.size := (Array.getElem?_eq_some_iff.1 hr).1
              have HI := Lib.hid (And.intro hg hr)
              have hyi : (y.1 : Int) < (l.length : Int) := by omega
              have hyn : y.1 < l.length := by omega
              clear hg hr HVb hln hvb
              gi_wp2
              obtain ⟨hg, hr⟩ := HI.out
              refine ⟨(KeepsOthers.setCell _ _ _).from _, ⟨by simp [World.setCell], Below.heap_setCell _ _ _ _ (by show W.heap.size + 1 + 1 ≠ w.heap.size + 1; omega), Below.heap_setCell _ _ _ _ (by show W.heap.size + 1 ≠ w.heap.size + 1; omega)⟩, grown_set hg, ?_⟩
              have h1 := bool_set hr y.1 true
              rw [List.map_append, List.foldl_append]
              exact h1
            case done =>
              rintro D ys V hD hSy ⟨hg, hr⟩ hK
              have HVb : ∀ b, b < W.heap.size → b ≠ w.heap.size + 1 → V.heap[b]? = W.heap[b]? := fun b hb hne => (hg.block b (by omega) (fun e => hne (Option.some.inj e))).trans (hg4.block b hb (fun e => hne (Option.some.inj e)))
              obtain ⟨bs', hbs'⟩ : ∃ bs', (belowL n m).foldl (fun b a => b.set a true) bs = bs' := ⟨_, rfl⟩
              rw [hSy, hbs'] at hr
              have HFn : Hid (ReS l a c w bs' ({ target := .collected D, args := #[] } :: ds) V) :=
                ⟨(HS.out.bel.grown hg4 (by omega) (fun j e => by cases e; omega)).grown hg (by omega) (fun j e => by cases e; omega), Nat.le_trans HS.out.big (Nat.le_trans hg4.size hg.size), by rw [← hbs', set_len]; exact HS.out.len, (HVb _ z0 (by omega)).trans HS.out.b0, hr, (HVb _ z2 (by omega)).trans HS.out.b2, HS.out.marks.push hK (by omega) (by omega) (fun E hE1 hE2 _ => HVb E hE2 (by omega))⟩
              have HDn : Hid (downL l m bs' = reachB l rs) := by
                show _ = _
                rw [← HD.out, ← hbs']
                simp only [downL, stepR]
                rw [List.getD_eq_getElem?_getD, HBm.out, HN.out]
                rfl
              clear hr hg hSy hK hbs'
              gi_wp2
              exact ⟨⟨m, bs', { target := .collected D, args := #[] } :: ds, _, _, _, _, _, _, _, _, _, _, _, _, _, _, _, _, by omega, rfl, HFn, HDn⟩, by simp [intOf] <;> omega⟩
            case stop =>
              rintro D c' pre V _ _ h _
              exact h.elim
end Go.Proofs.YtdjiebiobdhihaaDoor
