/- The document's macro: whether a macro may be, but for its name. -/
import Derived.Test.YtfbjgadgfjnamaaGreatDoorZHdE
namespace Go.Proofs.YtfbjgadgfjnamaaGreatDoor
open Go.RowKit
set_option linter.unusedVariables false
/-- A parameter behind others. -/
def oneQ (n : Nat) (ahead : List ParA) (p : ParA) : Bool := nameB p.name.data.toList && (!resB p.name.data.toList && (thereA n p.sort && !hasN (ahead.map (·.name)) p.name))
def parQ (n : Nat) (ahead : List ParA) : List ParA → Bool
  | [] => true
  | p :: r => oneQ n ahead p && parQ n (ahead ++ [p]) r
theorem parQ_append (n : Nat) : ∀ (l m a : List ParA), parQ n a (l ++ m) = (parQ n a l && parQ n (a ++ l) m)
  | [], m, a => by simp [parQ]
  | y :: r, m, a => by
    simp only [List.cons_append, parQ]
    rw [parQ_append n r m, List.append_assoc]
    simp only [Bool.and_assoc]; rfl
theorem parQ_take {n : Nat} {l : List ParA} {k : Nat} {p : ParA} (h : l[k]? = some p) : parQ n [] (l.take (k + 1)) = (parQ n [] (l.take k) && oneQ n (l.take k) p) := by
  rw [tk_snoc h, parQ_append]; simp [parQ]
theorem parQ_no {n : Nat} {l : List ParA} {k : Nat} (h : parQ n [] (l.take k) = false) : parQ n [] l = false := by
  have := parQ_append n (l.take k) (l.drop k) []
  rw [List.take_append_drop, h] at this
  rw [this]; rfl
def macQ (n : Nat) (m : MacA) : Bool := decide (m.params.length ≤ 3) && (thereA n m.res && (sxB m.body && parQ n [] m.params))
theorem par_row {V : World} {B : Nat} {n s : Value} {ty : TypeId} (h : V.heap[B]? = some (.cells #[n, s] ty (0, 0))) : V.cell? ⟨B, 0, none⟩ = some n ∧ V.cell? ⟨B, 1, none⟩ = some s ∧ B < V.heap.size :=
  ⟨(cell_of_row _ _ 0 _ _ _ h).trans rfl, (cell_of_row _ _ 1 _ _ _ h).trans rfl, (Array.getElem?_eq_some_iff.1 h).1⟩
set_option maxRecDepth 100000 in
set_option maxHeartbeats 4000000 in
theorem Rmacro_aux (x : SigV) (name : ByteArray) (ps : List ParA) (pa : Option Addr) (pc : Nat) (res : Int) (t : Tree) (ba : Option Addr) (bc : Nat) (r : Bool) (w : World) (hR : SigR w x) (hm : MacOk w w.heap.size ⟨⟨name, ps, res, t⟩, pa, pc, ba, bc⟩) (hl : x.sorts.length ≤ 100) (hr : macQ x.sorts.length ⟨name, ps, res, t⟩ = r) :
    Calls Tryz.prog 91 #[.agg #[.slice x.sa x.sorts.length x.sc, .slice x.fa x.funs.length x.fc, .slice x.ma x.macs.length x.mc], .agg #[.string name, .slice pa ps.length pc, .int .i64 res, .int .i8 t.kind, .string (bytesL t.text), .slice ba t.kids.length bc]] w fun e w' => e = .returned (.bool r) ∧ Below w.heap.size w w' := by
  obtain ⟨W0, hW0⟩ : ∃ W0, W0 = (w.alloc (.cells #[.slice x.sa x.sorts.length x.sc, .slice x.fa x.funs.length x.fc, .slice x.ma x.macs.length x.mc] 26)).alloc (.cells #[.string name, .slice pa ps.length pc, .int .i64 res, .int .i8 t.kind, .string (bytesL t.text), .slice ba t.kids.length bc] 69) := ⟨_, rfl⟩
  have hB0 : Below w.heap.size w W0 := by rw [hW0]; exact ((Below.refl _ w).alloc (Nat.le_refl _) _).alloc (by simp) _
  have HB0 := Lib.hid hB0
  have hX0 : W0.heap[w.heap.size]? = some (.cells #[.slice x.sa x.sorts.length x.sc, .slice x.fa x.funs.length x.fc, .slice x.ma x.macs.length x.mc] 26 (0, 0)) := by rw [hW0]; exact (Below.heap_alloc _ _ _ (by simp)).trans (heap_alloc_new w _)
  have hY0 : W0.heap[w.heap.size + 1]? = some (.cells #[.string name, .slice pa ps.length pc, .int .i64 res, .int .i8 t.kind, .string (bytesL t.text), .slice ba t.kids.length bc] 69 (0, 0)) := by
    have := heap_alloc_new (w.alloc (.cells #[.slice x.sa x.sorts.length x.sc, .slice x.fa x.funs.length x.fc, .slice x.ma x.macs.length x.mc] 26)) (.cells #[.string name, .slice pa ps.length pc, .int .i64 res, .int .i8 t.kind, .string (bytesL t.text), .slice ba t.kids.length bc] 69)
    rw [World.size_alloc] at this
    rw [hW0]; exact this
  have HK : Hid (∀ V, Below W0.heap.size W0 V → V.cell? ⟨w.heap.size, 0, none⟩ = some (.slice x.sa x.sorts.length x.sc) ∧ V.cell? ⟨w.heap.size, 1, none⟩ = some (.slice x.fa x.funs.length x.fc) ∧ V.cell? ⟨w.heap.size, 2, none⟩ = some (.slice x.ma x.macs.length x.mc) ∧ V.cell? ⟨w.heap.size + 1, 1, none⟩ = some (.slice pa ps.length pc) ∧ V.cell? ⟨w.heap.size + 1, 2, none⟩ = some (.int .i64 res) ∧ V.cell? ⟨w.heap.size + 1, 3, none⟩ = some (.int .i8 t.kind) ∧ V.cell? ⟨w.heap.size + 1, 4, none⟩ = some (.string (bytesL t.text)) ∧ V.cell? ⟨w.heap.size + 1, 5, none⟩ = some (.slice ba t.kids.length bc) ∧ w.heap.size < V.heap.size ∧ w.heap.size + 1 < V.heap.size) := fun V hV => by
    obtain ⟨c0, c1, c2, z0⟩ := sig_cells ((hV.block _ (Array.getElem?_eq_some_iff.1 hX0).1).trans hX0)
    have h := (hV.block _ (Array.getElem?_eq_some_iff.1 hY0).1).trans hY0
    exact ⟨c0, c1, c2, (cell_of_row _ _ 1 _ _ _ h).trans rfl, (cell_of_row _ _ 2 _ _ _ h).trans rfl, (cell_of_row _ _ 3 _ _ _ h).trans rfl, (cell_of_row _ _ 4 _ _ _ h).trans rfl, (cell_of_row _ _ 5 _ _ _ h).trans rfl, z0, (Array.getElem?_eq_some_iff.1 h).1⟩
  have HT : Hid (∀ i, I64 i → ∀ V, Below W0.heap.size W0 V → Calls Tryz.prog 136 #[.agg #[.slice x.sa x.sorts.length x.sc, .slice x.fa x.funs.length x.fc, .slice x.ma x.macs.length x.mc], .int .i64 i] V fun e w' => e = .returned (.bool (thereA x.sorts.length i)) ∧ Below W0.heap.size W0 w' ∧ Below V.heap.size V w') := fun i hi V hV => (Rthere_any x i _ V (hR.below (hB0.trans (hV.mono hB0.size))) rfl hi hl).mono fun e w' ⟨h1, h2⟩ => ⟨h1, hV.trans (h2.mono hV.size), h2⟩
  have HBody : Hid (∀ V, Below W0.heap.size W0 V → Calls Tryz.prog 137 #[.agg #[.int .i8 t.kind, .string (bytesL t.text), .slice ba t.kids.length bc]] V fun e w' => e = .returned (.bool (sxB t)) ∧ Below W0.heap.size W0 w') := fun V hV => (sxMay_any t _ _ V (hm.body.below (hB0.trans (hV.mono hB0.size))) rfl).mono fun e w' ⟨h1, h2⟩ => ⟨h1, hV.trans (h2.mono hV.size)⟩
  have HMy : Hid (∀ (s : ByteArray) V, s.size ≤ maxLen → Calls Tryz.prog 130 #[.string s] V fun e w' => e = .returned (.bool (nameB s.data.toList)) ∧ V = w') := fun s V hs => MayR_any s _ V (by simp only [maxLen] at hs; omega) (nameB_of s)
  have HRs : Hid (∀ (s : ByteArray) q V, resB s.data.toList = q → Calls Tryz.prog 131 #[.string s] V fun e w' => e = .returned (.bool q) ∧ V = w') := fun s q V hq => by
    cases q with
    | true => exact ResR_yes s V hq
    | false => exact ResR_no s V hq
  have HAt : Hid (∀ V, Below W0.heap.size W0 V → At V w.heap.size (ps.flatMap parC) pa) := fun V hV => hm.pat.below (hB0.trans (hV.mono hB0.size))
  have HP : Hid (∀ p ∈ ps, ParOk p) := hm.pok
  have hpl := hm.plen
  have hrs := hm.res
  simp only at hpl
  have hw0 := hB0.size
  obtain ⟨c0, c1, c2, y1, y2, y3, y4, y5, z0, z1⟩ := HK.out _ (Below.refl _ _)
  unfold macQ at hr
  simp only at hr
  clear hR hX0 hY0 hm hl hB0
  by_cases h0 : 3 < ps.length
  · obtain rfl : r = false := by rw [← hr, decide_eq_false (by omega)]; rfl
    have d0 : (3 : Int) < (ps.length : Int) := by omega
    clear hr
    go_enter Tryz.func91, Tryz.ntmps91
    go_wp2
    rw [← hW0]
    go_ret
    exact ⟨rfl, HB0.out⟩
  rw [decide_eq_true (by omega), Bool.true_and] at hr
  have d0 : ¬ (3 : Int) < (ps.length : Int) := by omega
  have HRes := Lib.hid (HT.out res hrs W0 (Below.refl _ _))
  cases hq : thereA x.sorts.length res with
  | false =>
    obtain rfl : r = false := by rw [← hr, hq]; rfl
    rw [hq] at HRes
    clear hr hq
    go_enter Tryz.func91, Tryz.ntmps91
    go_wp2_with (go_at_call 136; rw [← hW0]; clear hW0; refine HRes.out.mono ?_; rintro e w1 ⟨rfl, hb1, _⟩)
    go_ret
    exact ⟨rfl, HB0.out.trans (hb1.mono HB0.out.size)⟩
  | true =>
  rw [hq] at HRes hr
  rw [Bool.true_and] at hr
  clear hq
  cases hq : sxB t with
  | false =>
    obtain rfl : r = false := by rw [← hr, hq]; rfl
    rw [hq] at HBody
    clear hr hq
    go_enter Tryz.func91, Tryz.ntmps91
    go_wp2_with (first | (go_at_call 136; rw [← hW0]; clear hW0; refine HRes.out.mono ?_; rintro e w1 ⟨rfl, hb1, _⟩; have HB1 := Lib.hid hb1; clear hb1 c0 c1 c2 y1 y2 y3 y4 y5 z0 z1; obtain ⟨c0, c1, c2, y1, y2, y3, y4, y5, z0, z1⟩ := HK.out _ HB1.out) | (go_at_call 137; refine (HBody.out _ HB1.out).mono ?_; rintro e w2 ⟨rfl, hb2⟩))
    go_ret
    exact ⟨rfl, HB0.out.trans (hb2.mono HB0.out.size)⟩
  | true =>
  rw [hq] at HBody hr
  rw [Bool.true_and] at hr
  have HPar := Lib.hid hr
  clear hq hr
  go_enter Tryz.func91, Tryz.ntmps91
  go_wp2_with (first | (go_at_call 136; rw [← hW0]; clear hW0; refine HRes.out.mono ?_; rintro e w1 ⟨rfl, hb1, _⟩; have HB1 := Lib.hid hb1; clear hb1 c0 c1 c2 y1 y2 y3 y4 y5 z0 z1; obtain ⟨c0, c1, c2, y1, y2, y3, y4, y5, z0, z1⟩ := HK.out _ HB1.out) | (go_at_call 137; refine (HBody.out _ HB1.out).mono ?_; rintro e w2 ⟨rfl, hb2⟩; have HB2 := Lib.hid hb2; clear hb2 c0 c1 c2 y1 y2 y3 y4 y5 z0 z1))
  go_loopw [5] (fun i wr => ∃ k : Nat, k ≤ ps.length ∧ i = .int .i64 k ∧ Hid (parQ x.sorts.length [] (ps.take k) = true) ∧ Hid (Below W0.heap.size W0 wr)) (fun i _ => ps.length - (intOf i).toNat)
  case atStart => exact ⟨0, Nat.zero_le _, rfl, by show _ = _; rw [List.take_zero]; rfl, HB2⟩
  case round =>
    obtain ⟨k, hk, rfl, HQ, HB⟩ := hrel
    obtain ⟨c0, c1, c2, y1, y2, y3, y4, y5, z0, z1⟩ := HK.out _ HB.out
    by_cases hlt : k < ps.length
    rotate_left
    · obtain rfl : k = ps.length := by omega
      obtain rfl : r = true := by rw [← HPar.out]; have h := HQ.out; rwa [List.take_length] at h
      go_wp2
      go_ret
      exact ⟨rfl, HB0.out.trans (HB.out.mono HB0.out.size)⟩
    obtain ⟨p, hp⟩ : ∃ p, ps[k]? = some p := ⟨_, List.getElem?_eq_getElem hlt⟩
    have hpo := HP.out p (List.mem_of_getElem? hp)
    obtain ⟨g, o, rfl, hg, hcell⟩ := HAt.out _ HB.out (by rw [len_flat parC_len]; omega)
    have q0 := hcell _ _ ((get_flat parC_len ps k 0 p hp (by omega)).trans rfl)
    have q1 := hcell _ _ ((get_flat parC_len ps k 1 p hp (by omega)).trans rfl)
    simp only [Nat.add_zero, ← Nat.add_assoc] at q0 q1
    have hgw : g < wr.heap.size := by have := HB.out.size; omega
    have hki : (k : Int) < (ps.length : Int) := by omega
    have hk0 : (0 : Int) ≤ (k : Int) := by omega
    have HNX := Lib.hid (parQ_take (n := x.sorts.length) hp)
    have HMyp := Lib.hid (HMy.out p.name (wr.alloc (.cells #[.string p.name, .int .i64 p.sort] 182)) hpo.name)
    have hoq : oneQ x.sorts.length (ps.take k) p = (nameB p.name.data.toList && (!resB p.name.data.toList && (thereA x.sorts.length p.sort && !hasN ((ps.take k).map (·.name)) p.name))) := rfl
    have HNo : Hid (oneQ x.sorts.length (ps.take k) p = false → r = false) := fun h => by rw [← HPar.out]; exact parQ_no (k := k + 1) (by rw [HNX.out, h, Bool.and_false])
    have HBA : Hid (Below W0.heap.size W0 (wr.alloc (.cells #[.string p.name, .int .i64 p.sort] 182))) := HB.out.alloc HB.out.size _
    have HPn := Lib.hid hp
    have HPo := Lib.hid hpo
    clear hp hpo hcell
    cases hn : nameB p.name.data.toList with
    | false =>
      rw [hn] at HMyp hoq
      obtain rfl := HNo.out hoq
      clear hn hoq
      go_wp2_with (go_at_call 130; refine HMyp.out.mono ?_; rintro e w3 ⟨rfl, rfl⟩)
      go_ret
      exact ⟨rfl, HB0.out.trans (HBA.out.mono HB0.out.size)⟩
    | true =>
    rw [hn] at HMyp hoq
    clear hn
    cases hrv : resB p.name.data.toList with
    | true =>
      rw [hrv] at hoq
      obtain rfl := HNo.out hoq
      have HRp := Lib.hid (HRs.out p.name true (wr.alloc (.cells #[.string p.name, .int .i64 p.sort] 182)) hrv)
      clear hrv hoq
      go_wp2_with (first | (go_at_call 130; refine HMyp.out.mono ?_; rintro e w3 ⟨rfl, rfl⟩) | (go_at_call 131; refine HRp.out.mono ?_; rintro e w3 ⟨rfl, rfl⟩))
      go_ret
      exact ⟨rfl, HB0.out.trans (HBA.out.mono HB0.out.size)⟩
    | false =>
    rw [hrv] at hoq
    have HRp := Lib.hid (HRs.out p.name false (wr.alloc (.cells #[.string p.name, .int .i64 p.sort] 182)) hrv)
    have HTp := Lib.hid (HT.out p.sort HPo.out.sort (wr.alloc (.cells #[.string p.name, .int .i64 p.sort] 182)) HBA.out)
    clear hrv
    cases htv : thereA x.sorts.length p.sort with
    | false =>
      rw [htv] at hoq HTp
      obtain rfl := HNo.out hoq
      clear htv hoq
      go_wp2_with (first | (go_at_call 130; refine HMyp.out.mono ?_; rintro e w3 ⟨rfl, rfl⟩) | (go_at_call 131; refine HRp.out.mono ?_; rintro e w3 ⟨rfl, rfl⟩) | (go_at_call 136; refine HTp.out.mono ?_; rintro e w3 ⟨rfl, hb3, _⟩))
      go_ret
      exact ⟨rfl, HB0.out.trans (hb3.mono HB0.out.size)⟩
    | true =>
    rw [htv] at hoq HTp
    have HOQ := Lib.hid hoq
    have hz6 : wr.heap.size < (wr.alloc (.cells #[.string p.name, .int .i64 p.sort] 182)).heap.size := by simp
    have HPB : Hid (∀ V, Below (wr.alloc (.cells #[.string p.name, .int .i64 p.sort] 182)).heap.size (wr.alloc (.cells #[.string p.name, .int .i64 p.sort] 182)) V → V.heap[wr.heap.size]? = some (.cells #[.string p.name, .int .i64 p.sort] 182 (0, 0))) := fun V hV => (hV.block _ (by simp)).trans (heap_alloc_new wr _)
    clear htv hoq
    go_wp2_with (first | (go_at_call 130; refine HMyp.out.mono ?_; rintro e w3 ⟨rfl, rfl⟩) | (go_at_call 131; refine HRp.out.mono ?_; rintro e w3 ⟨rfl, rfl⟩) | (go_at_call 136; refine HTp.out.mono ?_; rintro e w3 ⟨rfl, hb3, hv3⟩; have HB3 := Lib.hid hb3; have HV3 := Lib.hid hv3; clear hb3 hv3))
    clear c0 c1 c2 y1 y2 y3 y4 y5 z0 z1 q0 q1 hgw
    obtain ⟨Bp, hBp⟩ : ∃ Bp, Bp = wr.heap.size := ⟨_, rfl⟩
    have HPV : Hid (∀ V, Below w3.heap.size w3 V → V.heap[Bp]? = some (.cells #[.string p.name, .int .i64 p.sort] 182 (0, 0))) := fun V hV => by
      rw [hBp]; exact HPB.out V (HV3.out.trans (hV.mono HV3.out.size))
    rw [← hBp]
    clear HPB HV3 hz6 hBp HMyp HRp HTp HBA
    go_loopw [7] (fun i wq => ∃ j : Nat, j ≤ k ∧ i = .int .i64 j ∧ Hid (hasN (((ps.take k).map (·.name)).take j) p.name = false) ∧ Hid (Below w3.heap.size w3 wq)) (fun i _ => k - (intOf i).toNat)
    case atStart => exact ⟨0, Nat.zero_le _, rfl, by show _ = _; rw [List.take_zero]; rfl, Below.refl _ _⟩
    case round =>
      obtain ⟨j, hj, rfl, HN, HX⟩ := hrel
      have HXB : Hid (Below W0.heap.size W0 wr) := HB3.out.trans (HX.out.mono HB3.out.size)
      obtain ⟨c0, c1, c2, y1, y2, y3, y4, y5, z0, z1⟩ := HK.out _ HXB.out
      obtain ⟨p0, p1, pz⟩ := par_row (HPV.out _ HX.out)
      by_cases hjl : j < k
      · obtain ⟨y, hy⟩ : ∃ y, ps[j]? = some y := ⟨_, List.getElem?_eq_getElem (by omega)⟩
        obtain ⟨g', o', he, hg', hcell⟩ := HAt.out _ HXB.out (by rw [len_flat parC_len]; omega)
        cases he
        have q0 := hcell _ _ ((get_flat parC_len ps j 0 y hy (by omega)).trans rfl)
        simp only [Nat.add_zero] at q0
        have hgw : g < wr.heap.size := by have := HXB.out.size; omega
        have hji : (j : Int) < (ps.length : Int) := by omega
        have hj0 : (0 : Int) ≤ (j : Int) := by omega
        have hme : ((ps.take k).map (·.name))[j]? = some y.name := by rw [List.getElem?_map, List.getElem?_take, if_pos hjl, hy]; rfl
        have HM := Lib.hid hme
        clear hy hcell hme
        by_cases hen : y.name = p.name
        · have e0 := tl_yes p.name
          obtain rfl : r = false := HNo.out (by rw [HOQ.out, hasN_yes HM.out hen]; rfl)
          rw [hen] at q0
          clear hen
          go_wp2
          go_quiet (fail)
          go_wp2
          go_ret
          exact ⟨rfl, below_dN (HB0.out.trans (HXB.out.mono HB0.out.size))⟩
        · have e0 := tl_no hen
          have HNX2 : Hid (hasN (((ps.take k).map (·.name)).take (j + 1)) p.name = false) := by show _ = _; rw [hasN_take HM.out, HN.out, decide_eq_false hen]; rfl
          clear hen
          go_wp2
          go_quiet (fail)
          go_wp2
          go_roundw
          case rel => exact ⟨j + 1, by omega, by go_num, HNX2, below_dN HX.out⟩
          case measure => simp [intOf]; omega
      · obtain rfl : j = k := by omega
        have HQ2 : Hid (parQ x.sorts.length [] (ps.take (j + 1)) = true) := by
          show _ = _
          have h := HN.out
          rw [List.take_of_length_le (by rw [List.length_map, List.length_take]; omega)] at h
          rw [HNX.out, HQ.out, HOQ.out, h]
          rfl
        go_wp2
        go_roundw
        case rel => exact ⟨j + 1, by omega, by go_num, HQ2, HXB⟩
        case measure => simp [intOf]; omega
theorem Rmacro_any (x : SigV) (m : MacV) (r : Bool) (w : World) (hR : SigR w x) (hm : MacOk w w.heap.size m) (hl : x.sorts.length ≤ 100) (hr : macQ x.sorts.length m.m = r) :
    Calls Tryz.prog 91 #[.agg #[.slice x.sa x.sorts.length x.sc, .slice x.fa x.funs.length x.fc, .slice x.ma x.macs.length x.mc], .agg #[.string m.m.name, .slice m.pa m.m.params.length m.pc, .int .i64 m.m.res, .int .i8 m.m.body.kind, .string (bytesL m.m.body.text), .slice m.ba m.m.body.kids.length m.bc]] w fun e w' => e = .returned (.bool r) ∧ Below w.heap.size w w' := by
  obtain ⟨⟨name, ps, res, t⟩, pa, pc, ba, bc⟩ := m
  exact Rmacro_aux x name ps pa pc res t ba bc r w hR hm hl hr
end Go.Proofs.YtfbjgadgfjnamaaGreatDoor
