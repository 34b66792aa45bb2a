/- ref16's first in a run's words. -/
import Derived.Test.YtggighikemhnfaaDoorZUoQ
import Derived.Test.YtggighikemhnfaaDoorZUoO
namespace Go.Proofs.YtggighikemhnfaaDoor.Tm
open Go.RowKit Go.Lib
set_option linter.unusedVariables false
theorem own_ne {w : World} {b b' s s' n n' : Nat} {E E' : TypeId} {v v' : Value} {L L' : List Value} (h : w.ownsRow b E s v n L) (h' : w.ownsRow b' E' s' v' n' L') (hE : E ≠ E') : v.ownBlock = none ∨ v.ownBlock ≠ v'.ownBlock := by
  rcases h.2 with ⟨rfl, _⟩ | ⟨g, cap, cur, rfl, _, hg, _⟩
  · exact .inl rfl
  · refine .inr (fun e => ?_)
    rcases h'.2 with ⟨rfl, _⟩ | ⟨g', cap', cur', rfl, _, hg', _⟩
    · cases e
    · simp only [Value.ownBlock, Option.some.injEq] at e
      subst e
      rw [hg] at hg'
      injection hg' with h1
      injection h1 with _ h2
      exact hE h2
theorem own_kp {w w' : World} {b s n : Nat} {E : TypeId} {v : Value} {L : List Value} (h : w.ownsRow b E s v n L) (hE : E ≠ 31) (k : Kp8 w w') : w'.ownsRow b E s v n L := by
  refine ⟨h.1, ?_⟩
  rcases h.2 with hn | ⟨g, cap, cur, rfl, hb, hg, rest⟩
  · exact .inl hn
  · exact .inr ⟨g, cap, cur, rfl, hb, k g _ _ _ hE hg, rest⟩
def MkF (xs m : List Int) : Prop := (∀ z, z ∈ m ↔ z ∈ xs ∧ mayU z = true) ∧ m.Nodup
theorem mkF_of {xs C m : List Int} (hC : C = xs.filter mayU) (h : MkP C C.length m) : MkF xs m := by
  refine ⟨fun z => (h.1 z).trans ⟨fun ⟨j, _, h2, _⟩ => ?_, fun hz => ?_⟩, h.2.1⟩
  · have := List.mem_of_getElem? h2
    rw [hC] at this
    exact List.mem_filter.1 this
  · have hz2 : z ∈ C := by rw [hC]; exact List.mem_filter.2 hz
    obtain ⟨j, hj⟩ := List.getElem?_of_mem hz2
    exact ⟨j, (List.getElem?_eq_some_iff.1 hj).1, hj, (mayU_iff.1 hz.2).1⟩
def PlP (rs M : List RowD) (k : Nat) : Prop := M.length = k ∧ ∀ (j : Nat) (y m : RowD), rs[j]? = some y → M[j]? = some m → MkF y.xs m.xs
theorem PlP.step {rs M : List RowD} {k : Nat} {y m : RowD} (h : PlP rs M k) (hy : rs[k]? = some y) (hm : MkF y.xs m.xs) : PlP rs (M ++ [m]) (k + 1) := by
  refine ⟨by rw [List.length_append, h.1]; rfl, fun j y' m' h1 h2 => ?_⟩
  by_cases e : j < k
  · rw [List.getElem?_append_left (by rw [h.1]; exact e)] at h2
    exact h.2 j y' m' h1 h2
  · have hj : j = k := by
      have := (List.getElem?_eq_some_iff.1 h2).1
      rw [List.length_append, h.1] at this
      simp at this
      omega
    subst hj
    rw [List.getElem?_append_right (by rw [h.1]; exact Nat.le_refl _), h.1, Nat.sub_self] at h2
    cases h2
    rw [hy] at h1
    cases h1
    exact hm
theorem filter_take {xs : List Int} {k : Nat} {x : Int} (h : xs[k]? = some x) : (xs.take (k + 1)).filter mayU = if mayU x = true then (xs.take k).filter mayU ++ [x] else (xs.take k).filter mayU := by
  rw [List.take_add_one, h, List.filter_append]
  by_cases h0 : mayU x = true
  · rw [if_pos h0]; simp [h0]
  · rw [if_neg h0]; simp [h0]
set_option maxRecDepth 100000 in
set_option maxHeartbeats 4000000 in
theorem plain_any (rs : List RowD) (a : Option Addr) (c : Nat) (w : World) (hR : RowsR w rs a c) (hl : rs.length ≤ 1000) (hl2 : ∀ y ∈ rs, y.xs.length ≤ 1000) :
    Calls Tryd.prog 41 #[.slice a rs.length c] w fun e w' => ∃ M a' c', e = .returned (.slice a' M.length c') ∧ PlP rs M rs.length ∧ RowsR w' M a' c' ∧ Below w.heap.size w w' := by
  obtain ⟨i1, hi_, hz0, hz1, hz2⟩ := info_parts info_sl
  have HR : Hid (∀ V, Below w.heap.size w V → RowsR V rs a c) := fun V hV => hR.below hV
  have HF : Hid (∀ x r V, mayU x = r → Calls Tryd.prog 42 #[.int .i64 x] V fun e w' => e = .returned (.bool r) ∧ V = w') := fun x r V h => fits_any x r V h
  have HIn : Hid (∀ (V : World) (y : Int), I64 y → IntsR (V.alloc (.cells #[.int .i64 y] 3)) [y] (some ⟨V.heap.size, 0, none⟩) 1) := fun V y hy => ints_row (heap_alloc_new V _) (fun z hz => by rw [show z = y by simpa using hz]; exact hy) (by simp)
  have HL := Lib.hid hl
  have HL2 := Lib.hid hl2
  have l1 : rs.length ≤ c := hR.le
  have c1 : rs.length ≤ 9223372036854775807 := by omega
  have HM0 : Hid (PlP rs [] 0) := ⟨rfl, fun j y m _ h => by cases h⟩
  have HO0 : Hid (RowsO w w.heap.size [] (.slice none 0 0) ∧ (∀ y ∈ ([] : List RowD), RowO w w.heap.size y.xs (rowV y)) ∧ Below w.heap.size w w) := ⟨⟨rfl, .inl ⟨rfl, rfl⟩⟩, (fun y h => by cases h), Below.refl _ _⟩
  clear hR hl hl2
  go_enter Tryd.func41, Tryd.ntmps41
  go_wp2
  go_loopw [3, 4] (fun v iv wr => ∃ (k : Nat) (M : List RowD) (a3 : Option Addr) (c3 : Nat), k ≤ rs.length ∧ iv = .int .i64 k ∧ v = .slice a3 M.length c3 ∧ Hid (PlP rs M k) ∧ Hid (RowsO wr w.heap.size M (.slice a3 M.length c3) ∧ (∀ y ∈ M, RowO wr w.heap.size y.xs (rowV y)) ∧ Below w.heap.size w wr)) (fun _ iv _ => rs.length - (intOf iv).toNat)
  case atStart => exact ⟨0, [], none, 0, Nat.zero_le _, rfl, rfl, HM0, HO0⟩
  case round =>
    clear HM0 HO0
    obtain ⟨k, M, a3, c3, hkl, rfl, rfl, HM, HO⟩ := hrel
    by_cases hlt : k < rs.length
    · obtain ⟨y, hy⟩ : ∃ y, rs[k]? = some y := ⟨_, List.getElem?_eq_getElem hlt⟩
      have HY := Lib.hid hy
      have hyl : y.xs.length ≤ 1000 := HL2.out y (List.mem_of_getElem? hy)
      have HYl := Lib.hid hyl
      have HYi : Hid (∀ V, Below wr.heap.size wr V → IntsR V y.xs y.a y.c) := fun V hV => (HR.out V (ball HO.out.2.2 hV)).ok y (List.mem_of_getElem? HY.out)
      have HYc : Hid (∀ V, Below wr.heap.size wr V → ∃ g o : Nat, a = some ⟨g, o, none⟩ ∧ g < V.heap.size ∧ V.cell? ⟨g, o + k, none⟩ = some (.slice y.a y.xs.length y.c)) := fun V hV => (HR.out V (ball HO.out.2.2 hV)).cell HY.out
      have HOk : Hid (∀ j, ∀ z ∈ (y.xs.take j).filter mayU, I64 z) := fun j z hz => (HYi.out wr (Below.refl _ _)).ok z (List.mem_of_mem_take (List.mem_filter.1 hz).1)
      have HC0 : Hid (([] : List Int) = (y.xs.take 0).filter mayU) := rfl
      have HR0 : Hid (RowO wr wr.heap.size [] (.slice none 0 0) ∧ Below wr.heap.size wr wr) := ⟨⟨rfl, .inl ⟨rfl, rfl⟩⟩, Below.refl _ _⟩
      clear hy
      go_wp2_with fail
      go_loopw [5, 6] (fun v kv w2 => ∃ (j : Nat) (C : List Int) (a5 : Option Addr) (c5 : Nat), j ≤ y.xs.length ∧ kv = .int .i64 j ∧ v = .slice a5 C.length c5 ∧ Hid (C = (y.xs.take j).filter mayU) ∧ Hid (RowO w2 wr.heap.size C (.slice a5 C.length c5) ∧ Below wr.heap.size wr w2)) (fun _ kv _ => y.xs.length - (intOf kv).toNat)
      case atStart => exact ⟨0, [], none, 0, Nat.zero_le _, rfl, rfl, HC0, HR0⟩
      case round =>
        clear HC0 HR0
        rename World => w2
        obtain ⟨j, C, a5, c5, hjl, rfl, rfl, HC, HR2⟩ := hrel
        obtain ⟨g, o, rfl, hg, q0⟩ := HYc.out w2 HR2.out.2
        have hyc : y.xs.length ≤ y.c := (HYi.out w2 HR2.out.2).le
        by_cases hlt2 : j < y.xs.length
        · obtain ⟨x, hx⟩ : ∃ x, y.xs[j]? = some x := ⟨_, List.getElem?_eq_getElem hlt2⟩
          obtain ⟨g3, o3, e3, hg3, q3⟩ := (HYi.out w2 HR2.out.2).cell hx
          obtain ⟨ya, hya⟩ : ∃ ya, y.a = ya := ⟨_, rfl⟩
          rw [hya] at e3 q0
          subst e3
          have HX := Lib.hid hx
          have HT : Hid ((y.xs.take (j + 1)).filter mayU = if mayU x = true then (y.xs.take j).filter mayU ++ [x] else (y.xs.take j).filter mayU) := filter_take hx
          obtain ⟨f, hf⟩ : ∃ f, mayU x = f := ⟨_, rfl⟩
          have HFx := Lib.hid (HF.out x f w2 hf)
          have HXi : Hid (I64 x) := (HYi.out w2 HR2.out.2).ok x (List.mem_of_getElem? hx)
          have hCl : C.length ≤ 1000 := by
            have h1 : C.length ≤ (y.xs.take j).length := by rw [HC.out]; exact List.length_filter_le _ _
            rw [List.length_take] at h1
            omega
          have HYa := Lib.hid hya
          rw [hf] at HT
          clear hx hf hya
          cases f with
          | false =>
            have HN : Hid (C = (y.xs.take (j + 1)).filter mayU) := by
              show _ = _
              rw [HT.out, if_neg (by decide)]
              exact HC.out
            go_wp2_with (first | (go_at_call 42; with_reducible refine HFx.out.mono ?_; rintro e w3 ⟨rfl, rfl⟩))
            go_roundw
            case rel => exact ⟨j + 1, C, a5, c5, by omega, by go_num, rfl, HN, HR2⟩
            case measure => simp [intOf]; omega
          | true =>
            have HN : Hid (C ++ [x] = (y.xs.take (j + 1)).filter mayU) := by
              show _ = _
              rw [HT.out, if_pos rfl, ← HC.out]
            have HRA : Hid (∀ o, RowO (w2.alloc o) wr.heap.size C (.slice a5 C.length c5)) := fun o => World.ownsRow.alloc HR2.out.1 o
            have HRs : Hid (∀ o, wr.heap.size ≤ (w2.alloc o).heap.size) := fun o => by
              have := HR2.out.2.size
              rw [World.size_alloc]
              omega
            have HRb : Hid (∀ o, Below wr.heap.size wr (w2.alloc o)) := fun o => HR2.out.2.alloc HR2.out.2.size _
            have HTok : Hid (∀ z ∈ C ++ [x], I64 z) := fun z hz => HOk.out (j + 1) z (by rw [← HN.out]; exact hz)
            go_wp2_with (first | (go_at_call 42; with_reducible refine HFx.out.mono ?_; rintro e w3 ⟨rfl, rfl⟩) | (at_builtin; refine wpList_appB rfl _ _ rfl rfl wr.heap.size _ C [x] _ 1 (by rfl) (by rfl) (HRA.out _) (HIn.out _ _ HXi.out) (HRs.out _) (by show (_ + 1) * 8 ≤ _; omega) ?_; intro v4 w4 hr4 hg4; have HB4 : Hid (Below wr.heap.size wr w4) := (HRb.out _).grown hg4 (HRs.out _) (fun k e => (own_lt HR2.out.1 e).1); obtain ⟨a4, c4, rfl, hi4⟩ := hr4.ints HTok.out; have HR4 := Lib.hid (And.intro hr4 HB4.out); clear hi4 hr4 hg4))
            go_roundw
            case rel => exact ⟨j + 1, C ++ [x], a4, c4, by omega, by go_num, by rw [List.length_append]; rfl, HN, HR4⟩
            case measure => simp [intOf]; omega
        · obtain rfl : j = y.xs.length := by omega
          have HC2 : Hid (C = y.xs.filter mayU) := by have := HC.out; rw [List.take_length] at this; exact this
          have hCl : C.length ≤ 1000 := by
            have h1 : C.length ≤ y.xs.length := by rw [HC2.out]; exact List.length_filter_le _ _
            omega
          obtain ⟨_, _, e5, hI5⟩ := HR2.out.1.ints (by have := HOk.out y.xs.length; rw [List.take_length, ← HC2.out] at this; exact this)
          cases e5
          have HMk := Lib.hid (RMake_any C a5 c5 w2 hI5 hCl)
          clear hI5
          have hMl : M.length ≤ 1000 := by have := HM.out.1; have := HL.out; omega
          go_wp2_with fail
          with_reducible refine HMk.out.mono ?_
          rintro e w3 ⟨m, a6, c6, rfl, hm, hmi, hmb, hmo⟩
          have HmF : Hid (MkF y.xs m) := mkF_of HC2.out hm
          have HW3 : Hid (Below wr.heap.size wr w3) := ball HR2.out.2 hmb
          have HmO : Hid (RowO w3 w.heap.size m (.slice a6 m.length c6)) := hmo.base (Nat.le_trans HO.out.2.2.size HR2.out.2.size)
          have HoA : Hid (RowsO w3 w.heap.size M (.slice a3 M.length c3)) := own_heap HO.out.1 (fun g _ hg => HW3.out.block g hg)
          have HoB : Hid (∀ y ∈ M, RowO w3 w.heap.size y.xs (rowV y)) := fun y hy => (HO.out.2.1 y hy).keep HW3.out
          have hW3 : w.heap.size ≤ w3.heap.size := Nat.le_trans HO.out.2.2.size HW3.out.size
          have hown := HoA.out
          clear hm hmi hmb hmo
          go_wp2_with (first | (at_builtin; refine wpList_append_lies _ rfl _ _ 22 rfl w.heap.size 23 i1 _ 1 24 Tryd.underlying22 hi_ hz0 hz1 hz2 rfl (by decide) (Value.slice a3 M.length c3) M.length (M.map rowV) (by rfl) (World.ownsRow.alloc hown _) ⟨w3.heap.size, 0, none⟩ 1 1 [rowV ⟨m, a6, c6⟩] (by rfl) rfl (World.news_of_block (B := w3.heap.size) (cs := #[rowV ⟨m, a6, c6⟩]) (t := 23) (fr := (0, 0)) (heap_alloc_new w3 _)) (by simp [Value.oneCell', rowV]) (by omega) (by simp only [maxLen]; omega) (by omega) (by simp; omega) _ rfl ?_; intro g9 c9 w9 hown9 hgrow9 hat9 hlt9; have hLen : M.length + 1 = (M ++ [(⟨m, a6, c6⟩ : RowD)]).length := (by simp); have HLen := Lib.hid hLen; have hR9 : RowsO w9 w.heap.size (M ++ [(⟨m, a6, c6⟩ : RowD)]) (.slice (some ⟨g9, 0, none⟩) (M ++ [(⟨m, a6, c6⟩ : RowD)]).length c9) := (by unfold RowsO; rw [← HLen.out, List.map_append]; exact hown9); have hB9 : Below w.heap.size w w9 := ((HO.out.2.2.trans (HW3.out.mono HO.out.2.2.size)).alloc hW3 (.cells #[rowV ⟨m, a6, c6⟩] 23)).grown hgrow9 (by simp; omega) (fun k e => (own_lt hown e).1); have hk9 : ∀ y, RowO w3 w.heap.size y.xs (rowV y) → RowO w9 w.heap.size y.xs (rowV y) := (fun y hy => World.ownsRow.kept (World.ownsRow.alloc hy _) hgrow9 (own_ne hy hown (by decide))); have HO9 : Hid (RowsO w9 w.heap.size (M ++ [(⟨m, a6, c6⟩ : RowD)]) (.slice (some ⟨g9, 0, none⟩) (M ++ [(⟨m, a6, c6⟩ : RowD)]).length c9) ∧ (∀ y ∈ M ++ [(⟨m, a6, c6⟩ : RowD)], RowO w9 w.heap.size y.xs (rowV y)) ∧ Below w.heap.size w w9) := ⟨hR9, fun y hy => ((List.mem_append.1 hy).elim (fun h => hk9 y (HoB.out y h)) (fun h => by rw [List.mem_singleton.1 h]; exact hk9 ⟨m, a6, c6⟩ HmO.out)), hB9⟩; clear hown9 hgrow9 hat9 hlt9 hR9 hB9 hLen hk9))
          have HM9 : Hid (PlP rs (M ++ [(⟨m, a6, c6⟩ : RowD)]) (k + 1)) := HM.out.step HY.out HmF.out
          clear hown hW3 hMl hCl hlt2 hjl
          go_roundw
          case rel => exact ⟨k + 1, M ++ [⟨m, a6, c6⟩], some ⟨g9, 0, none⟩, c9, by omega, by go_num, by rw [← HLen.out], HM9, HO9⟩
          case measure => simp [intOf]; omega
    · obtain rfl : k = rs.length := by omega
      have HE : Hid (RowsR wr M a3 c3) := HO.out.1.rows (fun y hy => by
        have hok : ∀ z ∈ y.xs, I64 z := fun z hz => by
          obtain ⟨j, hj⟩ := List.getElem?_of_mem hy
          have hjl : j < rs.length := by rw [← HM.out.1]; exact (List.getElem?_eq_some_iff.1 hj).1
          have := mayU_iff.1 (((HM.out.2 j _ y (List.getElem?_eq_getElem hjl) hj).1 z).1 hz).2
          exact ⟨by omega, by omega⟩
        obtain ⟨_, _, e, h⟩ := (HO.out.2.1 y hy).ints hok
        cases e
        exact h)
      go_wp2_with fail
      go_ret
      exact ⟨M, a3, c3, rfl, HM.out, HE.out, HO.out.2.2⟩
end Go.Proofs.YtggighikemhnfaaDoor.Tm
namespace Go.Proofs.YtggighikemhnfaaDoor.Tm
open Go.RowKit Go.Lib
set_option linter.unusedVariables false
theorem fal_iff {ps xs m : List Int} (h : MkF xs m) : FalC ps xs ↔ FalC ps m := by
  refine ⟨fun g x hx => g x ((h.1 x).1 hx).1, fun g x hx => ?_⟩
  by_cases hm : mayU x = true
  · exact g x ((h.1 x).2 ⟨hx, hm⟩)
  · unfold valL; rw [if_neg hm]
theorem uni_iff {ps xs m : List Int} {y : Int} (h : MkF xs m) : UniC ps xs y ↔ UniC ps m y := by
  refine ⟨fun ⟨g1, g2, g3⟩ => ⟨(h.1 y).2 ⟨g1, valL_may (by rw [g2]; decide)⟩, g2, fun x hx => g3 x ((h.1 x).1 hx).1⟩, fun ⟨g1, g2, g3⟩ => ⟨((h.1 y).1 g1).1, g2, fun x hx => ?_⟩⟩
  by_cases hm : mayU x = true
  · exact g3 x ((h.1 x).2 ⟨hx, hm⟩)
  · exact .inl (by unfold valL; rw [if_neg hm])
theorem rv_val {ps xs m : List Int} (h : MkF xs m) (hp : PsI ps) {x : Int} (hx : x ∈ m) : rvM (vL ps) x = valL ps x := valM_vL ((h.1 x).1 hx).2 hp.cons
theorem mem_op {ps xs m : List Int} (h : MkF xs m) (hp : PsI ps) {x : Int} : x ∈ opF (vL ps) m ↔ x ∈ m ∧ valL ps x = 0 := by
  unfold opF
  rw [List.mem_filter]
  refine ⟨fun ⟨h1, h2⟩ => ⟨h1, by rw [← rv_val h hp h1]; simpa using h2⟩, fun ⟨h1, h2⟩ => ⟨h1, by rw [rv_val h hp h1, h2]; rfl⟩⟩
theorem st_fal {ps xs m : List Int} (h : MkF xs m) (hp : PsI ps) {s l : Int} (hs : StP (vL ps) m s l) : FalC ps xs ↔ s = 1 := by
  rw [fal_iff h]
  rcases hs with ⟨rfl, x, hx, h1⟩ | ⟨hn, ⟨rfl, ho⟩ | ⟨rfl, ho⟩ | ⟨rfl, ho⟩⟩
  · refine ⟨fun g => ?_, fun g => by cases g⟩
    rw [rv_val h hp hx, g x hx] at h1; cases h1
  · refine ⟨fun _ => rfl, fun _ x hx => ?_⟩
    rcases valL_cases ps x with e | e | e
    · have := (mem_op h hp).2 ⟨hx, e⟩
      rw [ho] at this; cases this
    · exact absurd (by rw [rv_val h hp hx]; exact e) (hn x hx)
    · exact e
  · refine ⟨fun g => ?_, fun g => by cases g⟩
    have h2 := (mem_op h hp (x := l)).1 (by rw [ho]; simp)
    rw [g l h2.1] at h2; cases h2.2
  · refine ⟨fun g => ?_, fun g => by cases g⟩
    obtain ⟨x, hx⟩ := List.exists_mem_of_length_pos (show 0 < (opF (vL ps) m).length by omega)
    have h2 := (mem_op h hp).1 hx
    rw [g x h2.1] at h2; cases h2.2
theorem st_uni {ps xs m : List Int} (h : MkF xs m) (hp : PsI ps) {l : Int} (hs : StP (vL ps) m 2 l) : UniC ps xs l := by
  rw [uni_iff h]
  rcases hs with ⟨e, _⟩ | ⟨hn, ⟨e, ho⟩ | ⟨_, ho⟩ | ⟨e, ho⟩⟩
  · cases e
  · cases e
  · have h2 := (mem_op h hp (x := l)).1 (by rw [ho]; simp)
    refine ⟨h2.1, h2.2, fun x hx => ?_⟩
    rcases valL_cases ps x with e | e | e
    · have := (mem_op h hp).2 ⟨hx, e⟩
      rw [ho] at this
      exact .inr (by simpa using this)
    · exact absurd (by rw [rv_val h hp hx]; exact e) (hn x hx)
    · exact .inl e
  · cases e
theorem st_nouni {ps xs m : List Int} (h : MkF xs m) (hp : PsI ps) {s l : Int} (hs : StP (vL ps) m s l) (h2 : s ≠ 2) (z : Int) : ¬ UniC ps xs z := by
  rw [uni_iff h]
  rintro ⟨g1, g2, g3⟩
  rcases hs with ⟨e, x, hx, h1⟩ | ⟨hn, ⟨e, ho⟩ | ⟨e, _⟩ | ⟨e, ho⟩⟩
  · rw [rv_val h hp hx] at h1
    rcases g3 x hx with g | g
    · rw [h1] at g; cases g
    · rw [g, g2] at h1; cases h1
  · have := (mem_op h hp).2 ⟨g1, g2⟩
    rw [ho] at this; cases this
  · exact h2 e
  · have hnd : (opF (vL ps) m).Nodup := h.2.filter _
    have := nodup_sub _ [z] hnd (fun x hx => by
      have hx2 := (mem_op h hp).1 hx
      rcases g3 x hx2.1 with g | g
      · rw [hx2.2] at g; cases g
      · rw [g]; simp)
    simp at this
    omega
def PlC (cls : List (List Int)) (M : List RowD) : Prop := M.length = cls.length ∧ ∀ (j : Nat) (c : List Int) (m : RowD), cls[j]? = some c → M[j]? = some m → MkF c m.xs
theorem PlC.get {cls : List (List Int)} {M : List RowD} (h : PlC cls M) {j : Nat} {c : List Int} (hc : cls[j]? = some c) : ∃ m, M[j]? = some m ∧ MkF c m.xs := by
  have hj : j < M.length := by rw [h.1]; exact (List.getElem?_eq_some_iff.1 hc).1
  exact ⟨M[j], List.getElem?_eq_getElem hj, h.2 j c _ hc (List.getElem?_eq_getElem hj)⟩
theorem PlC.got {cls : List (List Int)} {M : List RowD} (h : PlC cls M) {j : Nat} {m : RowD} (hm : M[j]? = some m) : ∃ c, cls[j]? = some c ∧ MkF c m.xs := by
  have hj : j < cls.length := by rw [← h.1]; exact (List.getElem?_eq_some_iff.1 hm).1
  exact ⟨cls[j], List.getElem?_eq_getElem hj, h.2 j _ m (List.getElem?_eq_getElem hj) hm⟩
theorem fi_conf {cls : List (List Int)} {M : List RowD} {ps : List Int} {i l : Int} (h : PlC cls M) (hp : PsI ps) (hf : FiP (vL ps) M 1 i l) (hi : 0 ≤ i) : RunsD cls ps ps i := by
  rcases hf with ⟨k, rfl, ⟨y, hy, hs⟩, hb⟩ | ⟨rfl, _⟩
  · obtain ⟨c, hc, hm⟩ := h.got hy
    refine .conf hc ((st_fal hm hp hs).2 rfl) (fun j d hj hd hF => ?_)
    obtain ⟨m, hm2, hmf⟩ := h.get hd
    obtain ⟨s, l', h1, h2⟩ := hb j m hj hm2
    exact h2 ((st_fal hmf hp h1).1 hF)
  · omega
theorem fi_noconf {cls : List (List Int)} {M : List RowD} {ps : List Int} {i l : Int} (h : PlC cls M) (hp : PsI ps) (hf : FiP (vL ps) M 1 i l) (hi : i < 0) : ∀ (j : Nat) (d : List Int), cls[j]? = some d → ¬ FalC ps d := by
  rcases hf with ⟨k, rfl, _⟩ | ⟨rfl, _, hb⟩
  · omega
  · intro j d hd hF
    obtain ⟨m, hm2, hmf⟩ := h.get hd
    obtain ⟨s, l', h1, h2⟩ := hb j m hm2
    exact h2 ((st_fal hmf hp h1).1 hF)
theorem fi_done {cls : List (List Int)} {M : List RowD} {ps : List Int} {i l : Int} (h : PlC cls M) (hp : PsI ps) (hn : ∀ (j : Nat) (d : List Int), cls[j]? = some d → ¬ FalC ps d) (hf : FiP (vL ps) M 2 i l) (hi : i < 0) : RunsD cls ps ps (-1) := by
  rcases hf with ⟨k, rfl, _⟩ | ⟨rfl, _, hb⟩
  · omega
  · refine .done hn (fun j d hd z => ?_)
    obtain ⟨m, hm2, hmf⟩ := h.get hd
    obtain ⟨s, l', h1, h2⟩ := hb j m hm2
    exact st_nouni hmf hp h1 h2 z
theorem fi_put {cls : List (List Int)} {M : List RowD} {ps : List Int} {i l : Int} (h : PlC cls M) (hp : PsI ps) (hn : ∀ (j : Nat) (d : List Int), cls[j]? = some d → ¬ FalC ps d) (hf : FiP (vL ps) M 2 i l) (hi : 0 ≤ i) : valL ps l = 0 ∧ opens cls (ps ++ [l]) < opens cls ps ∧ ∀ r e, RunsD cls (ps ++ [l]) r e → RunsD cls ps r e := by
  rcases hf with ⟨k, rfl, ⟨y, hy, hs⟩, hb⟩ | ⟨rfl, _⟩
  · obtain ⟨c, hc, hm⟩ := h.got hy
    have hU := st_uni hm hp hs
    refine ⟨hU.2.1, opens_lt hc hU.1 hU.2.1, fun r e hr => .put hn hc hU (fun j d hj hd z => ?_) hr⟩
    obtain ⟨m, hm2, hmf⟩ := h.get hd
    obtain ⟨s, l', h1, h2⟩ := hb j m hj hm2
    exact st_nouni hmf hp h1 h2 z
  · omega
theorem PsI.len {ps : List Int} (h : PsI ps) : ps.length ≤ 1048577 := by
  have := nodup_sub ps ((List.range 1048577).map (fun (n : Nat) => (n : Int))) h.nodup (fun x hx => by
    have h0 := mayU_iff.1 (h.may x hx)
    exact List.mem_map.2 ⟨x.toNat, List.mem_range.2 (by omega), by omega⟩)
  rw [List.length_map, List.length_range] at this
  exact this
theorem plc_of {rs M : List RowD} {cls : List (List Int)} (h : PlP rs M rs.length) (hc : rs.map (·.xs) = cls) : PlC cls M := by
  refine ⟨by rw [h.1, ← hc, List.length_map], fun j c m h1 h2 => ?_⟩
  rw [← hc, List.getElem?_map] at h1
  cases hr : rs[j]? with
  | none => rw [hr] at h1; cases h1
  | some y =>
    rw [hr] at h1
    cases h1
    exact h.2 j y m hr h2
end Go.Proofs.YtggighikemhnfaaDoor.Tm
