/- ref15's Is; what is put holds wherever the clauses do. -/
import Derived.Test.YtggighikemhnfaaDoorZUoM
namespace Go.Proofs.YtggighikemhnfaaDoor.Tm
open Go.RowKit Go.Lib
set_option linter.unusedVariables false
theorem IntsR.dropAt {w : World} {xs : List Int} {g o c : Nat} (h : IntsR w xs (some ⟨g, o, none⟩) c) (k : Nat) (hk : k ≤ xs.length) : IntsR w (xs.drop k) (some ⟨g, o + k, none⟩) (c - k) := by
  refine ⟨by have := h.le; rw [List.length_drop]; omega, by have := h.cap; omega, fun h0 => ?_, fun x hx => h.ok x (List.mem_of_mem_drop hx)⟩
  obtain ⟨g', o', e, h1, h2⟩ := h.tat (by rw [List.length_map, List.length_drop] at h0; rw [List.length_map]; omega)
  cases e
  refine ⟨g, o + k, rfl, h1, fun i v hv => ?_⟩
  rw [List.map_drop, List.getElem?_drop] at hv
  rw [Nat.add_assoc]
  exact h2 (k + i) v hv
def MkP (xs : List Int) (k : Nat) (O : List Int) : Prop := (∀ y, y ∈ O ↔ ∃ j : Nat, j < k ∧ xs[j]? = some y ∧ 0 ≤ y) ∧ O.Nodup ∧ O.length ≤ k
theorem MkP.skip {xs O : List Int} {k : Nat} {x : Int} (h : MkP xs k O) (hx : xs[k]? = some x) (hs : x < 0 ∨ x ∈ O) : MkP xs (k + 1) O := by
  refine ⟨fun y => (h.1 y).trans ⟨fun ⟨j, a, b⟩ => ⟨j, by omega, b⟩, fun ⟨j, h1, h2, h3⟩ => ?_⟩, h.2.1, by have := h.2.2; omega⟩
  by_cases e : j = k
  · subst e
    rw [hx] at h2
    cases h2
    rcases hs with hs | hs
    · omega
    · exact (h.1 _).1 hs
  · exact ⟨j, by omega, h2, h3⟩
theorem MkP.put {xs O : List Int} {k : Nat} {x : Int} (h : MkP xs k O) (hx : xs[k]? = some x) (h0 : 0 ≤ x) (hn : x ∉ O) (j : Nat) : MkP xs (k + 1) (O.take j ++ [x] ++ O.drop j) := by
  have hm : ∀ y, y ∈ O.take j ++ [x] ++ O.drop j ↔ y = x ∨ y ∈ O := fun y => by
    have : y ∈ O ↔ y ∈ O.take j ∨ y ∈ O.drop j := by rw [← List.mem_append, List.take_append_drop]
    rw [this, List.mem_append, List.mem_append, List.mem_singleton]
    constructor <;> rintro (h | h) <;> first | exact .inl h | exact .inr h | (rcases h with h | h <;> simp [h]) | simp [h]
  refine ⟨fun y => (hm y).trans ⟨?_, ?_⟩, ?_, ?_⟩
  · rintro (rfl | h1)
    · exact ⟨k, by omega, hx, h0⟩
    · obtain ⟨i, a, b⟩ := (h.1 y).1 h1
      exact ⟨i, by omega, b⟩
  · rintro ⟨i, h1, h2, h3⟩
    by_cases e : i = k
    · subst e
      rw [hx] at h2
      cases h2
      exact .inl rfl
    · exact .inr ((h.1 y).2 ⟨i, by omega, h2, h3⟩)
  · have h1 : (O.take j ++ O.drop j).Nodup := by rw [List.take_append_drop]; exact h.2.1
    have h2 := List.nodup_append.1 h1
    have e : O.take j ++ [x] ++ O.drop j = O.take j ++ (x :: O.drop j) := by simp
    rw [e]
    refine List.nodup_append.2 ⟨h2.1, List.nodup_cons.2 ⟨fun h3 => hn (List.mem_of_mem_drop h3), h2.2.1⟩, fun a ha b hb => ?_⟩
    rcases List.mem_cons.1 hb with rfl | hb
    · exact fun e => hn (by rw [← e]; exact List.mem_of_mem_take ha)
    · exact h2.2.2 a ha b hb
  · have := h.2.2
    simp [List.length_take, List.length_drop]
    omega
set_option maxRecDepth 100000 in
set_option maxHeartbeats 4000000 in
theorem RMake_any (xs : List Int) (a : Option Addr) (c : Nat) (w : World) (hA : IntsR w xs a c) (hl : xs.length ≤ 1000) :
    Calls Tryd.prog 64 #[.slice a xs.length c] w fun e w' => ∃ M a' c', e = .returned (.slice a' M.length c') ∧ MkP xs xs.length M ∧ IntsR w' M a' c' ∧ Below w.heap.size w w' ∧ RowO w' w.heap.size M (.slice a' M.length c') := by
  have HA : Hid (∀ V, Below w.heap.size w V → IntsR V xs a c) := fun V hV => hA.below hV
  have HL := Lib.hid hl
  have HOk : Hid (∀ k O, MkP xs k O → ∀ y ∈ O, I64 y) := fun k O hM y hy => by
    obtain ⟨j, _, h, _⟩ := (hM.1 y).1 hy
    exact hA.ok y (List.mem_of_getElem? h)
  have l1 : xs.length ≤ c := hA.le
  have c1 : xs.length ≤ 9223372036854775807 := by omega
  have HM0 : Hid (MkP xs 0 []) := ⟨fun y => ⟨fun h => (by cases h), fun ⟨j, h, _⟩ => absurd h (by omega)⟩, List.nodup_nil, Nat.le_refl _⟩
  have HO0 : Hid (RowO w w.heap.size [] (.slice none 0 0) ∧ Below w.heap.size w w) := ⟨⟨rfl, .inl ⟨rfl, rfl⟩⟩, Below.refl _ _⟩
  clear hA hl
  go_enter Tryd.func64, Tryd.ntmps64
  go_wp2
  go_loopw [3, 4] (fun v iv wr => ∃ (k : Nat) (O : List Int) (a3 : Option Addr) (c3 : Nat), k ≤ xs.length ∧ iv = .int .i64 k ∧ v = .slice a3 O.length c3 ∧ Hid (MkP xs k O) ∧ Hid (RowO wr w.heap.size O (.slice a3 O.length c3) ∧ Below w.heap.size w wr)) (fun _ iv _ => xs.length - (intOf iv).toNat)
  case atStart => exact ⟨0, [], none, 0, Nat.zero_le _, rfl, rfl, HM0, HO0⟩
  case round =>
    clear HM0 HO0
    obtain ⟨k, O, a3, c3, hkl, rfl, rfl, HM, HO⟩ := hrel
    by_cases hlt : k < xs.length
    · obtain ⟨x, hx⟩ : ∃ x, xs[k]? = some x := ⟨_, List.getElem?_eq_getElem hlt⟩
      obtain ⟨g, o, rfl, hg, q0⟩ := (HA.out wr HO.out.2).cell hx
      have HX := Lib.hid hx
      clear hx
      by_cases h0 : x < 0
      · have d0 : decide (x < 0) = true := decide_eq_true h0
        have HN : Hid (MkP xs (k + 1) O) := HM.out.skip HX.out (.inl h0)
        clear h0
        go_wp2_with fail
        go_roundw
        case rel => exact ⟨k + 1, O, a3, c3, by omega, by go_num, rfl, HN, HO⟩
        case measure => simp [intOf]; omega
      · have d0 : decide (x < 0) = false := decide_eq_false h0
        have HX0 : Hid (0 ≤ x) := by show _ ≤ _; omega
        obtain ⟨_, _, e3, HI3⟩ := HO.out.1.ints (HOk.out k O HM.out)
        cases e3
        have HH := Lib.hid (has_any O a3 c3 x wr HI3)
        have HIo : Hid (∀ V, Below wr.heap.size wr V → IntsR V O a3 c3) := fun V hV => HI3.below hV
        have hO1 : O.length ≤ 1000 := by have := HM.out.2.2; have := HL.out; omega
        have hO3 : O.length ≤ c3 := HI3.le
        have hc3 : c3 ≤ 9223372036854775807 := by have := HI3.cap; simp only [maxLen] at this; omega
        obtain ⟨q, hq⟩ : ∃ q, decide (x ∈ O) = q := ⟨_, rfl⟩
        rw [hq] at HH
        have HQ := Lib.hid hq
        clear hq h0 HI3
        cases q with
        | true =>
          have HN : Hid (MkP xs (k + 1) O) := HM.out.skip HX.out (.inr (of_decide_eq_true HQ.out))
          go_wp2_with (first | (go_at_call 75; with_reducible refine HH.out.mono ?_; rintro e w1 ⟨rfl, rfl⟩))
          go_roundw
          case rel => exact ⟨k + 1, O, a3, c3, by omega, by go_num, rfl, HN, HO⟩
          case measure => simp [intOf]; omega
        | false =>
          have HN : Hid (∀ j, MkP xs (k + 1) (O.take j ++ [x] ++ O.drop j)) := fun j => HM.out.put HX.out HX0.out (of_decide_eq_false HQ.out) j
          go_wp2_with (first | (go_at_call 75; with_reducible refine HH.out.mono ?_; rintro e w1 ⟨rfl, rfl⟩))
          have HR0 : Hid (RowO wr wr.heap.size (O.take 0) (.slice none 0 0) ∧ Below wr.heap.size wr wr) := ⟨⟨rfl, .inl ⟨rfl, rfl⟩⟩, Below.refl _ _⟩
          have HIn : Hid (∀ (V : World) (y : Int), I64 y → IntsR (V.alloc (.cells #[.int .i64 y] 3)) [y] (some ⟨V.heap.size, 0, none⟩) 1) := fun V y hy => ints_row (heap_alloc_new V _) (fun z hz => by rw [show z = y by simpa using hz]; exact hy) (by simp)
          have HXi : Hid (I64 x) := (HA.out wr HO.out.2).ok x (List.mem_of_getElem? HX.out)
          have HN4 : Hid (∀ j, ∀ z ∈ O.take j ++ [x], I64 z) := fun j z hz => by
            rcases List.mem_append.1 hz with h | h
            · exact HOk.out k O HM.out z (List.mem_of_mem_take h)
            · rw [List.mem_singleton.1 h]; exact HXi.out
          have HBb : Hid (∀ V, Below wr.heap.size wr V → Below w.heap.size w V) := fun V hV => ball HO.out.2 hV
          go_loopw [5, 6] (fun v kv w2 => ∃ (j : Nat) (a5 : Option Addr) (c5 : Nat), j ≤ O.length ∧ kv = .int .i64 j ∧ v = .slice a5 j c5 ∧ Hid (RowO w2 wr.heap.size (O.take j) (.slice a5 j c5) ∧ Below wr.heap.size wr w2)) (fun _ kv _ => O.length - (intOf kv).toNat)
          case atStart => exact ⟨0, none, 0, Nat.zero_le _, rfl, rfl, HR0⟩
          case round =>
            clear HR0 q0 hg
            rename World => w2
            obtain ⟨j, a5, c5, hjl, rfl, rfl, HR2⟩ := hrel
            obtain ⟨_, _, ex, hg, q0⟩ := (HA.out w2 (HBb.out _ HR2.out.2)).cell HX.out
            cases ex
            by_cases hlt2 : j < O.length
            · obtain ⟨y, hy⟩ : ∃ y, O[j]? = some y := ⟨_, List.getElem?_eq_getElem hlt2⟩
              obtain ⟨g3, o3, rfl, hg3, q3⟩ := (HIo.out w2 HR2.out.2).cell hy
              have HY := Lib.hid hy
              clear hy
              by_cases hyx : y < x
              · have d2 : decide (y < x) = true := decide_eq_true hyx
                have HT : Hid (O.take (j + 1) = O.take j ++ [y]) := by show _ = _; rw [List.take_add_one, HY.out]; rfl
                have hlt3 : (O.take j).length = j := by rw [List.length_take]; omega
                have HT3 := Lib.hid hlt3
                have HRA : Hid (∀ n o, RowO ((w2.drewN n).alloc o) wr.heap.size (O.take j) (.slice a5 j c5)) := fun n o => HR2.out.1.keep ((below_drewN (Below.refl _ w2)).alloc (Nat.le_refl _) o)
                have HRs : Hid (∀ n o, wr.heap.size ≤ ((w2.drewN n).alloc o).heap.size) := fun n o => by
                  have := HR2.out.2.size
                  rw [World.size_alloc]
                  show _ ≤ w2.heap.size + 1
                  omega
                have HRb : Hid (∀ n o, Below wr.heap.size wr ((w2.drewN n).alloc o)) := fun n o => (below_drewN HR2.out.2).alloc HR2.out.2.size _
                clear hlt3
                have HYi : Hid (I64 y) := HOk.out k O HM.out y (List.mem_of_getElem? HY.out)
                have HTok : Hid (∀ z ∈ O.take (j + 1), I64 z) := fun z hz => HOk.out k O HM.out z (List.mem_of_mem_take hz)
                clear hyx
                go_wp2_with fail
                go_quiet (fail)
                go_wp2_with (first | (at_builtin; refine wpList_appB rfl _ _ rfl rfl wr.heap.size _ (O.take j) [y] _ 1 (by rfl) (by rfl) (HRA.out _ _) (HIn.out _ _ HYi.out) (HRs.out _ _) (by rw [HT3.out]; show (_ + 1) * 8 ≤ _; omega) ?_; intro v4 w4 hr4 hg4; have HB4 : Hid (Below wr.heap.size wr w4) := (HRb.out _ _).grown hg4 (HRs.out _ _) (fun k e => (own_lt HR2.out.1 e).1); rw [← HT.out] at hr4; obtain ⟨a4, c4, rfl, hi4⟩ := hr4.ints HTok.out; have HR4 := Lib.hid (And.intro hr4 HB4.out); have hl4 : (O.take (j + 1)).length = j + 1 := (by rw [List.length_take]; omega); rw [hl4] at HR4 ⊢; clear hl4 hi4; clear hr4 hg4))
                go_roundw
                case rel => exact ⟨j + 1, a4, c4, by omega, by go_num, rfl, HR4⟩
                case measure => simp [intOf]; omega
              · have d2 : decide (y < x) = false := decide_eq_false hyx
                clear hyx
                have hlt3 : (O.take j).length = j := by rw [List.length_take]; omega
                have HT3 := Lib.hid hlt3
                have HRA : Hid (∀ n o, RowO ((w2.drewN n).alloc o) wr.heap.size (O.take j) (.slice a5 j c5)) := fun n o => HR2.out.1.keep ((below_drewN (Below.refl _ w2)).alloc (Nat.le_refl _) o)
                have HRs : Hid (∀ n o, wr.heap.size ≤ ((w2.drewN n).alloc o).heap.size) := fun n o => by
                  have := HR2.out.2.size
                  rw [World.size_alloc]
                  show _ ≤ w2.heap.size + 1
                  omega
                have HRb : Hid (∀ n o, Below wr.heap.size wr ((w2.drewN n).alloc o)) := fun n o => (below_drewN HR2.out.2).alloc HR2.out.2.size _
                clear hlt3
                go_wp2_with fail
                go_quiet (fail)
                go_wp2_with (first | (at_builtin; refine wpList_appB rfl _ _ rfl rfl wr.heap.size _ (O.take j) [x] _ 1 (by rfl) (by rfl) (HRA.out _ _) (HIn.out _ _ HXi.out) (HRs.out _ _) (by rw [HT3.out]; show (_ + 1) * 8 ≤ _; omega) ?_; intro v4 w4 hr4 hg4; have HB4 : Hid (Below wr.heap.size wr w4) := (HRb.out _ _).grown hg4 (HRs.out _ _) (fun k e => (own_lt HR2.out.1 e).1); obtain ⟨a4, c4, rfl, hi4⟩ := hr4.ints (HN4.out j); have HR4 := Lib.hid hr4; have hl4 : (O.take j ++ [x]).length = j + 1 := (by rw [List.length_append, HT3.out]; rfl); rw [hl4] at HR4 ⊢; clear hl4 hi4; clear hr4 hg4) | (at_builtin; refine wpList_appB rfl _ _ rfl rfl wr.heap.size _ (O.take j ++ [x]) (O.drop j) (some ⟨g3, o3 + j, none⟩) (c3 - j) (by rfl) (by rw [List.length_drop]; rfl) HR4.out ((HIo.out _ HB4.out).dropAt j (by omega)) HB4.out.size (by simp [List.length_take, List.length_drop]; omega) ?_; intro v5 w5 hr5 hg5; have HB5 : Hid (Below wr.heap.size wr w5) := HB4.out.grown hg5 HB4.out.size (fun k e => (own_lt HR4.out e).1); obtain ⟨a6, c6, rfl, hi6⟩ := hr5.ints (HOk.out (k + 1) _ (HN.out j)); have HR5 := Lib.hid (And.intro (hr5.base HO.out.2.size) (HBb.out _ HB5.out)); clear hr5 hg5 hi6))
                go_roundw
                case rel => exact ⟨k + 1, _, a6, c6, by omega, by go_num, congrArg (fun n => Value.slice a6 n c6) (by simp only [List.length_append, List.length_take, List.length_drop, List.length_singleton]; omega), HN.out j, HR5⟩
                case measure => simp [intOf]; omega
            · have hjO : j = O.length := by omega
              have HN5 : Hid (MkP xs (k + 1) (O.take j ++ [x] ++ [])) := by
                have := HN.out j
                rw [List.drop_eq_nil_of_le (by omega)] at this
                exact this
              rcases HO.out.1.2 with ⟨e, h0⟩ | ⟨g3, cap, cur, e, _⟩
              · injection e with e1 e2 e3
                obtain rfl : O = [] := List.eq_nil_of_length_eq_zero e2
                obtain rfl : j = 0 := by rw [hjO]; rfl
                subst e1
                subst e3
                clear e2 h0 hjO hlt2
                have hlt3 : (([] : List Int).take 0).length = 0 := by rw [List.length_take]; omega
                have HT3 := Lib.hid hlt3
                have HRA : Hid (∀ n o, RowO ((w2.drewN n).alloc o) wr.heap.size (([] : List Int).take 0) (.slice a5 0 c5)) := fun n o => HR2.out.1.keep ((below_drewN (Below.refl _ w2)).alloc (Nat.le_refl _) o)
                have HRs : Hid (∀ n o, wr.heap.size ≤ ((w2.drewN n).alloc o).heap.size) := fun n o => by
                  have := HR2.out.2.size
                  rw [World.size_alloc]
                  show _ ≤ w2.heap.size + 1
                  omega
                have HRb : Hid (∀ n o, Below wr.heap.size wr ((w2.drewN n).alloc o)) := fun n o => (below_drewN HR2.out.2).alloc HR2.out.2.size _
                clear hlt3
                go_wp2_with fail
                go_quiet (fail)
                go_wp2_with (first | (at_builtin; refine wpList_appB rfl _ _ rfl rfl wr.heap.size _ (([] : List Int).take 0) [x] _ 1 (by rfl) (by rfl) (HRA.out _ _) (HIn.out _ _ HXi.out) (HRs.out _ _) (by rw [HT3.out]; show (_ + 1) * 8 ≤ _; omega) ?_; intro v4 w4 hr4 hg4; have HB4 : Hid (Below wr.heap.size wr w4) := (HRb.out _ _).grown hg4 (HRs.out _ _) (fun k e => (own_lt HR2.out.1 e).1); obtain ⟨a4, c4, rfl, hi4⟩ := hr4.ints (HN4.out 0); have HR4 := Lib.hid hr4; have hl4 : (([] : List Int).take 0 ++ [x]).length = 0 + 1 := (by rw [List.length_append, HT3.out]; rfl); rw [hl4] at HR4 ⊢; clear hl4 hi4; clear hr4 hg4) | (at_builtin; refine wpList_appB rfl _ _ rfl rfl wr.heap.size _ (([] : List Int).take 0 ++ [x]) [] _ _ (by rfl) (by first | rfl | (simp; rfl)) HR4.out ⟨Nat.zero_le _, by simp only [maxLen]; omega, fun h => absurd h (by simp), fun y hy => by cases hy⟩ HB4.out.size (by simp only [List.length_append, HT3.out, List.length_singleton, List.length_nil]; omega) ?_; intro v5 w5 hr5 hg5; have HB5 : Hid (Below wr.heap.size wr w5) := HB4.out.grown hg5 HB4.out.size (fun k e => (own_lt HR4.out e).1); obtain ⟨a6, c6, rfl, hi6⟩ := hr5.ints (HOk.out (k + 1) _ (HN5.out)); have HR5 := Lib.hid (And.intro (hr5.base HO.out.2.size) (HBb.out _ HB5.out)); clear hr5 hg5 hi6))
                go_roundw
                case rel => exact ⟨k + 1, _, a6, c6, by omega, by go_num, congrArg (fun n => Value.slice a6 n c6) (by rw [List.length_append, List.length_append, HT3.out]; rfl), HN5.out, HR5⟩
                case measure => simp [intOf]; omega
              · cases e
                by_cases hjc : O.length = c3
                · subst hjc
                  subst hjO
                  have hlt3 : (O.take O.length).length = O.length := by rw [List.length_take]; omega
                  have HT3 := Lib.hid hlt3
                  have HRA : Hid (∀ n o, RowO ((w2.drewN n).alloc o) wr.heap.size (O.take O.length) (.slice a5 O.length c5)) := fun n o => HR2.out.1.keep ((below_drewN (Below.refl _ w2)).alloc (Nat.le_refl _) o)
                  have HRs : Hid (∀ n o, wr.heap.size ≤ ((w2.drewN n).alloc o).heap.size) := fun n o => by
                    have := HR2.out.2.size
                    rw [World.size_alloc]
                    show _ ≤ w2.heap.size + 1
                    omega
                  have HRb : Hid (∀ n o, Below wr.heap.size wr ((w2.drewN n).alloc o)) := fun n o => (below_drewN HR2.out.2).alloc HR2.out.2.size _
                  clear hlt3
                  go_wp2_with fail
                  go_quiet (fail)
                  go_wp2_with (first | (at_builtin; refine wpList_appB rfl _ _ rfl rfl wr.heap.size _ (O.take O.length) [x] _ 1 (by rfl) (by rfl) (HRA.out _ _) (HIn.out _ _ HXi.out) (HRs.out _ _) (by rw [HT3.out]; show (_ + 1) * 8 ≤ _; omega) ?_; intro v4 w4 hr4 hg4; have HB4 : Hid (Below wr.heap.size wr w4) := (HRb.out _ _).grown hg4 (HRs.out _ _) (fun k e => (own_lt HR2.out.1 e).1); obtain ⟨a4, c4, rfl, hi4⟩ := hr4.ints (HN4.out O.length); have HR4 := Lib.hid hr4; have hl4 : (O.take O.length ++ [x]).length = O.length + 1 := (by rw [List.length_append, HT3.out]; rfl); rw [hl4] at HR4 ⊢; clear hl4 hi4; clear hr4 hg4) | (at_builtin; refine wpList_appB rfl _ _ rfl rfl wr.heap.size _ (O.take O.length ++ [x]) [] _ _ (by rfl) (by first | rfl | (simp; rfl)) HR4.out ⟨Nat.zero_le _, by simp only [maxLen]; omega, fun h => absurd h (by simp), fun y hy => by cases hy⟩ HB4.out.size (by simp only [List.length_append, HT3.out, List.length_singleton, List.length_nil]; omega) ?_; intro v5 w5 hr5 hg5; have HB5 : Hid (Below wr.heap.size wr w5) := HB4.out.grown hg5 HB4.out.size (fun k e => (own_lt HR4.out e).1); obtain ⟨a6, c6, rfl, hi6⟩ := hr5.ints (HOk.out (k + 1) _ (HN5.out)); have HR5 := Lib.hid (And.intro (hr5.base HO.out.2.size) (HBb.out _ HB5.out)); clear hr5 hg5 hi6))
                  go_roundw
                  case rel => exact ⟨k + 1, _, a6, c6, by omega, by go_num, congrArg (fun n => Value.slice a6 n c6) (by rw [List.length_append, List.length_append, HT3.out]; rfl), HN5.out, HR5⟩
                  case measure => simp [intOf]; omega
                · have hjc2 : O.length < c3 := by omega
                  subst hjO
                  clear hjc
                  have hlt3 : (O.take O.length).length = O.length := by rw [List.length_take]; omega
                  have HT3 := Lib.hid hlt3
                  have HRA : Hid (∀ n o, RowO ((w2.drewN n).alloc o) wr.heap.size (O.take O.length) (.slice a5 O.length c5)) := fun n o => HR2.out.1.keep ((below_drewN (Below.refl _ w2)).alloc (Nat.le_refl _) o)
                  have HRs : Hid (∀ n o, wr.heap.size ≤ ((w2.drewN n).alloc o).heap.size) := fun n o => by
                    have := HR2.out.2.size
                    rw [World.size_alloc]
                    show _ ≤ w2.heap.size + 1
                    omega
                  have HRb : Hid (∀ n o, Below wr.heap.size wr ((w2.drewN n).alloc o)) := fun n o => (below_drewN HR2.out.2).alloc HR2.out.2.size _
                  clear hlt3
                  go_wp2_with fail
                  go_quiet (fail)
                  go_wp2_with (first | (at_builtin; refine wpList_appB rfl _ _ rfl rfl wr.heap.size _ (O.take O.length) [x] _ 1 (by rfl) (by rfl) (HRA.out _ _) (HIn.out _ _ HXi.out) (HRs.out _ _) (by rw [HT3.out]; show (_ + 1) * 8 ≤ _; omega) ?_; intro v4 w4 hr4 hg4; have HB4 : Hid (Below wr.heap.size wr w4) := (HRb.out _ _).grown hg4 (HRs.out _ _) (fun k e => (own_lt HR2.out.1 e).1); obtain ⟨a4, c4, rfl, hi4⟩ := hr4.ints (HN4.out O.length); have HR4 := Lib.hid hr4; have hl4 : (O.take O.length ++ [x]).length = O.length + 1 := (by rw [List.length_append, HT3.out]; rfl); rw [hl4] at HR4 ⊢; clear hl4 hi4; clear hr4 hg4) | (at_builtin; refine wpList_appB rfl _ _ rfl rfl wr.heap.size _ (O.take O.length ++ [x]) [] _ _ (by rfl) (by first | rfl | (simp; rfl)) HR4.out ⟨Nat.zero_le _, by simp only [maxLen]; omega, fun h => absurd h (by simp), fun y hy => by cases hy⟩ HB4.out.size (by simp only [List.length_append, HT3.out, List.length_singleton, List.length_nil]; omega) ?_; intro v5 w5 hr5 hg5; have HB5 : Hid (Below wr.heap.size wr w5) := HB4.out.grown hg5 HB4.out.size (fun k e => (own_lt HR4.out e).1); obtain ⟨a6, c6, rfl, hi6⟩ := hr5.ints (HOk.out (k + 1) _ (HN5.out)); have HR5 := Lib.hid (And.intro (hr5.base HO.out.2.size) (HBb.out _ HB5.out)); clear hr5 hg5 hi6))
                  go_roundw
                  case rel => exact ⟨k + 1, _, a6, c6, by omega, by go_num, congrArg (fun n => Value.slice a6 n c6) (by rw [List.length_append, List.length_append, HT3.out]; rfl), HN5.out, HR5⟩
                  case measure => simp [intOf]; omega
    · obtain rfl : k = xs.length := by omega
      obtain ⟨_, _, e3, HI3⟩ := HO.out.1.ints (HOk.out _ O HM.out)
      cases e3
      have HI4 := Lib.hid HI3
      clear HI3
      go_wp2_with fail
      go_ret
      exact ⟨O, a3, c3, rfl, HM.out, HI4.out, HO.out.2, HO.out.1⟩
end Go.Proofs.YtggighikemhnfaaDoor.Tm
namespace Go.Proofs.YtggighikemhnfaaDoor.Tm
open Go.RowKit Go.Lib
set_option linter.unusedVariables false
theorem rv_neg {vs : List Int} {x : Int} (h0 : 0 ≤ x) (h1 : rvM vs (negM x) = 1) : rvM vs x ≠ 1 := by
  have hn := negM_nonneg h0
  unfold rvM at h1 ⊢
  rw [if_neg (by omega)] at h1 ⊢
  unfold valM at h1 ⊢
  rw [negM_half] at h1
  have hp : negM x % 2 = 1 - x % 2 := by unfold negM; split <;> omega
  cases hv : vs[(x / 2).toNat]? with
  | none => rw [hv] at h1; exact fun e => by cases e
  | some v =>
    rw [hv] at h1
    dsimp only at h1 ⊢
    rw [hp] at h1
    rcases (show x % 2 = 0 ∨ x % 2 = 1 by omega) with g | g
    · rw [g] at h1 ⊢
      split at h1
      · rename_i hh
        rw [if_pos hh, if_neg (by decide)]
        rw [if_pos (by decide)] at h1
        omega
      · cases h1
    · rw [g] at h1 ⊢
      split at h1
      · rename_i hh
        rw [if_pos hh, if_pos rfl]
        rw [if_neg (by decide)] at h1
        omega
      · cases h1
theorem val_two {vs ps : List Int} {x : Int} (hm : mayU x = true) (hp : ∀ y ∈ ps, rvM vs y = 1) (h : valL ps x = 2) : rvM vs x ≠ 1 := by
  unfold valL at h
  rw [if_pos hm] at h
  by_cases h1 : x ∈ ps
  · rw [if_pos h1] at h; cases h
  · rw [if_neg h1] at h
    by_cases h2 : negM x ∈ ps
    · exact rv_neg (mayU_iff.1 hm).1 (hp _ h2)
    · rw [if_neg h2] at h; cases h
theorem RunsD.sound {cls : List (List Int)} {vs ps r : List Int} {e : Int} (h : RunsD cls ps r e) (hm : ∀ c ∈ cls, ∀ x ∈ c, mayU x = true) (hh : ∀ c ∈ cls, ∃ x ∈ c, rvM vs x = 1) : (∀ x ∈ ps, rvM vs x = 1) → (∀ x ∈ r, rvM vs x = 1) ∧ e = -1 := by
  induction h with
  | conf h1 h2 h3 =>
    intro hp
    have hc := List.mem_of_getElem? h1
    obtain ⟨x, hx, h4⟩ := hh _ hc
    exact absurd h4 (val_two (hm _ hc x hx) hp (h2 x hx))
  | done h1 h2 => exact fun hp => ⟨hp, rfl⟩
  | put h1 h2 h3 h4 h5 ih =>
    rename_i ps r e k c y
    intro hp
    have hc := List.mem_of_getElem? h2
    refine ih (fun z hz => ?_)
    rcases List.mem_append.1 hz with hz | hz
    · exact hp z hz
    · rw [show z = y by simpa using hz]
      obtain ⟨x, hx, g⟩ := hh _ hc
      rcases h3.2.2 x hx with e2 | e2
      · exact absurd g (val_two (hm _ hc x hx) hp e2)
      · rw [← e2]; exact g
theorem giveM_sound {vs : List Int} : ∀ (gs ps : List Int), (∀ x ∈ gs, mayU x = true → rvM vs x = 1) → (∀ x ∈ ps, rvM vs x = 1) → (giveM ps gs).2 = true ∧ ∀ x ∈ (giveM ps gs).1, rvM vs x = 1
  | [], ps, _, hp => ⟨by unfold giveM; rfl, by unfold giveM; exact hp⟩
  | y :: g, ps, hg, hp => by
    unfold giveM
    by_cases hm : mayU y = true
    · rw [if_pos hm]
      have hy := hg y (by simp) hm
      by_cases h0 : valL ps y = 0
      · rw [if_pos h0]
        refine giveM_sound g (ps ++ [y]) (fun x hx => hg x (by simp [hx])) (fun x hx => ?_)
        rcases List.mem_append.1 hx with e | e
        · exact hp x e
        · rw [show x = y by simpa using e]; exact hy
      · rw [if_neg h0]
        by_cases h2 : valL ps y = 2
        · exact absurd hy (val_two hm hp h2)
        · rw [if_neg h2]
          exact giveM_sound g ps (fun x hx => hg x (by simp [hx])) hp
    · rw [if_neg hm]
      exact giveM_sound g ps (fun x hx => hg x (by simp [hx])) hp
theorem RunRel.sound {cls : List (List Int)} {gs vs r : List Int} {e : Int} (h : RunRel cls gs r e) (hm : ∀ c ∈ cls, ∀ x ∈ c, mayU x = true) (hh : ∀ c ∈ cls, ∃ x ∈ c, rvM vs x = 1) (hg : ∀ x ∈ gs, mayU x = true → rvM vs x = 1) : (∀ x ∈ r, rvM vs x = 1) ∧ e = -1 := by
  obtain ⟨g1, g2⟩ := giveM_sound gs [] hg (fun x h => by cases h)
  rcases h with ⟨h1, _⟩ | ⟨h1, h2⟩
  · rw [g1] at h1; cases h1
  · exact h2.sound hm hh g2
end Go.Proofs.YtggighikemhnfaaDoor.Tm
