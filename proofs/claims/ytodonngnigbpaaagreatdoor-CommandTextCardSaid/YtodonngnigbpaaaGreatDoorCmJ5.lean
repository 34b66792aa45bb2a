/- Package command's readers of rows. -/
import Derived.Test.YtodonngnigbpaaaGreatDoorCmI
import Derived.Laws.Cover3
namespace Go.Proofs.YtodonngnigbpaaaGreatDoor
open Go.RowKit
set_option linter.unusedVariables false
theorem ReadP.yes {α : Type} {m : Tree → Option α} {lies : Nat → World → α → Value → Prop} {W : World} {y : Tree} {e : Ending} {w' : World} {x : α} (h : ReadP m lies W y e w') (hm : m y = some x) : ∃ v, e = .returned (.tuple #[v, .bool true]) ∧ lies W.heap.size w' x v ∧ Below W.heap.size W w' := by
  obtain ⟨b, v, a, rfl, hl, hy, hb⟩ := h
  cases b with
  | true => rw [hm] at hy; simp at hy; subst hy; exact ⟨v, rfl, hl, hb⟩
  | false => rw [hm] at hy; simp at hy
theorem ReadP.no {α : Type} {m : Tree → Option α} {lies : Nat → World → α → Value → Prop} {W : World} {y : Tree} {e : Ending} {w' : World} (h : ReadP m lies W y e w') (hm : m y = none) : ∃ v a, e = .returned (.tuple #[v, .bool false]) ∧ lies W.heap.size w' a v ∧ Below W.heap.size W w' := by
  obtain ⟨b, v, a, rfl, hl, hy, hb⟩ := h
  cases b with
  | false => exact ⟨v, a, rfl, hl, hb⟩
  | true => rw [hm] at hy; simp at hy
theorem news2 {w2 : World} {o : Obj} {cs : Array Value} {ty : TypeId} : ∀ j u, cs.toList[j]? = some u → ((w2.alloc o).alloc (.cells cs ty)).cell? ((⟨w2.heap.size + 1, 0, none⟩ : Addr).add j) = some u := by
  have hh := heap_alloc_new (w2.alloc o) (.cells cs ty)
  rw [World.size_alloc] at hh
  exact World.news_of_block hh
theorem cells2b {W : World} {b : Nat} {v0 v1 : Value} {ty : TypeId} (h : W.heap[b]? = some (.cells #[v0, v1] ty (0, 0))) : W.cell? ⟨b, 0, none⟩ = some v0 ∧ W.cell? ⟨b, 1, none⟩ = some v1 ∧ (∀ i, W.frozen? ⟨b, i, none⟩ = false) ∧ b < W.heap.size :=
  ⟨cell_of_row _ _ 0 _ _ _ h, cell_of_row _ _ 1 _ _ _ h, fun i => by simp [World.frozen?, h], (Array.getElem?_eq_some_iff.1 h).1⟩
theorem NewT.app {B : Nat} {W W2 : World} {t : Tree} {s v v' : Value} (h : Rd W (fun b => newBad B W b ∨ v.ownBlock = some b) t s) (hg : W.grownBy W2 v.ownBlock) (hloc : v'.ownBlock = v.ownBlock ∨ v'.ownBlock = some W.heap.size) : Rd W2 (fun b => newBad B W2 b ∨ v'.ownBlock = some b) t s := by
  have hnc : ∀ b, W.heap.size ≤ b → newBad B W b := fun b hb => .inr (by
    rintro ⟨cs, ty, hc⟩
    have := (Array.getElem?_eq_some_iff.1 hc).1
    omega)
  have h1 : Rd W2 (fun b => newBad B W b ∨ v.ownBlock = some b) t s := Rd.keep (fun b hb hlt => hg.block b hlt (fun e => hb (.inr e.symm))) t s h
  refine Rd.mono (fun b _ hb => ?_) t s h1
  rcases hb with hb | hb
  · rcases hb with hb | hb
    · exact .inl (.inl hb)
    · by_cases hw : W.heap.size ≤ b
      · exact .inl (hnc b hw)
      · by_cases ho : v.ownBlock = some b
        · exact .inr ho
        · refine .inl (.inr ?_)
          rintro ⟨cs, ty, hc⟩
          exact hb ⟨cs, ty, (hg.block b (by omega) (fun e => ho e.symm)).trans hc⟩
  · rcases hloc with e | e
    · exact .inr (e ▸ hb)
    · rw [e] at hb; cases hb; exact .inl (hnc _ (Nat.le_refl _))
set_option maxRecDepth 100000 in
set_option maxHeartbeats 4000000 in
theorem each_str (least most : Nat) (y : Tree) (yv : Value) (w : World) (hr : Sx w y yv) (hrt : RowsT y) (hle : least ≤ 2) (hmo : most ≤ 64) :
    Calls Tryz.prog 104 #[yv, .int .i64 least, .int .i64 most, .func (.func 70) #[] #[]] w (ReadP (eachM least most symM) (LRow strC) w y) := by
  obtain ⟨i0, hi, hz0, hz1, hz2⟩ := info_parts info_str
  obtain ⟨_, hkr⟩ := hrt.kids
  obtain ⟨a, cap, rfl, hl, hc, hk, hb⟩ := sx_box hr
  obtain ⟨W0, hW0⟩ : ∃ W0, W0 = w.alloc (.cells #[.int .i8 y.kind, .string (bytesL y.text), .slice a y.kids.length cap] 35) := ⟨_, rfl⟩
  rw [← hW0] at hb
  have hX : W0.heap[w.heap.size]? = some (.cells #[.int .i8 y.kind, .string (bytesL y.text), .slice a y.kids.length cap] 35 (0, 0)) := by rw [hW0]; exact heap_alloc_new w _
  obtain ⟨x0, x1, x2, xf, xz⟩ := cells3b hX
  have hsz : W0.heap.size = w.heap.size + 1 := by rw [hW0]; simp
  have HL := Lib.hid hW0
  have HB := Lib.hid hb
  have HK := Lib.hid hk
  have HRT := Lib.hid hkr
  have hkm : y.kids.length ≤ 9223372036854775807 := by simp only [maxLen] at hc; omega
  have FALSE : ∀ w', Below w.heap.size w w' → eachM least most symM y = none → ReadP (eachM least most symM) (LRow strC) w y (.returned (.tuple #[.slice none 0 0, .bool false])) w' := fun w' hb hn => ⟨false, _, [], rfl, ⟨none, 0, rfl, by simp, by simp, fun h => absurd h (by simp)⟩, by rw [hn]; rfl, hb⟩
  have HFALSE := Lib.hid FALSE
  clear hr hrt hkr hb hk hX hW0 FALSE
  by_cases h3 : y.kind = 3
  · have e3 := ne_false (x := y.kind) (y := 3) h3
    have D3 := Lib.hid h3
    clear h3
    by_cases h4 : y.kids.length < least
    · have HN : Hid (eachM least most symM y = none) := by show _ = _; unfold eachM; rw [if_neg (by omega)]
      go_enter Tryz.func104, Tryz.ntmps104
      go_wp2
      go_ret2
      exact HFALSE.out _ (by rw [← HL.out]; exact HB.out) HN.out
    · by_cases h5 : most < y.kids.length
      · have HN : Hid (eachM least most symM y = none) := by show _ = _; unfold eachM; rw [if_neg (by omega)]
        go_enter Tryz.func104, Tryz.ntmps104
        go_wp2
        go_ret2
        exact HFALSE.out _ (by rw [← HL.out]; exact HB.out) HN.out
      · have HE : Hid (eachM least most symM y = allM symM y.kids) := by show _ = _; unfold eachM; rw [if_pos ⟨D3.out, by omega, by omega⟩]
        go_enter Tryz.func104, Tryz.ntmps104
        go_wp2_with fail
        rw [← HL.out]
        go_loopw [10, 35] (fun v i wr => ∃ (k : Nat) (acc : List (List UInt8)) (av : Option Addr) (cv : Nat), k ≤ y.kids.length ∧ i = .int .i64 k ∧ v = .slice av k cv ∧ Hid (wr.ownsRow W0.heap.size 9 1 (.slice av k cv) k (acc.flatMap strC)) ∧ Hid (allM symM (y.kids.take k) = some acc) ∧ Hid (Below W0.heap.size W0 wr)) (fun _ i _ => y.kids.length - (intOf i).toNat)
        case atStart => exact ⟨0, [], none, 0, Nat.zero_le _, rfl, rfl, World.ownsRow_nil _ _ _ _, rfl, Below.refl _ _⟩
        case round =>
          obtain ⟨k, acc, av, cv, hkl, rfl, rfl, HOW, HAC, HW⟩ := hrel
          have hwz := HW.out.size
          by_cases hlt : k < y.kids.length
          · obtain ⟨c, hcc⟩ : ∃ c, y.kids[k]? = some c := ⟨_, List.getElem?_eq_getElem hlt⟩
            have hBw : Below w.heap.size w wr := HB.out.trans (HW.out.mono (by omega))
            have hks : SxL wr y.kids a := SxL.below HK.out hBw
            obtain ⟨g, o, rfl, _, hg, _, _⟩ := hks.addr (by omega)
            obtain ⟨_, v0, v1, v2, c0, c1, c2, hrt⟩ := hks.get y.kids g o k c hcc
            obtain ⟨ca, cc, hv, _, _, _, _⟩ := hrt.parts
            simp only [Value.agg.injEq, Array.mk.injEq, List.cons.injEq, and_true] at hv
            obtain ⟨rfl, rfl, rfl⟩ := hv
            have c2' : wr.cell? ⟨g, o + k * 3 + 2, none⟩ = some (.slice ca c.kids.length cc) := c2
            have HC : Hid (∀ W, Below wr.heap.size wr W → Calls Tryz.prog 70 #[.agg #[.int .i8 c.kind, .string (bytesL c.text), .slice ca c.kids.length cc]] W (ReadP symM LStr W c)) := fun W hW => name_any c _ W (hrt.sx.below hW)
            have HCC := Lib.hid hcc
            clear hks hrt hcc c2 hBw
            cases hm : symM c with
            | none =>
              have HN : Hid (eachM least most symM y = none) := by show _ = _; rw [HE.out]; exact allM_none HCC.out hm
              have HM := Lib.hid hm
              clear hm
              go_wp2_with (go_at_call 70; refine (HC.out _ ((Below.refl _ wr).alloc (Nat.le_refl _) _)).mono ?_; rintro e w2 hp; obtain ⟨v, x, rfl, hlv, hb2⟩ := hp.no HM.out; clear hp; unfold LStr at hlv; subst hlv)
              go_ret2
              have h2 : Below wr.heap.size wr w2 := ((Below.refl _ wr).alloc (Nat.le_refl _) _).trans (hb2.mono (by simp))
              have h4 : Below w.heap.size w w2 := HB.out.trans ((HW.out.trans (h2.mono hwz)).mono (by omega))
              exact HFALSE.out _ h4 HN.out
            | some x =>
              have HM := Lib.hid hm
              clear hm
              go_wp2_with (first | (go_at_call 70; refine (HC.out _ ((Below.refl _ wr).alloc (Nat.le_refl _) _)).mono ?_; rintro e w2 hp; obtain ⟨v, rfl, hlv, hb2⟩ := hp.yes HM.out; clear hp; unfold LStr at hlv; subst hlv; have HB2 : Hid (Below wr.heap.size wr w2) := ((Below.refl _ wr).alloc (Nat.le_refl _) _).trans (hb2.mono (by simp)); have hb2s := HB2.out.size; clear hb2) | (at_builtin; refine wpList_append_own_at _ rfl _ _ 24 rfl W0.heap.size 9 i0 _ 1 16 Tryz.underlying24 hi hz0 hz1 hz2 rfl (by decide) _ k (acc.flatMap strC) rfl ((own_below HOW.out HB2.out).alloc _) ⟨w2.heap.size, 0, none⟩ 1 1 (strC x) rfl rfl (World.news_of_block (heap_alloc_new w2 _)) (fun u hu => one_str [x] u (by simpa using hu)) (by simp only [maxLen]; omega) (by omega) (by simp; omega) ?_; intro v' w3 hown' hgrow hnil hloc; clear hnil; have HOF := Lib.hid hown'; have HGr := Lib.hid hgrow; have HLoc := Lib.hid hloc; obtain ⟨av', cv', rfl, _⟩ := own_at HOF.out; clear hown' hgrow hloc))
              go_roundw
              case rel =>
                refine ⟨k + 1, acc ++ [x], av', cv', by omega, by go_num, rfl, ?_, ?_, ?_⟩
                · show World.ownsRow _ _ _ _ _ _ _
                  rw [List.flatMap_append]
                  have := HOF.out
                  simpa using this
                · show _ = _
                  rw [List.take_add_one, HCC.out]
                  simp only [Option.toList_some]
                  rw [allM_snoc, HAC.out, HM.out]
                · exact ((HW.out.trans (HB2.out.mono hwz)).alloc (by omega) _).grown HGr.out (by simp; omega) (fun q e => own_ge HOW.out q e)

              case measure => simp [intOf]; omega
          · obtain rfl : k = y.kids.length := by omega
            go_wp2
            go_ret2
            have hall := HAC.out
            rw [List.take_length] at hall
            have hal := allM_len _ _ hall
            obtain ⟨a', c', e', q1, q2, q3⟩ := own_at HOW.out
            cases e'
            refine ⟨true, _, acc, rfl, ⟨av, cv, by rw [hal]; rfl, by rw [hal]; exact q1, q2, q3.wide (by omega) (Nat.le_refl _)⟩, by rw [HE.out, hall]; rfl, HB.out.trans (HW.out.mono (by omega))⟩
  · have e3 := ne_true (x := y.kind) (y := 3) h3
    have HN : Hid (eachM least most symM y = none) := by show _ = _; unfold eachM; rw [if_neg (fun h => h3 h.1)]
    clear h3
    go_enter Tryz.func104, Tryz.ntmps104
    go_wp2
    go_ret2
    exact HFALSE.out _ (by rw [← HL.out]; exact HB.out) HN.out
end Go.Proofs.YtodonngnigbpaaaGreatDoor
namespace Go.Proofs.YtodonngnigbpaaaGreatDoor
open Go.RowKit
set_option linter.unusedVariables false
set_option maxRecDepth 100000 in
set_option maxHeartbeats 4000000 in
theorem each_int (least most : Nat) (y : Tree) (yv : Value) (w : World) (hr : Sx w y yv) (hrt : RowsT y) (hle : least ≤ 2) (hmo : most ≤ 64) :
    Calls Tryz.prog 120 #[yv, .int .i64 least, .int .i64 most, .func (.func 99) #[] #[]] w (ReadP (eachM least most (numM 1048576)) (LRow intC) w y) := by
  obtain ⟨i0, hi, hz0, hz1, hz2⟩ := info_parts info_int
  obtain ⟨_, hkr⟩ := hrt.kids
  obtain ⟨a, cap, rfl, hl, hc, hk, hb⟩ := sx_box hr
  obtain ⟨W0, hW0⟩ : ∃ W0, W0 = w.alloc (.cells #[.int .i8 y.kind, .string (bytesL y.text), .slice a y.kids.length cap] 35) := ⟨_, rfl⟩
  rw [← hW0] at hb
  have hX : W0.heap[w.heap.size]? = some (.cells #[.int .i8 y.kind, .string (bytesL y.text), .slice a y.kids.length cap] 35 (0, 0)) := by rw [hW0]; exact heap_alloc_new w _
  obtain ⟨x0, x1, x2, xf, xz⟩ := cells3b hX
  have hsz : W0.heap.size = w.heap.size + 1 := by rw [hW0]; simp
  have HL := Lib.hid hW0
  have HB := Lib.hid hb
  have HK := Lib.hid hk
  have HRT := Lib.hid hkr
  have hkm : y.kids.length ≤ 9223372036854775807 := by simp only [maxLen] at hc; omega
  have FALSE : ∀ w', Below w.heap.size w w' → eachM least most (numM 1048576) y = none → ReadP (eachM least most (numM 1048576)) (LRow intC) w y (.returned (.tuple #[.slice none 0 0, .bool false])) w' := fun w' hb hn => ⟨false, _, [], rfl, ⟨none, 0, rfl, by simp, by simp, fun h => absurd h (by simp)⟩, by rw [hn]; rfl, hb⟩
  have HFALSE := Lib.hid FALSE
  clear hr hrt hkr hb hk hX hW0 FALSE
  by_cases h3 : y.kind = 3
  · have e3 := ne_false (x := y.kind) (y := 3) h3
    have D3 := Lib.hid h3
    clear h3
    by_cases h4 : y.kids.length < least
    · have HN : Hid (eachM least most (numM 1048576) y = none) := by show _ = _; unfold eachM; rw [if_neg (by omega)]
      go_enter Tryz.func120, Tryz.ntmps120
      go_wp2
      go_ret2
      exact HFALSE.out _ (by rw [← HL.out]; exact HB.out) HN.out
    · by_cases h5 : most < y.kids.length
      · have HN : Hid (eachM least most (numM 1048576) y = none) := by show _ = _; unfold eachM; rw [if_neg (by omega)]
        go_enter Tryz.func120, Tryz.ntmps120
        go_wp2
        go_ret2
        exact HFALSE.out _ (by rw [← HL.out]; exact HB.out) HN.out
      · have HE : Hid (eachM least most (numM 1048576) y = allM (numM 1048576) y.kids) := by show _ = _; unfold eachM; rw [if_pos ⟨D3.out, by omega, by omega⟩]
        go_enter Tryz.func120, Tryz.ntmps120
        go_wp2_with fail
        rw [← HL.out]
        go_loopw [10, 35] (fun v i wr => ∃ (k : Nat) (acc : List Int) (av : Option Addr) (cv : Nat), k ≤ y.kids.length ∧ i = .int .i64 k ∧ v = .slice av k cv ∧ Hid (wr.ownsRow W0.heap.size 3 1 (.slice av k cv) k (acc.flatMap intC)) ∧ Hid (allM (numM 1048576) (y.kids.take k) = some acc) ∧ Hid (Below W0.heap.size W0 wr)) (fun _ i _ => y.kids.length - (intOf i).toNat)
        case atStart => exact ⟨0, [], none, 0, Nat.zero_le _, rfl, rfl, World.ownsRow_nil _ _ _ _, rfl, Below.refl _ _⟩
        case round =>
          obtain ⟨k, acc, av, cv, hkl, rfl, rfl, HOW, HAC, HW⟩ := hrel
          have hwz := HW.out.size
          by_cases hlt : k < y.kids.length
          · obtain ⟨c, hcc⟩ : ∃ c, y.kids[k]? = some c := ⟨_, List.getElem?_eq_getElem hlt⟩
            have hBw : Below w.heap.size w wr := HB.out.trans (HW.out.mono (by omega))
            have hks : SxL wr y.kids a := SxL.below HK.out hBw
            obtain ⟨g, o, rfl, _, hg, _, _⟩ := hks.addr (by omega)
            obtain ⟨_, v0, v1, v2, c0, c1, c2, hrt⟩ := hks.get y.kids g o k c hcc
            obtain ⟨ca, cc, hv, _, _, _, _⟩ := hrt.parts
            simp only [Value.agg.injEq, Array.mk.injEq, List.cons.injEq, and_true] at hv
            obtain ⟨rfl, rfl, rfl⟩ := hv
            have c2' : wr.cell? ⟨g, o + k * 3 + 2, none⟩ = some (.slice ca c.kids.length cc) := c2
            have HC : Hid (∀ W, Below wr.heap.size wr W → Calls Tryz.prog 99 #[.agg #[.int .i8 c.kind, .string (bytesL c.text), .slice ca c.kids.length cc]] W (ReadP (numM 1048576) LInt W c)) := fun W hW => conflicts_any c _ W (hrt.sx.below hW)
            have HCC := Lib.hid hcc
            clear hks hrt hcc c2 hBw
            cases hm : (numM 1048576) c with
            | none =>
              have HN : Hid (eachM least most (numM 1048576) y = none) := by show _ = _; rw [HE.out]; exact allM_none HCC.out hm
              have HM := Lib.hid hm
              clear hm
              go_wp2_with (go_at_call 99; refine (HC.out _ ((Below.refl _ wr).alloc (Nat.le_refl _) _)).mono ?_; rintro e w2 hp; obtain ⟨v, x, rfl, hlv, hb2⟩ := hp.no HM.out; clear hp; unfold LInt at hlv; subst hlv)
              go_ret2
              have h2 : Below wr.heap.size wr w2 := ((Below.refl _ wr).alloc (Nat.le_refl _) _).trans (hb2.mono (by simp))
              have h4 : Below w.heap.size w w2 := HB.out.trans ((HW.out.trans (h2.mono hwz)).mono (by omega))
              exact HFALSE.out _ h4 HN.out
            | some x =>
              have HM := Lib.hid hm
              clear hm
              go_wp2_with (first | (go_at_call 99; refine (HC.out _ ((Below.refl _ wr).alloc (Nat.le_refl _) _)).mono ?_; rintro e w2 hp; obtain ⟨v, rfl, hlv, hb2⟩ := hp.yes HM.out; clear hp; unfold LInt at hlv; subst hlv; have HB2 : Hid (Below wr.heap.size wr w2) := ((Below.refl _ wr).alloc (Nat.le_refl _) _).trans (hb2.mono (by simp)); have hb2s := HB2.out.size; clear hb2) | (at_builtin; refine wpList_append_own_at _ rfl _ _ 23 rfl W0.heap.size 3 i0 _ 1 8 Tryz.underlying23 hi hz0 hz1 hz2 rfl (by decide) _ k (acc.flatMap intC) rfl ((own_below HOW.out HB2.out).alloc _) ⟨w2.heap.size, 0, none⟩ 1 1 (intC x) rfl rfl (World.news_of_block (heap_alloc_new w2 _)) (fun u hu => one_int [x] u (by simpa using hu)) (by simp only [maxLen]; omega) (by omega) (by simp; omega) ?_; intro v' w3 hown' hgrow hnil hloc; clear hnil; have HOF := Lib.hid hown'; have HGr := Lib.hid hgrow; have HLoc := Lib.hid hloc; obtain ⟨av', cv', rfl, _⟩ := own_at HOF.out; clear hown' hgrow hloc))
              go_roundw
              case rel =>
                refine ⟨k + 1, acc ++ [x], av', cv', by omega, by go_num, rfl, ?_, ?_, ?_⟩
                · show World.ownsRow _ _ _ _ _ _ _
                  rw [List.flatMap_append]
                  have := HOF.out
                  simpa using this
                · show _ = _
                  rw [List.take_add_one, HCC.out]
                  simp only [Option.toList_some]
                  rw [allM_snoc, HAC.out, HM.out]
                · exact ((HW.out.trans (HB2.out.mono hwz)).alloc (by omega) _).grown HGr.out (by simp; omega) (fun q e => own_ge HOW.out q e)

              case measure => simp [intOf]; omega
          · obtain rfl : k = y.kids.length := by omega
            go_wp2
            go_ret2
            have hall := HAC.out
            rw [List.take_length] at hall
            have hal := allM_len _ _ hall
            obtain ⟨a', c', e', q1, q2, q3⟩ := own_at HOW.out
            cases e'
            refine ⟨true, _, acc, rfl, ⟨av, cv, by rw [hal]; rfl, by rw [hal]; exact q1, q2, q3.wide (by omega) (Nat.le_refl _)⟩, by rw [HE.out, hall]; rfl, HB.out.trans (HW.out.mono (by omega))⟩
  · have e3 := ne_true (x := y.kind) (y := 3) h3
    have HN : Hid (eachM least most (numM 1048576) y = none) := by show _ = _; unfold eachM; rw [if_neg (fun h => h3 h.1)]
    clear h3
    go_enter Tryz.func120, Tryz.ntmps120
    go_wp2
    go_ret2
    exact HFALSE.out _ (by rw [← HL.out]; exact HB.out) HN.out
end Go.Proofs.YtodonngnigbpaaaGreatDoor
namespace Go.Proofs.YtodonngnigbpaaaGreatDoor
open Go.RowKit
set_option linter.unusedVariables false
theorem LRow.more {α : Type} {C : α → List Value} {B B' : Nat} {w : World} {l : List α} {v : Value} (h : LRow C B w l v) (hB : B' ≤ B) : LRow C B' w l v := by
  obtain ⟨ad, c, e, h1, h2, h3⟩ := h
  exact ⟨ad, c, e, h1, h2, h3.wide hB (Nat.le_refl _)⟩
theorem LTrees.more {B B' : Nat} {w : World} {l : List Tree} {v : Value} (h : LTrees B w l v) (hB : B' ≤ B) : LTrees B' w l v := by
  obtain ⟨ad, c, e, h1, h2, h3⟩ := h
  exact ⟨ad, c, e, h1, h2, newL_more h3 hB⟩
set_option maxRecDepth 100000 in
theorem args_any (y : Tree) (yv : Value) (w : World) (hr : Sx w y yv) (hrt : RowsT y) : Calls Tryz.prog 75 #[yv] w (ReadP (eachM 0 3 symM) (LRow strC) w y) := by
  obtain ⟨a, cap, rfl, hl, hc, hk, hb⟩ := sx_box hr
  have HC : Hid (Calls Tryz.prog 104 #[.agg #[.int .i8 y.kind, .string (bytesL y.text), .slice a y.kids.length cap], .int .i64 0, .int .i64 3, .func (.func 70) #[] #[]] (w.alloc (.cells #[.int .i8 y.kind, .string (bytesL y.text), .slice a y.kids.length cap] 35)) (ReadP (eachM 0 3 symM) (LRow strC) (w.alloc (.cells #[.int .i8 y.kind, .string (bytesL y.text), .slice a y.kids.length cap] 35)) y)) := each_str 0 3 y _ _ (hr.below hb) hrt (by omega) (by omega)
  have HB := Lib.hid hb
  clear hr hb hk hl hc
  go_enter Tryz.func75, Tryz.ntmps75
  go_wp2_with (go_at_call 104; refine HC.out.mono ?_; rintro e w1 ⟨b, v, x, rfl, hlv, hm, hb1⟩; have HLV := Lib.hid hlv; clear hlv)
  go_ret2
  exact ⟨b, v, x, rfl, LRow.more HLV.out (by simp), hm, HB.out.trans (hb1.mono (by simp))⟩
theorem parSize : (Tryz.prog.info? 44).map (·.size) = some 2 := by kernel_rfl
theorem par_store {w w1 : World} {b : Nat} {u0 u1 v0 v1 : Value} (hb : Below w.heap.size w w1) (hx : w1.heap[b]? = some (.cells #[u0, u1] 44 (0, 0))) (hbw : w.heap.size ≤ b) :
    ((w1.setCell ⟨b, 0, none⟩ v0).setCell ⟨b, 1, none⟩ v1).heap[b]? = some (.cells #[v0, v1] 44 (0, 0)) ∧ Below w.heap.size w ((w1.setCell ⟨b, 0, none⟩ v0).setCell ⟨b, 1, none⟩ v1) :=
  ⟨by simp [World.setCell, Array.getElem?_modify, hx], (hb.setCell (p := ⟨b, 0, none⟩) hbw _).setCell (p := ⟨b, 1, none⟩) hbw _⟩
set_option maxRecDepth 100000 in
set_option maxHeartbeats 2000000 in
theorem param_any (y : Tree) (yv : Value) (w : World) (hr : Sx w y yv) (hrt : RowsT y) : Calls Tryz.prog 107 #[yv] w (ReadP parM LPar w y) := by
  obtain ⟨a, cap, rfl, hl, hc, hk, hb⟩ := sx_box hr
  obtain ⟨W0, hW0⟩ : ∃ W0, W0 = (w.alloc (.cells #[.int .i8 y.kind, .string (bytesL y.text), .slice a y.kids.length cap] 35)).alloc (.cells #[.string ⟨#[]⟩, .string ⟨#[]⟩] 44) := ⟨_, rfl⟩
  have HL := Lib.hid hW0
  have hb0 : Below w.heap.size w W0 := by rw [hW0]; exact hb.alloc (by simp) _
  have hY : W0.heap[w.heap.size + 1]? = some (.cells #[.string ⟨#[]⟩, .string ⟨#[]⟩] 44 (0, 0)) := by
    rw [hW0]
    have := heap_alloc_new (w.alloc (.cells #[.int .i8 y.kind, .string (bytesL y.text), .slice a y.kids.length cap] 35)) (.cells #[.string ⟨#[]⟩, .string ⟨#[]⟩] 44)
    rwa [World.size_alloc] at this
  have hsz : W0.heap.size = w.heap.size + 2 := by rw [hW0]; simp
  have HC := Lib.hid (each_str 2 2 y _ W0 (hr.below hb0) hrt (by omega) (by omega))
  have HB0 := Lib.hid hb0
  have HY := Lib.hid hY
  clear hr hb hk hl hc hb0 hY hW0
  cases hm : eachM 2 2 symM y with
  | none =>
    have HM : Hid (parM y = none) := by show _ = _; unfold parM; rw [hm]
    have HMM := Lib.hid hm
    clear hm
    go_enter Tryz.func107, Tryz.ntmps107
    go_wp2_with (go_at_call 104; rw [← HL.out]; clear HL; refine HC.out.mono ?_; rintro e w1 hp; obtain ⟨v, x, rfl, ⟨ad, c, rfl, h1, h2, h3⟩, hb1⟩ := hp.no HMM.out; clear hp h1 h2 h3; have hx := (hb1.block _ (by omega)).trans HY.out; obtain ⟨c0, c1, fz, hzz⟩ := cells2b hx)
    obtain ⟨h1, h2⟩ := par_store (v0 := .string ⟨#[]⟩) (v1 := .string ⟨#[]⟩) (HB0.out.trans (hb1.mono (by omega))) hx (Nat.le_succ _)
    refine bodyPost_ret (res_cell_tmp rfl _ _ (w.heap.size + 1) _ _ _ _ rfl (h1) Tryz.underlying44 rfl parSize) rfl ?_
    exact ⟨false, _, ([], []), rfl, rfl, by rw [HM.out]; rfl, h2⟩
  | some l =>
    obtain ⟨p, q, rfl⟩ : ∃ p q, l = [p, q] := by
      unfold eachM at hm
      split at hm
      · rename_i h
        have := allM_len _ _ hm
        match l, this with
        | [p, q], _ => exact ⟨p, q, rfl⟩
        | [], h' => simp at h'; omega
        | [p], h' => simp at h'; omega
        | p :: q :: r :: s, h' => simp at h'; omega
      · cases hm
    have HM : Hid (parM y = some (p, q)) := by show _ = _; unfold parM; rw [hm]
    have HMM := Lib.hid hm
    clear hm
    go_enter Tryz.func107, Tryz.ntmps107
    go_wp2_with (go_at_call 104; rw [← HL.out]; clear HL; refine HC.out.mono ?_; rintro e w1 hp; obtain ⟨v, rfl, ⟨ad, c, rfl, h1, h2, h3⟩, hb1⟩ := hp.yes HMM.out; clear hp; obtain ⟨g, o, rfl, hg1, hg2, hcell⟩ := h3 (by simp [strC]); have q0 := hcell 0 (.string (bytesL p)) rfl; have q1 := hcell 1 (.string (bytesL q)) rfl; have hx := (hb1.block _ (by omega)).trans HY.out; obtain ⟨c0, c1, fz, hzz⟩ := cells2b hx; simp only [Nat.add_zero] at q0; clear hcell; have har := run_arrayAt (P := Tryz.prog) w1 44 9 2 (some ⟨g, o, none⟩) 2 c Tryz.underlying44 (Nat.le_refl _))
    obtain ⟨h1, h2⟩ := par_store (v0 := .string (bytesL p)) (v1 := .string (bytesL q)) (HB0.out.trans (hb1.mono (by omega))) hx (Nat.le_succ _)
    refine bodyPost_ret (res_cell_tmp rfl _ _ (w.heap.size + 1) _ _ _ _ rfl (h1) Tryz.underlying44 rfl parSize) rfl ?_
    exact ⟨true, _, (p, q), rfl, rfl, by rw [HM.out]; rfl, h2⟩
set_option maxRecDepth 100000 in
set_option maxHeartbeats 4000000 in
theorem each_par (least most : Nat) (y : Tree) (yv : Value) (w : World) (hr : Sx w y yv) (hrt : RowsT y) (hle : least ≤ 2) (hmo : most ≤ 64) :
    Calls Tryz.prog 106 #[yv, .int .i64 least, .int .i64 most, .func (.func 107) #[] #[]] w (ReadP (eachM least most parM) (LRow parC) w y) := by
  obtain ⟨i0, hi, hz0, hz1, hz2⟩ := info_parts info_par
  obtain ⟨_, hkr⟩ := hrt.kids
  obtain ⟨a, cap, rfl, hl, hc, hk, hb⟩ := sx_box hr
  obtain ⟨W0, hW0⟩ : ∃ W0, W0 = w.alloc (.cells #[.int .i8 y.kind, .string (bytesL y.text), .slice a y.kids.length cap] 35) := ⟨_, rfl⟩
  rw [← hW0] at hb
  have hX : W0.heap[w.heap.size]? = some (.cells #[.int .i8 y.kind, .string (bytesL y.text), .slice a y.kids.length cap] 35 (0, 0)) := by rw [hW0]; exact heap_alloc_new w _
  obtain ⟨x0, x1, x2, xf, xz⟩ := cells3b hX
  have hsz : W0.heap.size = w.heap.size + 1 := by rw [hW0]; simp
  have HL := Lib.hid hW0
  have HB := Lib.hid hb
  have HK := Lib.hid hk
  have HRT := Lib.hid hkr
  have hkm : y.kids.length ≤ 9223372036854775807 := by simp only [maxLen] at hc; omega
  have FALSE : ∀ w', Below w.heap.size w w' → eachM least most parM y = none → ReadP (eachM least most parM) (LRow parC) w y (.returned (.tuple #[.slice none 0 0, .bool false])) w' := fun w' hb hn => ⟨false, _, [], rfl, ⟨none, 0, rfl, by simp, by simp, fun h => absurd h (by simp)⟩, by rw [hn]; rfl, hb⟩
  have HFALSE := Lib.hid FALSE
  clear hr hrt hkr hb hk hX hW0 FALSE
  by_cases h3 : y.kind = 3
  · have e3 := ne_false (x := y.kind) (y := 3) h3
    have D3 := Lib.hid h3
    clear h3
    by_cases h4 : y.kids.length < least
    · have HN : Hid (eachM least most parM y = none) := by show _ = _; unfold eachM; rw [if_neg (by omega)]
      go_enter Tryz.func106, Tryz.ntmps106
      go_wp2
      go_ret2
      exact HFALSE.out _ (by rw [← HL.out]; exact HB.out) HN.out
    · by_cases h5 : most < y.kids.length
      · have HN : Hid (eachM least most parM y = none) := by show _ = _; unfold eachM; rw [if_neg (by omega)]
        go_enter Tryz.func106, Tryz.ntmps106
        go_wp2
        go_ret2
        exact HFALSE.out _ (by rw [← HL.out]; exact HB.out) HN.out
      · have HE : Hid (eachM least most parM y = allM parM y.kids) := by show _ = _; unfold eachM; rw [if_pos ⟨D3.out, by omega, by omega⟩]
        go_enter Tryz.func106, Tryz.ntmps106
        go_wp2_with fail
        rw [← HL.out]
        go_loopw [10, 35] (fun v i wr => ∃ (k : Nat) (acc : List (List UInt8 × List UInt8)) (av : Option Addr) (cv : Nat), k ≤ y.kids.length ∧ i = .int .i64 k ∧ v = .slice av k cv ∧ Hid (wr.ownsRow W0.heap.size 44 2 (.slice av k cv) k (acc.flatMap parC)) ∧ Hid (allM parM (y.kids.take k) = some acc) ∧ Hid (Below W0.heap.size W0 wr)) (fun _ i _ => y.kids.length - (intOf i).toNat)
        case atStart => exact ⟨0, [], none, 0, Nat.zero_le _, rfl, rfl, World.ownsRow_nil _ _ _ _, rfl, Below.refl _ _⟩
        case round =>
          obtain ⟨k, acc, av, cv, hkl, rfl, rfl, HOW, HAC, HW⟩ := hrel
          have hwz := HW.out.size
          by_cases hlt : k < y.kids.length
          · obtain ⟨c, hcc⟩ : ∃ c, y.kids[k]? = some c := ⟨_, List.getElem?_eq_getElem hlt⟩
            have hBw : Below w.heap.size w wr := HB.out.trans (HW.out.mono (by omega))
            have hks : SxL wr y.kids a := SxL.below HK.out hBw
            obtain ⟨g, o, rfl, _, hg, _, _⟩ := hks.addr (by omega)
            obtain ⟨_, v0, v1, v2, c0, c1, c2, hrt⟩ := hks.get y.kids g o k c hcc
            obtain ⟨ca, cc, hv, _, _, _, _⟩ := hrt.parts
            simp only [Value.agg.injEq, Array.mk.injEq, List.cons.injEq, and_true] at hv
            obtain ⟨rfl, rfl, rfl⟩ := hv
            have c2' : wr.cell? ⟨g, o + k * 3 + 2, none⟩ = some (.slice ca c.kids.length cc) := c2
            have HC : Hid (∀ W, Below wr.heap.size wr W → Calls Tryz.prog 107 #[.agg #[.int .i8 c.kind, .string (bytesL c.text), .slice ca c.kids.length cc]] W (ReadP parM LPar W c)) := fun W hW => param_any c _ W (hrt.sx.below hW) (HRT.out c (List.mem_of_getElem? hcc))
            have HCC := Lib.hid hcc
            clear hks hrt hcc c2 hBw
            cases hm : parM c with
            | none =>
              have HN : Hid (eachM least most parM y = none) := by show _ = _; rw [HE.out]; exact allM_none HCC.out hm
              have HM := Lib.hid hm
              clear hm
              go_wp2_with (go_at_call 107; refine (HC.out _ ((Below.refl _ wr).alloc (Nat.le_refl _) _)).mono ?_; rintro e w2 hp; obtain ⟨v, x, rfl, hlv, hb2⟩ := hp.no HM.out; clear hp; unfold LPar at hlv; subst hlv)
              go_ret2
              have h2 : Below wr.heap.size wr w2 := ((Below.refl _ wr).alloc (Nat.le_refl _) _).trans (hb2.mono (by simp))
              have h4 : Below w.heap.size w w2 := HB.out.trans ((HW.out.trans (h2.mono hwz)).mono (by omega))
              exact HFALSE.out _ (h4.alloc h4.size _) HN.out
            | some x =>
              have HM := Lib.hid hm
              clear hm
              go_wp2_with (first | (go_at_call 107; refine (HC.out _ ((Below.refl _ wr).alloc (Nat.le_refl _) _)).mono ?_; rintro e w2 hp; obtain ⟨v, rfl, hlv, hb2⟩ := hp.yes HM.out; clear hp; unfold LPar at hlv; subst hlv; have HB2 : Hid (Below wr.heap.size wr w2) := ((Below.refl _ wr).alloc (Nat.le_refl _) _).trans (hb2.mono (by simp)); have hb2s := HB2.out.size; clear hb2) | (at_builtin; refine wpList_append_own_at _ rfl _ _ 25 rfl W0.heap.size 44 i0 _ 2 32 Tryz.underlying25 hi hz0 hz1 hz2 rfl (by decide) _ k (acc.flatMap parC) rfl (((own_below HOW.out HB2.out).alloc _).alloc _) ⟨w2.heap.size + 1, 0, none⟩ 1 1 (parC x) rfl rfl (news2) (fun u hu => one_par [x] u (by simpa using hu)) (by simp only [maxLen]; omega) (by omega) (by simp; omega) ?_; intro v' w3 hown' hgrow hnil hloc; clear hnil; have HOF := Lib.hid hown'; have HGr := Lib.hid hgrow; have HLoc := Lib.hid hloc; obtain ⟨av', cv', rfl, _⟩ := own_at HOF.out; clear hown' hgrow hloc))
              go_roundw
              case rel =>
                refine ⟨k + 1, acc ++ [x], av', cv', by omega, by go_num, rfl, ?_, ?_, ?_⟩
                · show World.ownsRow _ _ _ _ _ _ _
                  rw [List.flatMap_append]
                  have := HOF.out
                  simpa using this
                · show _ = _
                  rw [List.take_add_one, HCC.out]
                  simp only [Option.toList_some]
                  rw [allM_snoc, HAC.out, HM.out]
                · exact (((HW.out.trans (HB2.out.mono hwz)).alloc (by omega) _).alloc (by simp; omega) _).grown HGr.out (by simp; omega) (fun q e => own_ge HOW.out q e)

              case measure => simp [intOf]; omega
          · obtain rfl : k = y.kids.length := by omega
            go_wp2
            go_ret2
            have hall := HAC.out
            rw [List.take_length] at hall
            have hal := allM_len _ _ hall
            obtain ⟨a', c', e', q1, q2, q3⟩ := own_at HOW.out
            cases e'
            refine ⟨true, _, acc, rfl, ⟨av, cv, by rw [hal]; rfl, by rw [hal]; exact q1, q2, q3.wide (by omega) (Nat.le_refl _)⟩, by rw [HE.out, hall]; rfl, HB.out.trans (HW.out.mono (by omega))⟩
  · have e3 := ne_true (x := y.kind) (y := 3) h3
    have HN : Hid (eachM least most parM y = none) := by show _ = _; unfold eachM; rw [if_neg (fun h => h3 h.1)]
    clear h3
    go_enter Tryz.func106, Tryz.ntmps106
    go_wp2
    go_ret2
    exact HFALSE.out _ (by rw [← HL.out]; exact HB.out) HN.out
set_option maxRecDepth 100000 in
theorem params_any (y : Tree) (yv : Value) (w : World) (hr : Sx w y yv) (hrt : RowsT y) : Calls Tryz.prog 77 #[yv] w (ReadP (eachM 0 3 parM) (LRow parC) w y) := by
  obtain ⟨a, cap, rfl, hl, hc, hk, hb⟩ := sx_box hr
  have HC : Hid (Calls Tryz.prog 106 #[.agg #[.int .i8 y.kind, .string (bytesL y.text), .slice a y.kids.length cap], .int .i64 0, .int .i64 3, .func (.func 107) #[] #[]] (w.alloc (.cells #[.int .i8 y.kind, .string (bytesL y.text), .slice a y.kids.length cap] 35)) (ReadP (eachM 0 3 parM) (LRow parC) (w.alloc (.cells #[.int .i8 y.kind, .string (bytesL y.text), .slice a y.kids.length cap] 35)) y)) := each_par 0 3 y _ _ (hr.below hb) hrt (by omega) (by omega)
  have HB := Lib.hid hb
  clear hr hb hk hl hc
  go_enter Tryz.func77, Tryz.ntmps77
  go_wp2_with (go_at_call 106; refine HC.out.mono ?_; rintro e w1 ⟨b, v, x, rfl, hlv, hm, hb1⟩; have HLV := Lib.hid hlv; clear hlv)
  go_ret2
  exact ⟨b, v, x, rfl, LRow.more HLV.out (by simp), hm, HB.out.trans (hb1.mono (by simp))⟩
end Go.Proofs.YtodonngnigbpaaaGreatDoor
namespace Go.Proofs.YtodonngnigbpaaaGreatDoor
open Go.RowKit
set_option linter.unusedVariables false
set_option maxRecDepth 100000 in
set_option maxHeartbeats 4000000 in
theorem each_tree (least most : Nat) (y : Tree) (yv : Value) (w : World) (hr : Sx w y yv) (hrt : RowsT y) (hle : least ≤ 2) (hmo : most ≤ 64) :
    Calls Tryz.prog 110 #[yv, .int .i64 least, .int .i64 most, .func (.func 111) #[] #[]] w (ReadP (eachM least most termM) (LTrees) w y) := by
  obtain ⟨i0, hi, hz0, hz1, hz2⟩ := info_parts info_sex
  obtain ⟨_, hkr⟩ := hrt.kids
  obtain ⟨a, cap, rfl, hl, hc, hk, hb⟩ := sx_box hr
  obtain ⟨W0, hW0⟩ : ∃ W0, W0 = w.alloc (.cells #[.int .i8 y.kind, .string (bytesL y.text), .slice a y.kids.length cap] 35) := ⟨_, rfl⟩
  rw [← hW0] at hb
  have hX : W0.heap[w.heap.size]? = some (.cells #[.int .i8 y.kind, .string (bytesL y.text), .slice a y.kids.length cap] 35 (0, 0)) := by rw [hW0]; exact heap_alloc_new w _
  obtain ⟨x0, x1, x2, xf, xz⟩ := cells3b hX
  have hsz : W0.heap.size = w.heap.size + 1 := by rw [hW0]; simp
  have HL := Lib.hid hW0
  have HB := Lib.hid hb
  have HK := Lib.hid hk
  have HRT := Lib.hid hkr
  have hkm : y.kids.length ≤ 9223372036854775807 := by simp only [maxLen] at hc; omega
  have FALSE : ∀ w', Below w.heap.size w w' → eachM least most termM y = none → ReadP (eachM least most termM) (LTrees) w y (.returned (.tuple #[.slice none 0 0, .bool false])) w' := fun w' hb hn => ⟨false, _, [], rfl, ⟨none, 0, rfl, by simp, by simp, trivial⟩, by rw [hn]; rfl, hb⟩
  have HFALSE := Lib.hid FALSE
  clear hr hrt hkr hb hk hX hW0 FALSE
  by_cases h3 : y.kind = 3
  · have e3 := ne_false (x := y.kind) (y := 3) h3
    have D3 := Lib.hid h3
    clear h3
    by_cases h4 : y.kids.length < least
    · have HN : Hid (eachM least most termM y = none) := by show _ = _; unfold eachM; rw [if_neg (by omega)]
      go_enter Tryz.func110, Tryz.ntmps110
      go_wp2
      go_ret2
      exact HFALSE.out _ (by rw [← HL.out]; exact HB.out) HN.out
    · by_cases h5 : most < y.kids.length
      · have HN : Hid (eachM least most termM y = none) := by show _ = _; unfold eachM; rw [if_neg (by omega)]
        go_enter Tryz.func110, Tryz.ntmps110
        go_wp2
        go_ret2
        exact HFALSE.out _ (by rw [← HL.out]; exact HB.out) HN.out
      · have HE : Hid (eachM least most termM y = allM termM y.kids) := by show _ = _; unfold eachM; rw [if_pos ⟨D3.out, by omega, by omega⟩]
        go_enter Tryz.func110, Tryz.ntmps110
        go_wp2_with fail
        rw [← HL.out]
        go_loopw [10, 35] (fun v i wr => ∃ (k : Nat) (acc : List SexV) (av : Option Addr) (cv : Nat), k ≤ y.kids.length ∧ i = .int .i64 k ∧ v = .slice av k cv ∧ Hid (wr.ownsRow W0.heap.size 35 3 (.slice av k cv) k (acc.flatMap sexC)) ∧ Hid (acc.map (·.t) = y.kids.take k) ∧ Hid (Below W0.heap.size W0 wr) ∧ Hid (∀ s ∈ acc, Rd wr (fun b => newBad W0.heap.size wr b ∨ (Value.slice av k cv).ownBlock = some b) s.t (sexV s))) (fun _ i _ => y.kids.length - (intOf i).toNat)
        case atStart => exact ⟨0, [], none, 0, Nat.zero_le _, rfl, rfl, World.ownsRow_nil _ _ _ _, rfl, Below.refl _ _, fun s hs => (by simp at hs)⟩
        case round =>
          obtain ⟨k, acc, av, cv, hkl, rfl, rfl, HOW, HAC, HW, HSX⟩ := hrel
          have hwz := HW.out.size
          by_cases hlt : k < y.kids.length
          · obtain ⟨c, hcc⟩ : ∃ c, y.kids[k]? = some c := ⟨_, List.getElem?_eq_getElem hlt⟩
            have hBw : Below w.heap.size w wr := HB.out.trans (HW.out.mono (by omega))
            have hks : SxL wr y.kids a := SxL.below HK.out hBw
            obtain ⟨g, o, rfl, _, hg, _, _⟩ := hks.addr (by omega)
            obtain ⟨_, v0, v1, v2, c0, c1, c2, hrt⟩ := hks.get y.kids g o k c hcc
            obtain ⟨ca, cc, hv, _, _, _, _⟩ := hrt.parts
            simp only [Value.agg.injEq, Array.mk.injEq, List.cons.injEq, and_true] at hv
            obtain ⟨rfl, rfl, rfl⟩ := hv
            have c2' : wr.cell? ⟨g, o + k * 3 + 2, none⟩ = some (.slice ca c.kids.length cc) := c2
            have HC : Hid (∀ W, Below wr.heap.size wr W → Calls Tryz.prog 111 #[.agg #[.int .i8 c.kind, .string (bytesL c.text), .slice ca c.kids.length cc]] W (ReadP termM LTree W c)) := fun W hW => term_any c _ W (hrt.sx.below hW) (HRT.out c (List.mem_of_getElem? hcc))
            have HCC := Lib.hid hcc
            clear hks hrt hcc c2 hBw
            cases hm : termM c with
            | none =>
              have HN : Hid (eachM least most termM y = none) := by show _ = _; rw [HE.out]; exact allM_none HCC.out hm
              have HM := Lib.hid hm
              clear hm
              go_wp2_with (go_at_call 111; refine (HC.out _ ((Below.refl _ wr).alloc (Nat.le_refl _) _)).mono ?_; rintro e w2 hp; obtain ⟨v, x, rfl, hlv, hb2⟩ := hp.no HM.out; clear hp; obtain ⟨s, hst, rfl, hsn⟩ := hlv; unfold sexV)
              go_ret2
              have h2 : Below wr.heap.size wr w2 := ((Below.refl _ wr).alloc (Nat.le_refl _) _).trans (hb2.mono (by simp))
              have h4 : Below w.heap.size w w2 := HB.out.trans ((HW.out.trans (h2.mono hwz)).mono (by omega))
              exact HFALSE.out _ (h4.alloc h4.size _) HN.out
            | some x =>
              have HM := Lib.hid hm
              clear hm
              go_wp2_with (first | (go_at_call 111; refine (HC.out _ ((Below.refl _ wr).alloc (Nat.le_refl _) _)).mono ?_; rintro e w2 hp; obtain ⟨v, rfl, hlv, hb2⟩ := hp.yes HM.out; clear hp; obtain ⟨s, hst, rfl, hsn⟩ := hlv; unfold sexV; have HB2 : Hid (Below wr.heap.size wr w2) := ((Below.refl _ wr).alloc (Nat.le_refl _) _).trans (hb2.mono (by simp)); have hb2s := HB2.out.size; have HST := Lib.hid hst; have HSN := Lib.hid hsn; clear hst hsn; clear hb2) | (at_builtin; refine wpList_append_own_at _ rfl _ _ 26 rfl W0.heap.size 35 i0 _ 3 48 Tryz.underlying26 hi hz0 hz1 hz2 rfl (by decide) _ k (acc.flatMap sexC) rfl (((own_below HOW.out HB2.out).alloc _).alloc _) ⟨w2.heap.size + 1, 0, none⟩ 1 1 (sexC s) rfl rfl (news2) (fun u hu => one_sex [s] u (by simpa using hu)) (by simp only [maxLen]; omega) (by omega) (by simp; omega) ?_; intro v' w3 hown' hgrow hnil hloc; clear hnil; have HOF := Lib.hid hown'; have HGr := Lib.hid hgrow; have HLoc := Lib.hid hloc; obtain ⟨av', cv', rfl, _⟩ := own_at HOF.out; clear hown' hgrow hloc))
              go_roundw
              case rel =>
                refine ⟨k + 1, acc ++ [s], av', cv', by omega, by go_num, rfl, ?_, ?_, ?_, ?_⟩
                · show World.ownsRow _ _ _ _ _ _ _
                  rw [List.flatMap_append]
                  have := HOF.out
                  simpa using this
                · show _ = _
                  rw [List.take_add_one, HCC.out, List.map_append, HAC.out]
                  have hxx : c = x := by have := HM.out; unfold termM at this; exact Option.some.inj this
                  simp [HST.out, hxx]
                · exact (((HW.out.trans (HB2.out.mono hwz)).alloc (by omega) _).alloc (by simp; omega) _).grown HGr.out (by simp; omega) (fun q e => own_ge HOW.out q e)
                · intro s' hs'
                  have hwl : ∀ b, (Value.slice av k cv).ownBlock = some b → b < wr.heap.size := fun b e => own_lt HOW.out b e
                  have q : Rd w2 (fun b => newBad W0.heap.size w2 b ∨ (Value.slice av k cv).ownBlock = some b) s'.t (sexV s') := by
                    rcases List.mem_append.1 hs' with h | h
                    · have h1 := Rd.keep (fun b hb hlt => HB2.out.block b hlt) _ _ (HSX.out s' h)
                      refine Rd.mono (fun b _ hb => ?_) _ _ h1
                      rcases hb with (hb | hb) | hb
                      · exact .inl (.inl hb)
                      · refine .inl (.inr ?_)
                        rintro ⟨cs, ty, hc⟩
                        exact hb ⟨cs, ty, (HB2.out.block b (Array.getElem?_eq_some_iff.1 hc).1).trans hc⟩
                      · exact .inr hb
                    · simp only [List.mem_singleton] at h
                      subst h
                      have h1 := HSN.out
                      rw [← HST.out] at h1
                      refine Rd.mono (fun b _ hb => ?_) _ _ h1
                      rcases hb with (hb | hb) | hb
                      · exact .inl (by simp; omega)
                      · exact .inr hb
                      · have := hwl b hb; exact .inl (by simp; omega)
                  have hal : Rd ((w2.alloc (.cells (sexC s).toArray 35)).alloc (.cells (sexC s).toArray 35)) (fun b => newBad W0.heap.size ((w2.alloc (.cells (sexC s).toArray 35)).alloc (.cells (sexC s).toArray 35)) b ∨ (Value.slice av k cv).ownBlock = some b) s'.t (sexV s') := by
                    have hba : Below w2.heap.size w2 ((w2.alloc (.cells (sexC s).toArray 35)).alloc (.cells (sexC s).toArray 35)) := ((Below.refl _ _).alloc (Nat.le_refl _) _).alloc (by simp) _
                    have h1 := Rd.keep (fun b hb hlt => hba.block b hlt) _ _ q
                    refine Rd.mono (fun b _ hb => ?_) _ _ h1
                    rcases hb with (hb | hb) | hb
                    · exact .inl (.inl hb)
                    · refine .inl (.inr ?_)
                      rintro ⟨cs, ty, hc⟩
                      exact hb ⟨cs, ty, (hba.block b (Array.getElem?_eq_some_iff.1 hc).1).trans hc⟩
                    · exact .inr hb
                  exact NewT.app hal HGr.out HLoc.out
              case measure => simp [intOf]; omega
          · obtain rfl : k = y.kids.length := by omega
            go_wp2
            go_ret2
            have hall := HAC.out
            rw [List.take_length] at hall
            have hal : acc.length = y.kids.length := by have := congrArg List.length hall; simpa using this
            obtain ⟨a', c', e', q1, q2, q3⟩ := own_rdl (bad := newBad w.heap.size wr) HOW.out hal.symm (fun g hg hc hb => by
              rcases hb with hb | hb
              · omega
              · exact hb hc) (fun s hs => Rd.mono (fun b _ hb => by
                rcases hb with hb | hb
                · exact .inl (.inl (by omega))
                · exact .inl (.inr hb)) _ _ (HSX.out s hs))
            rw [hall] at q3
            rw [hal] at e' q1
            simp only [Value.slice.injEq] at e'
            obtain ⟨rfl, -, rfl⟩ := e'
            refine ⟨true, _, y.kids, rfl, ⟨av, cv, rfl, q1, q2, q3⟩, by rw [HE.out, allM_term]; rfl, HB.out.trans (HW.out.mono (by omega))⟩
  · have e3 := ne_true (x := y.kind) (y := 3) h3
    have HN : Hid (eachM least most termM y = none) := by show _ = _; unfold eachM; rw [if_neg (fun h => h3 h.1)]
    clear h3
    go_enter Tryz.func110, Tryz.ntmps110
    go_wp2
    go_ret2
    exact HFALSE.out _ (by rw [← HL.out]; exact HB.out) HN.out
end Go.Proofs.YtodonngnigbpaaaGreatDoor
namespace Go.Proofs.YtodonngnigbpaaaGreatDoor
open Go.RowKit
set_option linter.unusedVariables false
set_option maxRecDepth 100000 in
theorem terms_any (y : Tree) (yv : Value) (w : World) (hr : Sx w y yv) (hrt : RowsT y) : Calls Tryz.prog 82 #[yv] w (ReadP (eachM 1 16 termM) (LTrees) w y) := by
  obtain ⟨a, cap, rfl, hl, hc, hk, hb⟩ := sx_box hr
  have HC : Hid (Calls Tryz.prog 110 #[.agg #[.int .i8 y.kind, .string (bytesL y.text), .slice a y.kids.length cap], .int .i64 1, .int .i64 16, .func (.func 111) #[] #[]] (w.alloc (.cells #[.int .i8 y.kind, .string (bytesL y.text), .slice a y.kids.length cap] 35)) (ReadP (eachM 1 16 termM) (LTrees) (w.alloc (.cells #[.int .i8 y.kind, .string (bytesL y.text), .slice a y.kids.length cap] 35)) y)) := each_tree 1 16 y _ _ (hr.below hb) hrt (by omega) (by omega)
  have HB := Lib.hid hb
  clear hr hb hk hl hc
  go_enter Tryz.func82, Tryz.ntmps82
  go_wp2_with (go_at_call 110; refine HC.out.mono ?_; rintro e w1 ⟨b, v, x, rfl, hlv, hm, hb1⟩; have HLV := Lib.hid hlv; clear hlv)
  go_ret2
  exact ⟨b, v, x, rfl, LTrees.more HLV.out (by simp), hm, HB.out.trans (hb1.mono (by simp))⟩
set_option maxRecDepth 100000 in
theorem numbers_any (y : Tree) (yv : Value) (w : World) (hr : Sx w y yv) (hrt : RowsT y) : Calls Tryz.prog 101 #[yv] w (ReadP (eachM 0 64 (numM 1048576)) (LRow intC) w y) := by
  obtain ⟨a, cap, rfl, hl, hc, hk, hb⟩ := sx_box hr
  have HC : Hid (Calls Tryz.prog 120 #[.agg #[.int .i8 y.kind, .string (bytesL y.text), .slice a y.kids.length cap], .int .i64 0, .int .i64 64, .func (.func 99) #[] #[]] (w.alloc (.cells #[.int .i8 y.kind, .string (bytesL y.text), .slice a y.kids.length cap] 35)) (ReadP (eachM 0 64 (numM 1048576)) (LRow intC) (w.alloc (.cells #[.int .i8 y.kind, .string (bytesL y.text), .slice a y.kids.length cap] 35)) y)) := each_int 0 64 y _ _ (hr.below hb) hrt (by omega) (by omega)
  have HB := Lib.hid hb
  clear hr hb hk hl hc
  go_enter Tryz.func101, Tryz.ntmps101
  go_wp2_with (go_at_call 120; refine HC.out.mono ?_; rintro e w1 ⟨b, v, x, rfl, hlv, hm, hb1⟩; have HLV := Lib.hid hlv; clear hlv)
  go_ret2
  exact ⟨b, v, x, rfl, LRow.more HLV.out (by simp), hm, HB.out.trans (hb1.mono (by simp))⟩
end Go.Proofs.YtodonngnigbpaaaGreatDoor
