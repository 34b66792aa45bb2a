/- Package command's rows of what is written. -/
import Derived.Test.YtodonngnigbpaaaGreatDoorCmB
namespace Go.Proofs.YtodonngnigbpaaaGreatDoor
open Go.RowKit
set_option linter.unusedVariables false
theorem own_ge {w : World} {base size n : Nat} {E : TypeId} {v : Value} {L : List Value} (h : w.ownsRow base E size v n L) (k : Nat) (e : v.ownBlock = some k) : base ≤ k := by
  rcases h.2 with ⟨rfl, _⟩ | ⟨g, cap, cur, rfl, h1, _⟩
  · cases e
  · cases e; exact h1
theorem own_lt {w : World} {base size n : Nat} {E : TypeId} {v : Value} {L : List Value} (h : w.ownsRow base E size v n L) (k : Nat) (e : v.ownBlock = some k) : k < w.heap.size := by
  rcases h.2 with ⟨rfl, _⟩ | ⟨g, cap, cur, rfl, h1, h2, _⟩
  · cases e
  · cases e; exact (Array.getElem?_eq_some_iff.1 h2).1
theorem own_heap {w w' : World} {base size n : Nat} {E : TypeId} {v : Value} {L : List Value} (h : w.ownsRow base E size v n L) (hk : ∀ k, base ≤ k → k < w.heap.size → w'.heap[k]? = w.heap[k]?) : w'.ownsRow base E size v n L := by
  obtain ⟨h0, hn⟩ := h
  refine ⟨h0, ?_⟩
  rcases hn with h | ⟨g, cap, cur, e, h1, h2, h3⟩
  · exact .inl h
  · exact .inr ⟨g, cap, cur, e, h1, (hk g h1 (Array.getElem?_eq_some_iff.1 h2).1).trans h2, h3⟩
theorem own_below {w w' : World} {base size n : Nat} {E : TypeId} {v : Value} {L : List Value} (h : w.ownsRow base E size v n L) (hb : Below w.heap.size w w') : w'.ownsRow base E size v n L := own_heap h (fun k _ hk => hb.block k hk)
theorem SxS.app {H : Nat → Prop} {W W2 : World} {t : Tree} {s v v' : Value} (h : SxS (fun b => H b ∨ v.ownBlock = some b) W t s) (hg : W.grownBy W2 v.ownBlock) (hloc : v'.ownBlock = v.ownBlock ∨ v'.ownBlock = some W.heap.size) : SxS (fun b => H b ∨ v'.ownBlock = some b) W2 t s := by
  refine SxS.to h hg.size (fun b hlt hn => hg.block b hlt (fun e => hn (.inr e.symm))) (fun b hb => ?_)
  rcases hb with hb | hb
  · exact .inl (.inl hb)
  · rcases hloc with e | e
    · exact .inl (.inr (e ▸ hb))
    · rw [e] at hb; cases hb; exact .inr (Nat.le_refl _)
set_option maxRecDepth 100000 in
set_option maxHeartbeats 4000000 in
theorem rowOf_str (H : Nat → Prop) (l : List (List UInt8)) (a : Option Addr) (c : Nat) (w : World) (hi' : In w H) (hA : At w w.heap.size (l.flatMap strC) a) (hlen : l.length ≤ 200) (hok : ∀ x ∈ l, x.length ≤ maxLen) :
    Calls Tryz.prog 32 #[.slice a l.length c, .func (.func 29) #[] #[]] w (SxPost H w (rowT (l.map symT))) := by
  obtain ⟨i0, hi, hz0, hz1, hz2⟩ := info_parts info_sex
  have HA := Lib.hid hA
  have HIn := Lib.hid hi'
  have HOK := Lib.hid hok
  have HB0 : Hid (Below w.heap.size w (w.alloc zSx)) := (Below.refl _ _).alloc (Nat.le_refl _) _
  have HX0 : Hid ((w.alloc zSx).heap[w.heap.size]? = some zSx) := heap_alloc_new w _
  have hz : w.heap.size < (w.alloc zSx).heap.size := by simp
  have HZ : Hid (∀ o, o = zSx → w.alloc o = w.alloc zSx) := fun o h => by rw [h]
  clear hA hi' hok
  go_enter Tryz.func32, Tryz.ntmps32
  go_wp2
  rw [HZ.out (.cells #[.int .i8 0, .string ⟨#[]⟩, .slice none 0 0] 35) rfl]
  obtain ⟨W0, hW0⟩ : ∃ W0, W0 = w.alloc zSx := ⟨_, rfl⟩
  rw [← hW0] at HB0 HX0 hz ⊢
  clear hW0
  go_loopw [5, 10] (fun v i wr => ∃ (k : Nat) (xs : List SexV) (av : Option Addr) (cv : Nat), k ≤ l.length ∧ i = .int .i64 k ∧ v = .slice av k cv ∧ Hid (wr.ownsRow W0.heap.size 35 3 (.slice av k cv) k (xs.flatMap sexC)) ∧ Hid (xs.map (·.t) = (l.take k).map symT) ∧ Hid (∀ s ∈ xs, SxS (fun b => (H b ∨ b = w.heap.size) ∨ (Value.slice av k cv).ownBlock = some b) wr s.t (sexV s)) ∧ Hid (Below W0.heap.size W0 wr)) (fun _ i _ => l.length - (intOf i).toNat)
  case atStart => exact ⟨0, [], none, 0, Nat.zero_le _, rfl, rfl, World.ownsRow_nil _ _ _ _, rfl, fun s hs => (by simp at hs), Below.refl _ _⟩
  case round =>
    obtain ⟨k, xs, av, cv, hkl, rfl, rfl, HOW, HXS, HSX, HW⟩ := hrel
    have hxl : xs.length = k := by have := congrArg List.length HXS.out; simp at this; omega
    by_cases hlt : k < l.length
    · obtain ⟨x, hx⟩ : ∃ x, l[k]? = some x := ⟨_, List.getElem?_eq_getElem hlt⟩
      have hBw : Below w.heap.size w wr := HB0.out.trans (HW.out.mono HB0.out.size)
      obtain ⟨g, o, rfl, hg, hcell⟩ := HA.out.below hBw (by rw [len_flat strC_len]; omega)
      have c0 := hcell _ _ ((get_flat strC_len l k 0 x hx (by omega)).trans rfl)
      simp only [Nat.mul_one, Nat.add_zero] at c0
      have hgw : g < wr.heap.size := Nat.lt_of_lt_of_le hg hBw.size
      have HIn2 : Hid (In wr (fun b => (H b ∨ b = w.heap.size) ∨ (Value.slice av k cv).ownBlock = some b)) := fun b hb => by
        rcases hb with (hb | hb) | hb
        · exact Nat.lt_of_lt_of_le (HIn.out b hb) hBw.size
        · have := HW.out.size; omega
        · exact own_lt HOW.out b hb
      have HC : Hid (∀ W, Below wr.heap.size wr W → Calls Tryz.prog 29 #[.string (bytesL x)] W fun e w' => ∃ s : SexV, s.t = symT x ∧ e = .returned (sexV s) ∧ SxS (fun b => (H b ∨ b = w.heap.size) ∨ (Value.slice av k cv).ownBlock = some b) w' (symT x) (sexV s) ∧ Below wr.heap.size wr w') := fun W hW => (symbol_any (fun b => (H b ∨ b = w.heap.size) ∨ (Value.slice av k cv).ownBlock = some b) x W (HOK.out x (List.mem_of_getElem? hx))).mono fun e w' ⟨s, h1, h2, h3, h4⟩ => ⟨s, h1, h2, h3, hW.trans (h4.mono hW.size)⟩
      have HXK := Lib.hid hx
      have hw1 := HW.out.size
      clear hcell hx hBw
      go_wp2_with (first | (go_at_call 29; refine (HC.out _ (by first | exact Below.refl _ _ | exact (Below.refl _ _).alloc (Nat.le_refl _) _)).mono ?_; rintro e w2 ⟨s, hst, rfl, hs2, hb2⟩; unfold sexV; have hb2s := hb2.size; have HST := Lib.hid hst; have HS2 := Lib.hid hs2; have HB2 := Lib.hid hb2; clear hs2 hb2 hst) | (at_builtin; refine wpList_append_own_at _ rfl _ _ 26 rfl W0.heap.size 35 i0 _ 3 48 Tryz.underlying26 hi hz0 hz1 hz2 rfl (by decide) _ k (xs.flatMap sexC) rfl ((own_below HOW.out HB2.out).alloc _) ⟨w2.heap.size, 0, none⟩ 1 1 (sexC s) rfl rfl (World.news_of_block (heap_alloc_new w2 _)) (fun u hu => one_sex [s] u (by simpa using hu)) (by simp only [maxLen]; omega) (by omega) (by simp; omega) ?_; intro v' w3 hown' hgrow hnil hloc; clear hnil; have HOF := Lib.hid hown'; have HGr := Lib.hid hgrow; have HLoc := Lib.hid hloc; obtain ⟨av', cv', rfl, _⟩ := own_at HOF.out; clear hown' hgrow hloc))
      go_roundw
      case rel =>
        have hlow : ∀ q, (Value.slice av k cv).ownBlock = some q → W0.heap.size ≤ q := fun q e => own_ge HOW.out q e
        refine ⟨k + 1, xs ++ [s], av', cv', by omega, by go_num, rfl, ?_, ?_, ?_, ?_⟩
        · show World.ownsRow _ _ _ _ _ _ _
          rw [List.flatMap_append]
          have := HOF.out
          simpa using this
        · show _ = _
          rw [List.map_append, HXS.out, List.take_add_one, HXK.out]
          simp [HST.out]
        · intro s' hs'
          have q : SxS (fun b => (H b ∨ b = w.heap.size) ∨ (Value.slice av k cv).ownBlock = some b) w2 s'.t (sexV s') := by
            rcases List.mem_append.1 hs' with h | h
            · exact (HSX.out s' h).below HB2.out
            · simp only [List.mem_singleton] at h
              subst h
              rw [HST.out]
              exact HS2.out
          exact (q.below ((Below.refl _ w2).alloc (Nat.le_refl _) _)).app HGr.out HLoc.out
        · exact ((HW.out.trans (HB2.out.mono hw1)).alloc (by omega) _).grown HGr.out (by simp; omega) hlow
      case measure => simp [intOf]; omega
    · obtain rfl : k = l.length := by omega
      have hX := (HW.out.block _ hz).trans HX0.out
      obtain ⟨a', c', e', hle, hmx, hrd⟩ := own_rdl (bad := fun b => (H b ∨ b = w.heap.size) ∨ wr.heap.size ≤ b) HOW.out hxl.symm (fun g hg hc hb => by
        obtain ⟨cs, ty, hc⟩ := hc
        have hlt := (Array.getElem?_eq_some_iff.1 hc).1
        rcases hb with (hb | hb) | hb
        · have := HIn.out g hb; omega
        · omega
        · omega) (fun s hs => Rd.mono (fun b hb hbad => by rcases hbad with h | h; exact .inl (.inl h); exact .inr h) _ _ (HSX.out s hs))
      simp only [Value.slice.injEq] at e'
      obtain ⟨rfl, -, rfl⟩ := e'
      have hrd' : SxLS (fun b => H b ∨ b = w.heap.size) wr (l.map symT) av := by
        have e := HXS.out
        rw [List.take_length] at e
        rw [← e]
        exact hrd
      have hml : (l.map symT).length = l.length := by simp
      have HR : Hid (Calls Tryz.prog 35 #[.slice av l.length cv] wr (SxPost (fun b => H b ∨ b = w.heap.size) wr (rowT (l.map symT)))) := by
        have := row_any (fun b => H b ∨ b = w.heap.size) (l.map symT) av cv wr (by rw [hml]; omega) hmx hrd'
        rwa [hml] at this
      have HX := Lib.hid hX
      have hwz := HW.out.size
      clear hX hrd hrd' hml hle hmx
      go_wp2_with (go_at_call 35; refine HR.out.mono ?_; rintro e w2 ⟨s, hst, rfl, hs2, hb2⟩; unfold sexV; have HST := Lib.hid hst; clear hst; have hx2 := (hb2.block _ (by omega)).trans HX.out; obtain ⟨c0, c1, c2, fz, hzz⟩ := cells3b hx2)
      have hb3 : Below w.heap.size w w2 := (HB0.out.trans (HW.out.mono HB0.out.size)).trans (hb2.mono (by have := HB0.out.size; omega))
      obtain ⟨h1, h2, h3⟩ := sx_store (H := H) (s := s) hb3 hx2 (Nat.le_refl _) hs2 (.inr rfl) (fun b hb => .inl hb)
      refine bodyPost_ret (results_cell_row rfl _ _ (w.heap.size) _ _ _ _ rfl (h1) Tryz.underlying35 rfl sexSize3) rfl ?_
      exact ⟨s, HST.out, rfl, h2, h3⟩
set_option maxRecDepth 100000 in
set_option maxHeartbeats 4000000 in
theorem pair_any (H : Nat → Prop) (p : List UInt8 × List UInt8) (w : World) (hi' : In w H) (hok : p.1.length ≤ maxLen ∧ p.2.length ≤ maxLen) :
    Calls Tryz.prog 34 #[.agg #[.string (bytesL p.1), .string (bytesL p.2)]] w (SxPost H w (pairT p)) := by
  have HIn := Lib.hid hi'
  have HOK := Lib.hid hok
  obtain ⟨W0, hW0⟩ : ∃ W0, W0 = (w.alloc (.cells #[.string (bytesL p.1), .string (bytesL p.2)] 44)).alloc zSx := ⟨_, rfl⟩
  have hB0 : Below w.heap.size w W0 := by rw [hW0]; exact ((Below.refl _ _).alloc (Nat.le_refl _) _).alloc (by simp) _
  have hX0 : W0.heap[w.heap.size]? = some (.cells #[.string (bytesL p.1), .string (bytesL p.2)] 44 (0, 0)) := by rw [hW0]; exact (Below.heap_alloc _ _ _ (by simp)).trans (heap_alloc_new w _)
  have hY0 : W0.heap[w.heap.size + 1]? = some zSx := by
    rw [hW0]
    have := heap_alloc_new (w.alloc (.cells #[.string (bytesL p.1), .string (bytesL p.2)] 44)) zSx
    rwa [World.size_alloc] at this
  have hsz : W0.heap.size = w.heap.size + 2 := by rw [hW0]; simp
  have HL : Hid (W0 = (w.alloc (.cells #[.string (bytesL p.1), .string (bytesL p.2)] 44)).alloc (.cells #[.int .i8 0, .string ⟨#[]⟩, .slice none 0 0] 35)) := hW0
  have HA : Hid (At W0 W0.heap.size ([p.1, p.2].flatMap strC) (some ⟨w.heap.size, 0, none⟩)) := fun _ => ⟨_, _, rfl, by omega, fun i v hv => by
    have := cell_of_row _ _ (0 + i) _ _ _ hX0
    rw [this, Nat.zero_add, ← Array.getElem?_toList]
    exact hv⟩
  have HC : Hid (Calls Tryz.prog 32 #[.slice (some ⟨w.heap.size, 0, none⟩) 2 2, .func (.func 29) #[] #[]] W0 (SxPost (fun b => H b ∨ b = w.heap.size + 1) W0 (pairT p))) :=
    rowOf_str (fun b => H b ∨ b = w.heap.size + 1) [p.1, p.2] (some ⟨w.heap.size, 0, none⟩) 2 W0 (fun b hb => by rcases hb with hb | hb; have := HIn.out b hb; omega; omega) HA.out (by simp) (fun x hx => by simp at hx; rcases hx with rfl | rfl; exact HOK.out.1; exact HOK.out.2)
  have HB0 := Lib.hid hB0
  have HY0 := Lib.hid hY0
  clear hW0 hB0 hX0 hY0 hi' hok HA
  go_enter Tryz.func34, Tryz.ntmps34
  go_wp2_with fail
  rw [← HL.out]
  clear HL
  refine HC.out.mono ?_
  rintro e w2 ⟨s, hst, rfl, hs2, hb2⟩
  unfold sexV
  have HST := Lib.hid hst
  clear hst
  have hx2 := (hb2.block _ (by omega)).trans HY0.out
  obtain ⟨c0, c1, c2, fz, hzz⟩ := cells3b hx2
  go_wp2
  have hb3 : Below w.heap.size w w2 := HB0.out.trans (hb2.mono (by omega))
  obtain ⟨h1, h2, h3⟩ := sx_store (H := H) (s := s) hb3 hx2 (Nat.le_succ _) hs2 (.inr rfl) (fun b hb => .inl hb)
  refine bodyPost_ret (results_cell_row rfl _ _ (w.heap.size + 1) _ _ _ _ rfl (h1) Tryz.underlying35 rfl sexSize3) rfl ?_
  exact ⟨s, HST.out, rfl, h2, h3⟩
set_option maxRecDepth 100000 in
set_option maxHeartbeats 4000000 in
theorem rowOf_par (H : Nat → Prop) (l : List (List UInt8 × List UInt8)) (a : Option Addr) (c : Nat) (w : World) (hi' : In w H) (hA : At w w.heap.size (l.flatMap parC) a) (hlen : l.length ≤ 200) (hok : ∀ x ∈ l, x.1.length ≤ maxLen ∧ x.2.length ≤ maxLen) :
    Calls Tryz.prog 33 #[.slice a l.length c, .func (.func 34) #[] #[]] w (SxPost H w (rowT (l.map pairT))) := by
  obtain ⟨i0, hi, hz0, hz1, hz2⟩ := info_parts info_sex
  have HA := Lib.hid hA
  have HIn := Lib.hid hi'
  have HOK := Lib.hid hok
  have HB0 : Hid (Below w.heap.size w (w.alloc zSx)) := (Below.refl _ _).alloc (Nat.le_refl _) _
  have HX0 : Hid ((w.alloc zSx).heap[w.heap.size]? = some zSx) := heap_alloc_new w _
  have hz : w.heap.size < (w.alloc zSx).heap.size := by simp
  have HZ : Hid (∀ o, o = zSx → w.alloc o = w.alloc zSx) := fun o h => by rw [h]
  clear hA hi' hok
  go_enter Tryz.func33, Tryz.ntmps33
  go_wp2
  rw [HZ.out (.cells #[.int .i8 0, .string ⟨#[]⟩, .slice none 0 0] 35) rfl]
  obtain ⟨W0, hW0⟩ : ∃ W0, W0 = w.alloc zSx := ⟨_, rfl⟩
  rw [← hW0] at HB0 HX0 hz ⊢
  clear hW0
  go_loopw [5, 10] (fun v i wr => ∃ (k : Nat) (xs : List SexV) (av : Option Addr) (cv : Nat), k ≤ l.length ∧ i = .int .i64 k ∧ v = .slice av k cv ∧ Hid (wr.ownsRow W0.heap.size 35 3 (.slice av k cv) k (xs.flatMap sexC)) ∧ Hid (xs.map (·.t) = (l.take k).map pairT) ∧ Hid (∀ s ∈ xs, SxS (fun b => (H b ∨ b = w.heap.size) ∨ (Value.slice av k cv).ownBlock = some b) wr s.t (sexV s)) ∧ Hid (Below W0.heap.size W0 wr)) (fun _ i _ => l.length - (intOf i).toNat)
  case atStart => exact ⟨0, [], none, 0, Nat.zero_le _, rfl, rfl, World.ownsRow_nil _ _ _ _, rfl, fun s hs => (by simp at hs), Below.refl _ _⟩
  case round =>
    obtain ⟨k, xs, av, cv, hkl, rfl, rfl, HOW, HXS, HSX, HW⟩ := hrel
    have hxl : xs.length = k := by have := congrArg List.length HXS.out; simp at this; omega
    by_cases hlt : k < l.length
    · obtain ⟨x, hx⟩ : ∃ x, l[k]? = some x := ⟨_, List.getElem?_eq_getElem hlt⟩
      have hBw : Below w.heap.size w wr := HB0.out.trans (HW.out.mono HB0.out.size)
      obtain ⟨g, o, rfl, hg, hcell⟩ := HA.out.below hBw (by rw [len_flat parC_len]; omega)
      have c0 := hcell _ _ ((get_flat parC_len l k 0 x hx (by omega)).trans rfl)
      have c1 := hcell _ _ ((get_flat parC_len l k 1 x hx (by omega)).trans rfl)
      simp only [Nat.add_zero] at c0
      simp only [← Nat.add_assoc] at c1
      have hgw : g < wr.heap.size := Nat.lt_of_lt_of_le hg hBw.size
      have HIn2 : Hid (In wr (fun b => (H b ∨ b = w.heap.size) ∨ (Value.slice av k cv).ownBlock = some b)) := fun b hb => by
        rcases hb with (hb | hb) | hb
        · exact Nat.lt_of_lt_of_le (HIn.out b hb) hBw.size
        · have := HW.out.size; omega
        · exact own_lt HOW.out b hb
      have HC : Hid (∀ W, Below wr.heap.size wr W → Calls Tryz.prog 34 #[.agg #[.string (bytesL x.1), .string (bytesL x.2)]] W fun e w' => ∃ s : SexV, s.t = pairT x ∧ e = .returned (sexV s) ∧ SxS (fun b => (H b ∨ b = w.heap.size) ∨ (Value.slice av k cv).ownBlock = some b) w' (pairT x) (sexV s) ∧ Below wr.heap.size wr w') := fun W hW => (pair_any (fun b => (H b ∨ b = w.heap.size) ∨ (Value.slice av k cv).ownBlock = some b) x W (fun b hb => Nat.lt_of_lt_of_le (HIn2.out b hb) hW.size) (HOK.out x (List.mem_of_getElem? hx))).mono fun e w' ⟨s, h1, h2, h3, h4⟩ => ⟨s, h1, h2, h3, hW.trans (h4.mono hW.size)⟩
      have HXK := Lib.hid hx
      have hw1 := HW.out.size
      clear hcell hx hBw
      go_wp2_with (first | (go_at_call 34; refine (HC.out _ (by first | exact Below.refl _ _ | exact (Below.refl _ _).alloc (Nat.le_refl _) _)).mono ?_; rintro e w2 ⟨s, hst, rfl, hs2, hb2⟩; unfold sexV; have hb2s := hb2.size; have HST := Lib.hid hst; have HS2 := Lib.hid hs2; have HB2 := Lib.hid hb2; clear hs2 hb2 hst) | (at_builtin; refine wpList_append_own_at _ rfl _ _ 26 rfl W0.heap.size 35 i0 _ 3 48 Tryz.underlying26 hi hz0 hz1 hz2 rfl (by decide) _ k (xs.flatMap sexC) rfl ((own_below HOW.out HB2.out).alloc _) ⟨w2.heap.size, 0, none⟩ 1 1 (sexC s) rfl rfl (World.news_of_block (heap_alloc_new w2 _)) (fun u hu => one_sex [s] u (by simpa using hu)) (by simp only [maxLen]; omega) (by omega) (by simp; omega) ?_; intro v' w3 hown' hgrow hnil hloc; clear hnil; have HOF := Lib.hid hown'; have HGr := Lib.hid hgrow; have HLoc := Lib.hid hloc; obtain ⟨av', cv', rfl, _⟩ := own_at HOF.out; clear hown' hgrow hloc))
      go_roundw
      case rel =>
        have hlow : ∀ q, (Value.slice av k cv).ownBlock = some q → W0.heap.size ≤ q := fun q e => own_ge HOW.out q e
        refine ⟨k + 1, xs ++ [s], av', cv', by omega, by go_num, rfl, ?_, ?_, ?_, ?_⟩
        · show World.ownsRow _ _ _ _ _ _ _
          rw [List.flatMap_append]
          have := HOF.out
          simpa using this
        · show _ = _
          rw [List.map_append, HXS.out, List.take_add_one, HXK.out]
          simp [HST.out]
        · intro s' hs'
          have q : SxS (fun b => (H b ∨ b = w.heap.size) ∨ (Value.slice av k cv).ownBlock = some b) w2 s'.t (sexV s') := by
            rcases List.mem_append.1 hs' with h | h
            · exact (HSX.out s' h).below HB2.out
            · simp only [List.mem_singleton] at h
              subst h
              rw [HST.out]
              exact HS2.out
          exact (q.below ((Below.refl _ w2).alloc (Nat.le_refl _) _)).app HGr.out HLoc.out
        · exact ((HW.out.trans (HB2.out.mono hw1)).alloc (by omega) _).grown HGr.out (by simp; omega) hlow
      case measure => simp [intOf]; omega
    · obtain rfl : k = l.length := by omega
      have hX := (HW.out.block _ hz).trans HX0.out
      obtain ⟨a', c', e', hle, hmx, hrd⟩ := own_rdl (bad := fun b => (H b ∨ b = w.heap.size) ∨ wr.heap.size ≤ b) HOW.out hxl.symm (fun g hg hc hb => by
        obtain ⟨cs, ty, hc⟩ := hc
        have hlt := (Array.getElem?_eq_some_iff.1 hc).1
        rcases hb with (hb | hb) | hb
        · have := HIn.out g hb; omega
        · omega
        · omega) (fun s hs => Rd.mono (fun b hb hbad => by rcases hbad with h | h; exact .inl (.inl h); exact .inr h) _ _ (HSX.out s hs))
      simp only [Value.slice.injEq] at e'
      obtain ⟨rfl, -, rfl⟩ := e'
      have hrd' : SxLS (fun b => H b ∨ b = w.heap.size) wr (l.map pairT) av := by
        have e := HXS.out
        rw [List.take_length] at e
        rw [← e]
        exact hrd
      have hml : (l.map pairT).length = l.length := by simp
      have HR : Hid (Calls Tryz.prog 35 #[.slice av l.length cv] wr (SxPost (fun b => H b ∨ b = w.heap.size) wr (rowT (l.map pairT)))) := by
        have := row_any (fun b => H b ∨ b = w.heap.size) (l.map pairT) av cv wr (by rw [hml]; omega) hmx hrd'
        rwa [hml] at this
      have HX := Lib.hid hX
      have hwz := HW.out.size
      clear hX hrd hrd' hml hle hmx
      go_wp2_with (go_at_call 35; refine HR.out.mono ?_; rintro e w2 ⟨s, hst, rfl, hs2, hb2⟩; unfold sexV; have HST := Lib.hid hst; clear hst; have hx2 := (hb2.block _ (by omega)).trans HX.out; obtain ⟨c0, c1, c2, fz, hzz⟩ := cells3b hx2)
      have hb3 : Below w.heap.size w w2 := (HB0.out.trans (HW.out.mono HB0.out.size)).trans (hb2.mono (by have := HB0.out.size; omega))
      obtain ⟨h1, h2, h3⟩ := sx_store (H := H) (s := s) hb3 hx2 (Nat.le_refl _) hs2 (.inr rfl) (fun b hb => .inl hb)
      refine bodyPost_ret (results_cell_row rfl _ _ (w.heap.size) _ _ _ _ rfl (h1) Tryz.underlying35 rfl sexSize3) rfl ?_
      exact ⟨s, HST.out, rfl, h2, h3⟩
set_option maxRecDepth 100000 in
set_option maxHeartbeats 4000000 in
theorem rowOf_int (H : Nat → Prop) (l : List Int) (a : Option Addr) (c : Nat) (w : World) (hi' : In w H) (hA : At w w.heap.size (l.flatMap intC) a) (hlen : l.length ≤ 200) (hok : ∀ x ∈ l, I64 x) :
    Calls Tryz.prog 61 #[.slice a l.length c, .func (.func 31) #[] #[]] w (SxPost H w (rowT (l.map numT))) := by
  obtain ⟨i0, hi, hz0, hz1, hz2⟩ := info_parts info_sex
  have HA := Lib.hid hA
  have HIn := Lib.hid hi'
  have HOK := Lib.hid hok
  have HB0 : Hid (Below w.heap.size w (w.alloc zSx)) := (Below.refl _ _).alloc (Nat.le_refl _) _
  have HX0 : Hid ((w.alloc zSx).heap[w.heap.size]? = some zSx) := heap_alloc_new w _
  have hz : w.heap.size < (w.alloc zSx).heap.size := by simp
  have HZ : Hid (∀ o, o = zSx → w.alloc o = w.alloc zSx) := fun o h => by rw [h]
  clear hA hi' hok
  go_enter Tryz.func61, Tryz.ntmps61
  go_wp2
  rw [HZ.out (.cells #[.int .i8 0, .string ⟨#[]⟩, .slice none 0 0] 35) rfl]
  obtain ⟨W0, hW0⟩ : ∃ W0, W0 = w.alloc zSx := ⟨_, rfl⟩
  rw [← hW0] at HB0 HX0 hz ⊢
  clear hW0
  go_loopw [5, 10] (fun v i wr => ∃ (k : Nat) (xs : List SexV) (av : Option Addr) (cv : Nat), k ≤ l.length ∧ i = .int .i64 k ∧ v = .slice av k cv ∧ Hid (wr.ownsRow W0.heap.size 35 3 (.slice av k cv) k (xs.flatMap sexC)) ∧ Hid (xs.map (·.t) = (l.take k).map numT) ∧ Hid (∀ s ∈ xs, SxS (fun b => (H b ∨ b = w.heap.size) ∨ (Value.slice av k cv).ownBlock = some b) wr s.t (sexV s)) ∧ Hid (Below W0.heap.size W0 wr)) (fun _ i _ => l.length - (intOf i).toNat)
  case atStart => exact ⟨0, [], none, 0, Nat.zero_le _, rfl, rfl, World.ownsRow_nil _ _ _ _, rfl, fun s hs => (by simp at hs), Below.refl _ _⟩
  case round =>
    obtain ⟨k, xs, av, cv, hkl, rfl, rfl, HOW, HXS, HSX, HW⟩ := hrel
    have hxl : xs.length = k := by have := congrArg List.length HXS.out; simp at this; omega
    by_cases hlt : k < l.length
    · obtain ⟨x, hx⟩ : ∃ x, l[k]? = some x := ⟨_, List.getElem?_eq_getElem hlt⟩
      have hBw : Below w.heap.size w wr := HB0.out.trans (HW.out.mono HB0.out.size)
      obtain ⟨g, o, rfl, hg, hcell⟩ := HA.out.below hBw (by rw [len_flat intC_len]; omega)
      have c0 := hcell _ _ ((get_flat intC_len l k 0 x hx (by omega)).trans rfl)
      simp only [Nat.mul_one, Nat.add_zero] at c0
      have hgw : g < wr.heap.size := Nat.lt_of_lt_of_le hg hBw.size
      have HIn2 : Hid (In wr (fun b => (H b ∨ b = w.heap.size) ∨ (Value.slice av k cv).ownBlock = some b)) := fun b hb => by
        rcases hb with (hb | hb) | hb
        · exact Nat.lt_of_lt_of_le (HIn.out b hb) hBw.size
        · have := HW.out.size; omega
        · exact own_lt HOW.out b hb
      have HC : Hid (∀ W, Below wr.heap.size wr W → Calls Tryz.prog 31 #[.int .i64 x] W fun e w' => ∃ s : SexV, s.t = numT x ∧ e = .returned (sexV s) ∧ SxS (fun b => (H b ∨ b = w.heap.size) ∨ (Value.slice av k cv).ownBlock = some b) w' (numT x) (sexV s) ∧ Below wr.heap.size wr w') := fun W hW => (numeral_c (fun b => (H b ∨ b = w.heap.size) ∨ (Value.slice av k cv).ownBlock = some b) x W (HOK.out x (List.mem_of_getElem? hx))).mono fun e w' ⟨s, h1, h2, h3, h4⟩ => ⟨s, h1, h2, h3, hW.trans (h4.mono hW.size)⟩
      have HXK := Lib.hid hx
      have hw1 := HW.out.size
      clear hcell hx hBw
      go_wp2_with (first | (go_at_call 31; refine (HC.out _ (by first | exact Below.refl _ _ | exact (Below.refl _ _).alloc (Nat.le_refl _) _)).mono ?_; rintro e w2 ⟨s, hst, rfl, hs2, hb2⟩; unfold sexV; have hb2s := hb2.size; have HST := Lib.hid hst; have HS2 := Lib.hid hs2; have HB2 := Lib.hid hb2; clear hs2 hb2 hst) | (at_builtin; refine wpList_append_own_at _ rfl _ _ 26 rfl W0.heap.size 35 i0 _ 3 48 Tryz.underlying26 hi hz0 hz1 hz2 rfl (by decide) _ k (xs.flatMap sexC) rfl ((own_below HOW.out HB2.out).alloc _) ⟨w2.heap.size, 0, none⟩ 1 1 (sexC s) rfl rfl (World.news_of_block (heap_alloc_new w2 _)) (fun u hu => one_sex [s] u (by simpa using hu)) (by simp only [maxLen]; omega) (by omega) (by simp; omega) ?_; intro v' w3 hown' hgrow hnil hloc; clear hnil; have HOF := Lib.hid hown'; have HGr := Lib.hid hgrow; have HLoc := Lib.hid hloc; obtain ⟨av', cv', rfl, _⟩ := own_at HOF.out; clear hown' hgrow hloc))
      go_roundw
      case rel =>
        have hlow : ∀ q, (Value.slice av k cv).ownBlock = some q → W0.heap.size ≤ q := fun q e => own_ge HOW.out q e
        refine ⟨k + 1, xs ++ [s], av', cv', by omega, by go_num, rfl, ?_, ?_, ?_, ?_⟩
        · show World.ownsRow _ _ _ _ _ _ _
          rw [List.flatMap_append]
          have := HOF.out
          simpa using this
        · show _ = _
          rw [List.map_append, HXS.out, List.take_add_one, HXK.out]
          simp [HST.out]
        · intro s' hs'
          have q : SxS (fun b => (H b ∨ b = w.heap.size) ∨ (Value.slice av k cv).ownBlock = some b) w2 s'.t (sexV s') := by
            rcases List.mem_append.1 hs' with h | h
            · exact (HSX.out s' h).below HB2.out
            · simp only [List.mem_singleton] at h
              subst h
              rw [HST.out]
              exact HS2.out
          exact (q.below ((Below.refl _ w2).alloc (Nat.le_refl _) _)).app HGr.out HLoc.out
        · exact ((HW.out.trans (HB2.out.mono hw1)).alloc (by omega) _).grown HGr.out (by simp; omega) hlow
      case measure => simp [intOf]; omega
    · obtain rfl : k = l.length := by omega
      have hX := (HW.out.block _ hz).trans HX0.out
      obtain ⟨a', c', e', hle, hmx, hrd⟩ := own_rdl (bad := fun b => (H b ∨ b = w.heap.size) ∨ wr.heap.size ≤ b) HOW.out hxl.symm (fun g hg hc hb => by
        obtain ⟨cs, ty, hc⟩ := hc
        have hlt := (Array.getElem?_eq_some_iff.1 hc).1
        rcases hb with (hb | hb) | hb
        · have := HIn.out g hb; omega
        · omega
        · omega) (fun s hs => Rd.mono (fun b hb hbad => by rcases hbad with h | h; exact .inl (.inl h); exact .inr h) _ _ (HSX.out s hs))
      simp only [Value.slice.injEq] at e'
      obtain ⟨rfl, -, rfl⟩ := e'
      have hrd' : SxLS (fun b => H b ∨ b = w.heap.size) wr (l.map numT) av := by
        have e := HXS.out
        rw [List.take_length] at e
        rw [← e]
        exact hrd
      have hml : (l.map numT).length = l.length := by simp
      have HR : Hid (Calls Tryz.prog 35 #[.slice av l.length cv] wr (SxPost (fun b => H b ∨ b = w.heap.size) wr (rowT (l.map numT)))) := by
        have := row_any (fun b => H b ∨ b = w.heap.size) (l.map numT) av cv wr (by rw [hml]; omega) hmx hrd'
        rwa [hml] at this
      have HX := Lib.hid hX
      have hwz := HW.out.size
      clear hX hrd hrd' hml hle hmx
      go_wp2_with (go_at_call 35; refine HR.out.mono ?_; rintro e w2 ⟨s, hst, rfl, hs2, hb2⟩; unfold sexV; have HST := Lib.hid hst; clear hst; have hx2 := (hb2.block _ (by omega)).trans HX.out; obtain ⟨c0, c1, c2, fz, hzz⟩ := cells3b hx2)
      have hb3 : Below w.heap.size w w2 := (HB0.out.trans (HW.out.mono HB0.out.size)).trans (hb2.mono (by have := HB0.out.size; omega))
      obtain ⟨h1, h2, h3⟩ := sx_store (H := H) (s := s) hb3 hx2 (Nat.le_refl _) hs2 (.inr rfl) (fun b hb => .inl hb)
      refine bodyPost_ret (results_cell_row rfl _ _ (w.heap.size) _ _ _ _ rfl (h1) Tryz.underlying35 rfl sexSize3) rfl ?_
      exact ⟨s, HST.out, rfl, h2, h3⟩
end Go.Proofs.YtodonngnigbpaaaGreatDoor
