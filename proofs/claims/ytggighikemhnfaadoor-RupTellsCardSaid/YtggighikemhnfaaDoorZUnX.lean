/- The clauses come in. -/
import Derived.Test.YtggighikemhnfaaDoorZUnU
import Derived.Laws.MakeOwn
namespace Go.Proofs.YtggighikemhnfaaDoor.Tm
open Go.RowKit
set_option linter.unusedVariables false
def stG (ps : List Int) : USt := ⟨ps, fun _ => 0, [], [], -1⟩
def nilV : Value := .slice none 0 0
set_option maxRecDepth 100000 in
set_option maxHeartbeats 4000000 in
theorem give_any {W0 : World} {b : Nat} (gs : List Int) (a : Option Addr) (c : Nat) (R : List Int × Bool) (lv0 : Value) (w : World) (hG : IntsR W0 gs a c) (h : LookR W0 w b (stG []) [] nilV lv0) (hn : gs.length ≤ 800000) (hR : giveM [] gs = R) :
    Calls Tryd.prog 36 #[.pointer (some ⟨b, 0, none⟩), .slice a gs.length c] w fun e w' => e = .returned (.bool R.2) ∧ ∃ lv, LookR W0 w' b (stG R.1) R.1 nilV lv := by
  have HG := Lib.hid hG
  have H0 : Hid (giveM [] (gs.drop 0) = R) := by show _ = _; rw [List.drop_zero]; exact hR
  have HX0 : Hid (∃ lv, LookR W0 w b (stG []) [] nilV lv) := ⟨_, h⟩
  have c1 : gs.length ≤ 9223372036854775807 := by omega
  have HMay : Hid (∀ (x : Int) (r : Bool) (W : World), mayU x = r → Calls Tryd.prog 45 #[.int .i64 x] W fun e w' => e = .returned (.bool r) ∧ W = w') := fun x r W hr => may_any x r W hr
  have HVal : Hid (∀ (ps : List Int) (x v : Int) (W : World), (∃ lv, LookR W0 W b (stG ps) ps nilV lv) → I64 x → valL ps x = v → Calls Tryd.prog 39 #[.pointer (some ⟨b, 0, none⟩), .int .i64 x] W fun e w' => e = .returned (.int .i8 v) ∧ W = w') := fun ps x v W ⟨lv, pg, qv, xs, L, hX⟩ hx hv => val_any x v W hX hx hv
  have HPut : Hid (∀ (ps : List Int) (x : Int) (W : World), (∃ lv, LookR W0 W b (stG ps) ps nilV lv) → valL ps x = 0 → ps.length ≤ 800000 → Calls Tryd.prog 40 #[.pointer (some ⟨b, 0, none⟩), .int .i64 x] W fun e w' => e = .returned (.tuple #[]) ∧ Hid (∃ lv, LookR W0 w' b (stG (ps ++ [x])) (ps ++ [x]) nilV lv)) := fun ps x W ⟨lv, pg, qv, xs, L, hX⟩ hv hl =>
    put_any x [] W hX hv rfl List.nodup_nil (.inl rfl) (fun r hr => by cases hr) (by simp [stG]) (by simp [stG]) hl
  clear hG h hR
  go_enter Tryd.func36, Tryd.ntmps36
  go_wp2
  go_loopw [9] (fun iv wr => ∃ (i : Nat) (ps : List Int), i ≤ gs.length ∧ iv = .int .i64 i ∧ Hid (giveM ps (gs.drop i) = R) ∧ ps.length ≤ i ∧ Hid (∃ lv, LookR W0 wr b (stG ps) ps nilV lv)) (fun iv _ => gs.length - (intOf iv).toNat)
  case atStart => exact ⟨0, [], Nat.zero_le _, rfl, H0, Nat.le_refl _, HX0⟩
  case round =>
    clear H0 HX0
    obtain ⟨i, ps, hil, rfl, HE, hpl, HX⟩ := hrel
    by_cases hlt : i < gs.length
    · obtain ⟨x, hx⟩ : ∃ x, gs[i]? = some x := ⟨_, List.getElem?_eq_getElem hlt⟩
      have hbel : Below W0.heap.size W0 wr := by obtain ⟨lv, pg, qv, xs, L, hX⟩ := HX.out; exact hX.bel
      obtain ⟨g, o, rfl, hg, q0⟩ := (HG.out.below hbel).cell hx
      have hxI := HG.out.ok x (List.mem_of_getElem? hx)
      have hE := HE.out
      rw [drop_get hx] at hE
      unfold giveM at hE
      have hii : (i : Int) < (gs.length : Int) := by omega
      by_cases hm : mayU x = true
      · rw [if_pos hm] at hE
        have HM := Lib.hid (HMay.out x true wr hm)
        obtain ⟨v, hv⟩ : ∃ v, valL ps x = v := ⟨_, rfl⟩
        have HV := Lib.hid (HVal.out ps x v wr HX.out hxI hv)
        rw [hv] at hE
        by_cases h0 : v = 0
        · rw [if_pos h0] at hE
          subst h0
          have HP := Lib.hid (HPut.out ps x wr HX.out hv (by omega))
          have HE2 := Lib.hid hE
          clear hE HE hx hxI hm hv hbel HX
          go_wp2_with (first | (go_at_call 45; with_reducible refine HM.out.mono ?_; rintro e w1 ⟨rfl, rfl⟩) | (go_at_call 39; with_reducible refine HV.out.mono ?_; rintro e w1 ⟨rfl, rfl⟩) | (go_at_call 40; with_reducible refine HP.out.mono ?_; rintro e w2 ⟨rfl, HX2⟩))
          go_roundw
          case rel => exact ⟨i + 1, ps ++ [x], by omega, by go_num, HE2, by simp; omega, HX2⟩
          case measure => simp [intOf]; omega
        · have d0 : (v == 0) = false := eq_f h0
          rw [if_neg h0] at hE
          by_cases h2 : v = 2
          · have d2 : (v == 2) = true := eq_t h2
            rw [if_pos h2] at hE
            have HE2 := Lib.hid hE
            have HXr := HX
            clear hE HE hx hxI hm hv hbel h0 h2
            go_wp2_with (first | (go_at_call 45; with_reducible refine HM.out.mono ?_; rintro e w1 ⟨rfl, rfl⟩) | (go_at_call 39; with_reducible refine HV.out.mono ?_; rintro e w1 ⟨rfl, rfl⟩))
            go_ret
            refine ⟨ret_bool (by rw [← HE2.out]), ?_⟩
            rw [← HE2.out]
            exact HX.out
          · have d2 : (v == 2) = false := eq_f h2
            rw [if_neg h2] at hE
            have HE2 := Lib.hid hE
            clear hE HE hx hxI hm hv hbel h0 h2
            go_wp2_with (first | (go_at_call 45; with_reducible refine HM.out.mono ?_; rintro e w1 ⟨rfl, rfl⟩) | (go_at_call 39; with_reducible refine HV.out.mono ?_; rintro e w1 ⟨rfl, rfl⟩))
            go_roundw
            case rel => exact ⟨i + 1, ps, by omega, by go_num, HE2, by omega, HX⟩
            case measure => simp [intOf]; omega
      · rw [if_neg hm] at hE
        have HM := Lib.hid (HMay.out x false wr (by simpa using hm))
        have HE2 := Lib.hid hE
        clear hE HE hx hxI hm hbel
        go_wp2_with (first | (go_at_call 45; with_reducible refine HM.out.mono ?_; rintro e w1 ⟨rfl, rfl⟩))
        go_roundw
        case rel => exact ⟨i + 1, ps, by omega, by go_num, HE2, by omega, HX⟩
        case measure => simp [intOf]; omega
    · obtain rfl : i = gs.length := by omega
      have hE := HE.out
      rw [List.drop_of_length_le (Nat.le_refl _)] at hE
      unfold giveM at hE
      have HE2 := Lib.hid hE
      clear HE hE
      go_wp2
      go_ret
      refine ⟨ret_bool (by rw [← HE2.out]), ?_⟩
      rw [← HE2.out]
      exact HX.out
end Go.Proofs.YtggighikemhnfaaDoor.Tm
namespace Go.Proofs.YtggighikemhnfaaDoor.Tm
open Go.RowKit
set_option linter.unusedVariables false
theorem info_row : (Tryd.prog.info? 81).map (fun i => (i.zero, i.size, i.bytes)) = some (some (.agg #[.slice none 0 0, .int .i64 0, .int .i64 0, .int .i64 0, .int .i64 0]), 5, 56) := by kernel_rfl
def zRow : RowV := ⟨⟨[], 0, 0, 0, 0⟩, none, 0⟩
theorem made_row (n : Nat) : madeCells (Value.agg #[.slice none 0 0, .int .i64 0, .int .i64 0, .int .i64 0, .int .i64 0]).cells (n * 5) = ⟨(List.replicate n zRow).flatMap rowVC⟩ := by
  apply Array.ext'
  apply List.ext_getElem?
  intro i
  by_cases hi : i < n * 5
  · have h1 : ((List.replicate n zRow).flatMap rowVC)[i]? = (rowVC zRow)[i % 5]? := by
      have := get_flat rowVC_len (List.replicate n zRow) (i / 5) (i % 5) zRow (by rw [List.getElem?_replicate, if_pos (by omega)]) (by omega)
      rw [show i / 5 * 5 + i % 5 = i by omega] at this
      exact this
    show _ = ((List.replicate n zRow).flatMap rowVC)[i]?
    rw [h1]
    have hm : i % 5 = 0 ∨ i % 5 = 1 ∨ i % 5 = 2 ∨ i % 5 = 3 ∨ i % 5 = 4 := by omega
    rw [Array.getElem?_toList]
    rcases hm with e | e | e | e | e <;> rw [e] <;> simp [madeCells, Value.cells, hi, e, zRow, rowVC]
  · rw [Array.getElem?_toList, Array.getElem?_eq_none (by rw [size_madeCells]; omega)]
    exact (List.getElem?_eq_none (by show ((List.replicate n zRow).flatMap rowVC).length ≤ i; rw [len_flat rowVC_len, List.length_replicate]; omega)).symm
theorem make_row (n : Nat) (hn : n ≤ 100000) (w : World) : (Instr.makeSlice 49 (.int .i64 n) (.int .i64 n)).run Tryd.prog w = .ok (.slice (some ⟨w.heap.size, 0, none⟩) n n) (w.alloc (.cells ⟨(List.replicate n zRow).flatMap rowVC⟩ 81)) := by
  obtain ⟨i0, hi, hz0, hz1, hz2⟩ := info_parts info_row
  have := run_make (P := Tryd.prog) w 49 81 i0 _ Tryd.underlying49 hi hz0 .i64 .i64 n n (by omega) (by omega) (by rw [hz2]; omega) (by omega)
  rw [hz1] at this
  rw [Int.toNat_natCast, made_row] at this
  exact this
theorem nat_or1 (k : Nat) : 2 * k ||| 1 = 2 * k + 1 := by
  have := Nat.two_pow_add_eq_or_of_lt (b := 1) (i := 1) (by decide) k
  rw [show (2 : Nat) ^ 1 = 2 from rfl] at this
  exact this.symm
theorem i64_or1 (k : Nat) (hk : k ≤ 1000000) : bits .or .i64 (2 * (k : Int)) 1 = 2 * (k : Int) + 1 := by
  have h1 : (BitVec.ofInt 64 1).toNat = 1 := by decide
  have h2 : (BitVec.ofInt 64 (2 * (k : Int))).toNat = 2 * k := by rw [BitVec.toNat_ofInt]; omega
  have key : (BitVec.ofInt 64 (2 * (k : Int)) ||| BitVec.ofInt 64 1).toNat = 2 * k + 1 := by
    rw [BitVec.toNat_or, h2, h1, nat_or1]
  show IntKind.i64.wrap ((BitVec.ofInt 64 (2 * (k : Int)) ||| BitVec.ofInt 64 1).toNat : Nat) = _
  rw [key, IntKind.wrap_i64]
  omega
def zU : URow := ⟨[], 0, 0, 0, 0⟩
theorem RunX.rowsMade {W0 w : World} {b : Nat} {s : USt} {ls : List Int} {pg : Nat → Option Nat} {qv lv : Value} {xs : List RowV} {L : List Int} (h : RunX W0 w b s ls pg nilV qv lv xs L) (n : Nat) (hn : n ≤ 100000) :
    RunX W0 ((w.setCell ⟨b, 1025, none⟩ (.slice (some ⟨w.heap.size, 0, none⟩) n n)).alloc (.cells ⟨(List.replicate n zRow).flatMap rowVC⟩ 81)) b { s with rows := List.replicate n zU } ls pg (.slice (some ⟨w.heap.size, 0, none⟩) n n) qv lv (List.replicate n zRow) L := by
  have hbl := h.box.cells.2.2.2.2.1
  have hW := h.bel.size
  have hsz : (w.setCell ⟨b, 1025, none⟩ (.slice (some ⟨w.heap.size, 0, none⟩) n n)).heap.size = w.heap.size := by simp
  have hold : ∀ g, g < w.heap.size → g ≠ b → ((w.setCell ⟨b, 1025, none⟩ (.slice (some ⟨w.heap.size, 0, none⟩) n n)).alloc (.cells ⟨(List.replicate n zRow).flatMap rowVC⟩ 81)).heap[g]? = w.heap[g]? := fun g h1 h2 => (Below.heap_alloc _ _ g (by rw [hsz]; exact h1)).trans (Below.heap_setCell _ _ _ _ h2)
  have hnew : ((w.setCell ⟨b, 1025, none⟩ (.slice (some ⟨w.heap.size, 0, none⟩) n n)).alloc (.cells ⟨(List.replicate n zRow).flatMap rowVC⟩ 81)).heap[w.heap.size]? = some (.cells ⟨(List.replicate n zRow).flatMap rowVC⟩ 81 (0, 0)) := by
    have := heap_alloc_new (w.setCell ⟨b, 1025, none⟩ (.slice (some ⟨w.heap.size, 0, none⟩) n n)) (.cells ⟨(List.replicate n zRow).flatMap rowVC⟩ 81)
    rw [hsz] at this
    exact this
  have hfl : ((List.replicate n zRow).flatMap rowVC).length = n * 5 := by rw [len_flat rowVC_len, List.length_replicate]
  refine ⟨(h.bel.setCell h.hb _).alloc (by rw [hsz]; exact hW) _, h.hb, h.gc, (h.box.setr _).heap (Below.heap_alloc _ _ b (by rw [hsz]; exact hbl)), fun j g hg => ?_, h.inj, h.nop, ?_, by rw [List.map_replicate]; rfl, fun x hx => ?_, ⟨own_move h.qu.row (fun g hg => hold g (own_lt h.qu.row hg).2 (h.qv_ne hg).1), h.qu.heap, h.qu.perm⟩, own_move h.lits (fun g hg => hold g (own_lt h.lits hg).2 (h.lv_ne hg).1), h.apart, h.may, h.cons⟩
  · obtain ⟨g1, g2, g3⟩ := h.pages j g hg
    exact ⟨g1, g2, (hold g (Array.getElem?_eq_some_iff.1 g3).1 (h.pg_ne hg)).trans g3⟩
  · rw [List.length_replicate]
    refine ⟨hfl, .inr ⟨w.heap.size, n, _, rfl, hW, hnew, Nat.le_refl _, by unfold maxLen; omega, hfl, ?_⟩⟩
    exact List.take_of_length_le (by rw [hfl]; exact Nat.le_refl _)
  · rw [List.eq_of_mem_replicate hx]
    exact IntsR.nil _ _ (Nat.zero_le _) _
theorem start_inv0 {ps : List Int} (cls : List (List Int)) (hmay : ∀ x ∈ ps, mayU x = true) (hcons : ∀ x ∈ ps, negM x ∉ ps) : Inv cls 0 [] { stG ps with rows := List.replicate cls.length zU } :=
  ⟨by simp, Nat.zero_le _, fun k r c hk => (by omega), fun t ht => (by cases ht), fun k r hk => (by omega), fun t ht => (by cases ht), fun x hx => ⟨[], rfl, List.nodup_nil, fun t => ⟨fun h => (by cases h), fun h => (by omega)⟩⟩, fun _ _ => rfl, List.nodup_nil, fun t ht => (by cases ht), .inl rfl, hmay, hcons⟩
end Go.Proofs.YtggighikemhnfaaDoor.Tm
namespace Go.Proofs.YtggighikemhnfaaDoor.Tm
open Go.RowKit
set_option linter.unusedVariables false
theorem nodup_lt : ∀ (n : Nat) (l : List Nat), l.Nodup → (∀ x ∈ l, x < n) → l.length ≤ n
  | 0, l, _, h => by
    cases l with
    | nil => exact Nat.le_refl _
    | cons x r => exact absurd (h x (by simp)) (by omega)
  | n + 1, l, hn, h => by
    by_cases hm : n ∈ l
    · have h1 := nodup_lt n (l.erase n) (hn.erase n) (fun x hx => by
        have h2 := h x (List.mem_of_mem_erase hx)
        have h3 : x ≠ n := fun e => by rw [e] at hx; exact (List.Nodup.not_mem_erase hn) hx
        omega)
      rw [List.length_erase_of_mem hm] at h1
      omega
    · have := nodup_lt n l hn (fun x hx => by
        have h2 := h x hx
        have h3 : x ≠ n := fun e => hm (by rw [← e]; exact hx)
        omega)
      omega
theorem Inv.q_len {cls : List (List Int)} {m : Nat} {P : List Nat} {s : USt} (h : Inv cls m P s) : s.q.length ≤ m := by
  have := nodup_lt m _ h.q1 (fun x hx => by
    obtain ⟨t, ht, rfl⟩ := List.mem_map.1 hx
    exact (h.q2 t ht).1)
  rw [List.length_map] at this
  exact this
theorem ChN.len {cls : List (List Int)} {m : Nat} {s : USt} {l : Int} {cs : List Nat} (h : ChN cls m s l cs) : cs.length ≤ 2 * m :=
  nodup_lt _ _ h.2.1 (fun t ht => by have := ((h.2.2 t).1 ht).1; omega)
theorem i64m1 : I64 (-1) := ⟨by decide, by decide⟩
def freshV (y : RowD) : RowV := ⟨⟨y.xs, -1, -1, 0, 0⟩, y.a, y.c⟩
structure StR (W0 w : World) (b : Nat) (cls : List (List Int)) (k : Nat) (ps : List Int) (rb n rc : Nat) (lv : Value) (s : USt) : Prop where
  inv : Inv cls k [] s
  eqps : s.ps = ps
  ok : OkW s
  mem : LookR W0 w b s ps (.slice (some ⟨rb, 0, none⟩) n rc) lv
/-- A clause's row is stored. -/
theorem RunX.fresh {W0 w : World} {b : Nat} {s : USt} {ls : List Int} {pg : Nat → Option Nat} {qv lv : Value} {xs : List RowV} {L : List Int} {rb n rc k : Nat} {x : RowV} {y : RowD} (h : RunX W0 w b s ls pg (.slice (some ⟨rb, 0, none⟩) n rc) qv lv xs L) (hk : xs[k]? = some x) (hI : IntsR W0 y.xs y.a y.c) :
    RunX W0 (((((w.setCell ⟨rb, k * 5, none⟩ (.slice y.a y.xs.length y.c)).setCell ⟨rb, k * 5 + 1, none⟩ (.int .i64 (-1))).setCell ⟨rb, k * 5 + 2, none⟩ (.int .i64 (-1))).setCell ⟨rb, k * 5 + 3, none⟩ (.int .i64 0)).setCell ⟨rb, k * 5 + 4, none⟩ (.int .i64 0)) b { s with rows := s.rows.set k ⟨y.xs, -1, -1, 0, 0⟩ } ls pg (.slice (some ⟨rb, 0, none⟩) n rc) qv lv (xs.set k (freshV y)) L := by
  have hxl := (List.getElem?_eq_some_iff.1 hk).1
  have hg : ∀ z : RowV, (xs.set k z)[k]? = some z := fun z => by rw [List.getElem?_set]; simp [hxl]
  have E0 := h.setRow (o := 0) (x' := ⟨{ x.r with rest := y.xs }, y.a, y.c⟩) (v := .slice y.a y.xs.length y.c) hk (by omega) rfl hI
  have E1 := E0.setRow (k := k) (o := 1) (x' := ⟨{ x.r with rest := y.xs, w0 := -1 }, y.a, y.c⟩) (v := .int .i64 (-1)) (hg _) (by omega) rfl hI
  rw [List.set_set, List.set_set] at E1
  have E2 := E1.setRow (k := k) (o := 2) (x' := ⟨{ x.r with rest := y.xs, w0 := -1, w1 := -1 }, y.a, y.c⟩) (v := .int .i64 (-1)) (hg _) (by omega) rfl hI
  rw [List.set_set, List.set_set] at E2
  have E3 := E2.setRow (k := k) (o := 3) (x' := ⟨{ x.r with rest := y.xs, w0 := -1, w1 := -1, n0 := 0 }, y.a, y.c⟩) (v := .int .i64 0) (hg _) (by omega) rfl hI
  rw [List.set_set, List.set_set] at E3
  have E4 := E3.setRow (k := k) (o := 4) (x' := freshV y) (v := .int .i64 0) (hg _) (by omega) rfl hI
  rw [List.set_set, List.set_set] at E4
  exact E4
set_option maxRecDepth 100000 in
set_option maxHeartbeats 8000000 in
theorem start_any {W0 : World} {b : Nat} {ps : List Int} {lv : Value} (rs : List RowD) (a : Option Addr) (c : Nat) (cls : List (List Int)) (w : World) (hcl : rs.map (·.xs) = cls) (hR : RowsR W0 rs a c) (h : LookR W0 w b (stG ps) ps nilV lv) (hl : rs.length ≤ 2000) :
    Calls Tryd.prog 37 #[.pointer (some ⟨b, 0, none⟩), .slice a rs.length c] w fun e w' => e = .returned (.tuple #[]) ∧ ∃ rb s', StR W0 w' b cls rs.length ps rb rs.length rs.length lv s' := by
  have hcn : cls.length = rs.length := by rw [← hcl, List.length_map]
  obtain ⟨pg, qv, xs, L, hX⟩ := h
  obtain ⟨b0, _, _, _, blt, bfz⟩ := hX.box.cells
  have f1 := bfz 1025
  have hmk := make_row rs.length (by omega) w
  have c1 : rs.length ≤ 9223372036854775807 := by omega
  have H0 : Hid (StR W0 ((w.setCell ⟨b, 1025, none⟩ (.slice (some ⟨w.heap.size, 0, none⟩) rs.length rs.length)).alloc (.cells ⟨(List.replicate rs.length zRow).flatMap rowVC⟩ 81)) b cls 0 ps w.heap.size rs.length rs.length lv { stG ps with rows := List.replicate cls.length zU }) := by
    refine ⟨start_inv0 cls hX.may hX.cons, rfl, fun r hr => ?_, _, _, _, _, by rw [hcn]; exact hX.rowsMade rs.length (by omega)⟩
    rw [List.eq_of_mem_replicate hr]
    exact ⟨⟨by decide, by decide⟩, ⟨by decide, by decide⟩, fun y hy => by cases hy⟩
  have HR := Lib.hid hR
  have HC := Lib.hid (And.intro hcl hcn)
  unfold nilV at b0
  clear hX bfz hR hcl hcn
  go_enter Tryd.func37, Tryd.ntmps37
  go_wp2
  go_loopw [14] (fun kv wr => ∃ (k : Nat) (s : USt), k ≤ rs.length ∧ kv = .int .i64 k ∧ Hid (StR W0 wr b cls k ps w.heap.size rs.length rs.length lv s)) (fun kv _ => rs.length - (intOf kv).toNat)
  case atStart => exact ⟨0, _, Nat.zero_le _, rfl, H0⟩
  case round =>
    clear H0 b0 f1
    obtain ⟨k, s, hkl, rfl, HS⟩ := hrel
    by_cases hlt : k < rs.length
    · obtain ⟨y, hy⟩ : ∃ y, rs[k]? = some y := ⟨_, List.getElem?_eq_getElem hlt⟩
      obtain ⟨pgx, qx, xx, Lx, hX⟩ := HS.out.mem
      have hIy := HR.out.ok y (List.mem_of_getElem? hy)
      obtain ⟨g, o, rfl, hg, q0⟩ := (HR.out.below hX.bel).cell hy
      obtain ⟨x, hx⟩ := hX.getRow (k := k) (by rw [HS.out.inv.len]; have := HC.out.2; omega)
      obtain ⟨b0, _, _, _, blt, _⟩ := hX.box.cells
      obtain ⟨r0, r1, r2, r3, r4, rlt, rfz⟩ := hX.rowAt hx
      have z0 := rfz (k * 5)
      have z1 := rfz (k * 5 + 1)
      have z2 := rfz (k * 5 + 2)
      have z3 := rfz (k * 5 + 3)
      have z4 := rfz (k * 5 + 4)
      have hki : (k : Int) < (rs.length : Int) := by omega
      have hFr := hX.fresh hx hIy
      have hxl := (List.getElem?_eq_some_iff.1 hx).1
      have hyc : cls[k]? = some y.xs := by rw [← HC.out.1, List.getElem?_map, hy]; rfl
      have hsl : k < s.rows.length := by rw [HS.out.inv.len]; have := HC.out.2; omega
      have hok1 : OkW { s with rows := s.rows.set k ⟨y.xs, -1, -1, 0, 0⟩ } := fun r hr => by
        rcases List.mem_or_eq_of_mem_set hr with hr | rfl
        · exact HS.out.ok r hr
        · exact ⟨i64m1, i64m1, hIy.ok⟩
      have hql := HS.out.inv.q_len
      have hst := start_inv HS.out.inv hyc
      have HL1 : Hid (Calls Tryd.prog 58 #[.pointer (some ⟨b, 0, none⟩), .int .i64 ((k : Int) * 2)] (((((wr.setCell ⟨w.heap.size, k * 5, none⟩ (.slice y.a y.xs.length y.c)).setCell ⟨w.heap.size, k * 5 + 1, none⟩ (.int .i64 (-1))).setCell ⟨w.heap.size, k * 5 + 2, none⟩ (.int .i64 (-1))).setCell ⟨w.heap.size, k * 5 + 3, none⟩ (.int .i64 0)).setCell ⟨w.heap.size, k * 5 + 4, none⟩ (.int .i64 0)) fun e w' => e = .returned (.tuple #[]) ∧ LookO W0 w' b (lookM { s with rows := s.rows.set k ⟨y.xs, -1, -1, 0, 0⟩ } (2 * k)) ps w.heap.size rs.length rs.length lv) := by
        have := look_any0 (2 * k) k rfl (freshV y) _ hFr (by rw [List.getElem?_set]; simp [hxl]) (by show s.q.length ≤ _; omega) (by omega) i64m1 hIy.ok
        rw [show ((2 * k : Nat) : Int) = (k : Int) * 2 by omega] at this
        exact this
      obtain ⟨s2, hs2⟩ : ∃ s2, lookM { s with rows := s.rows.set k ⟨y.xs, -1, -1, 0, 0⟩ } (2 * k) = s2 := ⟨_, rfl⟩
      have hok2 : OkW s2 := by rw [← hs2]; exact look_ok hok1
      have hps2 : s2.ps = ps := by rw [← hs2, lookM_ps]; exact HS.out.eqps
      have hl2 : k < s2.rows.length := by rw [← hs2, look_len]; show k < (s.rows.set k _).length; rw [List.length_set]; exact hsl
      have hq2 : s2.q.length ≤ 800000 := by rw [← hs2]; have := look_q { s with rows := s.rows.set k ⟨y.xs, -1, -1, 0, 0⟩ } (2 * k); have h3 : ({ s with rows := s.rows.set k ⟨y.xs, -1, -1, 0, 0⟩ } : USt).q.length = s.q.length := rfl; omega
      rw [hs2] at HL1 hst
      have hor : bits .or .i64 ((k : Int) * 2) 1 = ((2 * k + 1 : Nat) : Int) := by rw [Int.mul_comm, i64_or1 k (by omega)]; omega
      obtain ⟨tv, htv⟩ : ∃ tv, 2 * k + 1 = tv := ⟨_, rfl⟩
      rw [htv] at hor
      have HL2 : Hid (∀ W, LookO W0 W b s2 ps w.heap.size rs.length rs.length lv → Calls Tryd.prog 58 #[.pointer (some ⟨b, 0, none⟩), .int .i64 (tv : Int)] W fun e w' => e = .returned (.tuple #[]) ∧ Hid (StR W0 w' b cls (k + 1) ps w.heap.size rs.length rs.length lv (lookM s2 tv))) := fun W ⟨pg2, qv2, xs2, L2, hX2⟩ => by
        obtain ⟨x2, hx2⟩ := hX2.getRow hl2
        have hO := hok2 x2.r (List.mem_of_getElem? (hX2.rowOf hx2))
        refine (look_any1 tv k htv.symm x2 W hX2 hx2 hq2 (by omega) hO.1 hO.2.2).mono ?_
        rintro e w' ⟨rfl, hM⟩
        refine ⟨rfl, ?_, by rw [lookM_ps]; exact hps2, look_ok hok2, hM⟩
        rw [← htv]
        exact look_inv hst (by simp)
      clear rfz hX hFr hxl hyc hsl hok1 hql hst hs2 hok2 hps2 hl2 hq2 htv hx hy hIy HS
      go_wp2_with fail
      with_reducible refine HL1.out.mono ?_
      rintro e w1 ⟨rfl, hO1⟩
      have HL3 := Lib.hid (HL2.out _ hO1)
      clear hO1
      go_wp2_with fail
      with_reducible refine HL3.out.mono ?_
      rintro e w2 ⟨rfl, HS2⟩
      go_wp2
      go_roundw
      case rel => exact ⟨k + 1, lookM s2 tv, by omega, by go_num, HS2⟩
      case measure => simp [intOf]; omega
    · obtain rfl : k = rs.length := by omega
      go_wp2
      go_end0
      exact ⟨rfl, w.heap.size, s, HS.out⟩
end Go.Proofs.YtggighikemhnfaaDoor.Tm
