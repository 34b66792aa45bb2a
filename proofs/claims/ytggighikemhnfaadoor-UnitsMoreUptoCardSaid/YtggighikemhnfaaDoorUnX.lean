/- The clauses come in. -/
import Derived.Test.YtggighikemhnfaaDoorUnW
namespace Go.Proofs.YtggighikemhnfaaDoor.Tm
open Go.RowKit
set_option linter.unusedVariables false
theorem nodup_lt : ∀ (n : Nat) (l : List Nat), l.Nodup → (∀ x ∈ l, x < n) → l.length ≤ n
  | 0, l, _, h => by
    cases l with
    | nil => exact Nat.le_refl _
    | cons x r => exact absurd (h x (by simp)) (by omega)
  | n + 1, l, hn, h => by
    by_cases hm : n ∈ l
    · have h1 := nodup_lt n (l.erase n) (hn.erase n) (fun x hx => by
        have h2 := h x (List.mem_of_mem_erase hx)
        have h3 : x ≠ n := fun e => by rw [e] at hx; exact (List.Nodup.not_mem_erase hn) hx
        omega)
      rw [List.length_erase_of_mem hm] at h1
      omega
    · have := nodup_lt n l hn (fun x hx => by
        have h2 := h x hx
        have h3 : x ≠ n := fun e => hm (by rw [← e]; exact hx)
        omega)
      omega
theorem Inv.q_len {cls : List (List Int)} {m : Nat} {P : List Nat} {s : USt} (h : Inv cls m P s) : s.q.length ≤ m := by
  have := nodup_lt m _ h.q1 (fun x hx => by
    obtain ⟨t, ht, rfl⟩ := List.mem_map.1 hx
    exact (h.q2 t ht).1)
  rw [List.length_map] at this
  exact this
theorem ChN.len {cls : List (List Int)} {m : Nat} {s : USt} {l : Int} {cs : List Nat} (h : ChN cls m s l cs) : cs.length ≤ 2 * m :=
  nodup_lt _ _ h.2.1 (fun t ht => by have := ((h.2.2 t).1 ht).1; omega)
theorem i64m1 : I64 (-1) := ⟨by decide, by decide⟩
def freshV (y : RowD) : RowV := ⟨⟨y.xs, -1, -1, 0, 0⟩, y.a, y.c⟩
structure StR (W0 w : World) (b : Nat) (cls : List (List Int)) (k : Nat) (ps : List Int) (rb n rc : Nat) (lv : Value) (s : USt) : Prop where
  inv : Inv cls k [] s
  eqps : s.ps = ps
  ok : OkW s
  mem : LookR W0 w b s ps (.slice (some ⟨rb, 0, none⟩) n rc) lv
/-- A clause's row is stored. -/
theorem RunX.fresh {W0 w : World} {b : Nat} {s : USt} {ls : List Int} {pg : Nat → Option Nat} {qv lv : Value} {xs : List RowV} {L : List Int} {rb n rc k : Nat} {x : RowV} {y : RowD} (h : RunX W0 w b s ls pg (.slice (some ⟨rb, 0, none⟩) n rc) qv lv xs L) (hk : xs[k]? = some x) (hI : IntsR W0 y.xs y.a y.c) :
    RunX W0 (((((w.setCell ⟨rb, k * 5, none⟩ (.slice y.a y.xs.length y.c)).setCell ⟨rb, k * 5 + 1, none⟩ (.int .i64 (-1))).setCell ⟨rb, k * 5 + 2, none⟩ (.int .i64 (-1))).setCell ⟨rb, k * 5 + 3, none⟩ (.int .i64 0)).setCell ⟨rb, k * 5 + 4, none⟩ (.int .i64 0)) b { s with rows := s.rows.set k ⟨y.xs, -1, -1, 0, 0⟩ } ls pg (.slice (some ⟨rb, 0, none⟩) n rc) qv lv (xs.set k (freshV y)) L := by
  have hxl := (List.getElem?_eq_some_iff.1 hk).1
  have hg : ∀ z : RowV, (xs.set k z)[k]? = some z := fun z => by rw [List.getElem?_set]; simp [hxl]
  have E0 := h.setRow (o := 0) (x' := ⟨{ x.r with rest := y.xs }, y.a, y.c⟩) (v := .slice y.a y.xs.length y.c) hk (by omega) rfl hI
  have E1 := E0.setRow (k := k) (o := 1) (x' := ⟨{ x.r with rest := y.xs, w0 := -1 }, y.a, y.c⟩) (v := .int .i64 (-1)) (hg _) (by omega) rfl hI
  rw [List.set_set, List.set_set] at E1
  have E2 := E1.setRow (k := k) (o := 2) (x' := ⟨{ x.r with rest := y.xs, w0 := -1, w1 := -1 }, y.a, y.c⟩) (v := .int .i64 (-1)) (hg _) (by omega) rfl hI
  rw [List.set_set, List.set_set] at E2
  have E3 := E2.setRow (k := k) (o := 3) (x' := ⟨{ x.r with rest := y.xs, w0 := -1, w1 := -1, n0 := 0 }, y.a, y.c⟩) (v := .int .i64 0) (hg _) (by omega) rfl hI
  rw [List.set_set, List.set_set] at E3
  have E4 := E3.setRow (k := k) (o := 4) (x' := freshV y) (v := .int .i64 0) (hg _) (by omega) rfl hI
  rw [List.set_set, List.set_set] at E4
  exact E4
set_option maxRecDepth 100000 in
set_option maxHeartbeats 8000000 in
theorem start_any {W0 : World} {b : Nat} {ps : List Int} {lv : Value} (rs : List RowD) (a : Option Addr) (c : Nat) (cls : List (List Int)) (w : World) (hcl : rs.map (·.xs) = cls) (hR : RowsR W0 rs a c) (h : LookR W0 w b (stG ps) ps nilV lv) (hl : rs.length ≤ 2000) :
    Calls Tryd.prog 37 #[.pointer (some ⟨b, 0, none⟩), .slice a rs.length c] w fun e w' => e = .returned (.tuple #[]) ∧ ∃ rb s', StR W0 w' b cls rs.length ps rb rs.length rs.length lv s' := by
  have hcn : cls.length = rs.length := by rw [← hcl, List.length_map]
  obtain ⟨pg, qv, xs, L, hX⟩ := h
  obtain ⟨b0, _, _, _, blt, bfz⟩ := hX.box.cells
  have f1 := bfz 1025
  have hmk := make_row rs.length (by omega) w
  have c1 : rs.length ≤ 9223372036854775807 := by omega
  have H0 : Hid (StR W0 ((w.setCell ⟨b, 1025, none⟩ (.slice (some ⟨w.heap.size, 0, none⟩) rs.length rs.length)).alloc (.cells ⟨(List.replicate rs.length zRow).flatMap rowVC⟩ 81)) b cls 0 ps w.heap.size rs.length rs.length lv { stG ps with rows := List.replicate cls.length zU }) := by
    refine ⟨start_inv0 cls hX.may hX.cons, rfl, fun r hr => ?_, _, _, _, _, by rw [hcn]; exact hX.rowsMade rs.length (by omega)⟩
    rw [List.eq_of_mem_replicate hr]
    exact ⟨⟨by decide, by decide⟩, ⟨by decide, by decide⟩, fun y hy => by cases hy⟩
  have HR := Lib.hid hR
  have HC := Lib.hid (And.intro hcl hcn)
  unfold nilV at b0
  clear hX bfz hR hcl hcn
  go_enter Tryd.func37, Tryd.ntmps37
  go_wp2
  go_loopw [14] (fun kv wr => ∃ (k : Nat) (s : USt), k ≤ rs.length ∧ kv = .int .i64 k ∧ Hid (StR W0 wr b cls k ps w.heap.size rs.length rs.length lv s)) (fun kv _ => rs.length - (intOf kv).toNat)
  case atStart => exact ⟨0, _, Nat.zero_le _, rfl, H0⟩
  case round =>
    clear H0 b0 f1
    obtain ⟨k, s, hkl, rfl, HS⟩ := hrel
    by_cases hlt : k < rs.length
    · obtain ⟨y, hy⟩ : ∃ y, rs[k]? = some y := ⟨_, List.getElem?_eq_getElem hlt⟩
      obtain ⟨pgx, qx, xx, Lx, hX⟩ := HS.out.mem
      have hIy := HR.out.ok y (List.mem_of_getElem? hy)
      obtain ⟨g, o, rfl, hg, q0⟩ := (HR.out.below hX.bel).cell hy
      obtain ⟨x, hx⟩ := hX.getRow (k := k) (by rw [HS.out.inv.len]; have := HC.out.2; omega)
      obtain ⟨b0, _, _, _, blt, _⟩ := hX.box.cells
      obtain ⟨r0, r1, r2, r3, r4, rlt, rfz⟩ := hX.rowAt hx
      have z0 := rfz (k * 5)
      have z1 := rfz (k * 5 + 1)
      have z2 := rfz (k * 5 + 2)
      have z3 := rfz (k * 5 + 3)
      have z4 := rfz (k * 5 + 4)
      have hki : (k : Int) < (rs.length : Int) := by omega
      have hFr := hX.fresh hx hIy
      have hxl := (List.getElem?_eq_some_iff.1 hx).1
      have hyc : cls[k]? = some y.xs := by rw [← HC.out.1, List.getElem?_map, hy]; rfl
      have hsl : k < s.rows.length := by rw [HS.out.inv.len]; have := HC.out.2; omega
      have hok1 : OkW { s with rows := s.rows.set k ⟨y.xs, -1, -1, 0, 0⟩ } := fun r hr => by
        rcases List.mem_or_eq_of_mem_set hr with hr | rfl
        · exact HS.out.ok r hr
        · exact ⟨i64m1, i64m1, hIy.ok⟩
      have hql := HS.out.inv.q_len
      have hst := start_inv HS.out.inv hyc
      have HL1 : Hid (Calls Tryd.prog 58 #[.pointer (some ⟨b, 0, none⟩), .int .i64 ((k : Int) * 2)] (((((wr.setCell ⟨w.heap.size, k * 5, none⟩ (.slice y.a y.xs.length y.c)).setCell ⟨w.heap.size, k * 5 + 1, none⟩ (.int .i64 (-1))).setCell ⟨w.heap.size, k * 5 + 2, none⟩ (.int .i64 (-1))).setCell ⟨w.heap.size, k * 5 + 3, none⟩ (.int .i64 0)).setCell ⟨w.heap.size, k * 5 + 4, none⟩ (.int .i64 0)) fun e w' => e = .returned (.tuple #[]) ∧ LookO W0 w' b (lookM { s with rows := s.rows.set k ⟨y.xs, -1, -1, 0, 0⟩ } (2 * k)) ps w.heap.size rs.length rs.length lv) := by
        have := look_any0 (2 * k) k rfl (freshV y) _ hFr (by rw [List.getElem?_set]; simp [hxl]) (by show s.q.length ≤ _; omega) (by omega) i64m1 hIy.ok
        rw [show ((2 * k : Nat) : Int) = (k : Int) * 2 by omega] at this
        exact this
      obtain ⟨s2, hs2⟩ : ∃ s2, lookM { s with rows := s.rows.set k ⟨y.xs, -1, -1, 0, 0⟩ } (2 * k) = s2 := ⟨_, rfl⟩
      have hok2 : OkW s2 := by rw [← hs2]; exact look_ok hok1
      have hps2 : s2.ps = ps := by rw [← hs2, lookM_ps]; exact HS.out.eqps
      have hl2 : k < s2.rows.length := by rw [← hs2, look_len]; show k < (s.rows.set k _).length; rw [List.length_set]; exact hsl
      have hq2 : s2.q.length ≤ 800000 := by rw [← hs2]; have := look_q { s with rows := s.rows.set k ⟨y.xs, -1, -1, 0, 0⟩ } (2 * k); have h3 : ({ s with rows := s.rows.set k ⟨y.xs, -1, -1, 0, 0⟩ } : USt).q.length = s.q.length := rfl; omega
      rw [hs2] at HL1 hst
      have hor : bits .or .i64 ((k : Int) * 2) 1 = ((2 * k + 1 : Nat) : Int) := by rw [Int.mul_comm, i64_or1 k (by omega)]; omega
      obtain ⟨tv, htv⟩ : ∃ tv, 2 * k + 1 = tv := ⟨_, rfl⟩
      rw [htv] at hor
      have HL2 : Hid (∀ W, LookO W0 W b s2 ps w.heap.size rs.length rs.length lv → Calls Tryd.prog 58 #[.pointer (some ⟨b, 0, none⟩), .int .i64 (tv : Int)] W fun e w' => e = .returned (.tuple #[]) ∧ Hid (StR W0 w' b cls (k + 1) ps w.heap.size rs.length rs.length lv (lookM s2 tv))) := fun W ⟨pg2, qv2, xs2, L2, hX2⟩ => by
        obtain ⟨x2, hx2⟩ := hX2.getRow hl2
        have hO := hok2 x2.r (List.mem_of_getElem? (hX2.rowOf hx2))
        refine (look_any1 tv k htv.symm x2 W hX2 hx2 hq2 (by omega) hO.1 hO.2.2).mono ?_
        rintro e w' ⟨rfl, hM⟩
        refine ⟨rfl, ?_, by rw [lookM_ps]; exact hps2, look_ok hok2, hM⟩
        rw [← htv]
        exact look_inv hst (by simp)
      clear rfz hX hFr hxl hyc hsl hok1 hql hst hs2 hok2 hps2 hl2 hq2 htv hx hy hIy HS
      go_wp2_with fail
      with_reducible refine HL1.out.mono ?_
      rintro e w1 ⟨rfl, hO1⟩
      have HL3 := Lib.hid (HL2.out _ hO1)
      clear hO1
      go_wp2_with fail
      with_reducible refine HL3.out.mono ?_
      rintro e w2 ⟨rfl, HS2⟩
      go_wp2
      go_roundw
      case rel => exact ⟨k + 1, lookM s2 tv, by omega, by go_num, HS2⟩
      case measure => simp [intOf]; omega
    · obtain rfl : k = rs.length := by omega
      go_wp2
      go_end0
      exact ⟨rfl, w.heap.size, s, HS.out⟩
end Go.Proofs.YtggighikemhnfaaDoor.Tm
