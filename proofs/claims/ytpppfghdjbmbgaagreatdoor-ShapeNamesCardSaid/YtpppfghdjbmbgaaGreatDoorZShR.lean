/- The package's All. -/
import Derived.Test.YtpppfghdjbmbgaaGreatDoorZShM
namespace Go.Proofs.YtpppfghdjbmbgaaGreatDoor.Tm
open Go.RowKit Go.Shelf
set_option linter.unusedVariables false
attribute [local go_sem] Oper.semAt_some
theorem ints_block {V W : World} {xs : List Int} {a : Option Addr} {c : Nat} (h : IntsR V xs a c) (hb : ∀ g o, a = some ⟨g, o, none⟩ → W.heap[g]? = V.heap[g]?) (hs : V.heap.size ≤ W.heap.size) : IntsR W xs a c :=
  ⟨h.le, h.cap, fun h0 => by
    obtain ⟨g, o, e, hg, hc⟩ := h.tat h0
    exact ⟨g, o, e, by omega, fun i v hv => (World.cell?_of_block (a := ⟨g, o + i, none⟩) (hb g o e)).trans (hc i v hv)⟩, h.ok⟩
/-- What the iterator finds. -/
structure AlK (w : World) (c : List NodeA) (a : Option Addr) (ca : Nat) (la : Option Addr) (Bm : Nat) (V : World) : Prop where
  old : ∀ b, b < w.heap.size → V.heap[b]? = w.heap[b]?
  size : w.heap.size ≤ V.heap.size
  box : V.heap[Bm]? = some (.cells #[.slice a c.length ca, .slice la c.length c.length, .func (.func 73) #[] #[], .nilFunc, .func (.func 74) #[] #[], .func (.func 75) #[] #[], .nilFunc, .nilFunc, .func (.func 76) #[] #[], .func (.func 77) #[] #[], .nilFunc, .nilFunc, .nilFunc, .nilFunc, .nilFunc, .nilFunc] 87 (0, 0))
  lits : IntsR V (litsM c) la c.length
theorem GT.heap {A B : World} (h : GT A) (e : B.heap = A.heap) : GT B := by
  cases A
  cases B
  subst e
  obtain ⟨h1, h2⟩ := h
  exact ⟨h1, h2⟩
theorem GT.same {A B : World} (h : GT A) (hs : A.heap.size ≤ B.heap.size) (hb : ∀ b, b < A.heap.size → B.heap[b]? = A.heap[b]?) : GT B :=
  GT.heap (A := { B with os := A.os, tape := A.tape, output := A.output }) (h.below ⟨rfl, rfl, rfl, hs, fun b h => hb b h⟩) rfl
theorem TabR.same {A B : World} {c : List NodeA} {a : Option Addr} {ca : Nat} (h : TabR A c a ca) (hs : A.heap.size ≤ B.heap.size) (hb : ∀ b, b < A.heap.size → B.heap[b]? = A.heap[b]?) : TabR B c a ca := by
  have h2 : TabR { B with os := A.os, tape := A.tape, output := A.output } c a ca := h.below ⟨rfl, rfl, rfl, hs, fun b h => hb b h⟩
  obtain ⟨h3, h4, h5, h6⟩ := h2
  exact ⟨h3, h4, h5, h6⟩
theorem AlK.mkr {w V : World} {c : List NodeA} {a : Option Addr} {ca : Nat} {la : Option Addr} {Bm : Nat} (h : AlK w c a ca la Bm V) (hA : TabR w c a ca) : MkrR V c a ca la := ⟨hA.same h.size h.old, h.lits⟩
theorem AlK.below {w V W : World} {c : List NodeA} {a : Option Addr} {ca : Nat} {la : Option Addr} {Bm : Nat} (h : AlK w c a ca la Bm V) (hb : Below V.heap.size V W) : AlK w c a ca la Bm W :=
  ⟨fun b hl => (hb.block b (Nat.lt_of_lt_of_le hl h.size)).trans (h.old b hl), Nat.le_trans h.size hb.size, (hb.block _ (Array.getElem?_eq_some_iff.1 h.box).1).trans h.box, h.lits.below hb⟩
theorem AlK.keep {w V W : World} {c : List NodeA} {a : Option Addr} {ca : Nat} {la : Option Addr} {Bm n0 B4 : Nat} (h : AlK w c a ca la Bm V) (hk : KeepsK (fun b => b < n0 ∧ b ≠ B4) V W) (h1 : w.heap.size ≤ B4) (h2 : B4 < n0) (h3 : Bm < n0 ∧ Bm ≠ B4) (h4 : ∀ g o, la = some ⟨g, o, none⟩ → g < n0 ∧ g ≠ B4) : AlK w c a ca la Bm W :=
  ⟨fun b hl => (hk.2 b ⟨by omega, by omega⟩).trans (h.old b hl), Nat.le_trans h.size hk.1, (hk.2 _ h3).trans h.box, ints_block h.lits (fun g o e => hk.2 g (h4 g o e)) hk.1⟩
/-- What is handed over of one node. -/
structure YD where
  k : Nat
  a : Option Addr
  c : Nat
def encY (c : List NodeA) (x : YD) : Array Value := #[.slice x.a (clsM c x.k).length x.c, .int .i64 0]
def YcP (c : List NodeA) (x : YD) (W : World) : Prop := RowsP W (.slice x.a (clsM c x.k).length x.c) (clsM c x.k)
def SpY (c : List NodeA) (pre : List YD) : Prop := ∃ k, k ≤ c.length ∧ pre.map YD.k = List.range k
structure AlS (w : World) (c : List NodeA) (a : Option Addr) (ca : Nat) (la : Option Addr) (Bm n : Nat) (J : List YD → World → Prop) (k : Nat) (wr : World) : Prop where
  big : n ≤ wr.heap.size
  al : AlK w c a ca la Bm wr
  j : ∃ pre : List YD, pre.map YD.k = List.range k ∧ J pre wr
set_option maxRecDepth 100000 in
set_option maxHeartbeats 8000000 in
theorem all1_in (d : Nat) (hd : 1 ≤ d) (y0 : Nat) (c : List NodeA) (hC : Cl c) (a : Option Addr) (ca : Nat) (la : Option Addr) (w : World) (hG : GT w) (hA : TabR w c a ca) (Bm n0 B4 : Nat) (W : World) (J Jx : List YD → World → Prop)
    (hJ : ∀ pre A B, J pre A → Below A.heap.size A B → J pre B)
    (hY : ∀ pre x A, W.heap.size ≤ A.heap.size → SpY c (pre ++ [x]) → YcP c x A → J pre A → YieldAt Fence.wide (d - 1) Tryz.prog y0 (encY c x) A fun e B =>
      (e = .returned (.bool true) ∧ J (pre ++ [x]) B ∧ KeepsK (fun b => b < n0 ∧ b ≠ B4) A B) ∨ (e = .returned (.bool false) ∧ Jx (pre ++ [x]) B))
    (hK : AlK w c a ca la Bm W) (h1 : w.heap.size ≤ B4) (h2 : B4 < n0) (h3 : Bm < n0 ∧ Bm ≠ B4) (h4 : ∀ g o, la = some ⟨g, o, none⟩ → g < n0 ∧ g ≠ B4) (h0 : J [] W) :
    CallsIn Fence.wide d Tryz.prog 44 #[.func (.yield y0) #[] #[], .pointer (some ⟨Bm, 0, none⟩)] W fun e B => (∃ v, e = .returned v) ∧
      ((∃ ys : List YD, ys.map YD.k = List.range c.length ∧ J ys B) ∨ ∃ pre x, SpY c (pre ++ [x]) ∧ Jx (pre ++ [x]) B) := by
  have hlen : c.length ≤ 2000 := hC.len
  have HD0 : Hid (AlS w c a ca la Bm W.heap.size J 0 W) := ⟨Nat.le_refl _, hK, [], rfl, h0⟩
  have HBx : Hid (∀ V, AlK w c a ca la Bm V → V.cell? ⟨Bm, 0, none⟩ = some (.slice a c.length ca) ∧ V.cell? ⟨Bm, 1, none⟩ = some (.slice la c.length c.length) ∧ V.cell? ⟨Bm, 2, none⟩ = some (.func (.func 73) #[] #[]) ∧ V.cell? ⟨Bm, 3, none⟩ = some (.nilFunc) ∧ V.cell? ⟨Bm, 4, none⟩ = some (.func (.func 74) #[] #[]) ∧ V.cell? ⟨Bm, 5, none⟩ = some (.func (.func 75) #[] #[]) ∧ V.cell? ⟨Bm, 6, none⟩ = some (.nilFunc) ∧ V.cell? ⟨Bm, 7, none⟩ = some (.nilFunc) ∧ V.cell? ⟨Bm, 8, none⟩ = some (.func (.func 76) #[] #[]) ∧ V.cell? ⟨Bm, 9, none⟩ = some (.func (.func 77) #[] #[]) ∧ V.cell? ⟨Bm, 10, none⟩ = some (.nilFunc) ∧ V.cell? ⟨Bm, 11, none⟩ = some (.nilFunc) ∧ V.cell? ⟨Bm, 12, none⟩ = some (.nilFunc) ∧ V.cell? ⟨Bm, 13, none⟩ = some (.nilFunc) ∧ V.cell? ⟨Bm, 14, none⟩ = some (.nilFunc) ∧ V.cell? ⟨Bm, 15, none⟩ = some (.nilFunc) ∧ Bm < V.heap.size) := fun V hV => by
    have e0 := hV.box
    exact ⟨(cell_of_row _ _ 0 _ _ _ e0).trans rfl, (cell_of_row _ _ 1 _ _ _ e0).trans rfl, (cell_of_row _ _ 2 _ _ _ e0).trans rfl, (cell_of_row _ _ 3 _ _ _ e0).trans rfl, (cell_of_row _ _ 4 _ _ _ e0).trans rfl, (cell_of_row _ _ 5 _ _ _ e0).trans rfl, (cell_of_row _ _ 6 _ _ _ e0).trans rfl, (cell_of_row _ _ 7 _ _ _ e0).trans rfl, (cell_of_row _ _ 8 _ _ _ e0).trans rfl, (cell_of_row _ _ 9 _ _ _ e0).trans rfl, (cell_of_row _ _ 10 _ _ _ e0).trans rfl, (cell_of_row _ _ 11 _ _ _ e0).trans rfl, (cell_of_row _ _ 12 _ _ _ e0).trans rfl, (cell_of_row _ _ 13 _ _ _ e0).trans rfl, (cell_of_row _ _ 14 _ _ _ e0).trans rfl, (cell_of_row _ _ 15 _ _ _ e0).trans rfl, (Array.getElem?_eq_some_iff.1 e0).1⟩
  have HOf : Hid (∀ V (k : Nat), k < c.length → AlK w c a ca la Bm V → Calls Tryz.prog 30 #[.agg #[.slice a c.length ca, .slice la c.length c.length, .func (.func 73) #[] #[], .nilFunc, .func (.func 74) #[] #[], .func (.func 75) #[] #[], .nilFunc, .nilFunc, .func (.func 76) #[] #[], .func (.func 77) #[] #[], .nilFunc, .nilFunc, .nilFunc, .nilFunc, .nilFunc, .nilFunc], .int .i64 k] V fun e w' => ∃ b d, e = .returned (.tuple #[.slice b (clsM c k).length d, .int .i64 0]) ∧ Hid (RowsP w' (.slice b (clsM c k).length d) (clsM c k)) ∧ Hid (Below V.heap.size V w')) := fun V k hk hV => by
    obtain ⟨n, hn⟩ : ∃ n, c[k]? = some n := ⟨_, List.getElem?_eq_getElem hk⟩
    refine (mof_any c hC a ca la k n V (hG.same hV.size hV.old) (hV.mkr hA) hn).mono fun e w' ⟨v, g1, g2, g3⟩ => ?_
    obtain ⟨rs, b, d, rfl, g5, g6⟩ := g2.out
    have hl : rs.length = (clsM c k).length := by rw [← g5, List.length_map]
    rw [hl] at g1
    exact ⟨b, d, g1, ⟨rs, b, d, by rw [hl], g5, g6⟩, g3⟩
  have HY := Lib.hid hY
  have HJ := Lib.hid hJ
  have HKp : Hid (∀ V V', AlK w c a ca la Bm V → KeepsK (fun b => b < n0 ∧ b ≠ B4) V V' → AlK w c a ca la Bm V') := fun V V' h k => h.keep k h1 h2 h3 h4
  obtain ⟨b0, b1, b2, b3, b4, b5, b6, b7, b8, b9, b10, b11, b12, b13, b14, b15, bz⟩ := HBx.out W hK
  clear hK h0 hY hJ h1 h2 h3 h4 hC hG hA
  refine callsIn_of_wp Tryz.func44 rfl trivial ?_ rfl
  simp only [Tryz.ntmps44, List.size_toArray, List.length_cons, List.length_nil, Nat.reduceAdd, Nat.reduceSub, Array.replicate_succ, Array.replicate_zero, List.push_toArray, List.append_toArray, List.nil_append, List.cons_append]
  gi_wp2
  clear b0 b1 b2 b3 b4 b5 b6 b7 b8 b9 b10 b11 b12 b13 b14 b15 bz
  gi_loopw [8] (fun i wr => ∃ k : Nat, k ≤ c.length ∧ i = .int .i64 k ∧ Hid (AlS w c a ca la Bm W.heap.size J k wr)) (fun i _ => c.length - (intOf i).toNat)
  case atStart => exact ⟨0, Nat.zero_le _, rfl, HD0⟩
  case round =>
    clear HD0
    obtain ⟨k, hkl, rfl, HD⟩ := hrel
    by_cases hlt : k < c.length
    · obtain ⟨b0, b1, b2, b3, b4, b5, b6, b7, b8, b9, b10, b11, b12, b13, b14, b15, bz⟩ := HBx.out wr HD.out.al
      have hki : (k : Int) < (c.length : Int) := by omega
      obtain ⟨pre, hp, hj⟩ := HD.out.j
      have HSp : Hid (pre.map YD.k = List.range k ∧ ∀ vb vd, SpY c (pre ++ [⟨k, vb, vd⟩])) := ⟨hp, fun vb vd => ⟨k + 1, by omega, by rw [List.map_append, hp, List.range_succ]; rfl⟩⟩
      have HYk : Hid (∀ vb vd w4, Below wr.heap.size wr w4 → RowsP w4 (.slice vb (clsM c k).length vd) (clsM c k) → YieldAt Fence.wide (d - 1) Tryz.prog y0 #[.slice vb (clsM c k).length vd, .int .i64 0] w4 fun e B => (e = .returned (.bool true) ∧ J (pre ++ [⟨k, vb, vd⟩]) B ∧ KeepsK (fun b => b < n0 ∧ b ≠ B4) w4 B) ∨ (e = .returned (.bool false) ∧ Jx (pre ++ [⟨k, vb, vd⟩]) B)) := fun vb vd w4 hb hr => HY.out pre ⟨k, vb, vd⟩ w4 (Nat.le_trans HD.out.big hb.size) (HSp.out.2 vb vd) hr (HJ.out _ _ _ hj hb)
      clear hj hp
      gi_wp2_with (refine ⟨trivial, ?_⟩; gi_at_call 30; refine (callsIn_wide.2 (HOf.out _ k hlt HD.out.al)).mono ?_; rintro e w4 ⟨vb, vd, rfl, HR4, HB4⟩; obtain ⟨fn, tmps, assign, body, hyl, hRn⟩ := HYk.out vb vd w4 HB4.out HR4.out; have HRn := Lib.hid hRn; clear hRn)
      refine HRn.out.mono ?_
      rintro e W3 (⟨rfl, hJ3, hk3⟩ | ⟨rfl, hJx3⟩)
      · have HD3 : Hid (AlS w c a ca la Bm W.heap.size J (k + 1) W3) := ⟨Nat.le_trans HD.out.big (Nat.le_trans HB4.out.size hk3.1), HKp.out _ _ (HD.out.al.below HB4.out) hk3, pre ++ [⟨k, vb, vd⟩], by rw [List.map_append, HSp.out.1, List.range_succ]; rfl, hJ3⟩
        clear hJ3 hk3 hyl b0 b1 b2 b3 b4 b5 b6 b7 b8 b9 b10 b11 b12 b13 b14 b15 bz
        gi_wp2
        go_roundw
        case rel => exact ⟨k + 1, by omega, by go_num, HD3⟩
        case measure => simp [intOf]; omega
      · have HJx3 := Lib.hid hJx3
        clear hJx3 hyl b0 b1 b2 b3 b4 b5 b6 b7 b8 b9 b10 b11 b12 b13 b14 b15 bz
        gi_wp2
        refine bodyPost_ret (results_none rfl _ _ _) rfl ?_
        exact ⟨⟨_, rfl⟩, .inr ⟨pre, _, HSp.out.2 _ _, HJx3.out⟩⟩
    · obtain rfl : k = c.length := by omega
      obtain ⟨pre, hp, hj⟩ := HD.out.j
      have HJ2 := Lib.hid hj
      clear HD hj
      gi_wp2
      go_end0
      exact ⟨⟨_, rfl⟩, .inl ⟨pre, hp, HJ2.out⟩⟩
theorem all1_seq (d : Nat) (hd : 1 ≤ d) (c : List NodeA) (hC : Cl c) (a : Option Addr) (ca : Nat) (la : Option Addr) (w : World) (hG : GT w) (hA : TabR w c a ca) (Bm n0 B4 : Nat) (w4 : World) (hK : AlK w c a ca la Bm w4)
    (h1 : w.heap.size ≤ B4) (h2 : B4 < n0) (h3 : Bm < n0 ∧ Bm ≠ B4) (h4 : ∀ g o, la = some ⟨g, o, none⟩ → g < n0 ∧ g ≠ B4) :
    ∀ W, Below w4.heap.size w4 W → SeqY Fence.wide d Tryz.prog 44 #[.pointer (some ⟨Bm, 0, none⟩)] (encY c) (YcP c) (fun ys => ys.map YD.k = List.range c.length) (SpY c) (fun b => b < n0 ∧ b ≠ B4) W := fun W hW y0 J Jx hJ _ hY h0 =>
  all1_in d hd y0 c hC a ca la w hG hA Bm n0 B4 W J Jx hJ hY (hK.below hW) h1 h2 h3 h4 h0
end Go.Proofs.YtpppfghdjbmbgaaGreatDoor.Tm
namespace Go.Proofs.YtpppfghdjbmbgaaGreatDoor.Tm
open Go.RowKit Go.Shelf
set_option linter.unusedVariables false
attribute [local go_sem] Oper.semAt_some
def Marks (B : Nat) (ds : List Deferred) (w : World) : Prop := ∃ Ds : List Nat, ds = Ds.map (fun D => { target := .collected D, args := #[] }) ∧ Ds.Nodup ∧ ∀ D ∈ Ds, B ≤ D ∧ w.heap[D]? = some (.deferred (some []))
theorem Marks.keep {B : Nat} {ds : List Deferred} {w w' : World} (h : Marks B ds w) (hk : ∀ D, B ≤ D → D < w.heap.size → w.heap[D]? = some (.deferred (some [])) → w'.heap[D]? = w.heap[D]?) : Marks B ds w' := by
  obtain ⟨Ds, h1, h2, h3⟩ := h
  refine ⟨Ds, h1, h2, fun D hD => ⟨(h3 D hD).1, ?_⟩⟩
  rw [hk D (h3 D hD).1 (Array.getElem?_eq_some_iff.1 (h3 D hD).2).1 (h3 D hD).2]
  exact (h3 D hD).2
theorem Marks.push {B D : Nat} {ds : List Deferred} {w w' : World} (h : Marks B ds w) (hD : w'.heap[D]? = some (.deferred (some []))) (hB : B ≤ D) (hn : w.heap.size ≤ D) (hk : ∀ D, B ≤ D → D < w.heap.size → w.heap[D]? = some (.deferred (some [])) → w'.heap[D]? = w.heap[D]?) : Marks B ({ target := .collected D, args := #[] } :: ds) w' := by
  obtain ⟨Ds, h1, h2, h3⟩ := h.keep hk
  obtain ⟨Ds0, h1', h2', h3'⟩ := h
  have he : Ds0 = Ds := by
    rw [h1] at h1'
    have : Function.Injective (fun D : Nat => ({ target := .collected D, args := #[] } : Deferred)) := fun a b hab => by simpa using hab
    exact ((List.map_inj_right (fun a b hab => this hab)).1 h1').symm
  subst he
  refine ⟨D :: Ds0, by rw [h1]; rfl, List.nodup_cons.2 ⟨fun hm => ?_, h2⟩, fun E hE => ?_⟩
  · have := (Array.getElem?_eq_some_iff.1 (h3' D hm).2).1
    omega
  · rcases List.mem_cons.1 hE with rfl | hE
    · exact ⟨hB, hD⟩
    · exact h3 E hE
theorem Marks.nil (B : Nat) (w : World) : Marks B [] w := ⟨[], rfl, List.nodup_nil, fun D h => by simp at h⟩
/-- A function leaves with its marks: nothing of what lies below them is touched. -/
theorem marks_leave {F : Fence} {n : Nat} {P : Program} {fn : Func} {tmps : Array Value} {R : Ending → World → Prop} {u : FrameMode} (hu : u ≠ .run) {B : Nat} : ∀ (Ds : List Nat) (w : World), Ds.Nodup → (∀ D ∈ Ds, B ≤ D ∧ w.heap[D]? = some (.deferred (some []))) →
    (∀ w', w'.os = w.os → w'.tape = w.tape → w'.output = w.output → w'.heap.size = w.heap.size → (∀ k, k ∉ Ds → w'.heap[k]? = w.heap[k]?) → LeavesIn F n P fn tmps R [] u w') → LeavesInM F n P fn tmps R (Ds.map (fun D => { target := .collected D, args := #[] })) u w
  | [], w, _, _, h => h w rfl rfl rfl rfl (fun _ _ => rfl)
  | D :: r, w, hn, hD, h => by
    obtain ⟨hn1, hn2⟩ := List.nodup_cons.1 hn
    have h0 := hD D (by simp)
    refine ⟨hu, .inl ⟨D, _, rfl, run_takeDeferred h0.2, ?_⟩⟩
    refine marks_leave hu r _ hn2 (fun E hE => ⟨(hD E (by simp [hE])).1, (World.putObj_heap_other (by rintro rfl; exact hn1 hE)).trans (hD E (by simp [hE])).2⟩) (fun w' h1 h2 h3 h4 h5 => ?_)
    refine h w' h1 h2 h3 (by rw [h4]; simp [World.putObj]) (fun k hk => ?_)
    rw [h5 k (fun hm => hk (by simp [hm]))]
    exact World.putObj_heap_other (by rintro rfl; exact hk (by simp))
theorem Marks.leave {F : Fence} {n : Nat} {P : Program} {fn : Func} {tmps : Array Value} {R : Ending → World → Prop} {u : FrameMode} (hu : u ≠ .run) {B : Nat} {ds : List Deferred} {w : World} (h : Marks B ds w)
    (hR : ∀ w', Below B w w' → (∀ (k : Nat) (cs : Array Value) (ty : TypeId) (fz : Nat × Nat), w.heap[k]? = some (Obj.cells cs ty fz) → w'.heap[k]? = some (Obj.cells cs ty fz)) → LeavesIn F n P fn tmps R [] u w') : LeavesInM F n P fn tmps R ds u w := by
  obtain ⟨Ds, rfl, h2, h3⟩ := h
  refine marks_leave hu Ds w h2 h3 (fun w' e1 e2 e3 e4 e5 => hR w' ⟨e1, e2, e3, by omega, fun k hk => e5 k (fun hm => by have := (h3 k hm).1; omega)⟩ (fun k cs ty fz hk => ?_))
  rw [e5 k (fun hm => by have := (h3 k hm).2; rw [hk] at this; cases this)]
  exact hk
theorem info_rows : (Tryz.prog.info? 27).map (fun i => (i.zero, i.size, i.bytes)) = some (some (.slice none 0 0), 1, 24) := by kernel_rfl
/-- A row of rows of one's own. -/
def RowRO (w : World) (base : Nat) (rs : List RowD) (v : Value) : Prop := w.ownsRow base 27 1 v rs.length (rs.map rowV)
theorem run_appR (w : World) (base : Nat) (v : Value) (rs rs2 : List RowD) (b : Option Addr) (d : Nat) (hown : RowRO w base rs v) (hI : RowsR w rs2 b d) (hb : base ≤ w.heap.size) (hl : rs.length + rs2.length ≤ 20000) :
    ∃ v' w', (Builtin.append_ #[44, 44] 44 #[v, .slice b rs2.length d]).run Tryz.prog w = .ok v' w' ∧ RowRO w' base (rs ++ rs2) v' ∧ w.grownBy w' v.ownBlock := by
  obtain ⟨i0, hi_, hz0, hz1, hz2⟩ := info_parts info_rows
  cases b with
  | none =>
    have h0 : rs2 = [] := by
      cases rs2 with
      | nil => rfl
      | cons y r =>
        obtain ⟨g, o, e, _⟩ := hI.tat (by simp)
        cases e
    subst h0
    refine ⟨v, w, ?_, by rw [List.append_nil]; exact hown, ⟨rfl, rfl, rfl, Nat.le_refl _, fun _ _ _ => rfl⟩⟩
    rcases hown.2 with ⟨rfl, h⟩ | ⟨g, cap, cur, rfl, _, _, hc, _, _, _⟩
    · simp [Builtin.append_, run_underlying Tryz.underlying44, sizeOf, typeInfo, hi_, Builtin.lenOf, Builtin.firstCells]
    · simp [Builtin.append_, run_underlying Tryz.underlying44, sizeOf, typeInfo, hi_, Builtin.lenOf, Builtin.firstCells, loadCells, hc, storeCells]
  | some ad =>
    have hnews : ∀ j u, (rs2.map rowV)[j]? = some u → w.cell? (ad.add j) = some u := fun j u hu => by
      have hlt := (List.getElem?_eq_some_iff.1 hu).1
      obtain ⟨g, o, e, _, hc⟩ := hI.tat (by omega)
      cases e
      have := hc j u hu
      rw [Addr.add_lit]; exact this
    have hone : ∀ u ∈ rs2.map rowV, u.oneCell' = true := fun u hu => by
      obtain ⟨r, _, rfl⟩ := List.mem_map.1 hu
      simp [rowV, Value.oneCell']
    obtain ⟨v', w', hr, h2, h3, _, _⟩ := run_append_own_at (P := Tryz.prog) w base 44 44 27 i0 _ 1 24 Tryz.underlying44 hi_ hz0 hz1 hz2 rfl (by decide) v rs.length (rs.map rowV) hown ad rs2.length d (rs2.map rowV) (by simp) hnews hone (by simp only [maxLen]; omega) (by omega) hb
    refine ⟨v', w', hr, ?_, h3⟩
    unfold RowRO
    rw [List.length_append, List.map_append]
    exact h2
theorem wpListIn_appR {F : Fence} {nF : Nat} {w : World} {ops : Array Oper} {rest : List Oper} {o : Oper} {a : Act} {Q : Exit → Act → World → Prop} (hgd : o.guard = none) (s x : Operand) (ho : o.op = .call { callee := .builtin .append, args := #[s, x], argTypes := #[44, 44] }) (hty : o.type = 44)
    (base : Nat) (v : Value) (rs rs2 : List RowD) (b : Option Addr) (d : Nat) (hs : a.eval s = v) (hx : a.eval x = .slice b rs2.length d) (hown : RowRO w base rs v) (hI : RowsR w rs2 b d) (hb : base ≤ w.heap.size) (hl : rs.length + rs2.length ≤ 20000)
    (h : ∀ v' w', RowRO w' base (rs ++ rs2) v' → w.grownBy w' v.ownBlock → wpListIn F nF Tryz.prog ops Q rest (a.put o.dst v') w') : wpListIn F nF Tryz.prog ops Q (o :: rest) a w := by
  refine wpListIn_plain hgd fun K hK => ?_
  obtain ⟨v', w', hr, h2, h3⟩ := run_appR w base v rs rs2 b d hown hI hb hl
  unfold Oper.wpIn
  refine ⟨by simp [Oper.about, ho, resolve, Target.leads, Sem.run_pure], ?_⟩
  rw [Oper.semAt_plain F _ _ (by rw [ho]; intro c hc'; cases hc')]
  simp [execOp, ho, hty, resolve, invoke, builtin, hs, hx, hr, Result.andThen]
  exact hK _ _ (h v' w' h2 h3)
theorem tR_ne : (44 : Nat) ≠ 27 ∧ (27 : Nat) ≠ 3 ∧ (44 : Nat) ≠ 3 := by decide
theorem row_typ {W : World} {base : Nat} {rs : List RowD} {v : Value} (h : RowRO W base rs v) : ∀ g, v.ownBlock = some g → base ≤ g ∧ ∃ cs, W.heap[g]? = some (.cells cs 27 (0, 0)) := fun g hg => by
  rcases h.2 with ⟨rfl, _⟩ | ⟨g', cap, cur, rfl, h1, h2, _⟩
  · cases hg
  · obtain rfl : g' = g := by simpa [Value.ownBlock] using hg
    exact ⟨h1, cur, h2⟩
theorem row_grown {W W' : World} {base : Nat} {rs : List RowD} {v : Value} (h : RowRO W base rs v) (hk : ∀ g, v.ownBlock = some g → W'.heap[g]? = W.heap[g]?) : RowRO W' base rs v := by
  refine ⟨h.1, ?_⟩
  rcases h.2 with h1 | ⟨g, cap, cur, rfl, h1, h2, h3⟩
  · exact .inl h1
  · exact .inr ⟨g, cap, cur, rfl, h1, (hk g rfl).trans h2, h3⟩
/-- All the clauses of a core table. -/
def allM (c : List NodeA) : List (List Int) := (List.range c.length).flatMap (clsM c)
/-- What the rounds have made. -/
structure AlR (c : List NodeA) (w4 : World) (B4 : Nat) (ks : List Nat) (rs : List RowD) (v : Value) (W : World) : Prop where
  but : But B4 w4 W
  box : W.heap[B4]? = some (.cells #[v] 44 (0, 0))
  own : RowRO W w4.heap.size rs v
  ints : ∀ r ∈ rs, IntsR W r.xs r.a r.c
  typ : IntT W rs
  xs : rs.map RowD.xs = ks.flatMap (clsM c)
def AlI (c : List NodeA) (w4 : World) (B4 : Nat) (pre : List YD) (W : World) : Prop := ∃ rs v, AlR c w4 B4 (pre.map YD.k) rs v W
theorem AlR.turn {c : List NodeA} {w4 : World} {B4 : Nat} {ks : List Nat} {rs : List RowD} {v : Value} {W W' : World} (h : AlR c w4 B4 ks rs v W) (hb : But B4 w4 W') (hs : W.heap.size ≤ W'.heap.size) (hk : ∀ (g : Nat) (cs : Array Value) (t : TypeId), W.heap[g]? = some (.cells cs t (0, 0)) → W'.heap[g]? = W.heap[g]?) : AlR c w4 B4 ks rs v W' :=
  ⟨hb, (hk _ _ _ h.box).trans h.box, row_grown h.own (fun g hg => by obtain ⟨_, cs, hc⟩ := row_typ h.own g hg; exact hk _ _ _ hc),
    fun r hr => ints_block (h.ints r hr) (fun g o e => by obtain ⟨cs, hc⟩ := h.typ r hr g o e; exact hk _ _ _ hc) hs,
    fun r hr g o e => by obtain ⟨cs, hc⟩ := h.typ r hr g o e; exact ⟨cs, (hk _ _ _ hc).trans hc⟩, h.xs⟩
theorem AlI_below (c : List NodeA) (w4 : World) (B4 : Nat) : ∀ pre A B, AlI c w4 B4 pre A → Below A.heap.size A B → AlI c w4 B4 pre B := fun pre A B ⟨rs, v, h⟩ hb =>
  ⟨rs, v, h.turn (h.but.trans (But.of hb)) hb.size (fun g cs t hg => hb.block g (Array.getElem?_eq_some_iff.1 hg).1)⟩
theorem AlI_own (c : List NodeA) (w4 : World) (B4 : Nat) : ∀ pre, OwnY w4.heap.size (AlI c w4 B4 pre) := fun pre A l o o' ⟨rs, v, h⟩ hl hA ho =>
  ⟨rs, v, h.turn ⟨h.but.os, h.but.tape, h.but.output, by simpa using h.but.size, fun k hk hne => (World.putObj_heap_other (by omega)).trans (h.but.block k hk hne)⟩ (by simp) (fun g cs t hg => World.putObj_heap_other (fun e => by
    subst e
    rw [hg] at hA
    cases hA
    cases ho))⟩
/-- A round: the rows of one more node. -/
theorem AlR.step {c : List NodeA} {w4 : World} {B4 : Nat} {ks : List Nat} {rs rs2 : List RowD} {v v6 : Value} {W W6 : World} {k : Nat} (h : AlR c w4 B4 ks rs v W) (hB : B4 < w4.heap.size) (hr : RowRO W6 w4.heap.size (rs ++ rs2) v6) (hg : W.grownBy W6 v.ownBlock)
    (h2 : ∀ r ∈ rs2, IntsR W r.xs r.a r.c) (ht : IntT W rs2) (hx : rs2.map RowD.xs = clsM c k) : AlR c w4 B4 (ks ++ [k]) (rs ++ rs2) v6 (W6.setCell ⟨B4, 0, none⟩ v6) := by
  have hgo := row_typ h.own
  have same : ∀ g, g < W.heap.size → v.ownBlock ≠ some g → g ≠ B4 → (W6.setCell ⟨B4, 0, none⟩ v6).heap[g]? = W.heap[g]? := fun g h1 h2 h3 => (Below.heap_setCell _ _ _ _ h3).trans (hg.block g h1 (fun e => h2 e.symm))
  have hb6 : W6.heap[B4]? = some (.cells #[v] 44 (0, 0)) := (hg.block _ (Array.getElem?_eq_some_iff.1 h.box).1 (fun e => by have := (hgo _ e.symm).1; omega)).trans h.box
  have hint : ∀ (g : Nat) (cs : Array Value), W.heap[g]? = some (.cells cs 3 (0, 0)) → (W6.setCell ⟨B4, 0, none⟩ v6).heap[g]? = W.heap[g]? := fun g cs hc => same g (Array.getElem?_eq_some_iff.1 hc).1 (fun e => by
      obtain ⟨_, cs', hc'⟩ := hgo g e
      rw [hc] at hc'
      have := Option.some.inj hc'
      injection this with _ e2 _
      exact tR_ne.2.1 e2.symm) (fun e => by
      have hbb := h.box
      rw [← e, hc] at hbb
      have := Option.some.inj hbb
      injection this with _ e2 _
      exact tR_ne.2.2 e2.symm)
  have hsz : W.heap.size ≤ (W6.setCell ⟨B4, 0, none⟩ v6).heap.size := by simpa [World.setCell] using hg.size
  have hall : ∀ r ∈ rs ++ rs2, IntsR W r.xs r.a r.c ∧ ∀ g o, r.a = some ⟨g, o, none⟩ → ∃ cs, W.heap[g]? = some (.cells cs 3 (0, 0)) := fun r hr => by
    rcases List.mem_append.1 hr with hr | hr
    · exact ⟨h.ints r hr, h.typ r hr⟩
    · exact ⟨h2 r hr, ht r hr⟩
  refine ⟨⟨?_, ?_, ?_, Nat.le_trans h.but.size hsz, fun g h1 h2 => (same g (Nat.lt_of_lt_of_le h1 h.but.size) (fun e => by have := (hgo g e).1; omega) h2).trans (h.but.block g h1 h2)⟩, ?_, row_grown hr (fun g hg' => Below.heap_setCell _ _ _ _ (fun e => ?_)), fun r hr' => ints_block (hall r hr').1 (fun g o e => by obtain ⟨cs, hc⟩ := (hall r hr').2 g o e; exact hint g cs hc) hsz, fun r hr' g o e => ?_, ?_⟩
  · exact hg.os.trans h.but.os
  · exact hg.tape.trans h.but.tape
  · exact hg.output.trans h.but.output
  · simp [World.setCell, Array.getElem?_modify, hb6]
  · obtain ⟨h3, _⟩ := row_typ hr g hg'
    simp only at e
    omega
  · obtain ⟨cs, hc⟩ := (hall r hr').2 g o e
    exact ⟨cs, (hint g cs hc).trans hc⟩
  · rw [List.map_append, h.xs, hx, List.flatMap_append]
    simp
end Go.Proofs.YtpppfghdjbmbgaaGreatDoor.Tm
namespace Go.Proofs.YtpppfghdjbmbgaaGreatDoor.Tm
open Go.RowKit Go.Shelf
set_option linter.unusedVariables false
attribute [local go_sem] Oper.semAt_some
theorem pall_any (a : Option Addr) (n ca : Nat) (c : List NodeA) (la : Option Addr) (V : World) : Calls Tryz.prog 28 #[.agg #[.slice a c.length ca, .slice la c.length c.length, .func (.func 73) #[] #[], .nilFunc, .func (.func 74) #[] #[], .func (.func 75) #[] #[], .nilFunc, .nilFunc, .func (.func 76) #[] #[], .func (.func 77) #[] #[], .nilFunc, .nilFunc, .nilFunc, .nilFunc, .nilFunc, .nilFunc]] V fun e w' => e = .returned (.func (.func 44) #[] #[.pointer (some ⟨V.heap.size, 0, none⟩)]) ∧ V.alloc (.cells #[.slice a c.length ca, .slice la c.length c.length, .func (.func 73) #[] #[], .nilFunc, .func (.func 74) #[] #[], .func (.func 75) #[] #[], .nilFunc, .nilFunc, .func (.func 76) #[] #[], .func (.func 77) #[] #[], .nilFunc, .nilFunc, .nilFunc, .nilFunc, .nilFunc, .nilFunc] 87) = w' := by
  go_enter Tryz.func28, Tryz.ntmps28
  go_wp2
  go_ret
  exact ⟨rfl, rfl⟩
theorem three_new {w W0 : World} {o1 o2 o3 : Obj} (h : W0 = ((w.alloc o1).alloc o2).alloc o3) : Below w.heap.size w W0 ∧ W0.heap.size = w.heap.size + 3 ∧ W0.heap[w.heap.size]? = some o1 ∧ W0.heap[w.heap.size + 1]? = some o2 ∧ W0.heap[w.heap.size + 1 + 1]? = some o3 := by
  subst h
  have e2 := heap_alloc_new (w.alloc o1) o2
  have e3 := heap_alloc_new ((w.alloc o1).alloc o2) o3
  simp only [World.size_alloc] at e2 e3
  exact ⟨(((Below.refl _ w).alloc (Nat.le_refl _) _).alloc (by simp) _).alloc (by simp; omega) _, by simp, (Below.heap_alloc _ _ _ (by simp; omega)).trans ((Below.heap_alloc _ _ _ (by simp)).trans (heap_alloc_new w o1)), (Below.heap_alloc _ _ _ (by simp)).trans e2, e3⟩
theorem RowsP.turn {V W : World} {v : Value} {xss : List (List Int)} (h : RowsP V v xss) (hs : V.heap.size ≤ W.heap.size) (hk : ∀ (g : Nat) (cs : Array Value) (t : TypeId) (fr : Nat × Nat), V.heap[g]? = some (.cells cs t fr) → W.heap[g]? = V.heap[g]?) : RowsP W v xss := by
  obtain ⟨rs, a, c, h1, h2, h3, h4⟩ := h
  refine ⟨rs, a, c, h1, h2, ⟨h3.le, h3.cap, fun h0 => ?_, fun r hr => ints_block (h3.ok r hr) (fun g o e => by obtain ⟨cs, hc⟩ := h4 r hr g o e; exact hk _ _ _ _ hc) hs⟩, fun r hr g o e => by obtain ⟨cs, hc⟩ := h4 r hr g o e; exact ⟨cs, (hk _ _ _ _ hc).trans hc⟩⟩
  obtain ⟨g, o, e, hg, hc⟩ := h3.tat h0
  exact ⟨g, o, e, by omega, fun i v hv => by
    obtain ⟨cs, t, fr, hcs, _⟩ := Go.Sort.cells_of_cell? (hc i v hv)
    exact (World.cell?_of_block (a := ⟨g, o + i, none⟩) (hk _ _ _ _ hcs)).trans (hc i v hv)⟩
theorem clsM_len (c : List NodeA) (k : Nat) : (clsM c k).length ≤ 4 := by
  unfold clsM
  repeat' split
  all_goals simp
theorem flat_len (c : List NodeA) : ∀ ks : List Nat, (ks.flatMap (clsM c)).length ≤ 4 * ks.length
  | [] => by simp
  | k :: ks => by
    rw [List.flatMap_cons, List.length_append, List.length_cons]
    have := clsM_len c k
    have := flat_len c ks
    omega
theorem tE_ne : (38 : Nat) ≠ 3 := by decide
theorem SpY.len {c : List NodeA} {pre : List YD} (h : SpY c pre) : pre.length ≤ c.length := by
  obtain ⟨k, h1, h2⟩ := h
  have := congrArg List.length h2
  rw [List.length_map, List.length_range] at this
  omega
theorem AlR.len {c : List NodeA} {w4 : World} {B4 : Nat} {ks : List Nat} {rs : List RowD} {v : Value} {W : World} (h : AlR c w4 B4 ks rs v W) : rs.length ≤ 4 * ks.length := by
  have := congrArg List.length h.xs
  rw [List.length_map] at this
  have := flat_len c ks
  omega
set_option maxRecDepth 100000 in
set_option maxHeartbeats 8000000 in
theorem All_in (c : List NodeA) (hC : Cl c) (a : Option Addr) (ca : Nat) (w : World) (hG : GT w) (hA : TabR w c a ca) (hc0 : 0 < c.length) :
    CallsIn Fence.wide 8 Tryz.prog 12 #[.agg #[.slice a c.length ca]] w fun e w' => ∃ b d, e = .returned (.tuple #[.slice b (allM c).length d, .int .i64 0]) ∧ RowsP w' (.slice b (allM c).length d) (allM c) ∧ Below w.heap.size w w' := by
  have hlen : c.length ≤ 2000 := hC.len
  obtain ⟨W0, hW0⟩ : ∃ W0, W0 = ((w.alloc (.cells #[.slice a c.length ca] 33)).alloc (.cells #[.slice none 0 0] 44)).alloc (.cells #[.int .i64 0] 38) := ⟨_, rfl⟩
  obtain ⟨hB0, hs0, e1, e2, e3⟩ := three_new hW0
  have HX : Hid (∀ V, Below W0.heap.size W0 V → V.cell? ⟨w.heap.size, 0, none⟩ = some (.slice a c.length ca) ∧ w.heap.size < V.heap.size) := fun V hV => by
    have e := (hV.block _ (Array.getElem?_eq_some_iff.1 e1).1).trans e1
    exact ⟨(cell_of_row _ _ 0 _ _ _ e).trans rfl, (Array.getElem?_eq_some_iff.1 e).1⟩
  have HR : Hid (∀ V, Below W0.heap.size W0 V → V.heap[w.heap.size + 1]? = some (.cells #[.slice none 0 0] 44 (0, 0)) ∧ V.heap[w.heap.size + 1 + 1]? = some (.cells #[.int .i64 0] 38 (0, 0))) := fun V hV => ⟨(hV.block _ (Array.getElem?_eq_some_iff.1 e2).1).trans e2, (hV.block _ (Array.getElem?_eq_some_iff.1 e3).1).trans e3⟩
  have HCk : Hid (Calls Tryz.prog 26 #[.agg #[.slice a c.length ca]] W0 fun e w' => e = .returned (.int .i64 0) ∧ Hid (Below W0.heap.size W0 w')) := Check_any c a ca 0 W0 (hG.below hB0) (hA.below hB0) (by omega) (by rw [hC.may]; rfl)
  have HNm : Hid (∀ V, Below W0.heap.size W0 V → Calls Tryz.prog 27 #[.agg #[.slice a c.length ca]] V fun e w' => ∃ la, e = .returned (.agg #[.slice a c.length ca, .slice la c.length c.length, .func (.func 73) #[] #[], .nilFunc, .func (.func 74) #[] #[], .func (.func 75) #[] #[], .nilFunc, .nilFunc, .func (.func 76) #[] #[], .func (.func 77) #[] #[], .nilFunc, .nilFunc, .nilFunc, .nilFunc, .nilFunc, .nilFunc]) ∧ Hid (MkrR w' c a ca la) ∧ Hid (Below V.heap.size V w')) := fun V hV => newMaker_any c hC a ca V ((hA.below hB0).below hV)
  have HAl : Hid (∀ V la, Calls Tryz.prog 28 #[.agg #[.slice a c.length ca, .slice la c.length c.length, .func (.func 73) #[] #[], .nilFunc, .func (.func 74) #[] #[], .func (.func 75) #[] #[], .nilFunc, .nilFunc, .func (.func 76) #[] #[], .func (.func 77) #[] #[], .nilFunc, .nilFunc, .nilFunc, .nilFunc, .nilFunc, .nilFunc]] V fun e w' => e = .returned (.func (.func 44) #[] #[.pointer (some ⟨V.heap.size, 0, none⟩)]) ∧ V.alloc (.cells #[.slice a c.length ca, .slice la c.length c.length, .func (.func 73) #[] #[], .nilFunc, .func (.func 74) #[] #[], .func (.func 75) #[] #[], .nilFunc, .nilFunc, .func (.func 76) #[] #[], .func (.func 77) #[] #[], .nilFunc, .nilFunc, .nilFunc, .nilFunc, .nilFunc, .nilFunc] 87) = w') := fun V la => pall_any a 0 ca c la V
  have HB0 := Lib.hid hB0
  have HZ0 := Lib.hid hs0
  have HCl := Lib.hid hC
  have HGA := Lib.hid (And.intro hG hA)
  obtain ⟨x0, xz⟩ := HX.out W0 (Below.refl _ _)
  have hd : 1 ≤ 8 := by omega
  have hA0 := hW0.symm
  clear hW0 hC hG hA hB0 e1 e2 e3 hs0
  refine callsIn_of_wp_marks Tryz.func12 rfl trivial ?_ rfl
  simp only [Tryz.ntmps12, List.size_toArray, List.length_cons, List.length_nil, Nat.reduceAdd, Nat.reduceSub, Array.replicate_succ, Array.replicate_zero, List.push_toArray, List.append_toArray, List.nil_append, List.cons_append]
  gi_wp2_with (first
    | (refine ⟨trivial, ?_⟩; gi_at_call 26; refine (callsIn_wide.2 HCk.out).mono ?_; rintro e w1 ⟨rfl, HB1⟩; obtain ⟨y0, yz⟩ := HX.out _ HB1.out)
    | (refine ⟨trivial, ?_⟩; gi_at_call 27; refine (callsIn_wide.2 (HNm.out _ (HB1.out.alloc HB1.out.size _))).mono ?_; rintro e w2 ⟨la, rfl, HM2, HB2⟩)
    | (refine ⟨trivial, ?_⟩; gi_at_call 28; refine (callsIn_wide.2 (HAl.out _ _)).mono ?_; rintro e w3 ⟨rfl, hw3⟩))
  have HW3 : Hid (Below w2.heap.size w2 w3 ∧ w3.heap.size = w2.heap.size + 1 ∧ w3.heap[w2.heap.size]? = some (.cells #[.slice a c.length ca, .slice la c.length c.length, .func (.func 73) #[] #[], .nilFunc, .func (.func 74) #[] #[], .func (.func 75) #[] #[], .nilFunc, .nilFunc, .func (.func 76) #[] #[], .func (.func 77) #[] #[], .nilFunc, .nilFunc, .nilFunc, .nilFunc, .nilFunc, .nilFunc] 87 (0, 0))) := by
    subst hw3
    exact ⟨(Below.refl _ w2).alloc (Nat.le_refl _) _, by simp, heap_alloc_new w2 _⟩
  have HB4 : Hid (w2.heap[w1.heap.size]? = some (.cells #[.slice none 0 0] 44 (0, 0)) ∧ w1.heap.size < w2.heap.size ∧ Below W0.heap.size W0 w2) := by
    have h := heap_alloc_new w1 (.cells #[.slice none 0 0] 44)
    have hb := HB2.out
    exact ⟨(hb.block _ (by simp)).trans h, by have := hb.size; simp at this; omega, (HB1.out.alloc HB1.out.size _).trans (hb.mono (by have := HB1.out.size; simp; omega))⟩
  clear hw3
  have hz1 : W0.heap.size ≤ w1.heap.size := HB1.out.size
  have hz2 := HB4.out.2.1
  have hz3 := HW3.out.2.1
  have hz0 := HZ0.out
  have HWw : Hid (Below w.heap.size w w3) := (HB0.out.trans (HB4.out.2.2.mono HB0.out.size)).trans (HW3.out.1.mono (by omega))
  have hal : AlK w c a ca la w2.heap.size w3 := ⟨fun b hb => HWw.out.block b hb, HWw.out.size, HW3.out.2.2, HM2.out.lits.below HW3.out.1⟩
  have hla : ∀ g o, la = some ⟨g, o, none⟩ → g < w3.heap.size ∧ g ≠ w1.heap.size := fun g o e => by
    obtain ⟨g', o', e', hg, hc⟩ := HM2.out.lits.cell (litsM_at hc0)
    rw [e] at e'
    cases e'
    refine ⟨by omega, fun e2 => ?_⟩
    subst e2
    rw [cell_of_row _ _ _ _ _ _ HB4.out.1] at hc
    cases o with
    | zero => cases hc
    | succ o => simp at hc
  have hbox3 : w3.heap[w1.heap.size]? = some (.cells #[.slice none 0 0] 44 (0, 0)) := (HW3.out.1.block _ (by omega)).trans HB4.out.1
  have hI0 : AlI c w3 w1.heap.size [] w3 := ⟨[], .slice none 0 0, But.refl _ _, hbox3, World.ownsRow_nil _ _ _ _, fun r hr => by simp at hr, fun r hr => by simp at hr, rfl⟩
  have HR3 : Hid (w3.heap[w.heap.size + 1]? = some (.cells #[.slice none 0 0] 44 (0, 0)) ∧ w3.heap[w.heap.size + 1 + 1]? = some (.cells #[.int .i64 0] 38 (0, 0))) := by
    refine HR.out _ (HB4.out.2.2.trans (HW3.out.1.mono (by omega)))
  have hlen := HCl.out.len
  clear HM2 HB2 HCk HNm HAl HX HR x0 xz y0 yz hA0 hbox3
  refine wpIn_rangeFunc_Y rfl hd (gf := 44) (lb := #[.pointer (some ⟨w2.heap.size, 0, none⟩)]) rfl trivial (enters_of Tryz.func44 (by kernel_rfl) rfl)
    (all1_seq 7 (by omega) c HCl.out a ca la w HGA.out.1 HGA.out.2 w2.heap.size w3.heap.size w1.heap.size w3 hal (by omega) (by omega) ⟨by omega, by omega⟩ hla) (fun b hb => hb.1) (fun _ => rfl)
    (AlI c w3 w1.heap.size) (AlI_below c w3 w1.heap.size) (AlI_own c w3 w1.heap.size) (fun B hB => AlI_below c w3 w1.heap.size _ _ _ hI0 hB)
    (fun x a' W => a' = { tmps := #[.agg #[.slice a c.length ca], .pointer (some ⟨w.heap.size, 0, none⟩), .pointer (some ⟨w.heap.size + 1, 0, none⟩), .pointer (some ⟨w.heap.size + 1 + 1, 0, none⟩), .pointer (some ⟨w1.heap.size, 0, none⟩), .slice x.a (clsM c x.k).length x.c, .int .i64 0, .agg #[.slice a c.length ca], .int .i64 0, .bool false, .agg #[.slice a c.length ca], .agg #[.slice a c.length ca, .slice la c.length c.length, .func (.func 73) #[] #[], .nilFunc, .func (.func 74) #[] #[], .func (.func 75) #[] #[], .nilFunc, .nilFunc, .func (.func 76) #[] #[], .func (.func 77) #[] #[], .nilFunc, .nilFunc, .nilFunc, .nilFunc, .nilFunc, .nilFunc], .func (.func 44) #[] #[.pointer (some ⟨w2.heap.size, 0, none⟩)], .slice x.a (clsM c x.k).length x.c, .int .i64 0, undef, undef, undef, undef, undef, undef, undef], defers := [] } ∧ YcP c x W) (fun x a' A l o o' h hl hA ho => ⟨h.1, RowsP.turn h.2 (by simp) (fun g cs t fr hg => World.putObj_heap_other (fun e => by
      subst e
      rw [hg] at hA
      cases hA
      cases ho))⟩) ?_ ?_ ?_
  · rintro l' pre x W K hsz hsp hy hI hK
    simp only [encY]
    gi_wp2
    exact hK _ _ (KeepsFrom.refl _ _) (KeepsK.refl _ _) hI ⟨rfl, hy⟩
  · rintro l' pre x a' V hsz hsp ⟨rs, v, hAR⟩ ⟨rfl, hy⟩
    obtain ⟨k, xa, xc⟩ := x
    obtain ⟨rs2, ra, rc, e1, e2, h3, h4⟩ := hy
    simp only at e1 e2
    injection e1 with ea el ec
    subst ea ec
    have hpl := hsp.len
    rw [List.length_append] at hpl
    have hrl := hAR.len
    rw [List.length_map] at hrl
    have hcl := clsM_len c k
    have hl2 : rs.length + rs2.length ≤ 20000 := by simp at hpl; omega
    have c0 : V.cell? ⟨w1.heap.size, 0, none⟩ = some v := (cell_of_row _ _ 0 _ _ _ hAR.box).trans rfl
    have cz := (Array.getElem?_eq_some_iff.1 hAR.box).1
    have HAR := Lib.hid hAR
    have H34 := Lib.hid (And.intro e2 (And.intro h3 h4))
    have hown := hAR.own
    have hzV : w3.heap.size ≤ V.heap.size := hsz
    dsimp only
    rw [el]
    clear hAR h4 e2 hpl hrl hcl el
    gi_wp2_with (gi_at_builtin; refine wpListIn_appR rfl _ _ rfl rfl w3.heap.size v rs rs2 xa xc rfl rfl hown h3 hzV hl2 ?_)
    intro v6 W6 hr6 hg6
    rw [← hz3] at hr6
    have hst := HAR.out.step (k := k) (by omega : w1.heap.size < w3.heap.size) hr6 hg6 (fun r hr => H34.out.2.1.ok r hr) H34.out.2.2 H34.out.1
    have hot := row_typ HAR.out.own
    have hb6 : W6.heap[w1.heap.size]? = some (.cells #[v] 44 (0, 0)) := (hg6.block _ cz (fun e => by have := (hot _ e.symm).1; omega)).trans HAR.out.box
    obtain ⟨a6, c6, e6, _, _, _, _⟩ := own_at hr6
    subst e6
    obtain ⟨W7, hW7⟩ : ∃ W7, W6.setCell ⟨w1.heap.size, 0, none⟩ (.slice a6 (rs ++ rs2).length c6) = W7 := ⟨_, rfl⟩
    rw [hW7] at hst
    have HP : Hid (KeepsFrom w3.heap.size V W7 ∧ KeepsK (fun b => b < w3.heap.size ∧ b ≠ w1.heap.size) V W7 ∧ AlI c w3 w1.heap.size (pre ++ [⟨k, xa, xc⟩]) W7) := by
      refine ⟨?_, ⟨?_, fun b hb => ?_⟩, _, _, by rw [List.map_append]; exact hst⟩
      · rw [← hW7]
        exact KeepsOthers.from ((KeepsOthers.of_grownBy hg6 (fun j o e ho => by
          obtain ⟨_, cs, hc⟩ := hot j e
          rw [hc] at ho
          cases ho
          rfl)).trans (KeepsOthers.setCell _ _ _)) _
      · rw [← hW7]
        have := hg6.size
        simpa [World.setCell] using this
      · rw [← hW7]
        exact (Below.heap_setCell _ _ _ _ hb.2).trans (hg6.block b (by omega) (fun e => by have := (hot b e.symm).1; omega))
    have c6' : W6.cell? ⟨w1.heap.size, 0, none⟩ = some v := (cell_of_row _ _ 0 _ _ _ hb6).trans rfl
    have f6 : W6.frozen? ⟨w1.heap.size, 0, none⟩ = false := by simp [World.frozen?, hb6]
    have z6 := (Array.getElem?_eq_some_iff.1 hb6).1
    clear hst hot hb6 hg6 hr6 c0 cz hown h3
    gi_wp2
    rw [show rs.length + rs2.length = (rs ++ rs2).length from List.length_append.symm, hW7]
    exact HP.out
  · rintro D ys W hD hS ⟨rs, v, hAR⟩ hDf
    have hot := row_typ hAR.own
    obtain ⟨a6, c6, e6, _, _, _, _⟩ := own_at hAR.own
    subst e6
    have hr1 : W.heap[w.heap.size + 1]? = some (.cells #[.slice none 0 0] 44 (0, 0)) := (hAR.but.block _ (by omega) (by omega)).trans HR3.out.1
    have hr2 : W.heap[w.heap.size + 1 + 1]? = some (.cells #[.int .i64 0] 38 (0, 0)) := (hAR.but.block _ (by omega) (by omega)).trans HR3.out.2
    have c0 : W.cell? ⟨w1.heap.size, 0, none⟩ = some (.slice a6 rs.length c6) := (cell_of_row _ _ 0 _ _ _ hAR.box).trans rfl
    have cz := (Array.getElem?_eq_some_iff.1 hAR.box).1
    have c1 : W.cell? ⟨w.heap.size + 1, 0, none⟩ = some (.slice none 0 0) := (cell_of_row _ _ 0 _ _ _ hr1).trans rfl
    have c2 : W.cell? ⟨w.heap.size + 1 + 1, 0, none⟩ = some (.int .i64 0) := (cell_of_row _ _ 0 _ _ _ hr2).trans rfl
    have f1 : W.frozen? ⟨w.heap.size + 1, 0, none⟩ = false := by simp [World.frozen?, hr1]
    have f2 : W.frozen? ⟨w.heap.size + 1 + 1, 0, none⟩ = false := by simp [World.frozen?, hr2]
    have z1 := (Array.getElem?_eq_some_iff.1 hr1).1
    have z2 := (Array.getElem?_eq_some_iff.1 hr2).1
    have hxs : rs.map RowD.xs = allM c := by rw [hAR.xs, hS]; rfl
    have hlm : rs.length = (allM c).length := by rw [← hxs, List.length_map]
    obtain ⟨W9, hW9⟩ : ∃ W9, (W.setCell ⟨w.heap.size + 1, 0, none⟩ (.slice a6 rs.length c6)).setCell ⟨w.heap.size + 1 + 1, 0, none⟩ (.int .i64 0) = W9 := ⟨_, rfl⟩
    have k9 : ∀ b, b ≠ w.heap.size + 1 → b ≠ w.heap.size + 1 + 1 → W9.heap[b]? = W.heap[b]? := fun b h1 h2 => by
      rw [← hW9]
      exact (Below.heap_setCell _ _ _ _ h2).trans (Below.heap_setCell _ _ _ _ h1)
    have s9 : W9.heap.size = W.heap.size := by rw [← hW9]; simp [World.setCell]
    have q1 : W9.heap[w.heap.size + 1]? = some (.cells #[.slice a6 rs.length c6] 44 (0, 0)) := by
      rw [← hW9]
      exact (Below.heap_setCell _ _ _ _ (by show w.heap.size + 1 ≠ w.heap.size + 1 + 1; omega)).trans (setOne hr1)
    have q2 : W9.heap[w.heap.size + 1 + 1]? = some (.cells #[.int .i64 0] 38 (0, 0)) := by
      rw [← hW9]
      exact setOne ((Below.heap_setCell _ _ _ _ (by show w.heap.size + 1 + 1 ≠ w.heap.size + 1; omega)).trans hr2)
    have hbw9 : Below w.heap.size w W9 := by
      have hbW : Below w.heap.size w W := ⟨hAR.but.os.trans HWw.out.os, hAR.but.tape.trans HWw.out.tape, hAR.but.output.trans HWw.out.output, Nat.le_trans HWw.out.size hAR.but.size, fun b hb => (hAR.but.block b (by omega) (by omega)).trans (HWw.out.block b hb)⟩
      rw [← hW9]
      exact (hbW.setCell (p := ⟨w.heap.size + 1, 0, none⟩) (by show w.heap.size ≤ w.heap.size + 1; omega) _).setCell (p := ⟨w.heap.size + 1 + 1, 0, none⟩) (by show w.heap.size ≤ w.heap.size + 1 + 1; omega) _
    have hint : ∀ (g : Nat) (cs : Array Value), W.heap[g]? = some (.cells cs 3 (0, 0)) → W9.heap[g]? = W.heap[g]? := fun g cs hc => k9 g (fun e => by
      rw [e, hr1] at hc
      have := Option.some.inj hc
      injection this with _ e2 _
      exact tR_ne.2.2 e2) (fun e => by
      rw [e, hr2] at hc
      have := Option.some.inj hc
      injection this with _ e2 _
      exact tE_ne e2)
    have HRow : Hid (RowsP W9 (.slice a6 (allM c).length c6) (allM c)) := by
      have ho9 : RowRO W9 w3.heap.size rs (.slice a6 rs.length c6) := row_grown hAR.own (fun g hg => k9 g (by have := (hot g hg).1; omega) (by have := (hot g hg).1; omega))
      obtain ⟨a7, c7, e7, r1, r2, r3, _⟩ := own_at ho9
      cases e7
      exact ⟨rs, a6, c6, by rw [hlm], hxs, ⟨r1, r2, r3, fun r hr => ints_block (hAR.ints r hr) (fun g o e => by obtain ⟨cs, hc⟩ := hAR.typ r hr g o e; exact hint g cs hc) (by omega)⟩, fun r hr g o e => by obtain ⟨cs, hc⟩ := hAR.typ r hr g o e; exact ⟨cs, (hint g cs hc).trans hc⟩⟩
    have HM : Hid (Marks w3.heap.size [{ target := .collected D, args := #[] }] W9) := by
      refine ⟨[D], rfl, by simp, fun E hE => ?_⟩
      obtain rfl : E = D := by simpa using hE
      exact ⟨hD, (k9 _ (by omega) (by omega)).trans hDf⟩
    have HQ := Lib.hid (And.intro q1 (And.intro q2 hbw9))
    rw [hlm] at hW9 HQ c0
    clear hot hAR hr1 hr2 hxs k9 s9 q1 q2 hbw9 hint hDf hS
    gi_wp2
    refine Marks.leave (by simp) HM.out (fun w' hb hc => ?_)
    have p1 : w'.cell? ⟨w.heap.size + 1, 0, none⟩ = some (.slice a6 (allM c).length c6) := (cell_of_row _ _ 0 _ _ _ (hc _ _ _ _ HQ.out.1)).trans rfl
    have p2 : w'.cell? ⟨w.heap.size + 1 + 1, 0, none⟩ = some (.int .i64 0) := (cell_of_row _ _ 0 _ _ _ (hc _ _ _ _ HQ.out.2.1)).trans rfl
    exact ⟨.tuple #[.slice a6 (allM c).length c6, .int .i64 0], by simp [results, Tryz.results12, go_sem, p1, p2], a6, c6, rfl, RowsP.turn HRow.out hb.size (fun g cs t fr hg => (hc _ _ _ _ hg).trans hg.symm), HQ.out.2.2.trans (hb.mono (by omega))⟩
theorem PAll_any (c : List NodeA) (hC : Cl c) (a : Option Addr) (ca : Nat) (w : World) (hG : GT w) (hA : TabR w c a ca) (hc0 : 0 < c.length) :
    Calls Tryz.prog 12 #[.agg #[.slice a c.length ca]] w fun e w' => ∃ b d, e = .returned (.tuple #[.slice b (allM c).length d, .int .i64 0]) ∧ RowsP w' (.slice b (allM c).length d) (allM c) ∧ Below w.heap.size w w' := callsIn_wide.1 (All_in c hC a ca w hG hA hc0)
end Go.Proofs.YtpppfghdjbmbgaaGreatDoor.Tm
