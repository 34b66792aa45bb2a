/- Core: wakes. -/
import Derived.Test.YtfbjgadgfjnamaaGreatDoorZCpD
import Derived.Test.YtfbjgadgfjnamaaGreatDoorZCoOf
namespace Go.Proofs.YtfbjgadgfjnamaaGreatDoor.Tm
open Go.RowKit
set_option linter.unusedVariables false
def appW : NodeA := ⟨13, 0, 0, 0, 0, 0, 0, 0⟩
def appX : NodeA := ⟨13, 0, 0, 0, 0, 0, 1, 0⟩
def impW : NodeA := ⟨5, 2, 2, 3, 0, 0, 0, 0⟩
def wakL : List NodeA := [trueN, zeroN, appW, appX, impW]
def thereB (im : List Int) (n : NodeA) : Bool := (List.range n.len.toNat).all (fun j => !decide (imA im (argA n j) = -1))
def stepW (p : List NodeA × List Int) (k : Nat) : MkS × Int := stepM 20 ⟨p.1, 0⟩ p.2 (wakL.getD k trueN)
def nextsW (p : List NodeA × List Int) : List (List NodeA × List Int) := (List.range 5).filterMap (fun k => if thereB p.2 (wakL.getD k trueN) = true then some ((stepW p k).1.l, p.2.set k (stepW p k).2) else none)
def moreW (S : List (List NodeA × List Int)) : List (List NodeA × List Int) → List (List NodeA × List Int)
  | [] => S
  | p :: r => if p ∈ S then moreW S r else moreW (p :: S) r
def reachW : Nat → List (List NodeA × List Int) → List (List NodeA × List Int)
  | 0, S => S
  | k + 1, S => reachW k (moreW S (S.flatMap nextsW))
def statesW : List (List NodeA × List Int) := reachW 5 [(newL, [-1, -1, -1, -1, -1])]
def closedW : Bool := statesW.all (fun p => (List.range 5).all (fun k => !thereB p.2 (wakL.getD k trueN) || (decide ((stepW p k).1.e = 0) && decide (((stepW p k).1.l, p.2.set k (stepW p k).2) ∈ statesW))))
def goodW (c : List NodeA) (x : Int) : Bool := decide (c.length = 6) && (decide (0 ≤ x) && (decide (x < 6) && (decide ((nodA c x).op = 3) && (decide (0 ≤ (nodA c x).a0) && (decide ((nodA c x).a0 < 6) && (decide ((nodA c (nodA c x).a0).op = 1) && isB c))))))
def endsW : Bool := statesW.all (fun p => decide (imA p.2 4 = -1) || statesW.all (fun q => !decide (p.1.length ≤ q.1.length) || goodW q.1 (imA p.2 4)))
theorem closed_w : closedW = true := by kernel_rfl
theorem ends_w : endsW = true := by kernel_rfl
theorem start_w : ((newL, [-1, -1, -1, -1, -1]) : List NodeA × List Int) ∈ statesW := by
  have : decide (((newL, [-1, -1, -1, -1, -1]) : List NodeA × List Int) ∈ statesW) = true := by kernel_rfl
  exact of_decide_eq_true this
theorem wak_may : mayT wakL = true := by kernel_rfl
theorem wak_srt : wakL.any (badS wakL) = false := by kernel_rfl
theorem wak_plc : ([4] : List Int).any (badP wakL.length) = false := by kernel_rfl
theorem wak_not : isB wakL = false := by kernel_rfl
theorem there_w {im : List Int} {n : NodeA} (h : AllIm im n) : thereB im n = true := by
  unfold thereB
  rw [List.all_eq_true]
  intro j hj
  have h1 := List.mem_range.1 hj
  have := h j (by omega)
  rw [decide_eq_false this]; rfl
/-- What is so of each stop of the walk at wakes' table. -/
def QWk (s : MkS) (im : List Int) : Prop := (s.l, im) ∈ statesW
theorem step_w {s : MkS} {im : List Int} {k : Nat} {n : NodeA} (hq : (s.l, im) ∈ statesW) (he : s.e = 0) (hk : wakL[k]? = some n) (ha : AllIm im n) : (stepM 20 s im n).1.e = 0 ∧ ((stepM 20 s im n).1.l, im.set k (stepM 20 s im n).2) ∈ statesW := by
  have hc := closed_w
  unfold closedW at hc
  have h1 := List.all_eq_true.1 hc _ hq
  have hk5 : k < 5 := (List.getElem?_eq_some_iff.1 hk).1
  have h2 := List.all_eq_true.1 h1 k (List.mem_range.2 hk5)
  have e : wakL.getD k trueN = n := by rw [List.getD_eq_getElem?_getD, hk]; rfl
  have e2 : stepW (s.l, im) k = stepM 20 s im n := by
    unfold stepW
    rw [e]
    obtain ⟨l, e0⟩ := s
    simp only at he
    subst he
    rfl
  rw [e, there_w ha, e2] at h2
  simpa using h2
theorem stepQ_w : StepQ QWk 20 wakL := fun s im k n hw hk ha he => (step_w hw.q hw.ok hk ha).2
theorem err_w {err : Int} (h : OfErr QWk 20 wakL [4] err) : False := by
  rcases h with ⟨_, h | h⟩ | ⟨_, _, h⟩ | ⟨s', _, _, h0, s, im, k, n, hw, hk, ha, e⟩
  · rw [wak_may] at h; exact absurd h (by decide)
  · rw [wak_plc] at h; exact absurd h (by decide)
  · rw [wak_srt] at h; exact absurd h (by decide)
  · rw [e] at h0
    exact h0 (step_w hw.q hw.ok hk ha).1
theorem ends_of {s s0 : MkS} {im im0 : List Int} {x : Int} (h : (s.l, im) ∈ statesW) (h0 : (s0.l, im0) ∈ statesW) (hx : imA im0 4 = x) (hne : ¬ x = -1) (hp : Pre s0 s) : s.l.length = 6 ∧ 0 ≤ x ∧ x < 6 ∧ (nodA s.l x).op = 3 ∧ 0 ≤ (nodA s.l x).a0 ∧ (nodA s.l x).a0 < 6 ∧ (nodA s.l (nodA s.l x).a0).op = 1 ∧ isB s.l = true := by
  have hc := ends_w
  unfold endsW at hc
  have h1 := List.all_eq_true.1 hc _ h0
  rw [hx, decide_eq_false hne, Bool.false_or] at h1
  have h2 := List.all_eq_true.1 h1 _ h
  rw [decide_eq_true hp.len] at h2
  simpa [goodW] using h2
end Go.Proofs.YtfbjgadgfjnamaaGreatDoor.Tm
namespace Go.Proofs.YtfbjgadgfjnamaaGreatDoor.Tm
open Go.RowKit
set_option linter.unusedVariables false
theorem RNew_own (w : World) : Calls Tryz.prog 27 #[] w fun e w' => e = .returned (.agg #[.slice (some ⟨w.heap.size + 1, 0, none⟩) 2 2]) ∧ w'.heap[w.heap.size + 1]? = some (.cells newC 47 (0, 0)) ∧ Below w.heap.size w w' := by
  go_enter Tryz.func27, Tryz.ntmps27
  go_wp2
  have hb := heap_alloc_new (w.alloc (.cells #[.slice (some ⟨w.heap.size + 1, 0, none⟩) 2 2] 33)) (.cells newC 47)
  refine bodyPost_ret (v := .agg #[.slice (some ⟨w.heap.size + 1, 0, none⟩) 2 2]) (by simp [results, Tryz.results27, go_sem]) rfl ⟨rfl, ?_, ?_⟩
  · rw [World.size_alloc] at hb
    exact hb
  · exact ((Below.refl _ w).alloc (Nat.le_refl _) _).alloc (by simp) _
def newsC : List Value := nodeC appW ++ (nodeC appX ++ nodeC impW)
theorem wak_own {w : World} {base : Nat} {v : Value} (h : w.ownsRow base 47 8 v (2 + 3) (newC.toList ++ newsC)) : ∃ a c, v = .slice a 5 c ∧ TabR w wakL a c := by
  obtain ⟨a, c, e, h1, h2, h3, _⟩ := own_at h
  refine ⟨a, c, e, h1, h2, h3, fun n hn => ?_⟩
  simp only [wakL, List.mem_cons, List.not_mem_nil, or_false] at hn
  rcases hn with rfl | rfl | rfl | rfl | rfl <;> exact ⟨⟨by decide, by decide⟩, ⟨by decide, by decide⟩, ⟨by decide, by decide⟩, ⟨by decide, by decide⟩, ⟨by decide, by decide⟩, ⟨by decide, by decide⟩, ⟨by decide, by decide⟩, ⟨by decide, by decide⟩⟩
theorem new_own {w : World} {base g : Nat} (h : w.heap[g]? = some (.cells newC 47 (0, 0))) (hb : base ≤ g) : w.ownsRow base 47 8 (.slice (some ⟨g, 0, none⟩) 2 2) 2 newC.toList := ⟨rfl, .inr ⟨g, 2, newC, rfl, hb, h, Nat.le_refl _, by decide, rfl, rfl⟩⟩
theorem one_int (w : World) (x : Int) (hx : I64 x) : IntsR (w.alloc (.cells #[.int .i64 x] 3)) [x] (some ⟨w.heap.size, 0, none⟩) 1 := by
  have h := heap_alloc_new w (.cells #[.int .i64 x] 3)
  refine ⟨Nat.le_refl _, (by decide : (1 : Nat) ≤ maxLen), fun _ => ⟨w.heap.size, 0, rfl, by simp, fun i v hv => ?_⟩, fun y hy => ?_⟩
  · rw [Nat.zero_add, cell_of_row _ _ _ _ _ _ h, ← Array.getElem?_toList]
    exact hv
  · simp only [List.mem_cons, List.not_mem_nil, or_false] at hy
    rw [hy]; exact hx
/-- What comes of wakes' table. -/
structure CoW (w : World) (l : List NodeA) (a : Option Addr) (c x y : Nat) (b : Option Addr) (d : Nat) : Prop where
  tab : TabR w l a c
  row : IntsR w [(x : Int)] b d
  len : l.length = 6
  x6 : x < 6
  op : (nodA l x).op = 3
  a0 : (nodA l x).a0 = (y : Int)
  y6 : y < 6
  op0 : (nodA l y).op = 1
  is_ : isB l = true
theorem OfW_any (w : World) (a : Option Addr) (c : Nat) (b : Option Addr) (hT : GT w) (hG : GR w) (hA : TabR w wakL a c) (hR : IntsR w [4] b 1) :
    Calls Tryz.prog 12 #[.agg #[.slice a 5 c], .slice b 1 1, .int .i64 20] w fun e w' => Below w.heap.size w w' ∧ ∃ l a' c' x y b' d', e = .returned (.tuple #[.agg #[.slice a' 6 c'], .slice b' 1 d', .int .i64 0]) ∧ Hid (CoW w' l a' c' x y b' d') := by
  refine (Of_any QWk 20 wakL a c [4] b 1 w hT hG hA (by decide) hR (by decide) (by decide) (l64 (by decide)) (fun _ _ => start_w) (fun _ _ => stepQ_w)).mono ?_
  rintro e w' ⟨hb, ⟨err, rfl, h0, he⟩ | ⟨s, im, ims, a', c', b', d', rfl, hTa, hIn, hw, hims, hlen, -⟩⟩
  · exact (err_w he).elim
  · refine ⟨hb, ?_⟩
    obtain ⟨x, rfl⟩ : ∃ x, ims = [x] := by
      cases ims with
      | nil => cases hlen
      | cons x r => cases r with
        | nil => exact ⟨x, rfl⟩
        | cons _ _ => cases hlen
    obtain ⟨s0, im0, hw0, hx, hne, hp⟩ := hims 0 x 4 rfl rfl
    obtain ⟨e1, e2, e3, e4, e5, e6, e7, e8⟩ := ends_of hw.q hw0.q hx hne hp
    obtain ⟨x', rfl⟩ : ∃ x' : Nat, x = (x' : Int) := ⟨x.toNat, by omega⟩
    obtain ⟨y, hy⟩ : ∃ y : Nat, (nodA s.l x').a0 = (y : Int) := ⟨((nodA s.l x').a0).toNat, by omega⟩
    rw [hy] at e6 e7
    exact ⟨s.l, a', c', x', y, b', d', by rw [e1]; rfl, ⟨hTa, hIn, e1, by omega, e4, hy, by omega, e7, e8⟩⟩
theorem mid_new' (A : World) (o1 o2 : Obj) : ((A.alloc o1).alloc o2).heap[A.heap.size]? = some o1 := (Below.heap_alloc _ _ _ (by simp)).trans (heap_alloc_new A o1)
/-- Behind the append. -/
theorem grow_w {w w1 w9 : World} {g9 c9 : Nat} {o : Obj} (h1 : w1.heap[w.heap.size + 1]? = some (.cells newC 47 (0, 0))) (hb : Below w.heap.size w w1) (hs : w.heap.size + 1 < w1.heap.size)
    (ho : w9.ownsRow w.heap.size 47 8 (.slice (some ⟨g9, 0, none⟩) 5 c9) (2 + 3) (newC.toList ++ newsC))
    (hg : ((w1.alloc (.cells #[.slice (some ⟨w.heap.size + 1, 0, none⟩) 2 2] 33)).alloc o).grownBy w9 (Value.slice (some ⟨w.heap.size + 1, 0, none⟩) 2 2).ownBlock) :
    w9.heap[w1.heap.size]? = some (.cells #[.slice (some ⟨w.heap.size + 1, 0, none⟩) 2 2] 33 (0, 0)) ∧ Below w.heap.size w w9 ∧ w9.ownsRow w.heap.size 47 8 (.slice (some ⟨g9, 0, none⟩) 5 c9) (2 + 3) (newC.toList ++ newsC) := by
  have hz : ((w1.alloc (.cells #[.slice (some ⟨w.heap.size + 1, 0, none⟩) 2 2] 33)).alloc o).heap.size = w1.heap.size + 2 := by simp
  have hb2 : Below w.heap.size w ((w1.alloc (.cells #[.slice (some ⟨w.heap.size + 1, 0, none⟩) 2 2] 33)).alloc o) := (hb.alloc (by omega) _).alloc (by simp; omega) _
  refine ⟨(hg.block w1.heap.size (by omega) (fun e => by simp [Value.ownBlock] at e; omega)).trans (mid_new' w1 _ _), hb2.grown hg (by omega) (fun k e => ?_), ho⟩
  · have : w.heap.size + 1 = k := by simpa [Value.ownBlock] using e
    omega
/-- Behind the store. -/
theorem store_w {w w1 w9 : World} {g9 c9 : Nat} (h : w9.heap[w1.heap.size]? = some (.cells #[.slice (some ⟨w.heap.size + 1, 0, none⟩) 2 2] 33 (0, 0)) ∧ Below w.heap.size w w9 ∧ w9.ownsRow w.heap.size 47 8 (.slice (some ⟨g9, 0, none⟩) 5 c9) (2 + 3) (newC.toList ++ newsC)) (hs : w.heap.size + 1 < w1.heap.size) :
    Below w.heap.size w ((w9.setCell ⟨w1.heap.size, 0, none⟩ (.slice (some ⟨g9, 0, none⟩) 5 c9)).alloc (.cells #[.int .i64 4] 3)) ∧ TabR ((w9.setCell ⟨w1.heap.size, 0, none⟩ (.slice (some ⟨g9, 0, none⟩) 5 c9)).alloc (.cells #[.int .i64 4] 3)) wakL (some ⟨g9, 0, none⟩) c9 ∧ IntsR ((w9.setCell ⟨w1.heap.size, 0, none⟩ (.slice (some ⟨g9, 0, none⟩) 5 c9)).alloc (.cells #[.int .i64 4] 3)) [4] (some ⟨w9.heap.size, 0, none⟩) 1 ∧ ((w9.setCell ⟨w1.heap.size, 0, none⟩ (.slice (some ⟨g9, 0, none⟩) 5 c9)).alloc (.cells #[.int .i64 4] 3)).heap[w1.heap.size]? = some (.cells #[.slice (some ⟨g9, 0, none⟩) 5 c9] 33 (0, 0)) := by
  obtain ⟨h1, h2, h3⟩ := h
  have hlt := (Array.getElem?_eq_some_iff.1 h1).1
  have hz : (w9.setCell ⟨w1.heap.size, 0, none⟩ (.slice (some ⟨g9, 0, none⟩) 5 c9)).heap.size = w9.heap.size := by simp [World.setCell]
  have hs2 : (w9.setCell ⟨w1.heap.size, 0, none⟩ (.slice (some ⟨g9, 0, none⟩) 5 c9)).heap[w1.heap.size]? = some (.cells #[.slice (some ⟨g9, 0, none⟩) 5 c9] 33 (0, 0)) := setOne h1
  have hbs := h2.setCell (p := ⟨w1.heap.size, 0, none⟩) (by show w.heap.size ≤ w1.heap.size; omega) (.slice (some ⟨g9, 0, none⟩) 5 c9)
  have hne : g9 ≠ w1.heap.size := fun e => by
    rcases h3.2 with ⟨h0, _⟩ | ⟨g', cap', cur, hv, _, hc, _⟩
    · cases h0
    · cases hv
      rw [← e] at h1
      rw [h1] at hc
      simp at hc
  obtain ⟨a, c, e, ht⟩ := wak_own (own_blk h3 (w' := w9.setCell ⟨w1.heap.size, 0, none⟩ (.slice (some ⟨g9, 0, none⟩) 5 c9)) (fun g hg => by
    obtain rfl : g9 = g := by simpa [Value.ownBlock] using hg
    exact Below.heap_setCell _ _ _ _ hne))
  cases e
  have hb3 := (Below.refl (w9.setCell ⟨w1.heap.size, 0, none⟩ (.slice (some ⟨g9, 0, none⟩) 5 c9)).heap.size _).alloc (Nat.le_refl _) (.cells #[.int .i64 4] 3)
  have h4 := one_int (w9.setCell ⟨w1.heap.size, 0, none⟩ (.slice (some ⟨g9, 0, none⟩) 5 c9)) 4 (l64 (by decide))
  rw [hz] at h4
  exact ⟨hbs.alloc (by rw [hz]; exact h2.size) _, ht.below hb3, h4, (hb3.block _ (by omega)).trans hs2⟩
set_option maxRecDepth 100000 in
set_option maxHeartbeats 8000000 in
theorem wakes_any (w : World) (hT : GT w) (hG : GR w) : Calls Tryz.prog 10 #[] w fun e w' => e = .returned (.bool true) ∧ Below w.heap.size w w' := by
  have HN : Hid (Calls Tryz.prog 27 #[] w fun e w' => e = .returned (.agg #[.slice (some ⟨w.heap.size + 1, 0, none⟩) 2 2]) ∧ w'.heap[w.heap.size + 1]? = some (.cells newC 47 (0, 0)) ∧ Below w.heap.size w w') := RNew_own w
  have HOf : Hid (∀ V a c b, Below w.heap.size w V → TabR V wakL a c → IntsR V [4] b 1 → Calls Tryz.prog 12 #[.agg #[.slice a 5 c], .slice b 1 1, .int .i64 20] V fun e w' => Below V.heap.size V w' ∧ ∃ l a' c' x y b' d', e = .returned (.tuple #[.agg #[.slice a' 6 c'], .slice b' 1 d', .int .i64 0]) ∧ Hid (CoW w' l a' c' x y b' d')) := fun V a c b hV hA hR => OfW_any V a c b (hT.below hV) (hG.below hV) hA hR
  have HIs : Hid (∀ V l a c q, Below w.heap.size w V → TabR V l a c → l.length = 6 → isB l = q → Calls Tryz.prog 28 #[.agg #[.slice a 6 c]] V fun e w' => e = .returned (.bool q) ∧ Below V.heap.size V w') := fun V l a c q hV hA hl hq => by
    have := Is_any l a c q V (hT.below hV) hA (by omega) hq
    rw [hl] at this; exact this
  have HIw : Hid (∀ V a c, Below w.heap.size w V → TabR V wakL a c → Calls Tryz.prog 28 #[.agg #[.slice a 5 c]] V fun e w' => e = .returned (.bool false) ∧ Below V.heap.size V w') := fun V a c hV hA => Is_any wakL a c false V (hT.below hV) hA (by decide) wak_not
  obtain ⟨i0, hi, hz1, hz2, hz3⟩ := info_parts info_node
  have one : ∀ u ∈ newsC, u.oneCell' = true := fun u hu => by
    simp only [newsC, nodeC, appW, appX, impW, List.cons_append, List.nil_append, List.mem_cons, List.not_mem_nil, or_false] at hu
    rcases hu with rfl | rfl | rfl | rfl | rfl | rfl | rfl | rfl | rfl | rfl | rfl | rfl | rfl | rfl | rfl | rfl | rfl | rfl | rfl | rfl | rfl | rfl | rfl | rfl <;> rfl
  clear hT hG
  go_enter Tryz.func10, Tryz.ntmps10
  go_wp2_with fail
  refine HN.out.mono ?_
  rintro e w1 ⟨rfl, hn1, hb1⟩
  have hs1 : w.heap.size + 1 < w1.heap.size := (Array.getElem?_eq_some_iff.1 hn1).1
  have HN1 := Lib.hid hn1
  have HB1 := Lib.hid hb1
  clear hn1 hb1
  go_wp2_with (at_builtin; refine wpList_append_lies _ rfl _ _ 31 rfl w.heap.size 47 i0 _ 8 56 Tryz.underlying31 hi hz1 hz2 hz3 rfl (by decide) (Value.slice (some ⟨w.heap.size + 1, 0, none⟩) 2 2) 2 newC.toList (by rfl) (((new_own HN1.out (by omega)).alloc _).alloc _) ⟨w1.heap.size + 1, 0, none⟩ 3 3 newsC (by rfl) rfl (World.news_of_block (B := w1.heap.size + 1) (cs := newsC.toArray) (t := 47) (fr := (0, 0)) (by have := heap_alloc_new (w1.alloc (.cells #[.slice (some ⟨w.heap.size + 1, 0, none⟩) 2 2] 33)) (.cells newsC.toArray 47); rw [World.size_alloc] at this; exact this)) one (by omega) (by simp only [maxLen]; omega) (by omega) (by first | omega | (simp <;> omega)) _ rfl ?_; intro g9 c9 w9 hown9 hgrow9 hat9 hlt9; have HX9 := Lib.hid (grow_w HN1.out HB1.out (by omega) hown9 hgrow9); clear hown9 hgrow9 hat9 hlt9; obtain ⟨k0, kf, kz⟩ := box3' HX9.out.1)
  have HX := Lib.hid (store_w HX9.out (by omega))
  clear k0 kf kz HX9
  refine (HOf.out _ _ _ _ HX.out.1 HX.out.2.1 HX.out.2.2.1).mono ?_
  rintro e w10 ⟨hb10, l, a', c', x, y, b', d', rfl, HC⟩
  have hbw : Below w.heap.size w w10 := HX.out.1.trans (hb10.mono HX.out.1.size)
  have hk : w10.heap[w1.heap.size]? = some (.cells #[.slice (some ⟨g9, 0, none⟩) 5 c9] 33 (0, 0)) := (hb10.block _ (Array.getElem?_eq_some_iff.1 HX.out.2.2.2).1).trans HX.out.2.2.2
  have HT10 : Hid (TabR w10 wakL (some ⟨g9, 0, none⟩) c9) := HX.out.2.1.below hb10
  have HB10 := Lib.hid hbw
  obtain ⟨g, o, rfl, _⟩ := HC.out.tab.node (nodA_get (l := l) (k := x) (by have := HC.out.len; have := HC.out.x6; omega))
  obtain ⟨gb, ob, rfl, _⟩ := HC.out.row.cell (k := 0) (x := (x : Int)) rfl
  obtain ⟨n, hn⟩ : ∃ n, nodA l x = n := ⟨_, rfl⟩
  have HCx : Hid (∀ V, Below w10.heap.size w10 V → TabR V l (some ⟨g, o, none⟩) c' ∧ (V.cell? ⟨g, o + x * 8, none⟩ = some (.int .i8 3) ∧ V.cell? ⟨g, o + x * 8 + 1, none⟩ = some (.int .i8 n.len) ∧ V.cell? ⟨g, o + x * 8 + 2, none⟩ = some (.int .i64 y) ∧ V.cell? ⟨g, o + x * 8 + 3, none⟩ = some (.int .i64 n.a1) ∧ V.cell? ⟨g, o + x * 8 + 4, none⟩ = some (.int .i64 n.a2) ∧ V.cell? ⟨g, o + x * 8 + 5, none⟩ = some (.int .i64 n.sort) ∧ V.cell? ⟨g, o + x * 8 + 6, none⟩ = some (.int .i64 n.fn) ∧ V.cell? ⟨g, o + x * 8 + 7, none⟩ = some (.int .i64 n.num)) ∧ V.cell? ⟨g, o + y * 8, none⟩ = some (.int .i8 1) ∧ V.cell? ⟨gb, ob, none⟩ = some (.int .i64 x) ∧ g < V.heap.size ∧ gb < V.heap.size) := fun V hV => by
    have ht := HC.out.tab.below hV
    have hx := HC.out.op
    have ha := HC.out.a0
    have h6 := HC.out.len
    obtain ⟨g1, o1, e1, g1z, r0, r1, r2, r3, r4, r5, r6, r7⟩ := ht.node (nodA_get (l := l) (k := x) (by have := HC.out.x6; omega))
    cases e1
    obtain ⟨g2, o2, e2, _, p0, -⟩ := ht.node (nodA_get (l := l) (k := y) (by have := HC.out.y6; omega))
    cases e2
    obtain ⟨g3, o3, e3, g3z, q0⟩ := (HC.out.row.below hV).cell (k := 0) (x := (x : Int)) rfl
    cases e3
    rw [hn] at r0 r1 r2 r3 r4 r5 r6 r7 hx ha
    rw [hx] at r0
    rw [ha] at r2
    rw [HC.out.op0] at p0
    exact ⟨ht, ⟨r0, r1, r2, r3, r4, r5, r6, r7⟩, p0, q0, g1z, g3z⟩
  have hxi : (x : Int) < 6 := by have := HC.out.x6; omega
  have hx0 : (0 : Int) ≤ (x : Int) := by omega
  have hyi : (y : Int) < 6 := by have := HC.out.y6; omega
  have hy0 : (0 : Int) ≤ (y : Int) := by omega
  have HLc : Hid (l.length = 6 ∧ isB l = true) := ⟨HC.out.len, HC.out.is_⟩
  obtain ⟨W2, hW2⟩ : ∃ W2, W2 = w10.alloc (.cells #[.slice (some ⟨g, o, none⟩) 6 c'] 33) := ⟨_, rfl⟩
  have hb2 : Below w10.heap.size w10 W2 := by rw [hW2]; exact (Below.refl _ _).alloc (Nat.le_refl _) _
  have h2n : W2.heap[w10.heap.size]? = some (.cells #[.slice (some ⟨g, o, none⟩) 6 c'] 33 (0, 0)) := by rw [hW2]; exact heap_alloc_new w10 _
  have HB2 := Lib.hid hb2
  have HBX : Hid (∀ V, Below W2.heap.size W2 V → (V.cell? ⟨w10.heap.size, 0, none⟩ = some (.slice (some ⟨g, o, none⟩) 6 c') ∧ w10.heap.size < V.heap.size) ∧ (V.cell? ⟨w1.heap.size, 0, none⟩ = some (.slice (some ⟨g9, 0, none⟩) 5 c9) ∧ w1.heap.size < V.heap.size) ∧ Below w10.heap.size w10 V ∧ Below w.heap.size w V) := fun V hV => by
    have hb3 := hb2.trans (hV.mono hb2.size)
    obtain ⟨x0, _, xz⟩ := box3' ((hV.block _ (Array.getElem?_eq_some_iff.1 h2n).1).trans h2n)
    obtain ⟨k0, _, kz⟩ := box3' ((hb3.block _ (Array.getElem?_eq_some_iff.1 hk).1).trans hk)
    exact ⟨⟨x0, xz⟩, ⟨k0, kz⟩, hb3, HB10.out.trans (hb3.mono HB10.out.size)⟩
  obtain ⟨⟨x0, xz⟩, ⟨k0, kz⟩, -, -⟩ := HBX.out W2 (Below.refl _ _)
  obtain ⟨-, ⟨r0, r1, r2, r3, r4, r5, r6, r7⟩, p0, q0, gz, gbz⟩ := HCx.out W2 hb2
  clear hb10 hbw hk hn hb2 h2n HX HOf
  go_wp2_with fail
  rw [← hW2]
  clear hW2
  go_region
  refine exit_name ?_
  intro W3 hW3
  have hb3 : Below W2.heap.size W2 W3 := by rw [hW3]; exact ((Below.refl _ W2).alloc (Nat.le_refl _) _).drew
  have hn3 : W3.heap[W2.heap.size]? = some (.cells #[.int .i8 3, .int .i8 n.len, .int .i64 y, .int .i64 n.a1, .int .i64 n.a2, .int .i64 n.sort, .int .i64 n.fn, .int .i64 n.num] 47 (0, 0)) := by rw [hW3]; exact heap_alloc_new W2 _
  have n0 : W3.cell? ⟨W2.heap.size, 0, none⟩ = some (.int .i8 3) := (cell_of_row _ _ 0 _ _ _ hn3).trans rfl
  have n2 : W3.cell? ⟨W2.heap.size, 2, none⟩ = some (.int .i64 y) := (cell_of_row _ _ 2 _ _ _ hn3).trans rfl
  have nz := (Array.getElem?_eq_some_iff.1 hn3).1
  clear x0 xz k0 kz r0 r1 r2 r3 r4 r5 r6 r7 p0 q0 gz gbz
  obtain ⟨⟨x0, xz⟩, ⟨k0, kz⟩, hb43, hbw3⟩ := HBX.out W3 hb3
  obtain ⟨ht3, -, p0, -, gz, -⟩ := HCx.out W3 hb43
  have HT3 := Lib.hid ht3
  have HB3 := Lib.hid hb3
  have HBw3 := Lib.hid hbw3
  clear hW3 hn3 hb3 ht3 hb43 hbw3
  go_wp2_with fail
  refine (HIs.out _ l _ _ true HBw3.out HT3.out HLc.out.1 HLc.out.2).mono ?_
  rintro e w4 ⟨rfl, hb4⟩
  have HB4 : Hid (Below W2.heap.size W2 w4) := HB3.out.trans (hb4.mono HB3.out.size)
  clear hb4 x0 xz k0 kz n0 n2 nz p0 gz
  obtain ⟨⟨x0, xz⟩, ⟨k0, kz⟩, hb5, hbw4⟩ := HBX.out w4 HB4.out
  have HT4 : Hid (TabR w4 wakL (some ⟨g9, 0, none⟩) c9) := HT10.out.below hb5
  have HBw4 := Lib.hid hbw4
  clear hb5 hbw4
  go_wp2_with fail
  refine (HIw.out _ _ _ HBw4.out HT4.out).mono ?_
  rintro e w5 ⟨rfl, hb5⟩
  have HB5 : Hid (Below w.heap.size w w5) := HBw4.out.trans (hb5.mono HBw4.out.size)
  clear hb5
  go_wp2_with fail
  go_ret
  exact ⟨rfl, HB5.out⟩
end Go.Proofs.YtfbjgadgfjnamaaGreatDoor.Tm
