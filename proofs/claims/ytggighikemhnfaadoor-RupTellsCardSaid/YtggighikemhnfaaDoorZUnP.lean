/- The run's page. -/
import Derived.Test.YtggighikemhnfaaDoorZUnN
import Derived.Test.YtggighikemhnfaaDoorZClN
import Derived.Laws.Bits128
import Derived.Laws.EntriesVeiled
namespace Go.Proofs.YtggighikemhnfaaDoor.Tm
open Go.RowKit
set_option linter.unusedVariables false
/-- A node's value by what was put. -/
def nodeV (ps : List Int) (n : Nat) : Int := if 2 * (n : Int) ∈ ps then 1 else if 2 * (n : Int) + 1 ∈ ps then 2 else 0
theorem nodeV_ok (ps : List Int) (n : Nat) : nodeV ps n = 0 ∨ nodeV ps n = 1 ∨ nodeV ps n = 2 := by
  unfold nodeV
  split
  · exact .inr (.inl rfl)
  · split
    · exact .inr (.inr rfl)
    · exact .inl rfl
def pgN (ps : List Int) (k : Nat) : List Int := (List.range 512).map (fun i => nodeV ps (512 * k + i))
def pgH (heads : Int → Int) (k : Nat) : List Int := (List.range 1024).map (fun i => heads ((1024 * k + i : Nat) : Int))
def pgC (s : USt) (k : Nat) : Array Value := ⟨(pgN s.ps k).map (Value.int .i8) ++ (pgH s.heads k).map (Value.int .i64)⟩
theorem pgN_len (ps : List Int) (k : Nat) : (pgN ps k).length = 512 := by unfold pgN; simp
structure RowV where
  r : URow
  a : Option Addr
  c : Nat
def rowVC (x : RowV) : List Value := [.slice x.a x.r.rest.length x.c, .int .i64 x.r.w0, .int .i64 x.r.w1, .int .i64 x.r.n0, .int .i64 x.r.n1]
theorem rowVC_len (x : RowV) : (rowVC x).length = 5 := rfl
theorem own_type {w : World} {base size n : Nat} {E : TypeId} {v : Value} {L : List Value} (h : w.ownsRow base E size v n L) {g : Nat} (hg : v.ownBlock = some g) : ∃ cur, w.heap[g]? = some (.cells cur E (0, 0)) := by
  rcases h.2 with ⟨rfl, _⟩ | ⟨g', cap, cur, rfl, h1, h2, _⟩
  · cases hg
  · obtain rfl : g' = g := by simpa [Value.ownBlock] using hg
    exact ⟨cur, h2⟩
/-- A run lies at b; W0 is the world that it began in; ls is what its literals' row holds. -/
structure RunX (W0 w : World) (b : Nat) (s : USt) (ls : List Int) (pg : Nat → Option Nat) (rv qv lv : Value) (xs : List RowV) (L : List Int) : Prop where
  bel : Below W0.heap.size W0 w
  hb : W0.heap.size ≤ b
  gc : GC W0
  box : BoxR w b pg rv qv lv s.conf
  pages : ∀ k g, pg k = some g → k < 1025 ∧ W0.heap.size ≤ g ∧ w.heap[g]? = some (.cells (pgC s k) 88 (0, 0))
  inj : ∀ k k' g, pg k = some g → pg k' = some g → k = k'
  nop : ∀ k, pg k = none → (∀ x : Int, 0 ≤ x → x / 1024 = (k : Int) → s.heads x = 0) ∧ ∀ x ∈ s.ps, x / 1024 ≠ (k : Int)
  rows : w.ownsRow W0.heap.size 81 5 rv xs.length (xs.flatMap rowVC)
  rws : xs.map (·.r) = s.rows
  rest : ∀ x ∈ xs, IntsR W0 x.r.rest x.a x.c
  qu : QuR w W0.heap.size qv s.q L
  lits : RowO w W0.heap.size ls lv
  apart : ∀ g, qv.ownBlock = some g → lv.ownBlock ≠ some g
  may : ∀ x ∈ s.ps, mayU x = true
  cons : ∀ x ∈ s.ps, negM x ∉ s.ps
theorem type_ne {w : World} {g g' : Nat} {c c' : Array Value} {t t' : TypeId} {f f' : Nat × Nat} (h : w.heap[g]? = some (.cells c t f)) (h' : w.heap[g']? = some (.cells c' t' f')) (ht : t ≠ t') : g ≠ g' := fun e => by
  rw [e, h'] at h
  cases h
  exact ht rfl
section
variable {W0 w : World} {b : Nat} {s : USt} {ls : List Int} {pg : Nat → Option Nat} {rv qv lv : Value} {xs : List RowV} {L : List Int}
theorem RunX.rv_ne (h : RunX W0 w b s ls pg rv qv lv xs L) {g : Nat} (hg : rv.ownBlock = some g) : g ≠ b ∧ (∀ k p, pg k = some p → g ≠ p) ∧ qv.ownBlock ≠ some g ∧ lv.ownBlock ≠ some g := by
  obtain ⟨cur, hc⟩ := own_type h.rows hg
  refine ⟨type_ne hc h.box (by decide), fun k p hp => type_ne hc (h.pages k p hp).2.2 (by decide), fun e => ?_, fun e => ?_⟩
  · obtain ⟨cur', hc'⟩ := own_type h.qu.row e
    exact type_ne hc hc' (by decide) rfl
  · obtain ⟨cur', hc'⟩ := own_type h.lits e
    exact type_ne hc hc' (by decide) rfl
theorem RunX.qv_ne (h : RunX W0 w b s ls pg rv qv lv xs L) {g : Nat} (hg : qv.ownBlock = some g) : g ≠ b ∧ (∀ k p, pg k = some p → g ≠ p) := by
  obtain ⟨cur, hc⟩ := own_type h.qu.row hg
  exact ⟨type_ne hc h.box (by decide), fun k p hp => type_ne hc (h.pages k p hp).2.2 (by decide)⟩
theorem RunX.lv_ne (h : RunX W0 w b s ls pg rv qv lv xs L) {g : Nat} (hg : lv.ownBlock = some g) : g ≠ b ∧ (∀ k p, pg k = some p → g ≠ p) := by
  obtain ⟨cur, hc⟩ := own_type h.lits hg
  exact ⟨type_ne hc h.box (by decide), fun k p hp => type_ne hc (h.pages k p hp).2.2 (by decide)⟩
theorem RunX.pg_ne (h : RunX W0 w b s ls pg rv qv lv xs L) {k p : Nat} (hp : pg k = some p) : p ≠ b := type_ne (h.pages k p hp).2.2 h.box (by decide)
/-- The run is as it was where its blocks are. -/
theorem RunX.move {w' : World} (h : RunX W0 w b s ls pg rv qv lv xs L) (hbel : Below W0.heap.size W0 w') (hk : ∀ g, W0.heap.size ≤ g → g < w.heap.size → w'.heap[g]? = w.heap[g]?) : RunX W0 w' b s ls pg rv qv lv xs L :=
  ⟨hbel, h.hb, h.gc, h.box.heap (hk b h.hb h.box.cells.2.2.2.2.1), fun k g hg => by
    obtain ⟨h1, h2, h3⟩ := h.pages k g hg
    exact ⟨h1, h2, (hk g h2 (Array.getElem?_eq_some_iff.1 h3).1).trans h3⟩, h.inj, h.nop, own_heap h.rows (fun g h1 h2 => hk g h1 h2), h.rws, h.rest, ⟨own_heap h.qu.row (fun g h1 h2 => hk g h1 h2), h.qu.heap, h.qu.perm⟩, own_heap h.lits (fun g h1 h2 => hk g h1 h2), h.apart, h.may, h.cons⟩
theorem RunX.below {w' : World} (h : RunX W0 w b s ls pg rv qv lv xs L) (hb : Below w.heap.size w w') : RunX W0 w' b s ls pg rv qv lv xs L := h.move (ball h.bel hb) (fun g _ hg => hb.block g hg)
theorem RunX.drewN (h : RunX W0 w b s ls pg rv qv lv xs L) (q : Nat) : RunX W0 (w.drewN q) b s ls pg rv qv lv xs L := h.move (below_drewN h.bel) (fun _ _ _ => rfl)
end
theorem i64_and1023 (x : Int) (h0 : 0 ≤ x) (hx : x ≤ 9223372036854775807) : bits .and .i64 x 1023 = x % 1024 := by
  have h1 : (BitVec.ofInt 64 1023).toNat = 1023 := by decide
  have key : (BitVec.ofInt 64 x &&& BitVec.ofInt 64 1023).toNat = (x % ((2 ^ 64 : Nat) : Int)).toNat % 1024 := by
    rw [BitVec.toNat_and, BitVec.toNat_ofInt, h1]
    exact Nat.and_two_pow_sub_one_eq_mod _ 10
  show IntKind.i64.wrap ((BitVec.ofInt 64 x &&& BitVec.ofInt 64 1023).toNat : Nat) = _
  rw [key, IntKind.wrap_i64]
  omega
theorem valM_pg {ps : List Int} {x : Int} {k j : Nat} (hm : mayU x = true) (hk : x / 1024 = (k : Int)) (hj : x % 1024 = (j : Int)) (hc : ∀ x ∈ ps, negM x ∉ ps) : valM (pgN ps k) (j : Int) = valL ps x := by
  have h0 := (mayU_iff.1 hm).1
  have hjl : j < 1024 := by omega
  have hn : ((j : Int) / 2).toNat = j / 2 := by omega
  unfold valM
  rw [hn, pgN, List.getElem?_map, List.getElem?_range (by omega)]
  show (if nodeV ps (512 * k + j / 2) = 1 ∨ nodeV ps (512 * k + j / 2) = 2 then (if (j : Int) % 2 = 1 then 3 - nodeV ps (512 * k + j / 2) else nodeV ps (512 * k + j / 2)) else 0) = _
  obtain ⟨n, hnn⟩ : ∃ n, 512 * k + j / 2 = n := ⟨_, rfl⟩
  rw [hnn]
  unfold valL
  rw [if_pos hm]
  by_cases hp : x % 2 = 1
  · have hjp : (j : Int) % 2 = 1 := by omega
    have e1 : 2 * (n : Int) + 1 = x := by omega
    have e2 : 2 * (n : Int) = negM x := by unfold negM; rw [if_neg (by omega)]; omega
    have hnv : nodeV ps n = if negM x ∈ ps then 1 else if x ∈ ps then 2 else 0 := by unfold nodeV; rw [e1, e2]
    rw [hnv]
    by_cases a1 : negM x ∈ ps
    · have a2 : x ∉ ps := fun h => hc x h a1
      simp [a1, a2, hjp]
    · by_cases a2 : x ∈ ps
      · simp [a1, a2, hjp]
      · simp [a1, a2]
  · have hjp : ¬ (j : Int) % 2 = 1 := by omega
    have e1 : 2 * (n : Int) = x := by omega
    have e2 : 2 * (n : Int) + 1 = negM x := by unfold negM; rw [if_pos (by omega)]; omega
    have hnv : nodeV ps n = if x ∈ ps then 1 else if negM x ∈ ps then 2 else 0 := by unfold nodeV; rw [e2, e1]
    rw [hnv, if_neg hjp]
    by_cases a1 : x ∈ ps
    · simp [a1]
    · by_cases a2 : negM x ∈ ps
      · simp [a1, a2]
      · simp [a1, a2]
theorem page_val {w : World} {g : Nat} {s : USt} {k : Nat} (h : w.heap[g]? = some (.cells (pgC s k) 88 (0, 0))) : ValR w (pgN s.ps k) (some ⟨g, 0, none⟩) 512 := by
  refine ⟨by rw [pgN_len]; exact Nat.le_refl _, by unfold maxLen; omega, fun _ => ⟨g, 0, rfl, (Array.getElem?_eq_some_iff.1 h).1, fun i v hv => ?_⟩, fun v hv => ?_⟩
  · rw [Nat.zero_add, cell_of_row w g i _ _ _ h, ← Array.getElem?_toList]
    show (_ ++ _ : List Value)[i]? = _
    have := (List.getElem?_eq_some_iff.1 hv).1
    rw [List.getElem?_append_left this]
    exact hv
  · unfold pgN at hv
    obtain ⟨i, _, rfl⟩ := List.mem_map.1 hv
    exact nodeV_ok _ _
theorem valL_nopage {ps : List Int} {x : Int} {k : Nat} (hm : mayU x = true) (hk : x / 1024 = (k : Int)) (h : ∀ y ∈ ps, y / 1024 ≠ (k : Int)) : valL ps x = 0 := by
  have h0 := (mayU_iff.1 hm).1
  have e : negM x / 1024 = x / 1024 := by unfold negM; split <;> omega
  unfold valL
  rw [if_pos hm, if_neg (fun hx => h x hx hk), if_neg (fun hx => h _ hx (e.trans hk))]
theorem may_any (x : Int) (r : Bool) (w : World) (hr : mayU x = r) : Calls Tryd.prog 45 #[.int .i64 x] w fun e w' => e = .returned (.bool r) ∧ w = w' := by
  by_cases h0 : 0 ≤ x
  · have d0 : decide (0 ≤ x) = true := decide_eq_true h0
    have hR : Hid (decide (x ≤ 1048576) = r) := by
      show _ = _
      rw [← hr]; unfold mayU; rw [d0, Bool.true_and]
    clear hr h0
    go_enter Tryd.func45, Tryd.ntmps45
    go_wp2
    go_ret
    exact ⟨ret_bool hR.out, rfl⟩
  · have d0 : decide (0 ≤ x) = false := decide_eq_false h0
    have hR : Hid (false = r) := by
      show _ = _
      rw [← hr]; unfold mayU; rw [d0, Bool.false_and]
    clear hr h0
    go_enter Tryd.func45, Tryd.ntmps45
    go_wp2
    go_ret
    exact ⟨ret_bool hR.out, rfl⟩
theorem val_any {W0 : World} {b : Nat} {s : USt} {ls : List Int} {pg : Nat → Option Nat} {rv qv lv : Value} {xs : List RowV} {L : List Int} (x : Int) (r : Int) (w : World) (h : RunX W0 w b s ls pg rv qv lv xs L) (hx : I64 x) (hr : valL s.ps x = r) :
    Calls Tryd.prog 39 #[.pointer (some ⟨b, 0, none⟩), .int .i64 x] w fun e w' => e = .returned (.int .i8 r) ∧ w = w' := by
  obtain ⟨_, _, _, _, hlt, hfz⟩ := h.box.cells
  by_cases hm : mayU x = true
  · obtain ⟨h0, h1⟩ := mayU_iff.1 hm
    obtain ⟨k, hk⟩ : ∃ k : Nat, x / 1024 = (k : Int) := ⟨(x / 1024).toNat, by omega⟩
    obtain ⟨j, hj⟩ : ∃ j : Nat, x % 1024 = (j : Int) := ⟨(x % 1024).toNat, by omega⟩
    have hk2 : k < 1025 := by omega
    have hki : (k : Int) < 1025 := by omega
    have hpc := h.box.page hk2
    have hand : bits .and .i64 x 1023 = (j : Int) := (i64_and1023 x h0 (by omega)).trans hj
    have HM : Hid (∀ W, Calls Tryd.prog 45 #[.int .i64 x] W fun e w' => e = .returned (.bool true) ∧ W = w') := fun W => may_any x true W hm
    cases hp : pg k with
    | none =>
      rw [hp] at hpc
      unfold pgV at hpc
      have HR : Hid (0 = r) := by
        show _ = _
        rw [← hr]; exact (valL_nopage hm hk (h.nop k hp).2).symm
      clear h hm hr hfz hp hx h0 h1
      go_enter Tryd.func39, Tryd.ntmps39
      go_wp2_with (first | (go_at_call 45; refine (HM.out _).mono ?_; rintro e w1 ⟨rfl, rfl⟩))
      go_ret
      exact ⟨ret_int HR.out, rfl⟩
    | some g =>
      rw [hp] at hpc
      unfold pgV at hpc
      obtain ⟨_, hg1, hg2⟩ := h.pages k g hp
      have hgl := (Array.getElem?_eq_some_iff.1 hg2).1
      have hjx : I64 (j : Int) := ⟨by omega, by omega⟩
      have HV : Hid (∀ W, w = W → Calls Tryd.prog 61 #[.slice (some ⟨g, 0, none⟩) 512 512, .int .i64 j] W fun e w' => e = .returned (.int .i8 r) ∧ W = w') := fun W hW => by
        subst hW
        have := Val_any (pgN s.ps k) (some ⟨g, 0, none⟩) 512 j r w (h.gc.below h.bel) (page_val hg2) hjx (by omega) ((valM_pg hm hk hj h.cons).trans hr)
        rw [pgN_len] at this
        exact this
      clear h hm hr hfz hp hx h0 h1 hg2 hj hjx
      go_enter Tryd.func39, Tryd.ntmps39
      go_wp2_with (first | (go_at_call 45; refine (HM.out _).mono ?_; rintro e w1 ⟨rfl, rfl⟩) | (go_at_call 61; refine (HV.out _ rfl).mono ?_; rintro e w1 ⟨rfl, rfl⟩))
      go_ret
      exact ⟨rfl, rfl⟩
  · have hm' : mayU x = false := by simpa using hm
    have HM : Hid (∀ W, Calls Tryd.prog 45 #[.int .i64 x] W fun e w' => e = .returned (.bool false) ∧ W = w') := fun W => may_any x false W hm'
    have HR : Hid (2 = r) := by
      show _ = _
      rw [← hr]; unfold valL; rw [if_neg hm]
    clear h hm hm' hr hfz
    go_enter Tryd.func39, Tryd.ntmps39
    go_wp2_with (first | (go_at_call 45; refine (HM.out _).mono ?_; rintro e w1 ⟨rfl, rfl⟩))
    go_ret
    exact ⟨ret_int HR.out, rfl⟩
end Go.Proofs.YtggighikemhnfaaDoor.Tm
namespace Go.Proofs.YtggighikemhnfaaDoor.Tm
open Go.RowKit
set_option linter.unusedVariables false
theorem page_zero (s : USt) (k : Nat) (h1 : ∀ x : Int, 0 ≤ x → x / 1024 = (k : Int) → s.heads x = 0) (h2 : ∀ x ∈ s.ps, x / 1024 ≠ (k : Int)) : pgC s k = ⟨(List.replicate 512 (Value.int .i8 0)) ++ List.replicate 1024 (Value.int .i64 0)⟩ := by
  have a : pgN s.ps k = List.replicate 512 0 := by
    unfold pgN
    apply List.ext_getElem?
    intro i
    rw [List.getElem?_map]
    by_cases hi : i < 512
    · rw [List.getElem?_range hi, List.getElem?_replicate, if_pos hi]
      have : nodeV s.ps (512 * k + i) = 0 := by
        unfold nodeV
        rw [if_neg (fun h => h2 _ h (by omega)), if_neg (fun h => h2 _ h (by omega))]
      rw [← this]; rfl
    · rw [List.getElem?_eq_none (by rw [List.length_range]; omega), List.getElem?_eq_none (by rw [List.length_replicate]; omega)]; rfl
  have b : pgH s.heads k = List.replicate 1024 0 := by
    unfold pgH
    apply List.ext_getElem?
    intro i
    rw [List.getElem?_map]
    by_cases hi : i < 1024
    · rw [List.getElem?_range hi, List.getElem?_replicate, if_pos hi]
      have : s.heads ((1024 * k + i : Nat) : Int) = 0 := h1 _ (by omega) (by omega)
      rw [← this]; rfl
    · rw [List.getElem?_eq_none (by rw [List.length_range]; omega), List.getElem?_eq_none (by rw [List.length_replicate]; omega)]; rfl
  unfold pgC
  rw [a, b, List.map_replicate, List.map_replicate]
theorem zeroP : Tryd.zeroCells88 = ⟨(List.replicate 512 (Value.int .i8 0)) ++ List.replicate 1024 (Value.int .i64 0)⟩ := by kernel_rfl
/-- A page is made where there was none. -/
theorem RunX.newPage {W0 w : World} {b : Nat} {s : USt} {ls : List Int} {pg : Nat → Option Nat} {rv qv lv : Value} {xs : List RowV} {L : List Int} (h : RunX W0 w b s ls pg rv qv lv xs L) {k : Nat} (hk : k < 1025) (hp : pg k = none) :
    RunX W0 ((w.setCell ⟨b, k, none⟩ (.pointer (some ⟨w.heap.size, 0, none⟩))).alloc (.cells (pgC s k) 88)) b s ls (fun j => if j = k then some w.heap.size else pg j) rv qv lv xs L := by
  have hbl := h.box.cells.2.2.2.2.1
  have hW := h.bel.size
  have hsz : (w.setCell ⟨b, k, none⟩ (.pointer (some ⟨w.heap.size, 0, none⟩))).heap.size = w.heap.size := by simp
  have hold : ∀ g, g < w.heap.size → g ≠ b → ((w.setCell ⟨b, k, none⟩ (.pointer (some ⟨w.heap.size, 0, none⟩))).alloc (.cells (pgC s k) 88)).heap[g]? = w.heap[g]? := fun g h1 h2 => (Below.heap_alloc _ _ g (by rw [hsz]; exact h1)).trans (Below.heap_setCell _ _ _ _ (fun e => h2 (by rw [e])))
  have hnew : ((w.setCell ⟨b, k, none⟩ (.pointer (some ⟨w.heap.size, 0, none⟩))).alloc (.cells (pgC s k) 88)).heap[w.heap.size]? = some (.cells (pgC s k) 88 (0, 0)) := by
    have := heap_alloc_new (w.setCell ⟨b, k, none⟩ (.pointer (some ⟨w.heap.size, 0, none⟩))) (.cells (pgC s k) 88)
    rw [hsz] at this
    exact this
  have hB : BoxR ((w.setCell ⟨b, k, none⟩ (.pointer (some ⟨w.heap.size, 0, none⟩))).alloc (.cells (pgC s k) 88)) b (fun j => if j = k then some w.heap.size else pg j) rv qv lv s.conf := (h.box.setp hk w.heap.size).heap (Below.heap_alloc _ _ b (by rw [hsz]; exact hbl))
  refine ⟨(h.bel.setCell h.hb _).alloc (by rw [hsz]; exact hW) _, h.hb, h.gc, hB, fun j g hg => ?_, fun j j' g hg hg' => ?_, fun j hj => ?_, own_move h.rows (fun g hg => hold g (own_lt h.rows hg).2 (h.rv_ne hg).1), h.rws, h.rest, ⟨own_move h.qu.row (fun g hg => hold g (own_lt h.qu.row hg).2 (h.qv_ne hg).1), h.qu.heap, h.qu.perm⟩, own_move h.lits (fun g hg => hold g (own_lt h.lits hg).2 (h.lv_ne hg).1), h.apart, h.may, h.cons⟩
  · split at hg
    · rename_i e
      cases hg
      subst e
      exact ⟨hk, hW, hnew⟩
    · obtain ⟨g1, g2, g3⟩ := h.pages j g hg
      exact ⟨g1, g2, (hold g (Array.getElem?_eq_some_iff.1 g3).1 (h.pg_ne hg)).trans g3⟩
  · split at hg <;> split at hg'
    · rename_i e1 e2
      rw [e1, e2]
    · cases hg
      have := (Array.getElem?_eq_some_iff.1 (h.pages _ _ hg').2.2).1
      omega
    · cases hg'
      have := (Array.getElem?_eq_some_iff.1 (h.pages _ _ hg).2.2).1
      omega
    · exact h.inj _ _ _ hg hg'
  · split at hj
    · cases hj
    · exact h.nop j hj
def PageO (W0 w' : World) (b : Nat) (s : USt) (ls : List Int) (k g : Nat) (rv qv lv : Value) (xs : List RowV) (L : List Int) : Prop := ∃ pg', pg' k = some g ∧ RunX W0 w' b s ls pg' rv qv lv xs L
theorem page_any {W0 : World} {b : Nat} {s : USt} {ls : List Int} {pg : Nat → Option Nat} {rv qv lv : Value} {xs : List RowV} {L : List Int} (x : Int) (k : Nat) (w : World) (h : RunX W0 w b s ls pg rv qv lv xs L) (hm : mayU x = true) (hk : x / 1024 = (k : Int)) :
    Calls Tryd.prog 63 #[.pointer (some ⟨b, 0, none⟩), .int .i64 x] w fun e w' => ∃ g, e = .returned (.pointer (some ⟨g, 0, none⟩)) ∧ PageO W0 w' b s ls k g rv qv lv xs L := by
  obtain ⟨_, _, _, _, hlt, hfz⟩ := h.box.cells
  obtain ⟨h0, h1⟩ := mayU_iff.1 hm
  have hk2 : k < 1025 := by omega
  have hki : (k : Int) < 1025 := by omega
  have hpc := h.box.page hk2
  have hf := hfz k
  cases hp : pg k with
  | some g =>
    rw [hp] at hpc
    unfold pgV at hpc
    have HE : Hid (PageO W0 w b s ls k g rv qv lv xs L) := ⟨pg, hp, h⟩
    clear h hfz hp hm h0 h1
    go_enter Tryd.func63, Tryd.ntmps63
    go_wp2
    go_ret
    exact ⟨g, rfl, HE.out⟩
  | none =>
    rw [hp] at hpc
    unfold pgV at hpc
    have hz := page_zero s k (h.nop k hp).1 (h.nop k hp).2
    have HE : Hid (PageO W0 ((w.setCell ⟨b, k, none⟩ (.pointer (some ⟨w.heap.size, 0, none⟩))).alloc (.cells (pgC s k) 88)) b s ls k w.heap.size rv qv lv xs L) := ⟨_, by simp, h.newPage hk2 hp⟩
    rw [hz, ← zeroP] at HE
    clear h hfz hp hm h0 h1 hz
    go_enter Tryd.func63, Tryd.ntmps63
    go_wp2
    go_ret
    exact ⟨_, rfl, HE.out⟩
end Go.Proofs.YtggighikemhnfaaDoor.Tm
