/- The methods begin, end, put of package sexpr's reader. -/
import Derived.Test.YthbgigjjmojgfaaDoorSexRs
import Derived.Deep.RegionHeld3
import Derived.BigQuiet
namespace Go.Proofs.YthbgigjjmojgfaaDoor
open Go.RowKit
theorem RBase.facts {w : World} {n₀ rb : Nat} {cur : Array Value} {d : Nat} {dp : Bool} (h : RBase w n₀ rb cur d dp) :
    w.cell? ⟨rb, 60, none⟩ = some (.int .i64 d) ∧ w.cell? ⟨rb, 61, none⟩ = some (.bool dp) ∧ ∀ i, w.frozen? ⟨rb, i, none⟩ = false :=
  ⟨(cell_of_row w rb 60 cur _ _ h.heap).trans h.dep, (cell_of_row w rb 61 cur _ _ h.heap).trans h.deep, fun i => frozen_of_row w rb i cur _ h.heap⟩
theorem rb_set {w : World} {rb i : Nat} {cur : Array Value} {t : TypeId} {v : Value} (h : w.heap[rb]? = some (.cells cur t (0, 0))) : (w.setCell ⟨rb, i, none⟩ v).heap[rb]? = some (.cells (cur.setIfInBounds i v) t (0, 0)) := heap_setCell_same w rb i cur t v h
theorem below_rb {w : World} {n₀ rb i : Nat} {v : Value} {a : World} (h : Below n₀ a w) (hn : n₀ ≤ rb) : Below n₀ a (w.setCell ⟨rb, i, none⟩ v) := h.setCell (p := ⟨rb, i, none⟩) hn v
theorem RRun.next {w w' : World} {n₀ rb : Nat} {K : Nat → Prop} {st : List (List Tree)} {cur cur' : Array Value} {vs : List Value} (h : RRun w n₀ rb K st cur vs) (hs : w.heap.size ≤ w'.heap.size) (hk : ∀ b, b < w.heap.size → b ≠ rb → w'.heap[b]? = w.heap[b]?)
    (hc : ∀ i, i < st.length → cur'[i]? = cur[i]?) : StkM w' n₀ rb K cur' st vs ∧ KOk w' n₀ rb K :=
  ⟨StkM.keep st vs (fun b hb => by
    rcases hb with hb | ⟨v, hv, hg⟩
    · exact hk b (h.k.low b hb).2 (fun e => h.k.rb (e ▸ hb))
    · have := StkM.lt st vs h.stk v hv b hg
      exact hk b this.2.1 this.2.2.1) hc h.stk, h.k.keep hs (fun b hb => hk b (h.k.low b hb).2 (fun e => h.k.rb (e ▸ hb)))⟩
theorem OpenL.more {w : World} {n₀ : Nat} {K K' : Nat → Prop} {v : Value} {ts : List Tree} (h : OpenL w n₀ K v ts) (hk : ∀ b, K b → K' b) : OpenL w n₀ K' v ts := by
  obtain ⟨xs, h1, h2⟩ := h
  exact ⟨xs, h1, Els.mono (fun b _ hn hb => hn (hk b hb)) ts xs h2⟩
theorem StkM.more {w : World} {n₀ rb : Nat} {K : Nat → Prop} {cur : Array Value} {u : Value} : ∀ (st : List (List Tree)) (vs : List Value), (∀ v' ∈ vs, ∀ b, u.ownBlock = some b → v'.ownBlock ≠ some b) → StkM w n₀ rb K cur st vs →
    StkM w n₀ rb (fun b => K b ∨ u.ownBlock = some b) cur st vs
  | [], _, _, h => h
  | l :: r, _, hu, ⟨v, vs', e, h1, h2, h3, h4⟩ => by
    subst e
    refine ⟨v, vs', rfl, h1, h2.more (fun b hb => .inl hb), fun g hg => ⟨(h3 g hg).1, fun hk => ?_, (h3 g hg).2.2⟩, StkM.more r vs' (fun v' hv' => hu v' (by simp [hv'])) h4⟩
    rcases hk with hk | hk
    · exact (h3 g hg).2.1 hk
    · exact hu v (by simp) g hk hg
/-- The same, all below block M. -/
def RMb (M : Nat) (w : World) (n₀ rb : Nat) (st : List (List Tree)) : Prop := ∃ K cur vs, RRun w n₀ rb K st cur vs ∧ (∀ b, K b → b < M) ∧ (∀ v ∈ vs, ∀ g, v.ownBlock = some g → g < M) ∧ rb < M
def RXb (M : Nat) (w : World) (n₀ rb : Nat) (st : List (List Tree)) (t : Tree) (v : Value) : Prop := ∃ K cur vs, RRun w n₀ rb K st cur vs ∧ Rd w (fun b => ¬ K b) t v ∧ (∀ b, K b → b < M) ∧ (∀ v ∈ vs, ∀ g, v.ownBlock = some g → g < M) ∧ rb < M
theorem RM.bound {w w' : World} {n₀ rb : Nat} {st : List (List Tree)} (h : RM w n₀ rb (.run st)) (hb : Below w.heap.size w w') : RMb w.heap.size w' n₀ rb st := by
  obtain ⟨K, cur, vs, hr⟩ := h
  exact ⟨K, cur, vs, hr.keep hb, fun b hk => (hr.k.low b hk).2, fun v hv g hg => (StkM.lt st vs hr.stk v hv g hg).2.1, hr.toRBase.rblt⟩
theorem RXb.to {M : Nat} {w w' : World} {n₀ rb : Nat} {st : List (List Tree)} {t : Tree} {v : Value} (h : RXb M w n₀ rb st t v) (hs : w.heap.size ≤ w'.heap.size) (hk : ∀ b, b < M → w'.heap[b]? = w.heap[b]?) : RX w' n₀ rb st t v := by
  obtain ⟨K, cur, vs, hr, hrd, h1, h2, h3⟩ := h
  exact ⟨K, cur, vs, ⟨hr.toRBase.keep (hk _ h3), hr.few, hr.k.keep hs (fun b hb => hk b (h1 b hb)), StkM.keep st vs (fun b hb => hk b (by
    rcases hb with hb | ⟨v, hv, hg⟩
    · exact h1 b hb
    · exact h2 v hv b hg)) (fun _ _ => rfl) hr.stk⟩, Rd.keep (fun b hb _ => hk b (h1 b (Classical.not_not.1 hb))) t v hrd⟩
def pushS : RS → RS
  | .run st => if st.length = 60 then .deep 61 else .run ([] :: st)
  | .fin t => .fin t
  | .deep n => .deep (n + 1)
theorem begin_run (n₀ rb : Nat) (st : List (List Tree)) (w : World) (h : RM w n₀ rb (.run st)) (hd : st.length < 60) :
    Calls Tryd.prog 40 #[.pointer (some ⟨rb, 0, none⟩)] w fun e w' => e = .returned (.tuple #[]) ∧ RM w' n₀ rb (.run ([] :: st)) ∧ Below n₀ w w' ∧ w.grownBy w' (some rb) := by
  obtain ⟨K, cur, vs, hr⟩ := h
  obtain ⟨c60, c61, cf⟩ := hr.toRBase.facts
  have e1 := eq_false (x := (st.length : Int)) (y := 60) (by omega)
  have HR := Lib.hid hr
  obtain ⟨d, hdd⟩ : ∃ d, d = st.length := ⟨_, rfl⟩
  rw [← hdd] at c60 hd e1
  have Hdd := Lib.hid hdd
  have hne60 : ¬ d = 60 := by omega
  have hne61 : ¬ d = 61 := by omega
  have hcd : ∃ u, w.cell? ⟨rb, d, none⟩ = some u := by
    rw [cell_of_row w rb d cur _ _ HR.out.heap]
    have := HR.out.size
    exact ⟨_, Array.getElem?_eq_getElem (by omega)⟩
  obtain ⟨u, hu⟩ := hcd
  clear hr hdd
  go_enter Tryd.func40, Tryd.ntmps40
  go_wp2
  go_region
  go_wp2
  go_end0
  have hh := rb_set (i := 60) (v := .int .i64 ((d : Int) + 1)) (rb_set (i := d) (v := .slice none 0 0) (rb_set (i := 61) (v := .bool false) HR.out.heap))
  have hn := HR.out.n0
  have hsz := HR.out.size
  obtain ⟨hst, hko⟩ := HR.out.next (w' := (((w.setCell ⟨rb, 61, none⟩ (.bool false)).setCell ⟨rb, d, none⟩ (.slice none 0 0)).setCell ⟨rb, 60, none⟩ (.int .i64 ((d : Int) + 1))).drew) (cur' := ((cur.setIfInBounds 61 (.bool false)).setIfInBounds d (.slice none 0 0)).setIfInBounds 60 (.int .i64 ((d : Int) + 1)))
    (by simp [World.setCell]) (fun b _ hne => ((Below.heap_setCell _ _ _ _ hne).trans (Below.heap_setCell _ _ _ _ hne)).trans (Below.heap_setCell _ _ _ _ hne)) (fun i hi => by
      have := Hdd.out
      rw [Array.getElem?_setIfInBounds_ne (by omega), Array.getElem?_setIfInBounds_ne (by omega), Array.getElem?_setIfInBounds_ne (by omega)])
  have hd2 := Hdd.out
  refine ⟨rfl, ⟨K, _, .slice none 0 0 :: vs, ⟨⟨hh, by simp [hsz], ?_, ?_, hn⟩, by simp; omega, ⟨hko.low, hko.rb, hko.cells⟩, .slice none 0 0, vs, rfl, ?_, OpenL.nil _ _ _, fun g hg => by simp [Value.ownBlock] at hg, hst⟩⟩, (below_rb (below_rb (below_rb (Below.refl _ _) hn) hn) hn).drew, ⟨rfl, rfl, rfl, by simp [World.setCell], fun k hk hne => ((Below.heap_setCell _ _ _ _ (fun e => hne (by rw [e]))).trans (Below.heap_setCell _ _ _ _ (fun e => hne (by rw [e])))).trans (Below.heap_setCell _ _ _ _ (fun e => hne (by rw [e])))⟩⟩
  · rw [Array.getElem?_setIfInBounds_self_of_lt (by simp [hsz])]
    rw [hd2]; simp
  · rw [Array.getElem?_setIfInBounds_ne (by omega), Array.getElem?_setIfInBounds_ne (by omega), Array.getElem?_setIfInBounds_self_of_lt (by simp [hsz])]
  · rw [Array.getElem?_setIfInBounds_ne (by omega), ← hd2, Array.getElem?_setIfInBounds_self_of_lt (by simp [hsz]; omega)]
theorem begin_full (n₀ rb : Nat) (st : List (List Tree)) (w : World) (h : RM w n₀ rb (.run st)) (hd : st.length = 60) :
    Calls Tryd.prog 40 #[.pointer (some ⟨rb, 0, none⟩)] w fun e w' => e = .returned (.tuple #[]) ∧ RM w' n₀ rb (.deep 61) ∧ Below n₀ w w' ∧ w.grownBy w' (some rb) := by
  obtain ⟨K, cur, vs, hr⟩ := h
  obtain ⟨c60, c61, cf⟩ := hr.toRBase.facts
  rw [hd] at c60
  have HR := Lib.hid hr.toRBase
  clear hr hd
  go_enter Tryd.func40, Tryd.ntmps40
  go_wp2
  go_end0
  have hn := HR.out.n0
  have hsz := HR.out.size
  refine ⟨rfl, ⟨_, rb_set (rb_set HR.out.heap), by simp [hsz], ?_, ?_, hn⟩, below_rb (below_rb (Below.refl _ _) hn) hn, ⟨rfl, rfl, rfl, by simp [World.setCell], fun k hk hne => (Below.heap_setCell _ _ _ _ (fun e => hne (by rw [e]))).trans (Below.heap_setCell _ _ _ _ (fun e => hne (by rw [e])))⟩⟩
  · rw [Array.getElem?_setIfInBounds_self_of_lt (by simp [hsz])]; rfl
  · rw [Array.getElem?_setIfInBounds_ne (by omega), Array.getElem?_setIfInBounds_self_of_lt (by simp [hsz])]
theorem begin_deep (n₀ rb n : Nat) (w : World) (h : RM w n₀ rb (.deep n)) (hn : n < 1000000) :
    Calls Tryd.prog 40 #[.pointer (some ⟨rb, 0, none⟩)] w fun e w' => e = .returned (.tuple #[]) ∧ RM w' n₀ rb (.deep (n + 1)) ∧ Below n₀ w w' ∧ w.grownBy w' (some rb) := by
  obtain ⟨cur, hr⟩ := h
  obtain ⟨c60, c61, cf⟩ := hr.facts
  have HR := Lib.hid hr
  have hwp : wrap64 ((n : Int) + 1) = (n : Int) + 1 := by unfold wrap64; omega
  clear hr
  go_enter Tryd.func40, Tryd.ntmps40
  go_wp2
  go_end0
  have hn := HR.out.n0
  have hsz := HR.out.size
  refine ⟨rfl, ⟨_, rb_set (rb_set HR.out.heap), by simp [hsz], ?_, ?_, hn⟩, below_rb (below_rb (Below.refl _ _) hn) hn, ⟨rfl, rfl, rfl, by simp [World.setCell], fun k hk hne => (Below.heap_setCell _ _ _ _ (fun e => hne (by rw [e]))).trans (Below.heap_setCell _ _ _ _ (fun e => hne (by rw [e])))⟩⟩
  · rw [Array.getElem?_setIfInBounds_self_of_lt (by simp [hsz])]; simp
  · rw [Array.getElem?_setIfInBounds_ne (by omega), Array.getElem?_setIfInBounds_self_of_lt (by simp [hsz])]
theorem end_deep (n₀ rb n : Nat) (w : World) (h : RM w n₀ rb (.deep (n + 1))) (hn : n < 1000000) :
    Calls Tryd.prog 41 #[.pointer (some ⟨rb, 0, none⟩)] w fun e w' => e = .returned (.agg #[.int .i8 3, .string ⟨#[]⟩, .slice none 0 0]) ∧ RM w' n₀ rb (.deep n) ∧ Below n₀ w w' ∧ w.grownBy w' (some rb) := by
  obtain ⟨cur, hr⟩ := h
  obtain ⟨c60, c61, cf⟩ := hr.facts
  have HR := Lib.hid hr
  have hlt : rb < w.heap.size := hr.rblt
  have hrne : ¬ rb = w.heap.size := by omega
  clear hr
  go_enter Tryd.func41, Tryd.ntmps41
  go_wp2
  have hb := HR.out.n0
  have hsz := HR.out.size
  have hh : ((w.setCell ⟨rb, 60, none⟩ (.int .i64 (n : Int))).alloc (.cells #[.int .i8 3, .string ⟨#[]⟩, .slice none 0 0] 26)).heap[rb]? = _ := (Below.heap_alloc _ _ _ (by simp [World.setCell]; omega)).trans (rb_set (i := 60) (v := .int .i64 (n : Int)) HR.out.heap)
  refine bodyPost_ret (v := .agg #[.int .i8 3, .string ⟨#[]⟩, .slice none 0 0]) (by simp [results, Tryd.results41, go_sem]) rfl ⟨rfl, ⟨_, hh, by simp [hsz], ?_, ?_, hb⟩, (below_rb (Below.refl _ _) hb).alloc (by simp [World.setCell]; omega) _, ⟨rfl, rfl, rfl, by simp [World.setCell], fun k hk hne => (Below.heap_alloc _ _ _ (by simp [World.setCell]; omega)).trans (Below.heap_setCell _ _ _ _ (fun e => hne (by rw [e])))⟩⟩
  · rw [Array.getElem?_setIfInBounds_self_of_lt (by simp [hsz])]
  · rw [Array.getElem?_setIfInBounds_ne (by omega)]; exact HR.out.deep
theorem end_run (n₀ rb M : Nat) (l : List Tree) (st : List (List Tree)) (w : World) (h : RMb M w n₀ rb (l :: st)) :
    Calls Tryd.prog 41 #[.pointer (some ⟨rb, 0, none⟩)] w fun e w' => (∃ a cap, e = .returned (.agg #[.int .i8 3, .string ⟨#[]⟩, .slice a l.length cap]) ∧ RXb M w' n₀ rb st (.node 3 [] l) (.agg #[.int .i8 3, .string ⟨#[]⟩, .slice a l.length cap])) ∧ Below n₀ w w' ∧ w.grownBy w' (some rb) := by
  obtain ⟨K, cur, vs, hr, hKM, hvM, hrM⟩ := h
  have HM := Lib.hid (And.intro hKM (And.intro hvM hrM))
  clear hKM hvM hrM
  obtain ⟨c60, c61, cf⟩ := hr.toRBase.facts
  have HR := Lib.hid hr
  have hlt : rb < w.heap.size := hr.toRBase.rblt
  have hrne : ¬ rb = w.heap.size := by omega
  obtain ⟨v, vs', hvs, hcv, hop, hg, hst⟩ := hr.stk
  obtain ⟨a, cap, hv, hlc, hcm⟩ := hop.form
  subst hv
  have hcell : w.cell? ⟨rb, st.length, none⟩ = some (.slice a l.length cap) := (cell_of_row w rb st.length cur _ _ hr.heap).trans hcv
  have hfew := hr.few
  simp only [List.length_cons] at hfew c60
  obtain ⟨d, hdd⟩ : ∃ d, d = st.length := ⟨_, rfl⟩
  rw [← hdd] at c60 hcell hfew
  have Hdd := Lib.hid hdd
  have hne60 : ¬ d = 60 := by omega
  have hne61 : ¬ d = 61 := by omega
  clear hr hdd hvs hcv hop hg hst
  go_enter Tryd.func41, Tryd.ntmps41
  go_wp2
  go_region
  all_goals go_wp2
  have hb := HR.out.n0
  have hsz := HR.out.size
  have hh : ((w.setCell ⟨rb, 60, none⟩ (.int .i64 (d : Int))).alloc (.cells #[.int .i8 3, .string ⟨#[]⟩, .slice a l.length cap] 26)).heap[rb]? = _ := (Below.heap_alloc _ _ _ (by simp [World.setCell]; omega)).trans (rb_set (i := 60) (v := .int .i64 (d : Int)) HR.out.heap)
  obtain ⟨hst, hko⟩ := HR.out.next (w' := ((w.setCell ⟨rb, 60, none⟩ (.int .i64 (d : Int))).alloc (.cells #[.int .i8 3, .string ⟨#[]⟩, .slice a l.length cap] 26)).drew) (cur' := cur.setIfInBounds 60 (.int .i64 (d : Int)))
    (by simp [World.setCell]) (fun b hlt' hne => (Below.heap_alloc _ _ _ (by simp [World.setCell]; omega)).trans (Below.heap_setCell _ _ _ _ hne)) (fun i hi => by
      have h1 := Hdd.out
      simp only [List.length_cons] at hi
      rw [Array.getElem?_setIfInBounds_ne (by omega)])
  obtain ⟨v, vs', hvs, hcv, hop, hg, hst'⟩ := hst
  have hd2 := Hdd.out
  have hv : v = .slice a l.length cap := by
    obtain ⟨v2, vs2, hvs2, hcv2, _⟩ := HR.out.stk
    rw [hvs] at hvs2
    obtain ⟨h1, h2⟩ := List.cons.inj hvs2
    subst h1
    have h3 : w.cell? ⟨rb, st.length, none⟩ = some v := (cell_of_row w rb st.length cur _ _ HR.out.heap).trans hcv2
    rw [← hd2, hcell] at h3
    exact (Option.some.inj h3).symm
  subst hv
  obtain ⟨K', hK'⟩ : ∃ K' : Nat → Prop, K' = fun b => K b ∨ (Value.slice a l.length cap).ownBlock = some b := ⟨_, rfl⟩
  have hclosed := hop.closed (K' := K') (fun b hb => by rw [hK']; exact .inl hb) (fun g hg' => by rw [hK']; exact .inr hg')
  refine bodyPost_ret (v := .agg #[.int .i8 3, .string ⟨#[]⟩, .slice a l.length cap]) (by simp [results, Tryd.results41, go_sem]) rfl ⟨⟨a, cap, rfl, K', _, vs', ⟨⟨hh, by simp [hsz], ?_, ?_, hb⟩, by omega, ?_, ?_⟩, ⟨a, cap, rfl, hlc, hcm, by simp, hclosed⟩, ?_, fun v' hv' g hg' => HM.out.2.1 v' (by rw [hvs]; simp [hv']) g hg', HM.out.2.2⟩, ((below_rb (Below.refl _ _) hb).alloc (by simp [World.setCell]; omega) _).drew, ⟨rfl, rfl, rfl, by simp [World.setCell], fun k hk hne => (Below.heap_alloc _ _ _ (by simp [World.setCell]; omega)).trans (Below.heap_setCell _ _ _ _ (fun e => hne (by rw [e])))⟩⟩
  · rw [Array.getElem?_setIfInBounds_self_of_lt (by simp [hsz]), ← hd2]
  · rw [Array.getElem?_setIfInBounds_ne (by omega)]; exact HR.out.deep
  · rw [hK']
    refine ⟨fun b hb' => ?_, fun hb' => ?_, fun b hb' => ?_⟩
    · rcases hb' with hb' | hb'
      · exact hko.low b hb'
      · exact hop.lt hb'
    · rcases hb' with hb' | hb'
      · exact hko.rb hb'
      · exact (hg _ hb').1 rfl
    · rcases hb' with hb' | hb'
      · exact hko.cells b hb'
      · exact hop.cells hb'
  · rw [hK']
    exact StkM.more st vs' (fun v' hv' b hb' => (hg b hb').2.2 v' hv') hst'
  · intro b hb'
    rw [hK'] at hb'
    rcases hb' with hb' | hb'
    · exact HM.out.1 b hb'
    · exact HM.out.2.1 _ (by rw [hvs]; simp) b hb'
end Go.Proofs.YthbgigjjmojgfaaDoor
