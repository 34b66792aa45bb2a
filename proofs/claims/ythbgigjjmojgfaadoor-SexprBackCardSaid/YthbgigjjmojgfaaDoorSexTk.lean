/- The method take of package sexpr's reader. -/
import Derived.Test.YthbgigjjmojgfaaDoorSexRs
import Derived.Deep.RegionHeld3
import Derived.BigQuiet
import Derived.Deep.RegionLaw
import Derived.Maps.AppendAt
import Derived.RangeFuncBox
import Derived.Deep.AppendLies
namespace Go.Proofs.YthbgigjjmojgfaaDoor
open Go.RowKit
theorem RBase.facts {w : World} {n₀ rb : Nat} {cur : Array Value} {d : Nat} {dp : Bool} (h : RBase w n₀ rb cur d dp) :
    w.cell? ⟨rb, 60, none⟩ = some (.int .i64 d) ∧ w.cell? ⟨rb, 61, none⟩ = some (.bool dp) ∧ ∀ i, w.frozen? ⟨rb, i, none⟩ = false :=
  ⟨(cell_of_row w rb 60 cur _ _ h.heap).trans h.dep, (cell_of_row w rb 61 cur _ _ h.heap).trans h.deep, fun i => frozen_of_row w rb i cur _ h.heap⟩
theorem rb_set {w : World} {rb i : Nat} {cur : Array Value} {t : TypeId} {v : Value} (h : w.heap[rb]? = some (.cells cur t (0, 0))) : (w.setCell ⟨rb, i, none⟩ v).heap[rb]? = some (.cells (cur.setIfInBounds i v) t (0, 0)) := heap_setCell_same w rb i cur t v h
theorem below_rb {w : World} {n₀ rb i : Nat} {v : Value} {a : World} (h : Below n₀ a w) (hn : n₀ ≤ rb) : Below n₀ a (w.setCell ⟨rb, i, none⟩ v) := h.setCell (p := ⟨rb, i, none⟩) hn v
theorem RRun.next {w w' : World} {n₀ rb : Nat} {K : Nat → Prop} {st : List (List Tree)} {cur cur' : Array Value} {vs : List Value} (h : RRun w n₀ rb K st cur vs) (hs : w.heap.size ≤ w'.heap.size) (hk : ∀ b, b < w.heap.size → b ≠ rb → w'.heap[b]? = w.heap[b]?)
    (hc : ∀ i, i < st.length → cur'[i]? = cur[i]?) : StkM w' n₀ rb K cur' st vs ∧ KOk w' n₀ rb K :=
  ⟨StkM.keep st vs (fun b hb => by
    rcases hb with hb | ⟨v, hv, hg⟩
    · exact hk b (h.k.low b hb).2 (fun e => h.k.rb (e ▸ hb))
    · have := StkM.lt st vs h.stk v hv b hg
      exact hk b this.2.1 this.2.2.1) hc h.stk, h.k.keep hs (fun b hb => hk b (h.k.low b hb).2 (fun e => h.k.rb (e ▸ hb)))⟩
theorem OpenL.more {w : World} {n₀ : Nat} {K K' : Nat → Prop} {v : Value} {ts : List Tree} (h : OpenL w n₀ K v ts) (hk : ∀ b, K b → K' b) : OpenL w n₀ K' v ts := by
  obtain ⟨xs, h1, h2⟩ := h
  exact ⟨xs, h1, Els.mono (fun b _ hn hb => hn (hk b hb)) ts xs h2⟩
theorem StkM.more {w : World} {n₀ rb : Nat} {K : Nat → Prop} {cur : Array Value} {u : Value} : ∀ (st : List (List Tree)) (vs : List Value), (∀ v' ∈ vs, ∀ b, u.ownBlock = some b → v'.ownBlock ≠ some b) → StkM w n₀ rb K cur st vs →
    StkM w n₀ rb (fun b => K b ∨ u.ownBlock = some b) cur st vs
  | [], _, _, h => h
  | l :: r, _, hu, ⟨v, vs', e, h1, h2, h3, h4⟩ => by
    subst e
    refine ⟨v, vs', rfl, h1, h2.more (fun b hb => .inl hb), fun g hg => ⟨(h3 g hg).1, fun hk => ?_, (h3 g hg).2.2⟩, StkM.more r vs' (fun v' hv' => hu v' (by simp [hv'])) h4⟩
    rcases hk with hk | hk
    · exact (h3 g hg).2.1 hk
    · exact hu v (by simp) g hk hg
/-- The same, all below block M. -/
def RMb (M : Nat) (w : World) (n₀ rb : Nat) (st : List (List Tree)) : Prop := ∃ K cur vs, RRun w n₀ rb K st cur vs ∧ (∀ b, K b → b < M) ∧ (∀ v ∈ vs, ∀ g, v.ownBlock = some g → g < M) ∧ rb < M
def RXb (M : Nat) (w : World) (n₀ rb : Nat) (st : List (List Tree)) (t : Tree) (v : Value) : Prop := ∃ K cur vs, RRun w n₀ rb K st cur vs ∧ Rd w (fun b => ¬ K b) t v ∧ (∀ b, K b → b < M) ∧ (∀ v ∈ vs, ∀ g, v.ownBlock = some g → g < M) ∧ rb < M
theorem RM.bound {w w' : World} {n₀ rb : Nat} {st : List (List Tree)} (h : RM w n₀ rb (.run st)) (hb : Below w.heap.size w w') : RMb w.heap.size w' n₀ rb st := by
  obtain ⟨K, cur, vs, hr⟩ := h
  exact ⟨K, cur, vs, hr.keep hb, fun b hk => (hr.k.low b hk).2, fun v hv g hg => (StkM.lt st vs hr.stk v hv g hg).2.1, hr.toRBase.rblt⟩
theorem RXb.to {M : Nat} {w w' : World} {n₀ rb : Nat} {st : List (List Tree)} {t : Tree} {v : Value} (h : RXb M w n₀ rb st t v) (hs : w.heap.size ≤ w'.heap.size) (hk : ∀ b, b < M → w'.heap[b]? = w.heap[b]?) : RX w' n₀ rb st t v := by
  obtain ⟨K, cur, vs, hr, hrd, h1, h2, h3⟩ := h
  exact ⟨K, cur, vs, ⟨hr.toRBase.keep (hk _ h3), hr.few, hr.k.keep hs (fun b hb => hk b (h1 b hb)), StkM.keep st vs (fun b hb => hk b (by
    rcases hb with hb | ⟨v, hv, hg⟩
    · exact h1 b hb
    · exact h2 v hv b hg)) (fun _ _ => rfl) hr.stk⟩, Rd.keep (fun b hb _ => hk b (h1 b (Classical.not_not.1 hb))) t v hrd⟩
def pushS : RS → RS
  | .run st => if st.length = 60 then .deep 61 else .run ([] :: st)
  | .fin t => .fin t
  | .deep n => .deep (n + 1)
theorem begin_run (n₀ rb : Nat) (st : List (List Tree)) (w : World) (h : RM w n₀ rb (.run st)) (hd : st.length < 60) :
    Calls Tryd.prog 40 #[.pointer (some ⟨rb, 0, none⟩)] w fun e w' => e = .returned (.tuple #[]) ∧ RM w' n₀ rb (.run ([] :: st)) ∧ Below n₀ w w' ∧ w.grownBy w' (some rb) := by
  obtain ⟨K, cur, vs, hr⟩ := h
  obtain ⟨c60, c61, cf⟩ := hr.toRBase.facts
  have e1 := eq_false (x := (st.length : Int)) (y := 60) (by omega)
  have HR := Lib.hid hr
  obtain ⟨d, hdd⟩ : ∃ d, d = st.length := ⟨_, rfl⟩
  rw [← hdd] at c60 hd e1
  have Hdd := Lib.hid hdd
  have hne60 : ¬ d = 60 := by omega
  have hne61 : ¬ d = 61 := by omega
  have hcd : ∃ u, w.cell? ⟨rb, d, none⟩ = some u := by
    rw [cell_of_row w rb d cur _ _ HR.out.heap]
    have := HR.out.size
    exact ⟨_, Array.getElem?_eq_getElem (by omega)⟩
  obtain ⟨u, hu⟩ := hcd
  clear hr hdd
  go_enter Tryd.func40, Tryd.ntmps40
  go_wp2
  go_region
  go_wp2
  go_end0
  have hh := rb_set (i := 60) (v := .int .i64 ((d : Int) + 1)) (rb_set (i := d) (v := .slice none 0 0) (rb_set (i := 61) (v := .bool false) HR.out.heap))
  have hn := HR.out.n0
  have hsz := HR.out.size
  obtain ⟨hst, hko⟩ := HR.out.next (w' := (((w.setCell ⟨rb, 61, none⟩ (.bool false)).setCell ⟨rb, d, none⟩ (.slice none 0 0)).setCell ⟨rb, 60, none⟩ (.int .i64 ((d : Int) + 1))).drew) (cur' := ((cur.setIfInBounds 61 (.bool false)).setIfInBounds d (.slice none 0 0)).setIfInBounds 60 (.int .i64 ((d : Int) + 1)))
    (by simp [World.setCell]) (fun b _ hne => ((Below.heap_setCell _ _ _ _ hne).trans (Below.heap_setCell _ _ _ _ hne)).trans (Below.heap_setCell _ _ _ _ hne)) (fun i hi => by
      have := Hdd.out
      rw [Array.getElem?_setIfInBounds_ne (by omega), Array.getElem?_setIfInBounds_ne (by omega), Array.getElem?_setIfInBounds_ne (by omega)])
  have hd2 := Hdd.out
  refine ⟨rfl, ⟨K, _, .slice none 0 0 :: vs, ⟨⟨hh, by simp [hsz], ?_, ?_, hn⟩, by simp; omega, ⟨hko.low, hko.rb, hko.cells⟩, .slice none 0 0, vs, rfl, ?_, OpenL.nil _ _ _, fun g hg => by simp [Value.ownBlock] at hg, hst⟩⟩, (below_rb (below_rb (below_rb (Below.refl _ _) hn) hn) hn).drew, ⟨rfl, rfl, rfl, by simp [World.setCell], fun k hk hne => ((Below.heap_setCell _ _ _ _ (fun e => hne (by rw [e]))).trans (Below.heap_setCell _ _ _ _ (fun e => hne (by rw [e])))).trans (Below.heap_setCell _ _ _ _ (fun e => hne (by rw [e])))⟩⟩
  · rw [Array.getElem?_setIfInBounds_self_of_lt (by simp [hsz])]
    rw [hd2]; simp
  · rw [Array.getElem?_setIfInBounds_ne (by omega), Array.getElem?_setIfInBounds_ne (by omega), Array.getElem?_setIfInBounds_self_of_lt (by simp [hsz])]
  · rw [Array.getElem?_setIfInBounds_ne (by omega), ← hd2, Array.getElem?_setIfInBounds_self_of_lt (by simp [hsz]; omega)]
theorem begin_full (n₀ rb : Nat) (st : List (List Tree)) (w : World) (h : RM w n₀ rb (.run st)) (hd : st.length = 60) :
    Calls Tryd.prog 40 #[.pointer (some ⟨rb, 0, none⟩)] w fun e w' => e = .returned (.tuple #[]) ∧ RM w' n₀ rb (.deep 61) ∧ Below n₀ w w' ∧ w.grownBy w' (some rb) := by
  obtain ⟨K, cur, vs, hr⟩ := h
  obtain ⟨c60, c61, cf⟩ := hr.toRBase.facts
  rw [hd] at c60
  have HR := Lib.hid hr.toRBase
  clear hr hd
  go_enter Tryd.func40, Tryd.ntmps40
  go_wp2
  go_end0
  have hn := HR.out.n0
  have hsz := HR.out.size
  refine ⟨rfl, ⟨_, rb_set (rb_set HR.out.heap), by simp [hsz], ?_, ?_, hn⟩, below_rb (below_rb (Below.refl _ _) hn) hn, ⟨rfl, rfl, rfl, by simp [World.setCell], fun k hk hne => (Below.heap_setCell _ _ _ _ (fun e => hne (by rw [e]))).trans (Below.heap_setCell _ _ _ _ (fun e => hne (by rw [e])))⟩⟩
  · rw [Array.getElem?_setIfInBounds_self_of_lt (by simp [hsz])]; rfl
  · rw [Array.getElem?_setIfInBounds_ne (by omega), Array.getElem?_setIfInBounds_self_of_lt (by simp [hsz])]
theorem begin_deep (n₀ rb n : Nat) (w : World) (h : RM w n₀ rb (.deep n)) (hn : n < 1000000) :
    Calls Tryd.prog 40 #[.pointer (some ⟨rb, 0, none⟩)] w fun e w' => e = .returned (.tuple #[]) ∧ RM w' n₀ rb (.deep (n + 1)) ∧ Below n₀ w w' ∧ w.grownBy w' (some rb) := by
  obtain ⟨cur, hr⟩ := h
  obtain ⟨c60, c61, cf⟩ := hr.facts
  have HR := Lib.hid hr
  have hwp : wrap64 ((n : Int) + 1) = (n : Int) + 1 := by unfold wrap64; omega
  clear hr
  go_enter Tryd.func40, Tryd.ntmps40
  go_wp2
  go_end0
  have hn := HR.out.n0
  have hsz := HR.out.size
  refine ⟨rfl, ⟨_, rb_set (rb_set HR.out.heap), by simp [hsz], ?_, ?_, hn⟩, below_rb (below_rb (Below.refl _ _) hn) hn, ⟨rfl, rfl, rfl, by simp [World.setCell], fun k hk hne => (Below.heap_setCell _ _ _ _ (fun e => hne (by rw [e]))).trans (Below.heap_setCell _ _ _ _ (fun e => hne (by rw [e])))⟩⟩
  · rw [Array.getElem?_setIfInBounds_self_of_lt (by simp [hsz])]; simp
  · rw [Array.getElem?_setIfInBounds_ne (by omega), Array.getElem?_setIfInBounds_self_of_lt (by simp [hsz])]
theorem end_deep (n₀ rb n : Nat) (w : World) (h : RM w n₀ rb (.deep (n + 1))) (hn : n < 1000000) :
    Calls Tryd.prog 41 #[.pointer (some ⟨rb, 0, none⟩)] w fun e w' => e = .returned (.agg #[.int .i8 3, .string ⟨#[]⟩, .slice none 0 0]) ∧ RM w' n₀ rb (.deep n) ∧ Below n₀ w w' ∧ w.grownBy w' (some rb) := by
  obtain ⟨cur, hr⟩ := h
  obtain ⟨c60, c61, cf⟩ := hr.facts
  have HR := Lib.hid hr
  have hlt : rb < w.heap.size := hr.rblt
  have hrne : ¬ rb = w.heap.size := by omega
  clear hr
  go_enter Tryd.func41, Tryd.ntmps41
  go_wp2
  have hb := HR.out.n0
  have hsz := HR.out.size
  have hh : ((w.setCell ⟨rb, 60, none⟩ (.int .i64 (n : Int))).alloc (.cells #[.int .i8 3, .string ⟨#[]⟩, .slice none 0 0] 26)).heap[rb]? = _ := (Below.heap_alloc _ _ _ (by simp [World.setCell]; omega)).trans (rb_set (i := 60) (v := .int .i64 (n : Int)) HR.out.heap)
  refine bodyPost_ret (v := .agg #[.int .i8 3, .string ⟨#[]⟩, .slice none 0 0]) (by simp [results, Tryd.results41, go_sem]) rfl ⟨rfl, ⟨_, hh, by simp [hsz], ?_, ?_, hb⟩, (below_rb (Below.refl _ _) hb).alloc (by simp [World.setCell]; omega) _, ⟨rfl, rfl, rfl, by simp [World.setCell], fun k hk hne => (Below.heap_alloc _ _ _ (by simp [World.setCell]; omega)).trans (Below.heap_setCell _ _ _ _ (fun e => hne (by rw [e])))⟩⟩
  · rw [Array.getElem?_setIfInBounds_self_of_lt (by simp [hsz])]
  · rw [Array.getElem?_setIfInBounds_ne (by omega)]; exact HR.out.deep
theorem end_run (n₀ rb M : Nat) (l : List Tree) (st : List (List Tree)) (w : World) (h : RMb M w n₀ rb (l :: st)) :
    Calls Tryd.prog 41 #[.pointer (some ⟨rb, 0, none⟩)] w fun e w' => (∃ a cap, e = .returned (.agg #[.int .i8 3, .string ⟨#[]⟩, .slice a l.length cap]) ∧ RXb M w' n₀ rb st (.node 3 [] l) (.agg #[.int .i8 3, .string ⟨#[]⟩, .slice a l.length cap])) ∧ Below n₀ w w' ∧ w.grownBy w' (some rb) := by
  obtain ⟨K, cur, vs, hr, hKM, hvM, hrM⟩ := h
  have HM := Lib.hid (And.intro hKM (And.intro hvM hrM))
  clear hKM hvM hrM
  obtain ⟨c60, c61, cf⟩ := hr.toRBase.facts
  have HR := Lib.hid hr
  have hlt : rb < w.heap.size := hr.toRBase.rblt
  have hrne : ¬ rb = w.heap.size := by omega
  obtain ⟨v, vs', hvs, hcv, hop, hg, hst⟩ := hr.stk
  obtain ⟨a, cap, hv, hlc, hcm⟩ := hop.form
  subst hv
  have hcell : w.cell? ⟨rb, st.length, none⟩ = some (.slice a l.length cap) := (cell_of_row w rb st.length cur _ _ hr.heap).trans hcv
  have hfew := hr.few
  simp only [List.length_cons] at hfew c60
  obtain ⟨d, hdd⟩ : ∃ d, d = st.length := ⟨_, rfl⟩
  rw [← hdd] at c60 hcell hfew
  have Hdd := Lib.hid hdd
  have hne60 : ¬ d = 60 := by omega
  have hne61 : ¬ d = 61 := by omega
  clear hr hdd hvs hcv hop hg hst
  go_enter Tryd.func41, Tryd.ntmps41
  go_wp2
  go_region
  all_goals go_wp2
  have hb := HR.out.n0
  have hsz := HR.out.size
  have hh : ((w.setCell ⟨rb, 60, none⟩ (.int .i64 (d : Int))).alloc (.cells #[.int .i8 3, .string ⟨#[]⟩, .slice a l.length cap] 26)).heap[rb]? = _ := (Below.heap_alloc _ _ _ (by simp [World.setCell]; omega)).trans (rb_set (i := 60) (v := .int .i64 (d : Int)) HR.out.heap)
  obtain ⟨hst, hko⟩ := HR.out.next (w' := ((w.setCell ⟨rb, 60, none⟩ (.int .i64 (d : Int))).alloc (.cells #[.int .i8 3, .string ⟨#[]⟩, .slice a l.length cap] 26)).drew) (cur' := cur.setIfInBounds 60 (.int .i64 (d : Int)))
    (by simp [World.setCell]) (fun b hlt' hne => (Below.heap_alloc _ _ _ (by simp [World.setCell]; omega)).trans (Below.heap_setCell _ _ _ _ hne)) (fun i hi => by
      have h1 := Hdd.out
      simp only [List.length_cons] at hi
      rw [Array.getElem?_setIfInBounds_ne (by omega)])
  obtain ⟨v, vs', hvs, hcv, hop, hg, hst'⟩ := hst
  have hd2 := Hdd.out
  have hv : v = .slice a l.length cap := by
    obtain ⟨v2, vs2, hvs2, hcv2, _⟩ := HR.out.stk
    rw [hvs] at hvs2
    obtain ⟨h1, h2⟩ := List.cons.inj hvs2
    subst h1
    have h3 : w.cell? ⟨rb, st.length, none⟩ = some v := (cell_of_row w rb st.length cur _ _ HR.out.heap).trans hcv2
    rw [← hd2, hcell] at h3
    exact (Option.some.inj h3).symm
  subst hv
  obtain ⟨K', hK'⟩ : ∃ K' : Nat → Prop, K' = fun b => K b ∨ (Value.slice a l.length cap).ownBlock = some b := ⟨_, rfl⟩
  have hclosed := hop.closed (K' := K') (fun b hb => by rw [hK']; exact .inl hb) (fun g hg' => by rw [hK']; exact .inr hg')
  refine bodyPost_ret (v := .agg #[.int .i8 3, .string ⟨#[]⟩, .slice a l.length cap]) (by simp [results, Tryd.results41, go_sem]) rfl ⟨⟨a, cap, rfl, K', _, vs', ⟨⟨hh, by simp [hsz], ?_, ?_, hb⟩, by omega, ?_, ?_⟩, ⟨a, cap, rfl, hlc, hcm, by simp, hclosed⟩, ?_, fun v' hv' g hg' => HM.out.2.1 v' (by rw [hvs]; simp [hv']) g hg', HM.out.2.2⟩, ((below_rb (Below.refl _ _) hb).alloc (by simp [World.setCell]; omega) _).drew, ⟨rfl, rfl, rfl, by simp [World.setCell], fun k hk hne => (Below.heap_alloc _ _ _ (by simp [World.setCell]; omega)).trans (Below.heap_setCell _ _ _ _ (fun e => hne (by rw [e])))⟩⟩
  · rw [Array.getElem?_setIfInBounds_self_of_lt (by simp [hsz]), ← hd2]
  · rw [Array.getElem?_setIfInBounds_ne (by omega)]; exact HR.out.deep
  · rw [hK']
    refine ⟨fun b hb' => ?_, fun hb' => ?_, fun b hb' => ?_⟩
    · rcases hb' with hb' | hb'
      · exact hko.low b hb'
      · exact hop.lt hb'
    · rcases hb' with hb' | hb'
      · exact hko.rb hb'
      · exact (hg _ hb').1 rfl
    · rcases hb' with hb' | hb'
      · exact hko.cells b hb'
      · exact hop.cells hb'
  · rw [hK']
    exact StkM.more st vs' (fun v' hv' b hb' => (hg b hb').2.2 v' hv') hst'
  · intro b hb'
    rw [hK'] at hb'
    rcases hb' with hb' | hb'
    · exact HM.out.1 b hb'
    · exact HM.out.2.1 _ (by rw [hvs]; simp) b hb'
end Go.Proofs.YthbgigjjmojgfaaDoor
namespace Go.Proofs.YthbgigjjmojgfaaDoor
open Go.RowKit
/-- append to a row of one's own, as one step of a region that draws. -/
theorem step_append_own {P : Program} {ops : Array Oper} {o : Oper} {a : Act} {w : World} {K : Act → World → Prop} {Q : Exit → Act → World → Prop} {E : Prop}
    (hg : o.guard = none) (s x : Operand) (t : TypeId) (hop : o.op = Op.call { callee := Callee.builtin Builtin.append, args := #[s, x], argTypes := #[t, t] })
    (base : Nat) (e : TypeId) (i : TypeInfo) (z : Value) (size bytes : Nat) (ht : P.underlying t = some (.slice e)) (hi : P.info? e = some i) (hz : i.zero = some z)
    (hsize : i.size = size) (hby : i.bytes = bytes) (hzs : z.cells.size = size) (hsz : 0 < size)
    (v : Value) (n : Nat) (xs : List Value) (hs : a.eval s = v) (hown : w.ownsRow base e size v n xs)
    (ad : Addr) (m c : Nat) (news : List Value) (hx : a.eval x = .slice (some ad) m c) (hl : news.length = m * size) (hnews : ∀ j u, news[j]? = some u → w.cell? (ad.add j) = some u) (h1 : ∀ u ∈ news, u.oneCell' = true)
    (h63 : n + m ≤ maxLen) (hbytes : (n + m) * bytes ≤ 140737488355328) (hbase : base ≤ w.heap.size)
    (hK : ∀ v' w', w'.ownsRow base e size v' (n + m) (xs ++ news) → w.grownBy w' v.ownBlock → (v'.ownBlock = v.ownBlock ∨ v'.ownBlock = some w.heap.size) → K (a.put o.dst v') w') :
    if Region.wanted o (yielded ops a.tmps) = true then Oper.wp P o a w K Q else E := by
  have hw : Region.wanted o (yielded ops a.tmps) = true := by simp [Region.wanted, hg]
  rw [if_pos hw]
  obtain ⟨v', w', hrun, h2, h3, _, h5⟩ := run_append_own_at (P := P) w base t o.type e i z size bytes ht hi hz hsize hby hzs hsz v n xs hown ad m c news hl hnews h1 h63 hbytes hbase
  unfold Oper.wp
  simp [execOp, hop, resolve, invoke, builtin, hs, hx, hrun, Result.andThen]
  exact hK v' w' h2 h3 h5
theorem infoSx : (Tryd.prog.info? 26).map (fun i => (i.zero, i.size, i.bytes)) = some (some (.agg #[.int .i8 0, .string ⟨#[]⟩, .slice none 0 0]), 3, 48) := by kernel_rfl
def putS (st : List (List Tree)) (t : Tree) : RS :=
  match st with
  | [] => .fin t
  | l :: r => .run ((l ++ [t]) :: r)
theorem put_deep (n₀ rb n : Nat) (k : Int) (s : ByteArray) (a : Option Addr) (m c : Nat) (w : World) (h : RM w n₀ rb (.deep n)) :
    Calls Tryd.prog 42 #[.pointer (some ⟨rb, 0, none⟩), .agg #[.int .i8 k, .string s, .slice a m c]] w fun e w' => e = .returned (.tuple #[]) ∧ RM w' n₀ rb (.deep n) ∧ Below w.heap.size w w' := by
  have HR := Lib.hid h
  obtain ⟨cur, hr⟩ := h
  obtain ⟨c60, c61, cf⟩ := hr.facts
  have hlt : rb < w.heap.size := hr.rblt
  clear hr
  go_enter Tryd.func42, Tryd.ntmps42
  go_wp2
  go_end0
  have hb : Below w.heap.size w (w.alloc (.cells #[.int .i8 k, .string s, .slice a m c] 26)) := (Below.refl _ _).alloc (Nat.le_refl _) _
  exact ⟨rfl, HR.out.keep hb, hb⟩
theorem put_nil (n₀ rb M : Nat) (t : Tree) (v : Value) (w : World) (h : RXb M w n₀ rb [] t v) :
    Calls Tryd.prog 42 #[.pointer (some ⟨rb, 0, none⟩), v] w fun e w' => e = .returned (.tuple #[]) ∧ RM w' n₀ rb (.fin t) ∧ Below n₀ w w' ∧ ∀ b, M ≤ b → b < w.heap.size → w'.heap[b]? = w.heap[b]? := by
  obtain ⟨K, cur, vs, hr, hrd, _, _, hrM⟩ := h
  have HrM := Lib.hid hrM
  clear hrM
  obtain ⟨a, cap, rfl, hl, hc, hs, hk⟩ := hrd.parts
  obtain ⟨c60, c61, cf⟩ := hr.toRBase.facts
  have hlt : rb < w.heap.size := hr.toRBase.rblt
  have hsz := hr.size
  have c62 : w.cell? ⟨rb, 62, none⟩ = _ := (cell_of_row w rb 62 cur _ _ hr.heap).trans (Array.getElem?_eq_getElem (by omega))
  have c63 : w.cell? ⟨rb, 63, none⟩ = _ := (cell_of_row w rb 63 cur _ _ hr.heap).trans (Array.getElem?_eq_getElem (by omega))
  have c64 : w.cell? ⟨rb, 64, none⟩ = _ := (cell_of_row w rb 64 cur _ _ hr.heap).trans (Array.getElem?_eq_getElem (by omega))
  have HR := Lib.hid hr
  have HRd := Lib.hid hrd
  have Hsz := Lib.hid hsz
  simp only [List.length_nil] at c60
  have c60' : w.cell? ⟨rb, 60, none⟩ = some (.int .i64 0) := c60
  obtain ⟨u62, hu62⟩ : ∃ u, u = cur[62] := ⟨_, rfl⟩
  obtain ⟨u63, hu63⟩ : ∃ u, u = cur[63] := ⟨_, rfl⟩
  obtain ⟨u64, hu64⟩ : ∃ u, u = cur[64] := ⟨_, rfl⟩
  rw [← hu62] at c62
  rw [← hu63] at c63
  rw [← hu64] at c64
  clear hr hrd c60 hu62 hu63 hu64 hsz hl hc hs hk
  go_enter Tryd.func42, Tryd.ntmps42
  go_wp2
  go_end0
  have hn := HR.out.n0
  obtain ⟨w3, hw3⟩ : ∃ w3, w3 = (((w.setCell ⟨rb, 62, none⟩ (.int .i8 t.kind)).setCell ⟨rb, 63, none⟩ (.string (bytesL t.text))).setCell ⟨rb, 64, none⟩ (.slice a t.kids.length cap)).alloc (.cells #[.int .i8 t.kind, .string (bytesL t.text), .slice a t.kids.length cap] 26) := ⟨_, rfl⟩
  have hh : w3.heap[rb]? = some (.cells (((cur.setIfInBounds 62 (.int .i8 t.kind)).setIfInBounds 63 (.string (bytesL t.text))).setIfInBounds 64 (.slice a t.kids.length cap)) 45 (0, 0)) := by
    rw [hw3]
    exact (Below.heap_alloc _ _ _ (by simp [World.setCell]; omega)).trans (rb_set (i := 64) (v := .slice a t.kids.length cap) (rb_set (i := 63) (v := .string (bytesL t.text)) (rb_set (i := 62) (v := .int .i8 t.kind) HR.out.heap)))
  have hk : ∀ b, b < w.heap.size → b ≠ rb → w3.heap[b]? = w.heap[b]? := fun b hlt' hne => by
    rw [hw3]
    exact (Below.heap_alloc _ _ _ (by simp [World.setCell]; omega)).trans (((Below.heap_setCell _ _ _ _ hne).trans (Below.heap_setCell _ _ _ _ hne)).trans (Below.heap_setCell _ _ _ _ hne))
  have hs3 : w.heap.size ≤ w3.heap.size := by rw [hw3]; simp [World.setCell]
  have hbel : Below n₀ w w3 := by
    rw [hw3]
    exact (below_rb (below_rb (below_rb (Below.refl _ _) hn) hn) hn).alloc (by simp [World.setCell]; omega) _
  rw [← hw3]
  have hz := Hsz.out
  refine ⟨rfl, ⟨K, _, .int .i8 t.kind, .string (bytesL t.text), .slice a t.kids.length cap, ⟨hh, by simp [hz], ?_, ?_, hn⟩, HR.out.k.keep hs3 (fun b hb => hk b (HR.out.k.low b hb).2 (fun e => HR.out.k.rb (e ▸ hb))), ?_, ?_, ?_, ?_⟩, hbel, fun b h1 h2 => hk b h2 (by have := HrM.out; omega)⟩
  · rw [Array.getElem?_setIfInBounds_ne (by omega), Array.getElem?_setIfInBounds_ne (by omega), Array.getElem?_setIfInBounds_ne (by omega)]; exact HR.out.dep
  · rw [Array.getElem?_setIfInBounds_ne (by omega), Array.getElem?_setIfInBounds_ne (by omega), Array.getElem?_setIfInBounds_ne (by omega)]; exact HR.out.deep
  · rw [Array.getElem?_setIfInBounds_ne (by omega), Array.getElem?_setIfInBounds_ne (by omega), Array.getElem?_setIfInBounds_self_of_lt (by omega)]
  · rw [Array.getElem?_setIfInBounds_ne (by omega), Array.getElem?_setIfInBounds_self_of_lt (by simp; omega)]
  · rw [Array.getElem?_setIfInBounds_self_of_lt (by simp; omega)]
  · exact Rd.keep (fun b hb hlt' => hk b hlt' (fun e => hb (e ▸ HR.out.k.rb))) t _ HRd.out
theorem put_ne {w1 : World} {rb : Nat} {o : Obj} {a : Option Nat} {g2 : Nat} {v : Value} (h : v.ownBlock = a ∨ v.ownBlock = some (w1.alloc o).heap.size) (hrb : rb < w1.heap.size) (hob : some rb ≠ a) (hv : v.ownBlock = some g2 := by rfl) : ¬ g2 = rb := by
  intro e
  subst e
  rw [hv] at h
  rcases h with h | h
  · exact hob h
  · simp at h; omega
/-- What the walk is told of the row behind the append. -/
theorem put_facts {w1 w2 : World} {n₀ rb d g2 cap2 n : Nat} {xs : List Value} {u : Value} {o : Obj} {ob : Option Nat} (hown : w2.ownsRow n₀ 26 3 (.slice (some ⟨g2, 0, none⟩) (n + 1) cap2) (n + 1) (xs ++ [.int .i8 0, .string ⟨#[]⟩, .slice none 0 0])) (hx : xs.length = n * 3)
    (hgrow : (w1.alloc o).grownBy w2 ob) (hrb : rb < w1.heap.size) (hob : some rb ≠ ob) (hr : w1.cell? ⟨rb, d, none⟩ = some u) (hf : w1.frozen? ⟨rb, d, none⟩ = false) :
    w2.cell? ⟨g2, n * 3, none⟩ = some (.int .i8 0) ∧ w2.cell? ⟨g2, n * 3 + 1, none⟩ = some (.string ⟨#[]⟩) ∧ w2.cell? ⟨g2, n * 3 + 2, none⟩ = some (.slice none 0 0) ∧ (∀ i, w2.frozen? ⟨g2, i, none⟩ = false) ∧ w2.cell? ⟨rb, d, none⟩ = some u ∧ w2.frozen? ⟨rb, d, none⟩ = false := by
  have h0 := hown.cellAt (n * 3) (by omega)
  have h1 := hown.cellAt (n * 3 + 1) (by omega)
  have h2 := hown.cellAt (n * 3 + 2) (by omega)
  rw [List.getElem?_append_right (by omega), hx] at h0 h1 h2
  have hk : w2.heap[rb]? = w1.heap[rb]? := (hgrow.block rb (by simp; omega) hob).trans (Below.heap_alloc _ _ _ hrb)
  refine ⟨by simpa using h0, by rw [h1]; simp, by rw [h2]; simp, fun i => hown.frozenAt i, (World.cell?_of_block (a := ⟨rb, d, none⟩) hk).trans hr, (World.frozen?_of_block (a := ⟨rb, d, none⟩) hk).trans hf⟩
theorem put_row {w2 : World} {n₀ g2 cap2 n : Nat} {xs : List Value} {z0 z1 z2 k s sl : Value} (hown : w2.ownsRow n₀ 26 3 (.slice (some ⟨g2, 0, none⟩) (n + 1) cap2) (n + 1) (xs ++ [z0, z1, z2])) (hx : xs.length = n * 3) :
    (((w2.setCell ⟨g2, n * 3, none⟩ k).setCell ⟨g2, n * 3 + 1, none⟩ s).setCell ⟨g2, n * 3 + 2, none⟩ sl).ownsRow n₀ 26 3 (.slice (some ⟨g2, 0, none⟩) (n + 1) cap2) (n + 1) (xs ++ [k, s, sl]) := by
  have h1 := (hown.stored (n * 3) k).1
  have h2 := (h1.stored (n * 3 + 1) s).1
  have h3 := (h2.stored (n * 3 + 2) sl).1
  have e : (((xs ++ [z0, z1, z2]).set (n * 3) k).set (n * 3 + 1) s).set (n * 3 + 2) sl = xs ++ [k, s, sl] := by
    rw [← hx, List.set_append_right _ _ (Nat.le_refl _), List.set_append_right _ _ (by omega), List.set_append_right _ _ (by omega)]
    simp
  rw [e] at h3
  exact h3
theorem put_fin {w w1 w2 wz : World} {n₀ rb g2 cap2 : Nat} {K : Nat → Prop} {l : List Tree} {st : List (List Tree)} {t : Tree} {cur : Array Value} {vs vs' : List Value} {xs : List Value} {ov k s sl : Value}
    (HR : RRun w n₀ rb K (l :: st) cur vs) (HRd : Rd w (fun b => ¬ K b) t (.agg #[k, s, sl])) (Hels : Els w (fun b => ¬ K b) l xs) (Hst : StkM w n₀ rb K cur st vs')
    (Hg : ∀ g, ov.ownBlock = some g → g ≠ rb ∧ ¬ K g ∧ ∀ v' ∈ vs', v'.ownBlock ≠ some g) (Hb1 : Below w.heap.size w w1) {o : Obj} (hgrow : (w1.alloc o).grownBy w2 ov.ownBlock)
    (hsame : ov.ownBlock = some g2 ∨ g2 = w1.heap.size + 1) (hg2 : ¬ g2 = rb)
    (hA : wz.ownsRow n₀ 26 3 (.slice (some ⟨g2, 0, none⟩) (l.length + 1) cap2) (l.length + 1) (xs ++ [k, s, sl]))
    (hB : w2.heap[rb]? = some (.cells cur 45 (0, 0)) → wz.heap[rb]? = some (.cells (cur.setIfInBounds st.length (.slice (some ⟨g2, 0, none⟩) (l.length + 1) cap2)) 45 (0, 0)))
    (hC : ∀ b, b ≠ rb → b ≠ g2 → wz.heap[b]? = w2.heap[b]?) (ho : wz.os = w2.os) (ht : wz.tape = w2.tape) (hu : wz.output = w2.output) (hs : wz.heap.size = w2.heap.size) (hn : n₀ ≤ w.heap.size) (hog : ∀ g, ov.ownBlock = some g → n₀ ≤ g) :
    RM wz n₀ rb (.run ((l ++ [t]) :: st)) ∧ Below n₀ w wz ∧ ∀ b, b < w.heap.size → b ≠ rb → some b ≠ ov.ownBlock → wz.heap[b]? = w.heap[b]? := by
  have hrb := HR.toRBase.rblt
  have hs1 := Hb1.size
  have hs2 := hgrow.size
  simp only [World.size_alloc] at hs2
  have hsz := HR.size
  have hfew := HR.few
  simp only [List.length_cons] at hfew
  have hold : ∀ b, b < w.heap.size → some b ≠ ov.ownBlock → w2.heap[b]? = w.heap[b]? := fun b hb hne => by
    rw [hgrow.block b (by simp; omega) hne, Below.heap_alloc _ _ _ (by omega), Hb1.block b hb]
  have hrbo : some rb ≠ ov.ownBlock := fun e => (Hg rb e.symm).1 rfl
  have hkeep : ∀ b, b < w.heap.size → b ≠ rb → some b ≠ ov.ownBlock → wz.heap[b]? = w.heap[b]? := fun b hb h1 h2 => by
    rw [hC b h1 (fun e => by
      subst e
      rcases hsame with h | h
      · exact h2 h.symm
      · omega)]
    exact hold b hb h2
  have hKo : ∀ b, K b → some b ≠ ov.ownBlock := fun b hb e => (Hg b e.symm).2.1 hb
  have hKk : ∀ b, K b → wz.heap[b]? = w.heap[b]? := fun b hb => hkeep b (HR.k.low b hb).2 (fun e => HR.k.rb (e ▸ hb)) (hKo b hb)
  have hsw : w.heap.size ≤ wz.heap.size := by omega
  refine ⟨⟨K, _, .slice (some ⟨g2, 0, none⟩) (l.length + 1) cap2 :: vs', ⟨⟨hB ((hold rb hrb hrbo).trans HR.heap), by simp [hsz], ?_, ?_, HR.n0⟩, by simp; omega, HR.k.keep hsw hKk, .slice (some ⟨g2, 0, none⟩) (l.length + 1) cap2, vs', rfl, ?_, ?_, ?_, ?_⟩⟩, ?_, hkeep⟩
  · rw [Array.getElem?_setIfInBounds_ne (by omega)]; have := HR.dep; simpa using this
  · rw [Array.getElem?_setIfInBounds_ne (by omega)]; exact HR.deep
  · rw [Array.getElem?_setIfInBounds_self_of_lt (by omega)]
  · refine ⟨xs ++ [k, s, sl], by simpa using hA, Els.snoc l xs t k s sl (Els.keep (fun b hb _ => hKk b (Classical.not_not.1 hb)) l xs Hels) (Rd.keep (fun b hb _ => hKk b (Classical.not_not.1 hb)) t _ HRd)⟩
  · intro g hgg
    simp only [Value.ownBlock, Option.some.injEq] at hgg
    subst hgg
    refine ⟨hg2, ?_, fun v' hv' e => ?_⟩
    · rcases hsame with h | h
      · exact (Hg _ h).2.1
      · intro hk; have := (HR.k.low _ hk).2; omega
    · rcases hsame with h | h
      · exact (Hg _ h).2.2 v' hv' e
      · have := (StkM.lt st vs' Hst v' hv' _ e).2.1; omega
  · refine StkM.keep st vs' (fun b hb => ?_) (fun i hi => by rw [Array.getElem?_setIfInBounds_ne (by omega)]) Hst
    rcases hb with hb | ⟨v', hv', hb⟩
    · exact hKk b hb
    · have h1 := StkM.lt st vs' Hst v' hv' b hb
      exact hkeep b h1.2.1 h1.2.2.1 (fun e => (Hg b e.symm).2.2 v' hv' hb)
  · have hg2n : n₀ ≤ g2 := by
      rcases hsame with h | h
      · exact hog g2 h
      · omega
    refine ⟨ho.trans (hgrow.os.trans Hb1.os), ht.trans (hgrow.tape.trans Hb1.tape), hu.trans (hgrow.output.trans Hb1.output), hsw, fun b hb => hkeep b (by omega) (by have := HR.n0; omega) (fun e => ?_)⟩
    have := hog b e.symm
    omega
set_option maxHeartbeats 2000000 in
theorem put_cons (n₀ rb M : Nat) (l : List Tree) (st : List (List Tree)) (t : Tree) (v : Value) (w : World) (h : RXb M w n₀ rb (l :: st) t v) (hll : l.length ≤ 1000000) :
    Calls Tryd.prog 42 #[.pointer (some ⟨rb, 0, none⟩), v] w fun e w' => e = .returned (.tuple #[]) ∧ RM w' n₀ rb (.run ((l ++ [t]) :: st)) ∧ Below n₀ w w' ∧ ∀ b, M ≤ b → b < w.heap.size → w'.heap[b]? = w.heap[b]? := by
  obtain ⟨K, cur, vs, hr, hrd, _, hvM, hrM⟩ := h
  obtain ⟨a, cap, rfl, hl, hc, hs, hk⟩ := hrd.parts
  obtain ⟨c60, c61, cf⟩ := hr.toRBase.facts
  have hlt : rb < w.heap.size := hr.toRBase.rblt
  obtain ⟨v, vs', hvs, hcv, hop, hg, hst⟩ := hr.stk
  obtain ⟨xs, hrow, hels⟩ := hop
  obtain ⟨la, lcap, rfl, hlc, hcm⟩ := OpenL.form ⟨xs, hrow, hels⟩
  have HvM : Hid (∀ b, M ≤ b → b ≠ rb ∧ some b ≠ (Value.slice la l.length lcap).ownBlock) := fun b hb => ⟨by omega, fun e => by have := hvM _ (by rw [hvs]; simp) b e.symm; omega⟩
  clear hvM hrM
  have hcell : w.cell? ⟨rb, st.length, none⟩ = some (.slice la l.length lcap) := (cell_of_row w rb st.length cur _ _ hr.heap).trans hcv
  have hfew := hr.few
  simp only [List.length_cons] at hfew c60
  obtain ⟨d, hdd⟩ : ∃ d, d = st.length := ⟨_, rfl⟩
  rw [← hdd] at c60 hcell hfew hcv
  have Hdd := Lib.hid hdd
  have HR := Lib.hid hr
  have HRd := Lib.hid hrd
  have Hrow := Lib.hid hrow
  have Hels := Lib.hid hels
  have Hg := Lib.hid hg
  have Hst := Lib.hid hst
  have Hcv := Lib.hid hcv
  have Hvs := Lib.hid hvs
  have Hl := Lib.hid (And.intro hl (And.intro hc hs))
  have hn0 : n₀ ≤ rb := hr.n0
  have e1 := eq_false (x := (d : Int) + 1) (y := 0) (by omega)
  clear hr hrd hrow hels hg hst hcv hvs hl hc hs hk hdd
  go_enter Tryd.func42, Tryd.ntmps42
  go_wp2
  go_quiet (fail)
  go_wp2
  obtain ⟨i0, hi, hz0, hz1, hz2⟩ := info_parts infoSx
  obtain ⟨w1, hw1⟩ : ∃ w1, w1 = (w.alloc (.cells #[.int .i8 t.kind, .string (bytesL t.text), .slice a t.kids.length cap] 26)).drewN nq := ⟨_, rfl⟩
  rw [← hw1]
  have hb1 : Below w.heap.size w w1 := by
    rw [hw1]
    have h := (Below.refl w.heap.size w).alloc (Nat.le_refl _) (.cells #[.int .i8 t.kind, .string (bytesL t.text), .slice a t.kids.length cap] 26)
    exact ⟨h.os, h.tape, h.output, h.size, h.block⟩
  have hx1 : w1.heap[w.heap.size]? = some (.cells #[.int .i8 t.kind, .string (bytesL t.text), .slice a t.kids.length cap] 26 (0, 0)) := by rw [hw1]; exact heap_alloc_new w _
  have hs1 : w1.heap.size = w.heap.size + 1 := by rw [hw1]; simp
  have hrow1 := ownsRow_heap' Hrow.out (w' := w1) (fun g hgb => hb1.block g (Hrow.out.lt g hgb).2)
  have Hrow1 := Lib.hid hrow1
  obtain ⟨z, hz⟩ : ∃ z, z = w.heap.size := ⟨_, rfl⟩
  rw [← hz] at hx1
  have x0 := cell_of_row _ _ 0 _ _ _ hx1
  have x1 := cell_of_row _ _ 1 _ _ _ hx1
  have x2 := cell_of_row _ _ 2 _ _ _ hx1
  simp only [List.getElem?_toArray, List.getElem?_cons_zero, List.getElem?_cons_succ] at x0 x1 x2
  have r1 := (hb1.cell (p := ⟨rb, d, none⟩) hlt).trans hcell
  have rf1 : w1.frozen? ⟨rb, d, none⟩ = false := (hb1.frozen (p := ⟨rb, d, none⟩) hlt).trans (cf d)
  rw [← hz]
  have Hb1 := Lib.hid hb1
  have Hx1 := Lib.hid hx1
  have Hs1 := Lib.hid hs1
  have Hz := Lib.hid hz
  have hzl : z < w1.heap.size := by omega
  have hrl : rb < w1.heap.size := by omega
  have hn1 : n₀ ≤ w1.heap.size := by omega
  clear hb1 hx1 hs1 hrow1 hw1 hcell c60 c61 e1 hz
  have hil : (l.length : Int) < (l.length : Int) + 1 := by omega
  have hob : some rb ≠ (Value.slice la l.length lcap).ownBlock := fun e => (Hg.out rb e.symm).1 rfl
  have Hxl := Lib.hid Hrow1.out.1
  go_region_law (refine step_append_own rfl (.tmp 16) (.tmp 19) 24 rfl n₀ 26 i0 _ 3 48 Tryd.underlying24 hi hz0 hz1 hz2 rfl (by decide) _ l.length xs rfl (Hrow1.out.alloc _) ⟨w1.heap.size, 0, none⟩ 1 1 [.int .i8 0, .string ⟨#[]⟩, .slice none 0 0] rfl rfl (World.news_of_block (cs := #[.int .i8 0, .string ⟨#[]⟩, .slice none 0 0]) (t := 26) (fr := (0, 0)) (heap_alloc_new w1 _)) (by simp [Value.oneCell']) (by unfold maxLen; omega) (by omega) (by simp; omega) ?_; intro v' w2 hown2 hgrow2 hsame2; obtain ⟨g2, cap2, rfl⟩ := ownsRow_succ hown2; have P := put_facts (n := l.length) (w1 := w1.drew) hown2 Hxl.out hgrow2 hrl hob r1 rf1; obtain ⟨p0, p1, p2, p3, p4, p5⟩ := P; have hg2 : ¬ g2 = rb := put_ne hsame2 hrl hob; have hg2' : ¬ rb = g2 := fun e => hg2 e.symm; have Hown2 := Lib.hid hown2; have Hgrow2 := Lib.hid hgrow2; have Hsame2 := Lib.hid hsame2; clear hown2 hgrow2 hsame2)
  all_goals
    go_wp2
    go_end0
    have hd2 := Hdd.out
    have hsm : (Value.slice la l.length lcap).ownBlock = some g2 ∨ g2 = w1.heap.size + 1 := by
      rcases Hsame2.out with h | h
      · exact .inl (h.symm.trans rfl)
      · exact .inr (by simpa [Value.ownBlock] using h)
    have hgr : (w1.alloc (.cells #[.int .i8 0, .string ⟨#[]⟩, .slice none 0 0] 26)).grownBy w2 (Value.slice la l.length lcap).ownBlock := ⟨Hgrow2.out.os, Hgrow2.out.tape, Hgrow2.out.output, by have := Hgrow2.out.size; simpa using this, fun k hk hne => (Hgrow2.out.block k (by simpa using hk) hne)⟩
    refine ⟨rfl, ?_⟩
    have HF : ∀ wz, RM wz n₀ rb (.run ((l ++ [t]) :: st)) ∧ Below n₀ w wz ∧ (∀ b, b < w.heap.size → b ≠ rb → some b ≠ (Value.slice la l.length lcap).ownBlock → wz.heap[b]? = w.heap[b]?) → RM wz n₀ rb (.run ((l ++ [t]) :: st)) ∧ Below n₀ w wz ∧ ∀ b, M ≤ b → b < w.heap.size → wz.heap[b]? = w.heap[b]? := fun wz h => ⟨h.1, h.2.1, fun b h1 h2 => h.2.2 b h2 (HvM.out b h1).1 (HvM.out b h1).2⟩
    refine HF _ ?_
    first
    | exact put_fin HR.out HRd.out Hels.out Hst.out Hg.out (by rw [Hz.out] at *; exact Hb1.out) hgr hsm hg2 (ownsRow_heap' (put_row Hown2.out Hxl.out) (fun g e => by cases e; exact Below.heap_setCell _ _ _ _ hg2))
        (fun h => by rw [← hd2]; exact rb_set (((Below.heap_setCell _ _ _ _ hg2').trans ((Below.heap_setCell _ _ _ _ hg2').trans (Below.heap_setCell _ _ _ _ hg2'))).trans h))
        (fun b h1 h2 => (Below.heap_setCell _ _ _ _ h1).trans ((Below.heap_setCell _ _ _ _ h2).trans ((Below.heap_setCell _ _ _ _ h2).trans (Below.heap_setCell _ _ _ _ h2)))) rfl rfl rfl (by simp [World.setCell]) (by omega) (fun g e => (Hrow1.out.lt g e).1)
    | exact put_fin HR.out HRd.out Hels.out Hst.out Hg.out (by rw [Hz.out] at *; exact Hb1.out) hgr hsm hg2 (put_row (ownsRow_heap' Hown2.out (fun g e => by cases e; exact Below.heap_setCell _ _ _ _ hg2)) Hxl.out)
        (fun h => by
          rw [← hd2]
          exact (Below.heap_setCell _ _ _ _ hg2').trans ((Below.heap_setCell _ _ _ _ hg2').trans ((Below.heap_setCell _ _ _ _ hg2').trans (rb_set h))))
        (fun b h1 h2 => (Below.heap_setCell _ _ _ _ h2).trans ((Below.heap_setCell _ _ _ _ h2).trans ((Below.heap_setCell _ _ _ _ h2).trans (Below.heap_setCell _ _ _ _ h1)))) rfl rfl rfl (by simp [World.setCell]) (by omega) (fun g e => (Hrow1.out.lt g e).1)
end Go.Proofs.YthbgigjjmojgfaaDoor
namespace Go.Proofs.YthbgigjjmojgfaaDoor
open Go.RowKit
/-- What package sexpr's table of kinds holds. -/
structure Kinds (w : World) : Prop where
  lt : 0 < w.heap.size
  k0 : w.cell? ⟨0, 0, none⟩ = some (.int .i8 0)
  k1 : w.cell? ⟨0, 1, none⟩ = some (.int .i8 0)
  k2 : w.cell? ⟨0, 2, none⟩ = some (.int .i8 0)
  k3 : w.cell? ⟨0, 3, none⟩ = some (.int .i8 1)
  k4 : w.cell? ⟨0, 4, none⟩ = some (.int .i8 2)
theorem Kinds.below {w w' : World} {B : Nat} (h : Kinds w) (hb : Below B w w') (hB : 0 < B) : Kinds w' :=
  ⟨Nat.lt_of_lt_of_le h.lt hb.size, (hb.cell (p := ⟨_, 0, none⟩) hB).trans h.k0, (hb.cell (p := ⟨_, 1, none⟩) hB).trans h.k1, (hb.cell (p := ⟨_, 2, none⟩) hB).trans h.k2, (hb.cell (p := ⟨_, 3, none⟩) hB).trans h.k3, (hb.cell (p := ⟨_, 4, none⟩) hB).trans h.k4⟩
theorem take_open (n₀ rb : Nat) (T : ByteArray) (p q : Int) (s s' : RS) (w : World) (hK : Kinds w) (h : RM w n₀ rb s) (hn : n₀ ≤ w.heap.size)
    (hbeg : ∀ W, RM W n₀ rb s → Calls Tryd.prog 40 #[.pointer (some ⟨rb, 0, none⟩)] W fun e w' => e = .returned (.tuple #[]) ∧ RM w' n₀ rb s' ∧ Below n₀ W w' ∧ W.grownBy w' (some rb)) (M : Nat) (hM : rb < M) :
    Calls Tryd.prog 26 #[.pointer (some ⟨rb, 0, none⟩), .agg #[.int .i8 0, .string T, .int .i64 p, .int .i64 q]] w fun e w' => e = .returned (.bool true) ∧ RM w' n₀ rb s' ∧ Below n₀ w w' ∧ ∀ b, M ≤ b → b < w.heap.size → w'.heap[b]? = w.heap[b]? := by
  have HB := Lib.hid hbeg
  have HR := Lib.hid h
  obtain ⟨kl, k0, k1, k2, k3, k4⟩ := hK
  clear h hbeg
  go_enter Tryd.func26, Tryd.ntmps26
  go_wp2
  go_region
  go_wp2_with fail
  have hb1 : Below w.heap.size w ((((w.alloc (.cells #[.int .i8 0, .string T, .int .i64 p, .int .i64 q] 47)).alloc (.cells #[.int .i8 0, .string T, .slice none 0 0] 26))).drew) := (((Below.refl _ _).alloc (Nat.le_refl _) _).alloc (by simp) _).drew
  refine (HB.out _ (HR.out.keep hb1)).mono ?_
  rintro e w2 ⟨rfl, hr2, hb2, hg2⟩
  go_wp2
  go_ret
  exact ⟨rfl, hr2, (hb1.mono hn).trans hb2, fun b h1 h2 => (hg2.block b (Nat.lt_of_lt_of_le h2 hb1.size) (fun e => by have := Option.some.inj e; omega)).trans (hb1.block b h2)⟩
theorem take_none (n₀ rb : Nat) (T : ByteArray) (p q : Int) (w : World) (hK : Kinds w) (h : RM w n₀ rb (.run [])) :
    Calls Tryd.prog 26 #[.pointer (some ⟨rb, 0, none⟩), .agg #[.int .i8 1, .string T, .int .i64 p, .int .i64 q]] w fun e w' => e = .returned (.bool false) ∧ Below w.heap.size w w' := by
  obtain ⟨K, cur, vs, hr⟩ := h
  obtain ⟨c60, c61, cf⟩ := hr.toRBase.facts
  have hlt : rb < w.heap.size := hr.toRBase.rblt
  have c60' : w.cell? ⟨rb, 60, none⟩ = some (.int .i64 0) := c60
  obtain ⟨kl, k0, k1, k2, k3, k4⟩ := hK
  clear hr c60
  go_enter Tryd.func26, Tryd.ntmps26
  go_wp2
  go_region
  go_wp2
  go_ret
  exact ⟨rfl, (((Below.refl _ _).alloc (Nat.le_refl _) _).alloc (by simp) _).drew⟩
theorem take_leaf (n₀ rb : Nat) (kt kx : Int) (T : ByteArray) (p q : Int) (s' : RS) (w : World) (hk : (kt = 2 ∧ kx = 0) ∨ (kt = 3 ∧ kx = 1) ∨ (kt = 4 ∧ kx = 2)) (hK : Kinds w) (hn : n₀ ≤ w.heap.size) (M : Nat)
    (hput : ∀ W, Below w.heap.size w W → Calls Tryd.prog 42 #[.pointer (some ⟨rb, 0, none⟩), .agg #[.int .i8 kx, .string T, .slice none 0 0]] W fun e w' => e = .returned (.tuple #[]) ∧ RM w' n₀ rb s' ∧ Below n₀ W w' ∧ ∀ b, M ≤ b → b < W.heap.size → w'.heap[b]? = W.heap[b]?) :
    Calls Tryd.prog 26 #[.pointer (some ⟨rb, 0, none⟩), .agg #[.int .i8 kt, .string T, .int .i64 p, .int .i64 q]] w fun e w' => e = .returned (.bool true) ∧ RM w' n₀ rb s' ∧ Below n₀ w w' ∧ ∀ b, M ≤ b → b < w.heap.size → w'.heap[b]? = w.heap[b]? := by
  have HB := Lib.hid hput
  obtain ⟨kl, k0, k1, k2, k3, k4⟩ := hK
  clear hput
  rcases hk with ⟨rfl, rfl⟩ | ⟨rfl, rfl⟩ | ⟨rfl, rfl⟩
  · go_enter Tryd.func26, Tryd.ntmps26
    go_wp2
    go_region
    go_wp2_with fail
    have hb1 : Below w.heap.size w ((((w.alloc (.cells #[.int .i8 2, .string T, .int .i64 p, .int .i64 q] 47)).alloc (.cells #[.int .i8 0, .string T, .slice none 0 0] 26))).drew) := (((Below.refl _ _).alloc (Nat.le_refl _) _).alloc (by simp) _).drew
    refine (HB.out _ hb1).mono ?_
    rintro e w2 ⟨rfl, hr2, hb2, hg2⟩
    go_wp2
    go_ret
    exact ⟨rfl, hr2, (hb1.mono hn).trans hb2, fun b h1 h2 => (hg2 b h1 (Nat.lt_of_lt_of_le h2 hb1.size)).trans (hb1.block b h2)⟩
  · go_enter Tryd.func26, Tryd.ntmps26
    go_wp2
    go_region
    go_wp2_with fail
    have hb1 : Below w.heap.size w ((((w.alloc (.cells #[.int .i8 3, .string T, .int .i64 p, .int .i64 q] 47)).alloc (.cells #[.int .i8 1, .string T, .slice none 0 0] 26))).drew) := (((Below.refl _ _).alloc (Nat.le_refl _) _).alloc (by simp) _).drew
    refine (HB.out _ hb1).mono ?_
    rintro e w2 ⟨rfl, hr2, hb2, hg2⟩
    go_wp2
    go_ret
    exact ⟨rfl, hr2, (hb1.mono hn).trans hb2, fun b h1 h2 => (hg2 b h1 (Nat.lt_of_lt_of_le h2 hb1.size)).trans (hb1.block b h2)⟩
  · go_enter Tryd.func26, Tryd.ntmps26
    go_wp2
    go_region
    go_wp2_with fail
    have hb1 : Below w.heap.size w ((((w.alloc (.cells #[.int .i8 4, .string T, .int .i64 p, .int .i64 q] 47)).alloc (.cells #[.int .i8 2, .string T, .slice none 0 0] 26))).drew) := (((Below.refl _ _).alloc (Nat.le_refl _) _).alloc (by simp) _).drew
    refine (HB.out _ hb1).mono ?_
    rintro e w2 ⟨rfl, hr2, hb2, hg2⟩
    go_wp2
    go_ret
    exact ⟨rfl, hr2, (hb1.mono hn).trans hb2, fun b h1 h2 => (hg2 b h1 (Nat.lt_of_lt_of_le h2 hb1.size)).trans (hb1.block b h2)⟩
theorem take_close (n₀ rb : Nat) (T : ByteArray) (p q : Int) (d M : Nat) (s' : RS) (w : World) (hK : Kinds w) (hn : n₀ ≤ w.heap.size) (hd : w.cell? ⟨rb, 60, none⟩ = some (.int .i64 (d + 1 : Nat))) (hrb : rb < M) (hMw : M ≤ w.heap.size)
    (R : World → Value → Prop) (hend : ∀ W, Below w.heap.size w W → Calls Tryd.prog 41 #[.pointer (some ⟨rb, 0, none⟩)] W fun e w' => (∃ a n cap, e = .returned (.agg #[.int .i8 3, .string ⟨#[]⟩, .slice a n cap]) ∧ R w' (.agg #[.int .i8 3, .string ⟨#[]⟩, .slice a n cap])) ∧ Below n₀ W w' ∧ W.grownBy w' (some rb))
    (hkeep : ∀ W W' v, R W v → W.heap.size ≤ W'.heap.size → (∀ b, b < M → W'.heap[b]? = W.heap[b]?) → ∀ a n cap, v = .agg #[.int .i8 3, .string ⟨#[]⟩, .slice a n cap] → Calls Tryd.prog 42 #[.pointer (some ⟨rb, 0, none⟩), v] W' fun e w' => e = .returned (.tuple #[]) ∧ RM w' n₀ rb s' ∧ Below n₀ W' w' ∧ ∀ b, M ≤ b → b < W'.heap.size → w'.heap[b]? = W'.heap[b]?) :
    Calls Tryd.prog 26 #[.pointer (some ⟨rb, 0, none⟩), .agg #[.int .i8 1, .string T, .int .i64 p, .int .i64 q]] w fun e w' => e = .returned (.bool true) ∧ RM w' n₀ rb s' ∧ Below n₀ w w' ∧ ∀ b, M ≤ b → b < w.heap.size → w'.heap[b]? = w.heap[b]? := by
  have HE := Lib.hid hend
  have HK := Lib.hid hkeep
  obtain ⟨kl, k0, k1, k2, k3, k4⟩ := hK
  have e1 := eq_false (x := ((d + 1 : Nat) : Int)) (y := 0) (by omega)
  have hrw : rb < w.heap.size := by omega
  clear hend hkeep
  go_enter Tryd.func26, Tryd.ntmps26
  go_wp2
  go_region
  go_wp2_with fail
  have hb1 : Below w.heap.size w ((((w.alloc (.cells #[.int .i8 1, .string T, .int .i64 p, .int .i64 q] 47)).alloc (.cells #[.int .i8 0, .string T, .slice none 0 0] 26))).drew) := (((Below.refl _ _).alloc (Nat.le_refl _) _).alloc (by simp) _).drew
  have HB1 := Lib.hid hb1
  refine (HE.out _ hb1).mono ?_
  rintro e w2 ⟨⟨a, n, cap, rfl, hr2⟩, hb2, hg2⟩
  have hx2 : w2.heap[w.heap.size + 1]? = some (.cells #[.int .i8 0, .string T, .slice none 0 0] 26 (0, 0)) := (hg2.block _ (by simp) (by simp; omega)).trans (by
    have := heap_alloc_new (w.alloc (.cells #[.int .i8 1, .string T, .int .i64 p, .int .i64 q] 47)) (.cells #[.int .i8 0, .string T, .slice none 0 0] 26)
    have hs : (w.alloc (.cells #[.int .i8 1, .string T, .int .i64 p, .int .i64 q] 47)).heap.size = w.heap.size + 1 := by simp
    rw [hs] at this
    exact this)
  obtain ⟨B, hB⟩ : ∃ B, B = w.heap.size + 1 := ⟨_, rfl⟩
  rw [← hB] at hx2
  try rw [← hB]
  have x0 := cell_of_row _ _ 0 _ _ _ hx2
  have x1 := cell_of_row _ _ 1 _ _ _ hx2
  have x2 := cell_of_row _ _ 2 _ _ _ hx2
  have xf : ∀ i, w2.frozen? ⟨B, i, none⟩ = false := fun i => frozen_of_row w2 B i _ _ hx2
  simp only [List.getElem?_toArray, List.getElem?_cons_zero, List.getElem?_cons_succ] at x0 x1 x2
  have hBl : w.heap.size ≤ B := by omega
  have hbw : Below n₀ w w2 := (hb1.mono hn).trans hb2
  have HBW := Lib.hid hbw
  have HR2 := Lib.hid hr2
  have HX := Lib.hid hx2
  have Hh := Lib.hid hB
  have HG2 : Hid (∀ b, M ≤ b → b < w.heap.size → w2.heap[b]? = w.heap[b]?) := fun b h1 h2 => (hg2.block b (Nat.lt_of_lt_of_le h2 hb1.size) (fun e => by have := Option.some.inj e; omega)).trans (hb1.block b h2)
  have hs2 : w.heap.size ≤ w2.heap.size := Nat.le_trans hb1.size hg2.size
  clear hb1 hr2 hb2 hg2 hx2 hB hbw k0 k1 k2 k3 k4 hd
  go_wp2_with fail
  refine (HK.out w2 _ _ HR2.out (by simp [World.setCell]) (fun b hb => ((Below.heap_setCell _ _ _ _ (by show b ≠ B; omega)).trans (Below.heap_setCell _ _ _ _ (by show b ≠ B; omega))).trans (Below.heap_setCell _ _ _ _ (by show b ≠ B; omega))) a n cap rfl).mono ?_
  rintro e w3 ⟨rfl, hr3, hb3, hg3⟩
  have hbz := ((HBW.out.setCell (p := ⟨B, 0, none⟩) (by show n₀ ≤ B; omega) (.int .i8 3)).setCell (p := ⟨B, 1, none⟩) (by show n₀ ≤ B; omega) (.string ⟨#[]⟩)).setCell (p := ⟨B, 2, none⟩) (by show n₀ ≤ B; omega) (.slice a n cap)
  go_wp2
  go_ret
  exact ⟨rfl, hr3, hbz.trans hb3, fun b h1 h2 => (hg3 b h1 (by simp [World.setCell]; omega)).trans ((((Below.heap_setCell _ _ _ _ (by show b ≠ B; omega)).trans (Below.heap_setCell _ _ _ _ (by show b ≠ B; omega))).trans (Below.heap_setCell _ _ _ _ (by show b ≠ B; omega))).trans (HG2.out b h1 h2))⟩
/-- What a token makes of what has been read. -/
def takeS (s : RS) (k : Nat) (t : List UInt8) : Option RS :=
  if k = 0 then some (pushS s) else
  if k = 1 then (match s with
    | .run [] => none
    | .run (l :: st) => some (putS st (.node 3 [] l))
    | .deep n => some (.deep (n - 1))
    | .fin _ => none) else
  match s with
  | .run st => some (putS st (.node ((k : Int) - 2) t []))
  | .deep n => some (.deep n)
  | .fin _ => none
/-- How great what has been read may be. -/
def OkS (N : Nat) : RS → Prop
  | .run st => st.length ≤ N ∧ ∀ l ∈ st, l.length ≤ N
  | .deep n => n ≤ N ∧ 1 ≤ n
  | .fin _ => False
theorem put_run (n₀ rb N M : Nat) (st : List (List Tree)) (t : Tree) (v : Value) (w : World) (h : RXb M w n₀ rb st t v) (hok : OkS N (.run st)) (hN : N ≤ 1000000) :
    Calls Tryd.prog 42 #[.pointer (some ⟨rb, 0, none⟩), v] w fun e w' => e = .returned (.tuple #[]) ∧ RM w' n₀ rb (putS st t) ∧ Below n₀ w w' ∧ ∀ b, M ≤ b → b < w.heap.size → w'.heap[b]? = w.heap[b]? := by
  cases st with
  | nil => exact put_nil n₀ rb M t v w h
  | cons l r => exact put_cons n₀ rb M l r t v w h (Nat.le_trans (hok.2 l (by simp)) hN)
theorem RXb.to' {M : Nat} {w w' : World} {n₀ rb : Nat} {st : List (List Tree)} {t : Tree} {v : Value} (h : RXb M w n₀ rb st t v) (hs : w.heap.size ≤ w'.heap.size) (hk : ∀ b, b < M → w'.heap[b]? = w.heap[b]?) : RXb M w' n₀ rb st t v := by
  obtain ⟨K, cur, vs, hr, hrd, h1, h2, h3⟩ := h
  exact ⟨K, cur, vs, ⟨hr.toRBase.keep (hk _ h3), hr.few, hr.k.keep hs (fun b hb => hk b (h1 b hb)), StkM.keep st vs (fun b hb => hk b (by
    rcases hb with hb | ⟨v, hv, hb⟩
    · exact h1 b hb
    · exact h2 v hv b hb)) (fun _ _ => rfl) hr.stk⟩, Rd.keep (fun b hb _ => hk b (h1 b (Classical.not_not.1 hb))) t v hrd, h1, h2, h3⟩
theorem RM.rblt {w : World} {n₀ rb : Nat} {s : RS} (h : RM w n₀ rb s) : rb < w.heap.size := by
  cases s with
  | run st => obtain ⟨K, cur, vs, hr⟩ := h; exact hr.toRBase.rblt
  | deep n => obtain ⟨cur, hr⟩ := h; exact hr.rblt
  | fin t => obtain ⟨K, cur, v0, v1, v2, hr, _⟩ := h; exact hr.rblt
theorem take_run (n₀ rb N k : Nat) (t : List UInt8) (p q : Int) (s s' : RS) (w0 w : World) (hK : Kinds w) (h : RM w0 n₀ rb s) (hb0 : Below w0.heap.size w0 w) (hn : n₀ ≤ w.heap.size) (hok : OkS N s) (hN : N < 1000000) (hk : k ≤ 4) (ht : t.length ≤ maxLen) (hs : takeS s k t = some s') :
    Calls Tryd.prog 26 #[.pointer (some ⟨rb, 0, none⟩), .agg #[.int .i8 k, .string (bytesL t), .int .i64 p, .int .i64 q]] w fun e w' => e = .returned (.bool true) ∧ RM w' n₀ rb s' ∧ Below n₀ w w' ∧ ∀ b, w0.heap.size ≤ b → b < w.heap.size → w'.heap[b]? = w.heap[b]? := by
  unfold takeS at hs
  by_cases h0 : k = 0
  · subst h0
    rw [if_pos rfl] at hs
    cases hs
    refine take_open n₀ rb (bytesL t) p q s _ w hK (h.keep hb0) hn (fun W hW => ?_) w0.heap.size h.rblt
    cases s with
    | run st =>
      by_cases hd : st.length = 60
      · have := begin_full n₀ rb st W hW hd
        simp only [pushS, if_pos hd]
        exact this
      · have hlt : st.length < 60 := by
          obtain ⟨K, cur, vs, hr⟩ := hW
          have := hr.few; omega
        have := begin_run n₀ rb st W hW hlt
        simp only [pushS, if_neg hd]
        exact this
    | deep n => exact begin_deep n₀ rb n W hW (by have := hok.1; omega)
    | fin t => exact hok.elim
  · rw [if_neg h0] at hs
    by_cases h1 : k = 1
    · subst h1
      rw [if_pos rfl] at hs
      cases s with
      | fin t => exact hok.elim
      | run st =>
        cases st with
        | nil => cases hs
        | cons l st =>
          simp only [Option.some.injEq] at hs
          subst hs
          have hd : w.cell? ⟨rb, 60, none⟩ = some (.int .i64 (st.length + 1 : Nat)) := by
            obtain ⟨K, cur, vs, hr⟩ := h.keep hb0
            exact hr.toRBase.facts.1
          refine take_close n₀ rb (bytesL t) p q st.length w0.heap.size _ w hK hn hd h.rblt hb0.size (fun W v => RXb w0.heap.size W n₀ rb st (.node 3 [] l) v) (fun W hW => ?_) (fun W W' v hX hsz hkp a n cap hv => ?_)
          · refine (end_run n₀ rb w0.heap.size l st W (RM.bound h (hb0.trans (hW.mono hb0.size)))).mono ?_
            rintro e w' ⟨⟨a, cap, he, hx⟩, h2, h3⟩
            exact ⟨⟨a, _, cap, he, hx⟩, h2, h3⟩
          · exact put_run n₀ rb N w0.heap.size st _ v W' (hX.to' hsz hkp) ⟨by have := hok.1; simp only [List.length_cons] at this; omega, fun l' hl => hok.2 l' (by simp [hl])⟩ (by omega)
      | deep n =>
        simp only [Option.some.injEq] at hs
        subst hs
        obtain ⟨n, rfl⟩ : ∃ m, n = m + 1 := ⟨n - 1, by have := hok.2; omega⟩
        have hw := h.keep hb0
        have hd : w.cell? ⟨rb, 60, none⟩ = some (.int .i64 (n + 1 : Nat)) := by
          obtain ⟨cur, hr⟩ := hw
          exact hr.facts.1
        refine take_close n₀ rb (bytesL t) p q n w0.heap.size _ w hK hn hd h.rblt hb0.size (fun W v => (∃ cur, RBase W n₀ rb cur n true)) (fun W hW => ?_) (fun W W' v hX hsz hkp a m cap hv => ?_)
        · refine (end_deep n₀ rb n W (RM.keep (s := .deep (n + 1)) hw hW) (by have := hok.1; omega)).mono ?_
          rintro e w' ⟨he, h1, h2, h3⟩
          exact ⟨⟨_, 0, 0, he, h1⟩, h2, h3⟩
        · subst hv
          obtain ⟨cur', hr'⟩ := hX
          have hr'' := hr'.keep (hkp rb h.rblt)
          refine (put_deep n₀ rb n 3 ⟨#[]⟩ a m cap W' ⟨cur', hr''⟩).mono ?_
          rintro e w' ⟨he, h1, h2⟩
          have hnW : n₀ ≤ W'.heap.size := by have := hr''.rblt; have := hr''.n0; omega
          exact ⟨he, h1, h2.mono hnW, fun b _ hb => h2.block b hb⟩
    · rw [if_neg h1] at hs
      have hkk : ((k : Int) = 2 ∧ (k : Int) - 2 = 0) ∨ ((k : Int) = 3 ∧ (k : Int) - 2 = 1) ∨ ((k : Int) = 4 ∧ (k : Int) - 2 = 2) := by omega
      refine take_leaf n₀ rb k (k - 2) (bytesL t) p q s' w hkk hK hn w0.heap.size (fun W hW => ?_)
      cases s with
      | fin t => exact hok.elim
      | run st =>
        simp only [Option.some.injEq] at hs
        subst hs
        obtain ⟨K, cur, vs, hr, q1, q2, q3⟩ := RM.bound h (hb0.trans (hW.mono hb0.size))
        exact put_run n₀ rb N w0.heap.size st _ _ W ⟨K, cur, vs, hr, ⟨none, 0, rfl, by simp, by simp, ht, trivial⟩, q1, q2, q3⟩ hok (by omega)
      | deep n =>
        simp only [Option.some.injEq] at hs
        subst hs
        have hW2 : RM W n₀ rb (.deep n) := (h.keep hb0).keep hW
        refine (put_deep n₀ rb n _ _ none 0 0 W hW2).mono ?_
        rintro e w' ⟨he, h1, h2⟩
        obtain ⟨cur, hr⟩ := hW2
        have hnW : n₀ ≤ W.heap.size := by have := hr.rblt; have := hr.n0; omega
        exact ⟨he, h1, h2.mono hnW, fun b _ hb => h2.block b hb⟩
theorem takeS_ok {N k : Nat} {t : List UInt8} {s s' : RS} (hok : OkS N s) (hs : takeS s k t = some s') : (OkS (N + 1) s' ∧ s' ≠ .run []) ∨ (∃ t, s' = .fin t) ∨ s' = .deep 0 := by
  have hput : ∀ st t, OkS N (.run st) → (OkS (N + 1) (putS st t) ∧ putS st t ≠ .run []) ∨ (∃ t', putS st t = .fin t') ∨ putS st t = .deep 0 := by
    intro st t h
    cases st with
    | nil => exact .inr (.inl ⟨t, rfl⟩)
    | cons l r =>
      refine .inl ⟨⟨by have := h.1; simp only [List.length_cons] at this ⊢; omega, fun l' hl => ?_⟩, by simp [putS]⟩
      rcases List.mem_cons.1 hl with rfl | hl
      · have := h.2 l (by simp); simp; omega
      · have := h.2 l' (by simp [hl]); omega
  unfold takeS at hs
  by_cases h0 : k = 0
  · rw [if_pos h0] at hs
    cases hs
    cases s with
    | fin t => exact hok.elim
    | deep n => exact .inl ⟨⟨by have := hok.1; omega, by omega⟩, by simp [pushS]⟩
    | run st =>
      simp only [pushS]
      split
      · exact .inl ⟨⟨by have := hok.1; omega, by omega⟩, by simp⟩
      · refine .inl ⟨⟨by have := hok.1; simp; omega, fun l' hl => ?_⟩, by simp⟩
        rcases List.mem_cons.1 hl with rfl | hl
        · simp
        · have := hok.2 l' hl; omega
  · rw [if_neg h0] at hs
    by_cases h1 : k = 1
    · rw [if_pos h1] at hs
      cases s with
      | fin t => exact hok.elim
      | deep n =>
        simp only [Option.some.injEq] at hs
        subst hs
        by_cases hn : n = 1
        · subst hn; exact .inr (.inr rfl)
        · exact .inl ⟨⟨by have := hok.1; omega, by have := hok.2; omega⟩, by simp⟩
      | run st =>
        cases st with
        | nil => cases hs
        | cons l r =>
          simp only [Option.some.injEq] at hs
          subst hs
          exact hput r _ ⟨by have := hok.1; simp only [List.length_cons] at this; omega, fun l' hl => hok.2 l' (by simp [hl])⟩
    · rw [if_neg h1] at hs
      cases s with
      | fin t => exact hok.elim
      | deep n =>
        simp only [Option.some.injEq] at hs
        subst hs
        exact .inl ⟨⟨by have := hok.1; omega, hok.2⟩, by simp⟩
      | run st =>
        simp only [Option.some.injEq] at hs
        subst hs
        exact hput st _ hok
theorem takeS_none {k : Nat} {t : List UInt8} {s : RS} {N : Nat} (hok : OkS N s) (hs : takeS s k t = none) : k = 1 ∧ s = .run [] := by
  unfold takeS at hs
  by_cases h0 : k = 0
  · rw [if_pos h0] at hs; cases hs
  · rw [if_neg h0] at hs
    by_cases h1 : k = 1
    · rw [if_pos h1] at hs
      cases s with
      | fin t => exact hok.elim
      | deep n => cases hs
      | run st =>
        cases st with
        | nil => exact ⟨h1, rfl⟩
        | cons l r => cases hs
    · rw [if_neg h1] at hs
      cases s with
      | fin t => exact hok.elim
      | deep n => cases hs
      | run st => cases hs
end Go.Proofs.YthbgigjjmojgfaaDoor
