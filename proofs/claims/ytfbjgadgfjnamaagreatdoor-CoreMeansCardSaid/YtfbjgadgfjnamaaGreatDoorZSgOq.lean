/- Arguments that are signatures and functions, opened: the rest. -/
import Derived.Test.YtfbjgadgfjnamaaGreatDoorZSexRd
import Derived.Deep.Slices
import Derived.ChangeArms
import Derived.OpenShut
import Derived.Test.YtfbjgadgfjnamaaGreatDoorZSgA
import Derived.SizedLaws
namespace Go.Proofs.YtfbjgadgfjnamaaGreatDoor
open Go.RowKit
set_option linter.unusedVariables false
theorem cSexp : Tryz.prog.cellsOf 67 = 3 := by kernel_rfl
theorem cI8 : Tryz.prog.cellsOf 44 = 1 := by kernel_rfl
theorem cStr : Tryz.prog.cellsOf 9 = 1 := by kernel_rfl
theorem cSl : Tryz.prog.cellsOf 65 = 1 := by kernel_rfl
theorem cells3 {w : World} {a : Addr} {cs : List Value} (h : w.cells? 0 a 3 = some cs) : ∃ v0 v1 v2, cs = [v0, v1, v2] ∧ w.cell? (a.add 0) = some v0 ∧ w.cell? (a.add 1) = some v1 ∧ w.cell? (a.add 2) = some v2 := by
  unfold World.cells? at h
  rw [if_pos (Nat.zero_le _)] at h
  have e : List.range 3 = [0, 1, 2] := rfl
  rw [e] at h
  simp only [List.mapM_cons, List.mapM_nil, Option.bind_eq_bind, Option.bind_eq_some_iff, Option.pure_def, Option.some.injEq] at h
  obtain ⟨v0, h0, _, ⟨v1, h1, _, ⟨v2, h2, _, rfl, rfl⟩, rfl⟩, rfl⟩ := h
  exact ⟨v0, v1, v2, rfl, h0, h1, h2⟩
theorem spot_none {w : World} {a : Addr} {v : Value} (h : w.cell? a = some v) : a = ⟨a.block, a.off, none⟩ ∧ a.block < w.heap.size := by
  unfold World.cell? at h
  split at h
  · rename_i c ty fr hc
    split at h
    · cases h
    · rename_i hs
      refine ⟨?_, (Array.getElem?_eq_some_iff.1 hc).1⟩
      obtain ⟨b, o, s⟩ := a
      cases s with
      | none => rfl
      | some x => simp at hs
  · cases h
end Go.Proofs.YtfbjgadgfjnamaaGreatDoor
namespace Go.Proofs.YtfbjgadgfjnamaaGreatDoor
open Go.RowKit
set_option linter.unusedVariables false
def RowsT : Tree → Prop
  | .node _ _ l => l.length * 48 ≤ 140737488355328 ∧ ∀ t, t ∈ l → RowsT t
theorem RowsT.kids {t : Tree} (h : RowsT t) : t.kids.length * 48 ≤ 140737488355328 ∧ ∀ c ∈ t.kids, RowsT c := by
  cases t with
  | node k s l => unfold RowsT at h; exact h
theorem add_add {a : Addr} (hsp : a = ⟨a.block, a.off, none⟩) (i j : Nat) : (a.add i).add j = ⟨a.block, a.off + (i + j), none⟩ := by
  rw [hsp]
  unfold Addr.add
  by_cases h : i = 0 <;> by_cases h' : j = 0 <;> simp [h, h', Nat.add_assoc]
theorem rows_open {α : Type} {f : α → List Value} {n : Nat} (hn0 : 0 < n) (hn : ∀ x, (f x).length = n) {Q : α → Prop} {W : World} {a : Addr} {len : Nat} (h : ∀ i, i < len → ∃ x, W.cells? 0 (a.add (i * n)) n = some (f x) ∧ Q x) :
    ∃ l : List α, l.length = len ∧ (∀ y ∈ l, Q y) ∧ At W W.heap.size (l.flatMap f) (some a) := by
  obtain ⟨l, hl, hg⟩ : ∃ l : List α, l.length = len ∧ ∀ i y, l[i]? = some y → W.cells? 0 (a.add (i * n)) n = some (f y) ∧ Q y := by
    induction len with
    | zero => exact ⟨[], rfl, fun i y hy => by simp at hy⟩
    | succ k ih =>
      obtain ⟨l, hl, hg⟩ := ih (fun i hi => h i (by omega))
      obtain ⟨x, hx⟩ := h k (by omega)
      refine ⟨l ++ [x], by simp [hl], fun i y hy => ?_⟩
      by_cases hi : i < l.length
      · rw [List.getElem?_append_left hi] at hy
        exact hg i y hy
      · have hi2 : i = k := by
          have := (List.getElem?_eq_some_iff.1 hy).1
          simp at this
          omega
        subst hi2
        rw [List.getElem?_append_right (by omega), hl] at hy
        simp at hy
        subst hy
        exact hx
  refine ⟨l, hl, fun y hy => ?_, fun h0 => ?_⟩
  · obtain ⟨i, hi⟩ := List.getElem?_of_mem hy
    exact (hg i y hi).2
  · rw [len_flat hn] at h0
    have hl0 : 0 < l.length := Nat.pos_of_mul_pos_right h0 
    obtain ⟨y0, hy0⟩ : ∃ y, l[0]? = some y := ⟨_, List.getElem?_eq_getElem hl0⟩
    obtain ⟨_, _, hc⟩ := World.cells?_some (hg 0 y0 hy0).1
    have q := hc 0 hn0
    obtain ⟨v0, hv0⟩ : ∃ v, (f y0)[0]? = some v := ⟨_, List.getElem?_eq_getElem (by rw [hn]; exact hn0)⟩
    rw [hv0] at q
    have e00 : (a.add (0 * n)).add 0 = a := by simp [Addr.add]
    rw [e00] at q
    obtain ⟨hsp, hab⟩ := spot_none q
    refine ⟨a.block, a.off, by rw [← hsp], hab, fun i v hv => ?_⟩
    have hi : i < l.length * n := by have := (List.getElem?_eq_some_iff.1 hv).1; rwa [len_flat hn] at this
    have hq : i / n < l.length := Nat.div_lt_of_lt_mul (by rw [Nat.mul_comm]; exact hi)
    have hr : i % n < n := Nat.mod_lt _ hn0
    obtain ⟨y, hy⟩ : ∃ y, l[i / n]? = some y := ⟨_, List.getElem?_eq_getElem hq⟩
    have hs : i / n * n + i % n = i := by rw [Nat.mul_comm]; exact Nat.div_add_mod i n
    have e := get_flat hn l (i / n) (i % n) y hy hr
    rw [hs] at e
    obtain ⟨_, _, hc'⟩ := World.cells?_some (hg (i / n) y hy).1
    have q' := hc' (i % n) hr
    rw [add_add hsp, hs] at q'
    rw [q', ← e]
    exact hv
/-- All that is weighed is no more than memory has. -/
def WB {H : Type} (t : TypeId) (d : DataW H) : Prop := ∀ n ∈ d.weights Tryz.prog t, n ≤ reachBytes
theorem wb_field {H : Type} {t tj : TypeId} {fs : Array Field} {ds : List (DataW H)} {d : DataW H} (hu : Tryz.prog.underlying t = some (.struct fs)) (h : WB t (.agg ds)) (j : Nat) (ht : (fs.toList.map (·.type))[j]? = some tj) (hd : ds[j]? = some d) : WB tj d := fun n hn => h n (by
  simp only [DataW.weights, hu]
  exact DataW.weights_mem_each ht hd n hn)
theorem weights_mem_all {H : Type} {P : Program} {e : TypeId} {d : DataW H} {n : Nat} (hn : n ∈ d.weights P e) : ∀ {l : List (DataW H)}, d ∈ l → n ∈ DataW.weightsAll P e l
  | y :: l, hd => by
    simp only [DataW.weightsAll, List.mem_append]
    rcases List.mem_cons.1 hd with rfl | hd
    · exact Or.inl hn
    · exact Or.inr (weights_mem_all hn hd)
theorem wb_elem {H : Type} {t e : TypeId} {es sp : List (DataW H)} {d : DataW H} (hu : Tryz.prog.underlying t = some (.slice e)) (h : WB t (.slice es sp)) (hd : d ∈ es) : WB e d := fun n hn => h n (by
  simp only [DataW.weights, hu, List.mem_cons, List.mem_append]
  exact Or.inr (Or.inl (weights_mem_all hn hd)))
theorem wb_len {H : Type} {t e : TypeId} {es sp : List (DataW H)} (hu : Tryz.prog.underlying t = some (.slice e)) (h : WB t (.slice es sp)) : (es.length + sp.length) * Tryz.prog.bytesOf e ≤ reachBytes := h _ (by
  simp only [DataW.weights, hu, List.mem_cons, true_or])
theorem bSexp : Tryz.prog.bytesOf 67 = 48 := by kernel_rfl
theorem build_rdl2 {w : World} {bad : Nat → Prop} {Q : Tree → Prop} {g : Nat} (hg : ¬ bad g) : ∀ (n o : Nat), (∀ i, i < n → ∃ t v0 v1 v2, w.frozen? ⟨g, o + i * 3, none⟩ = false ∧ w.cell? ⟨g, o + i * 3, none⟩ = some v0 ∧ w.cell? ⟨g, o + i * 3 + 1, none⟩ = some v1 ∧ w.cell? ⟨g, o + i * 3 + 1 + 1, none⟩ = some v2 ∧ Rd w bad t (.agg #[v0, v1, v2]) ∧ Q t) →
    ∃ l : List Tree, l.length = n ∧ RdL w bad l (some ⟨g, o, none⟩) ∧ ∀ t ∈ l, Q t
  | 0, o, _ => ⟨[], rfl, trivial, fun _ h => by simp at h⟩
  | n + 1, o, h => by
    obtain ⟨t, v0, v1, v2, hf, c0, c1, c2, hr, hq⟩ := h 0 (by omega)
    obtain ⟨l, hl, hrl, hql⟩ := build_rdl2 hg n (o + 3) (fun i hi => by
      have := h (i + 1) (by omega)
      rw [show o + (i + 1) * 3 = o + 3 + i * 3 by omega] at this
      exact this)
    simp only [Nat.zero_mul, Nat.add_zero] at hf c0 c1 c2
    exact ⟨t :: l, by simp [hl], ⟨g, o, v0, v1, v2, rfl, hg, hf, c0, c1, c2, hr, hrl⟩, fun u hu => by
      rcases List.mem_cons.1 hu with rfl | hu
      · exact hq
      · exact hql u hu⟩
theorem open_rd {H : Type} {enc : TypeId × Value → H} {W : World} {sp : Nat → Bool} {held : Bool} : ∀ (fuel : Nat) (cs : List Value) (x : DataW H × List MemPlace), DataW.trod enc Tryz.prog W 0 sp held fuel 67 cs = some x → W.noneFrozen x.2 →
    ∃ (t : Tree) (a : Option Addr) (cap : Nat), cs = [.int .i8 t.kind, .string (bytesL t.text), .slice a t.kids.length cap] ∧ Rd W (fun b => W.heap.size ≤ b) t (.agg #[.int .i8 t.kind, .string (bytesL t.text), .slice a t.kids.length cap]) ∧ (WB 67 x.1 → RowsT t) := by
  intro fuel
  induction fuel using Nat.strongRecOn with
  | _ fuel ih =>
    intro cs x h hfz
    obtain ⟨xs, n, rfl, rfl, hlen, hxs, hf⟩ := DataW.trod_struct Tryz.underlying67 h
    rw [cSexp] at hlen
    obtain ⟨c0, c1, c2, rfl⟩ : ∃ c0 c1 c2, cs = [c0, c1, c2] := by
      clear h hf ih hfz
      match cs, hlen with
      | [a, b, c], _ => exact ⟨a, b, c, rfl⟩
    obtain ⟨y0, y1, y2, rfl⟩ : ∃ a b c, xs = [a, b, c] := by
      have h3 : xs.length = 3 := hxs
      clear h hf ih hfz hxs
      match xs, h3 with
      | [a, b, c], _ => exact ⟨a, b, c, rfl⟩
    have h0 := hf 0 ({ name := "Kind", type := 44, offset := 0, embedded := false, tag := "", pkgPath := "", byteOffset := 0 }) rfl
    have h1 := hf 1 ({ name := "Text", type := 9, offset := 1, embedded := false, tag := "", pkgPath := "", byteOffset := 8 }) rfl
    have h2 := hf 2 ({ name := "L", type := 65, offset := 2, embedded := false, tag := "", pkgPath := "", byteOffset := 24 }) rfl
    simp only [cI8, cStr, cSl, List.drop_zero, List.take_succ_cons, List.take_zero, List.drop_succ_cons, List.getElem?_cons_zero, List.getElem?_cons_succ] at h0 h1 h2
    obtain ⟨k, e0, _, _⟩ := DataW.trod_int Tryz.underlying44 h0
    obtain ⟨s, e1, _, hs⟩ := DataW.trod_string Tryz.underlying9 h1
    simp only [List.cons.injEq, and_true] at e0 e1
    subst e0 e1
    have hsl : (s.data.toList).length ≤ maxLen := by simpa using hs
    have hse : bytesL s.data.toList = s := bytesL_self s
    rcases DataW.trod_slice Tryz.underlying65 h2 with ⟨e2, _⟩ | ⟨a, len, cap, elems, rest, m, rfl, e2, hx2, _, hlc, hcm, hel, hi, _, _⟩
    · simp only [List.cons.injEq, and_true] at e2
      subst e2
      exact ⟨.node k s.data.toList [], none, 0, (by show _ = [_, Value.string (bytesL s.data.toList), _]; rw [hse]; rfl), ⟨none, 0, rfl, by simp, by simp, hsl, trivial⟩, fun _ => by unfold RowsT; simp⟩
    · simp only [List.cons.injEq, and_true] at e2
      subst e2
      have hfz2 : W.noneFrozen y2.2 := fun b off hb => hfz b off (by simp [hb])
      rw [hx2] at hfz2
      rw [cSexp] at hi hfz2
      by_cases hl0 : len = 0
      · subst hl0
        exact ⟨.node k s.data.toList [], some a, cap, (by show _ = [_, Value.string (bytesL s.data.toList), _]; rw [hse]; rfl), ⟨some a, cap, rfl, by simp, hcm, hsl, trivial⟩, fun _ => by unfold RowsT; simp⟩
      · have h00 := hi 0 (by omega)
        obtain ⟨z, hz⟩ : ∃ z, elems[0]? = some z := ⟨_, List.getElem?_eq_getElem (by omega)⟩
        rw [hz] at h00
        obtain ⟨cs', hc', _⟩ := Option.bind_eq_some_iff.1 h00
        obtain ⟨w0, _, _, _, q0, _, _⟩ := cells3 hc'
        have e00 : (a.add (0 * 3)).add 0 = a := by simp [Addr.add]
        rw [e00] at q0
        obtain ⟨hsp, hab⟩ := spot_none q0
        have hall : ∀ i, i < len → ∃ t v0 v1 v2, W.frozen? ⟨a.block, a.off + i * 3, none⟩ = false ∧ W.cell? ⟨a.block, a.off + i * 3, none⟩ = some v0 ∧ W.cell? ⟨a.block, a.off + i * 3 + 1, none⟩ = some v1 ∧ W.cell? ⟨a.block, a.off + i * 3 + 1 + 1, none⟩ = some v2 ∧ Rd W (fun b => W.heap.size ≤ b) t (.agg #[v0, v1, v2]) ∧ (WB 65 y2.1 → RowsT t) := fun i hil => by
          have hh := hi i hil
          obtain ⟨z, hz⟩ : ∃ z, elems[i]? = some z := ⟨_, List.getElem?_eq_getElem (by omega)⟩
          rw [hz] at hh
          obtain ⟨cs', hc', ht'⟩ := Option.bind_eq_some_iff.1 hh
          have hzm : z ∈ elems := List.mem_of_getElem? hz
          obtain ⟨t, ta, tc, rfl, hr, hw⟩ := ih m (by omega) cs' z ht' (fun b off hb => hfz2 b off (List.mem_append_right _ (List.mem_flatMap.2 ⟨z, List.mem_append_left _ hzm, hb⟩)))
          obtain ⟨w0, w1, w2, e, q0, q1, q2⟩ := cells3 hc'
          simp only [List.cons.injEq, and_true] at e
          obtain ⟨rfl, rfl, rfl⟩ := e
          rw [add_add hsp] at q0 q1 q2
          refine ⟨t, _, _, _, hfz2 _ _ (List.mem_append_left _ ?_), q0, q1, q2, hr, fun hB => hw (wb_elem Tryz.underlying65 (by rw [hx2] at hB; exact hB) (List.mem_map_of_mem hzm))⟩
          unfold MemPlace.row
          refine List.mem_map.2 ⟨i * 3, List.mem_range.2 ?_, rfl⟩
          have : (i + 1) * 3 ≤ (elems.length + rest.length) * 3 := Nat.mul_le_mul_right _ (by omega)
          omega
        obtain ⟨l, hl, hrl, hql⟩ := build_rdl2 (w := W) (bad := fun b => W.heap.size ≤ b) (Q := fun t => WB 65 y2.1 → RowsT t) (g := a.block) (by omega) len a.off (fun i hi' => hall i hi')
        refine ⟨.node k s.data.toList l, some a, cap, (by show _ = [_, Value.string (bytesL s.data.toList), Value.slice (some a) l.length cap]; rw [hse, hl]; rfl), ⟨some a, cap, rfl, by show l.length ≤ cap; omega, hcm, hsl, ?_⟩, fun hB => ?_⟩
        · rw [hsp]
          exact hrl
        · have hB2 : WB 65 y2.1 := wb_field Tryz.underlying67 hB 2 rfl rfl
          have hln := hB2
          rw [hx2] at hln
          have := wb_len Tryz.underlying65 hln
          rw [bSexp, List.length_map, List.length_map] at this
          unfold RowsT
          refine ⟨?_, fun t ht => hql t ht hB2⟩
          have hrb : reachBytes ≤ 140737488355328 := by decide
          have h3 : l.length * 48 ≤ (elems.length + rest.length) * 48 := Nat.mul_le_mul_right _ (by omega)
          omega
end Go.Proofs.YtfbjgadgfjnamaaGreatDoor
namespace Go.Proofs.YtfbjgadgfjnamaaGreatDoor
open Go.RowKit
set_option linter.unusedVariables false
theorem cFun : Tryz.prog.cellsOf 120 = 6 := by kernel_rfl
theorem cMac : Tryz.prog.cellsOf 69 = 6 := by kernel_rfl
theorem cPar : Tryz.prog.cellsOf 182 = 2 := by kernel_rfl
theorem cSig : Tryz.prog.cellsOf 26 = 3 := by kernel_rfl
theorem cInt : Tryz.prog.cellsOf 3 = 1 := by kernel_rfl
theorem cArr : Tryz.prog.cellsOf 45 = 3 := by kernel_rfl
theorem cStrs : Tryz.prog.cellsOf 22 = 1 := by kernel_rfl
theorem cFuns : Tryz.prog.cellsOf 23 = 1 := by kernel_rfl
theorem cMacs : Tryz.prog.cellsOf 24 = 1 := by kernel_rfl
theorem cPars : Tryz.prog.cellsOf 64 = 1 := by kernel_rfl
theorem bStr9 : Tryz.prog.bytesOf 9 = 16 := by kernel_rfl
theorem i64_wf {x : Int} (h : (Lit.int .i64 x).wf = true) : I64 x := by
  have := bounds_i64 h
  exact ⟨by omega, by omega⟩
theorem list2 {α : Type} {l : List α} (h : l.length = 2) : ∃ a b, l = [a, b] := by
  match l, h with
  | [a, b], _ => exact ⟨a, b, rfl⟩
theorem list3 {α : Type} {l : List α} (h : l.length = 3) : ∃ a b c, l = [a, b, c] := by
  match l, h with
  | [a, b, c], _ => exact ⟨a, b, c, rfl⟩
theorem list4 {α : Type} {l : List α} (h : l.length = 4) : ∃ a b c d, l = [a, b, c, d] := by
  match l, h with
  | [a, b, c, d], _ => exact ⟨a, b, c, d, rfl⟩
theorem list6 {α : Type} {l : List α} (h : l.length = 6) : ∃ a b c d e f, l = [a, b, c, d, e, f] := by
  match l, h with
  | [a, b, c, d, e, f], _ => exact ⟨a, b, c, d, e, f, rfl⟩
section
variable {H : Type} {enc : TypeId × Value → H} {W : World} {sp : Nat → Bool} {held : Bool}
theorem open_int1 {fuel : Nat} {c : Value} {x : DataW H × List MemPlace} (h : DataW.trod enc Tryz.prog W 0 sp held fuel 3 [c] = some x) : ∃ n, c = .int .i64 n ∧ I64 n := by
  obtain ⟨n, e, _, hw⟩ := DataW.trod_int Tryz.underlying3 h
  simp only [List.cons.injEq, and_true] at e
  exact ⟨n, e, i64_wf hw⟩
theorem open_str1 {fuel : Nat} {c : Value} {x : DataW H × List MemPlace} (h : DataW.trod enc Tryz.prog W 0 sp held fuel 9 [c] = some x) : ∃ s, c = .string s ∧ s.size ≤ maxLen := by
  obtain ⟨n, e, _, hw⟩ := DataW.trod_string Tryz.underlying9 h
  simp only [List.cons.injEq, and_true] at e
  exact ⟨n, e, hw⟩
theorem open_par {fuel : Nat} {cs : List Value} {x : DataW H × List MemPlace} (h : DataW.trod enc Tryz.prog W 0 sp held fuel 182 cs = some x) : ∃ p : ParA, cs = parC p ∧ ParOk p := by
  obtain ⟨xs, n, rfl, rfl, hlen, hxs, hf⟩ := DataW.trod_struct Tryz.underlying182 h
  rw [cPar] at hlen
  clear h
  obtain ⟨c0, c1, rfl⟩ := list2 hlen
  obtain ⟨y0, y1, rfl⟩ := list2 (show xs.length = 2 from hxs)
  have h0 := hf 0 ({ name := "Name", type := 9, offset := 0, embedded := false, tag := "", pkgPath := "", byteOffset := 0 }) rfl
  have h1 := hf 1 ({ name := "Sort", type := 3, offset := 1, embedded := false, tag := "", pkgPath := "", byteOffset := 16 }) rfl
  simp only [cInt, cStr, List.drop_zero, List.take_succ_cons, List.take_zero, List.drop_succ_cons, List.getElem?_cons_zero, List.getElem?_cons_succ] at h0 h1
  obtain ⟨s, rfl, hs⟩ := open_str1 h0
  obtain ⟨n, rfl, hn⟩ := open_int1 h1
  exact ⟨⟨s, n⟩, rfl, hs, hn⟩
theorem open_fun {fuel : Nat} {cs : List Value} {x : DataW H × List MemPlace} (h : DataW.trod enc Tryz.prog W 0 sp held fuel 120 cs = some x) : ∃ f : FunA, cs = funC f ∧ FunOk f := by
  obtain ⟨xs, n, rfl, rfl, hlen, hxs, hf⟩ := DataW.trod_struct Tryz.underlying120 h
  rw [cFun] at hlen
  clear h
  obtain ⟨c0, c1, c2, c3, c4, c5, rfl⟩ := list6 hlen
  obtain ⟨y0, y1, y2, y3, rfl⟩ := list4 (show xs.length = 4 from hxs)
  have h0 := hf 0 ({ name := "Name", type := 9, offset := 0, embedded := false, tag := "", pkgPath := "", byteOffset := 0 }) rfl
  have h1 := hf 1 ({ name := "Len", type := 3, offset := 1, embedded := false, tag := "", pkgPath := "", byteOffset := 16 }) rfl
  have h2 := hf 2 ({ name := "Args", type := 45, offset := 2, embedded := false, tag := "", pkgPath := "", byteOffset := 24 }) rfl
  have h3 := hf 3 ({ name := "Res", type := 3, offset := 5, embedded := false, tag := "", pkgPath := "", byteOffset := 48 }) rfl
  simp only [cInt, cStr, cArr, List.drop_zero, List.take_succ_cons, List.take_zero, List.drop_succ_cons, List.getElem?_cons_zero, List.getElem?_cons_succ] at h0 h1 h2 h3
  obtain ⟨s, rfl, hs⟩ := open_str1 h0
  obtain ⟨n1, rfl, hn1⟩ := open_int1 h1
  obtain ⟨n5, rfl, hn5⟩ := open_int1 h3
  obtain ⟨zs, m, rfl, hx, hl2, hz, hg⟩ := DataW.trod_array Tryz.underlying45 h2
  obtain ⟨z0, z1, z2, rfl⟩ := list3 hz
  have g0 := hg 0 (by decide)
  have g1 := hg 1 (by decide)
  have g2 := hg 2 (by decide)
  simp only [cInt, Nat.mul_one, List.drop_zero, List.take_succ_cons, List.take_zero, List.drop_succ_cons, List.getElem?_cons_zero, List.getElem?_cons_succ] at g0 g1 g2
  obtain ⟨n2, rfl, hn2⟩ := open_int1 g0
  obtain ⟨n3, rfl, hn3⟩ := open_int1 g1
  obtain ⟨n4, rfl, hn4⟩ := open_int1 g2
  exact ⟨⟨s, n1, n2, n3, n4, n5⟩, rfl, hs, hn1, hn2, hn3, hn4, hn5⟩
/-- A slice of what opens. -/
theorem open_row {α : Type} {f : α → List Value} {n : Nat} (hn0 : 0 < n) (hn : ∀ x, (f x).length = n) {Q : DataW H → α → Prop} {t e : TypeId} (hu : Tryz.prog.underlying t = some (.slice e)) (hc : Tryz.prog.cellsOf e = n)
    (ho : ∀ (fuel : Nat) (cs : List Value) (x : DataW H × List MemPlace), DataW.trod enc Tryz.prog W 0 sp held fuel e cs = some x → W.noneFrozen x.2 → ∃ y, cs = f y ∧ Q x.1 y)
    {fuel : Nat} {c : Value} {x : DataW H × List MemPlace} (h : DataW.trod enc Tryz.prog W 0 sp held fuel t [c] = some x) (hfz : W.noneFrozen x.2) :
    ∃ (l : List α) (a : Option Addr) (cap : Nat), c = .slice a l.length cap ∧ l.length ≤ cap ∧ cap ≤ maxLen ∧ At W W.heap.size (l.flatMap f) a ∧ (∀ y ∈ l, ∃ d, Q d y ∧ (WB t x.1 → WB e d)) ∧ (WB t x.1 → l.length * Tryz.prog.bytesOf e ≤ reachBytes) := by
  rcases DataW.trod_slice hu h with ⟨e2, _⟩ | ⟨a, len, cap, elems, rest, m, rfl, e2, hx2, _, hlc, hcm, hel, hi, _, _⟩
  · simp only [List.cons.injEq, and_true] at e2
    exact ⟨[], none, 0, e2, Nat.le_refl _, Nat.zero_le _, fun h => absurd h (by simp), fun _ h => by simp at h, fun _ => by simp⟩
  · simp only [List.cons.injEq, and_true] at e2
    subst e2
    rw [hx2] at hfz
    rw [hc] at hi
    obtain ⟨l, hl, hq, hat⟩ := rows_open (f := f) (Q := fun y => ∃ d, Q d y ∧ (WB t x.1 → WB e d)) (W := W) (a := a) (len := len) hn0 hn (fun i hil => by
      have hh := hi i hil
      obtain ⟨z, hz⟩ : ∃ z, elems[i]? = some z := ⟨_, List.getElem?_eq_getElem (by omega)⟩
      rw [hz] at hh
      obtain ⟨cs', hc', ht'⟩ := Option.bind_eq_some_iff.1 hh
      have hzm : z ∈ elems := List.mem_of_getElem? hz
      obtain ⟨y, rfl, hy⟩ := ho m cs' z ht' (fun b off hb => hfz b off (List.mem_append_right _ (List.mem_flatMap.2 ⟨z, List.mem_append_left _ hzm, hb⟩)))
      exact ⟨y, hc', z.1, hy, fun hB => wb_elem hu (by rw [hx2] at hB; exact hB) (List.mem_map_of_mem hzm)⟩)
    refine ⟨l, some a, cap, by rw [hl], by omega, hcm, hat, hq, fun hB => ?_⟩
    rw [hx2] at hB
    refine Nat.le_trans (Nat.mul_le_mul_right _ ?_) (wb_len hu hB)
    simp only [List.length_map]
    omega
theorem open_mac {fuel : Nat} {cs : List Value} {x : DataW H × List MemPlace} (h : DataW.trod enc Tryz.prog W 0 sp held fuel 69 cs = some x) (hfz : W.noneFrozen x.2) : ∃ m : MacV, cs = macC m ∧ MacOk W W.heap.size m ∧ (WB 69 x.1 → RowsT m.m.body) := by
  obtain ⟨xs, n, rfl, rfl, hlen, hxs, hf⟩ := DataW.trod_struct Tryz.underlying69 h
  rw [cMac] at hlen
  clear h
  obtain ⟨c0, c1, c2, c3, c4, c5, rfl⟩ := list6 hlen
  obtain ⟨y0, y1, y2, y3, rfl⟩ := list4 (show xs.length = 4 from hxs)
  have h0 := hf 0 ({ name := "Name", type := 9, offset := 0, embedded := false, tag := "", pkgPath := "", byteOffset := 0 }) rfl
  have h1 := hf 1 ({ name := "Params", type := 64, offset := 1, embedded := false, tag := "", pkgPath := "", byteOffset := 16 }) rfl
  have h2 := hf 2 ({ name := "Res", type := 3, offset := 2, embedded := false, tag := "", pkgPath := "", byteOffset := 40 }) rfl
  have h3 := hf 3 ({ name := "Body", type := 67, offset := 3, embedded := false, tag := "", pkgPath := "", byteOffset := 48 }) rfl
  simp only [cInt, cStr, cPars, cSexp, List.drop_zero, List.take_succ_cons, List.take_zero, List.drop_succ_cons, List.getElem?_cons_zero, List.getElem?_cons_succ] at h0 h1 h2 h3
  obtain ⟨s, rfl, hs⟩ := open_str1 h0
  obtain ⟨n2, rfl, hn2⟩ := open_int1 h2
  obtain ⟨l, a, cap, rfl, q1, q2, q3, q4, _⟩ := open_row (f := parC) (n := 2) (Q := fun _ p => ParOk p) (by decide) parC_len Tryz.underlying64 cPar (fun fuel cs x h _ => open_par h) h1 (fun b off hb => hfz b off (by simp [hb]))
  obtain ⟨t, ba, bc, e3, r1, r2⟩ := open_rd _ _ _ h3 (fun b off hb => hfz b off (by simp [hb]))
  simp only [List.cons.injEq, and_true] at e3
  obtain ⟨rfl, rfl, rfl⟩ := e3
  exact ⟨⟨⟨s, l, n2, t⟩, a, cap, ba, bc⟩, rfl, ⟨hs, q1, q2, q3, fun p hp => (q4 p hp).choose_spec.1, hn2, r1⟩, fun hB => r2 (wb_field Tryz.underlying69 hB 3 rfl rfl)⟩
theorem open_sig {fuel : Nat} {cs : List Value} {x : DataW H × List MemPlace} (h : DataW.trod enc Tryz.prog W 0 sp held fuel 26 cs = some x) (hfz : W.noneFrozen x.2) : ∃ z : SigV, cs = [.slice z.sa z.sorts.length z.sc, .slice z.fa z.funs.length z.fc, .slice z.ma z.macs.length z.mc] ∧ SigR W z ∧ (WB 26 x.1 → z.sorts.length ≤ 140737488355328 ∧ ∀ s ∈ z.sorts, s.size ≤ 140737488355328) := by
  obtain ⟨xs, n, rfl, rfl, hlen, hxs, hf⟩ := DataW.trod_struct Tryz.underlying26 h
  rw [cSig] at hlen
  clear h
  obtain ⟨c0, c1, c2, rfl⟩ := list3 hlen
  obtain ⟨y0, y1, y2, rfl⟩ := list3 (show xs.length = 3 from hxs)
  have h0 := hf 0 ({ name := "Sorts", type := 22, offset := 0, embedded := false, tag := "", pkgPath := "", byteOffset := 0 }) rfl
  have h1 := hf 1 ({ name := "Funs", type := 23, offset := 1, embedded := false, tag := "", pkgPath := "", byteOffset := 24 }) rfl
  have h2 := hf 2 ({ name := "Macros", type := 24, offset := 2, embedded := false, tag := "", pkgPath := "", byteOffset := 48 }) rfl
  simp only [cStrs, cFuns, cMacs, List.drop_zero, List.take_succ_cons, List.take_zero, List.drop_succ_cons, List.getElem?_cons_zero, List.getElem?_cons_succ] at h0 h1 h2
  obtain ⟨ss, sa, sc, rfl, s1, s2, s3, s4, s5⟩ := open_row (f := strC) (n := 1) (Q := fun d s => s.size ≤ maxLen ∧ (WB 9 d → s.size ≤ 140737488355328)) (by decide) strC_len Tryz.underlying22 cStr (fun fuel cs x h _ => by
    obtain ⟨s, e, hx, hs⟩ := DataW.trod_string Tryz.underlying9 h
    refine ⟨s, e, hs, fun hB => ?_⟩
    rw [hx] at hB
    have := hB s.data.toList.length (by simp [DataW.weights])
    have e2 : s.data.toList.length = s.size := Array.length_toList
    simp only [reachBytes] at this
    omega) h0 (fun b off hb => hfz b off (by simp [hb]))
  obtain ⟨fs, fa, fc, rfl, f1, f2, f3, f4, _⟩ := open_row (f := funC) (n := 6) (Q := fun _ p => FunOk p) (by decide) funC_len Tryz.underlying23 cFun (fun fuel cs x h _ => open_fun h) h1 (fun b off hb => hfz b off (by simp [hb]))
  obtain ⟨ms, ma, mc, rfl, m1, m2, m3, m4, _⟩ := open_row (f := macC) (n := 6) (Q := fun d p => MacOk W W.heap.size p ∧ (WB 69 d → RowsT p.m.body)) (by decide) macC_len Tryz.underlying24 cMac (fun fuel cs x h hz => open_mac h hz) h2 (fun b off hb => hfz b off (by simp [hb]))
  refine ⟨⟨ss, sa, sc, fs, fa, fc, ms, ma, mc⟩, rfl, ⟨s1, s2, s3, fun s hs => (s4 s hs).choose_spec.1.1, f1, f2, f3, fun s hs => (f4 s hs).choose_spec.1, m1, m2, m3, fun s hs => (m4 s hs).choose_spec.1.1⟩, fun hB => ⟨?_, fun s hs => ?_⟩⟩
  · have h := s5 (wb_field Tryz.underlying26 hB 0 rfl rfl)
    rw [bStr9] at h
    simp only [reachBytes] at h
    show ss.length ≤ _
    omega
  · obtain ⟨d, ⟨_, hd⟩, hw⟩ := s4 s hs
    exact hd (hw (wb_field Tryz.underlying26 hB 0 rfl rfl))
end
end Go.Proofs.YtfbjgadgfjnamaaGreatDoor
