/- Arguments that are signatures and functions, opened: the rest. -/
import Derived.Test.YtinogambkfihpaaDoorSgOp
namespace Go.Proofs.YtinogambkfihpaaDoor
open Go.RowKit
set_option linter.unusedVariables false
theorem cFun : Tryd.prog.cellsOf 89 = 6 := by kernel_rfl
theorem cMac : Tryd.prog.cellsOf 53 = 6 := by kernel_rfl
theorem cPar : Tryd.prog.cellsOf 121 = 2 := by kernel_rfl
theorem cSig : Tryd.prog.cellsOf 26 = 3 := by kernel_rfl
theorem cInt : Tryd.prog.cellsOf 3 = 1 := by kernel_rfl
theorem cArr : Tryd.prog.cellsOf 64 = 3 := by kernel_rfl
theorem cStrs : Tryd.prog.cellsOf 22 = 1 := by kernel_rfl
theorem cFuns : Tryd.prog.cellsOf 23 = 1 := by kernel_rfl
theorem cMacs : Tryd.prog.cellsOf 24 = 1 := by kernel_rfl
theorem cPars : Tryd.prog.cellsOf 47 = 1 := by kernel_rfl
theorem bStr9 : Tryd.prog.bytesOf 9 = 16 := by kernel_rfl
theorem i64_wf {x : Int} (h : (Lit.int .i64 x).wf = true) : I64 x := by
  have := bounds_i64 h
  exact ⟨by omega, by omega⟩
theorem list2 {α : Type} {l : List α} (h : l.length = 2) : ∃ a b, l = [a, b] := by
  match l, h with
  | [a, b], _ => exact ⟨a, b, rfl⟩
theorem list3 {α : Type} {l : List α} (h : l.length = 3) : ∃ a b c, l = [a, b, c] := by
  match l, h with
  | [a, b, c], _ => exact ⟨a, b, c, rfl⟩
theorem list4 {α : Type} {l : List α} (h : l.length = 4) : ∃ a b c d, l = [a, b, c, d] := by
  match l, h with
  | [a, b, c, d], _ => exact ⟨a, b, c, d, rfl⟩
theorem list6 {α : Type} {l : List α} (h : l.length = 6) : ∃ a b c d e f, l = [a, b, c, d, e, f] := by
  match l, h with
  | [a, b, c, d, e, f], _ => exact ⟨a, b, c, d, e, f, rfl⟩
section
variable {H : Type} {enc : TypeId × Value → H} {W : World} {sp : Nat → Bool} {held : Bool}
theorem open_int1 {fuel : Nat} {c : Value} {x : DataW H × List MemPlace} (h : DataW.trod enc Tryd.prog W 0 sp held fuel 3 [c] = some x) : ∃ n, c = .int .i64 n ∧ I64 n := by
  obtain ⟨n, e, _, hw⟩ := DataW.trod_int Tryd.underlying3 h
  simp only [List.cons.injEq, and_true] at e
  exact ⟨n, e, i64_wf hw⟩
theorem open_str1 {fuel : Nat} {c : Value} {x : DataW H × List MemPlace} (h : DataW.trod enc Tryd.prog W 0 sp held fuel 9 [c] = some x) : ∃ s, c = .string s ∧ s.size ≤ maxLen := by
  obtain ⟨n, e, _, hw⟩ := DataW.trod_string Tryd.underlying9 h
  simp only [List.cons.injEq, and_true] at e
  exact ⟨n, e, hw⟩
theorem open_par {fuel : Nat} {cs : List Value} {x : DataW H × List MemPlace} (h : DataW.trod enc Tryd.prog W 0 sp held fuel 121 cs = some x) : ∃ p : ParA, cs = parC p ∧ ParOk p := by
  obtain ⟨xs, n, rfl, rfl, hlen, hxs, hf⟩ := DataW.trod_struct Tryd.underlying121 h
  rw [cPar] at hlen
  clear h
  obtain ⟨c0, c1, rfl⟩ := list2 hlen
  obtain ⟨y0, y1, rfl⟩ := list2 (show xs.length = 2 from hxs)
  have h0 := hf 0 ({ name := "Name", type := 9, offset := 0, embedded := false, tag := "", pkgPath := "", byteOffset := 0 }) rfl
  have h1 := hf 1 ({ name := "Sort", type := 3, offset := 1, embedded := false, tag := "", pkgPath := "", byteOffset := 16 }) rfl
  simp only [cInt, cStr, List.drop_zero, List.take_succ_cons, List.take_zero, List.drop_succ_cons, List.getElem?_cons_zero, List.getElem?_cons_succ] at h0 h1
  obtain ⟨s, rfl, hs⟩ := open_str1 h0
  obtain ⟨n, rfl, hn⟩ := open_int1 h1
  exact ⟨⟨s, n⟩, rfl, hs, hn⟩
theorem open_fun {fuel : Nat} {cs : List Value} {x : DataW H × List MemPlace} (h : DataW.trod enc Tryd.prog W 0 sp held fuel 89 cs = some x) : ∃ f : FunA, cs = funC f ∧ FunOk f := by
  obtain ⟨xs, n, rfl, rfl, hlen, hxs, hf⟩ := DataW.trod_struct Tryd.underlying89 h
  rw [cFun] at hlen
  clear h
  obtain ⟨c0, c1, c2, c3, c4, c5, rfl⟩ := list6 hlen
  obtain ⟨y0, y1, y2, y3, rfl⟩ := list4 (show xs.length = 4 from hxs)
  have h0 := hf 0 ({ name := "Name", type := 9, offset := 0, embedded := false, tag := "", pkgPath := "", byteOffset := 0 }) rfl
  have h1 := hf 1 ({ name := "Len", type := 3, offset := 1, embedded := false, tag := "", pkgPath := "", byteOffset := 16 }) rfl
  have h2 := hf 2 ({ name := "Args", type := 64, offset := 2, embedded := false, tag := "", pkgPath := "", byteOffset := 24 }) rfl
  have h3 := hf 3 ({ name := "Res", type := 3, offset := 5, embedded := false, tag := "", pkgPath := "", byteOffset := 48 }) rfl
  simp only [cInt, cStr, cArr, List.drop_zero, List.take_succ_cons, List.take_zero, List.drop_succ_cons, List.getElem?_cons_zero, List.getElem?_cons_succ] at h0 h1 h2 h3
  obtain ⟨s, rfl, hs⟩ := open_str1 h0
  obtain ⟨n1, rfl, hn1⟩ := open_int1 h1
  obtain ⟨n5, rfl, hn5⟩ := open_int1 h3
  obtain ⟨zs, m, rfl, hx, hl2, hz, hg⟩ := DataW.trod_array Tryd.underlying64 h2
  obtain ⟨z0, z1, z2, rfl⟩ := list3 hz
  have g0 := hg 0 (by decide)
  have g1 := hg 1 (by decide)
  have g2 := hg 2 (by decide)
  simp only [cInt, Nat.mul_one, List.drop_zero, List.take_succ_cons, List.take_zero, List.drop_succ_cons, List.getElem?_cons_zero, List.getElem?_cons_succ] at g0 g1 g2
  obtain ⟨n2, rfl, hn2⟩ := open_int1 g0
  obtain ⟨n3, rfl, hn3⟩ := open_int1 g1
  obtain ⟨n4, rfl, hn4⟩ := open_int1 g2
  exact ⟨⟨s, n1, n2, n3, n4, n5⟩, rfl, hs, hn1, hn2, hn3, hn4, hn5⟩
/-- A slice of what opens. -/
theorem open_row {α : Type} {f : α → List Value} {n : Nat} (hn0 : 0 < n) (hn : ∀ x, (f x).length = n) {Q : DataW H → α → Prop} {t e : TypeId} (hu : Tryd.prog.underlying t = some (.slice e)) (hc : Tryd.prog.cellsOf e = n)
    (ho : ∀ (fuel : Nat) (cs : List Value) (x : DataW H × List MemPlace), DataW.trod enc Tryd.prog W 0 sp held fuel e cs = some x → W.noneFrozen x.2 → ∃ y, cs = f y ∧ Q x.1 y)
    {fuel : Nat} {c : Value} {x : DataW H × List MemPlace} (h : DataW.trod enc Tryd.prog W 0 sp held fuel t [c] = some x) (hfz : W.noneFrozen x.2) :
    ∃ (l : List α) (a : Option Addr) (cap : Nat), c = .slice a l.length cap ∧ l.length ≤ cap ∧ cap ≤ maxLen ∧ At W W.heap.size (l.flatMap f) a ∧ (∀ y ∈ l, ∃ d, Q d y ∧ (WB t x.1 → WB e d)) ∧ (WB t x.1 → l.length * Tryd.prog.bytesOf e ≤ reachBytes) := by
  rcases DataW.trod_slice hu h with ⟨e2, _⟩ | ⟨a, len, cap, elems, rest, m, rfl, e2, hx2, _, hlc, hcm, hel, hi, _, _⟩
  · simp only [List.cons.injEq, and_true] at e2
    exact ⟨[], none, 0, e2, Nat.le_refl _, Nat.zero_le _, fun h => absurd h (by simp), fun _ h => by simp at h, fun _ => by simp⟩
  · simp only [List.cons.injEq, and_true] at e2
    subst e2
    rw [hx2] at hfz
    rw [hc] at hi
    obtain ⟨l, hl, hq, hat⟩ := rows_open (f := f) (Q := fun y => ∃ d, Q d y ∧ (WB t x.1 → WB e d)) (W := W) (a := a) (len := len) hn0 hn (fun i hil => by
      have hh := hi i hil
      obtain ⟨z, hz⟩ : ∃ z, elems[i]? = some z := ⟨_, List.getElem?_eq_getElem (by omega)⟩
      rw [hz] at hh
      obtain ⟨cs', hc', ht'⟩ := Option.bind_eq_some_iff.1 hh
      have hzm : z ∈ elems := List.mem_of_getElem? hz
      obtain ⟨y, rfl, hy⟩ := ho m cs' z ht' (fun b off hb => hfz b off (List.mem_append_right _ (List.mem_flatMap.2 ⟨z, List.mem_append_left _ hzm, hb⟩)))
      exact ⟨y, hc', z.1, hy, fun hB => wb_elem hu (by rw [hx2] at hB; exact hB) (List.mem_map_of_mem hzm)⟩)
    refine ⟨l, some a, cap, by rw [hl], by omega, hcm, hat, hq, fun hB => ?_⟩
    rw [hx2] at hB
    refine Nat.le_trans (Nat.mul_le_mul_right _ ?_) (wb_len hu hB)
    simp only [List.length_map]
    omega
theorem open_mac {fuel : Nat} {cs : List Value} {x : DataW H × List MemPlace} (h : DataW.trod enc Tryd.prog W 0 sp held fuel 53 cs = some x) (hfz : W.noneFrozen x.2) : ∃ m : MacV, cs = macC m ∧ MacOk W W.heap.size m ∧ (WB 53 x.1 → RowsT m.m.body) := by
  obtain ⟨xs, n, rfl, rfl, hlen, hxs, hf⟩ := DataW.trod_struct Tryd.underlying53 h
  rw [cMac] at hlen
  clear h
  obtain ⟨c0, c1, c2, c3, c4, c5, rfl⟩ := list6 hlen
  obtain ⟨y0, y1, y2, y3, rfl⟩ := list4 (show xs.length = 4 from hxs)
  have h0 := hf 0 ({ name := "Name", type := 9, offset := 0, embedded := false, tag := "", pkgPath := "", byteOffset := 0 }) rfl
  have h1 := hf 1 ({ name := "Params", type := 47, offset := 1, embedded := false, tag := "", pkgPath := "", byteOffset := 16 }) rfl
  have h2 := hf 2 ({ name := "Res", type := 3, offset := 2, embedded := false, tag := "", pkgPath := "", byteOffset := 40 }) rfl
  have h3 := hf 3 ({ name := "Body", type := 51, offset := 3, embedded := false, tag := "", pkgPath := "", byteOffset := 48 }) rfl
  simp only [cInt, cStr, cPars, cSexp, List.drop_zero, List.take_succ_cons, List.take_zero, List.drop_succ_cons, List.getElem?_cons_zero, List.getElem?_cons_succ] at h0 h1 h2 h3
  obtain ⟨s, rfl, hs⟩ := open_str1 h0
  obtain ⟨n2, rfl, hn2⟩ := open_int1 h2
  obtain ⟨l, a, cap, rfl, q1, q2, q3, q4, _⟩ := open_row (f := parC) (n := 2) (Q := fun _ p => ParOk p) (by decide) parC_len Tryd.underlying47 cPar (fun fuel cs x h _ => open_par h) h1 (fun b off hb => hfz b off (by simp [hb]))
  obtain ⟨t, ba, bc, e3, r1, r2⟩ := open_rd _ _ _ h3 (fun b off hb => hfz b off (by simp [hb]))
  simp only [List.cons.injEq, and_true] at e3
  obtain ⟨rfl, rfl, rfl⟩ := e3
  exact ⟨⟨⟨s, l, n2, t⟩, a, cap, ba, bc⟩, rfl, ⟨hs, q1, q2, q3, fun p hp => (q4 p hp).choose_spec.1, hn2, r1⟩, fun hB => r2 (wb_field Tryd.underlying53 hB 3 rfl rfl)⟩
theorem open_sig {fuel : Nat} {cs : List Value} {x : DataW H × List MemPlace} (h : DataW.trod enc Tryd.prog W 0 sp held fuel 26 cs = some x) (hfz : W.noneFrozen x.2) : ∃ z : SigV, cs = [.slice z.sa z.sorts.length z.sc, .slice z.fa z.funs.length z.fc, .slice z.ma z.macs.length z.mc] ∧ SigR W z ∧ (WB 26 x.1 → z.sorts.length ≤ 140737488355328 ∧ ∀ s ∈ z.sorts, s.size ≤ 140737488355328) := by
  obtain ⟨xs, n, rfl, rfl, hlen, hxs, hf⟩ := DataW.trod_struct Tryd.underlying26 h
  rw [cSig] at hlen
  clear h
  obtain ⟨c0, c1, c2, rfl⟩ := list3 hlen
  obtain ⟨y0, y1, y2, rfl⟩ := list3 (show xs.length = 3 from hxs)
  have h0 := hf 0 ({ name := "Sorts", type := 22, offset := 0, embedded := false, tag := "", pkgPath := "", byteOffset := 0 }) rfl
  have h1 := hf 1 ({ name := "Funs", type := 23, offset := 1, embedded := false, tag := "", pkgPath := "", byteOffset := 24 }) rfl
  have h2 := hf 2 ({ name := "Macros", type := 24, offset := 2, embedded := false, tag := "", pkgPath := "", byteOffset := 48 }) rfl
  simp only [cStrs, cFuns, cMacs, List.drop_zero, List.take_succ_cons, List.take_zero, List.drop_succ_cons, List.getElem?_cons_zero, List.getElem?_cons_succ] at h0 h1 h2
  obtain ⟨ss, sa, sc, rfl, s1, s2, s3, s4, s5⟩ := open_row (f := strC) (n := 1) (Q := fun d s => s.size ≤ maxLen ∧ (WB 9 d → s.size ≤ 140737488355328)) (by decide) strC_len Tryd.underlying22 cStr (fun fuel cs x h _ => by
    obtain ⟨s, e, hx, hs⟩ := DataW.trod_string Tryd.underlying9 h
    refine ⟨s, e, hs, fun hB => ?_⟩
    rw [hx] at hB
    have := hB s.data.toList.length (by simp [DataW.weights])
    have e2 : s.data.toList.length = s.size := Array.length_toList
    simp only [reachBytes] at this
    omega) h0 (fun b off hb => hfz b off (by simp [hb]))
  obtain ⟨fs, fa, fc, rfl, f1, f2, f3, f4, _⟩ := open_row (f := funC) (n := 6) (Q := fun _ p => FunOk p) (by decide) funC_len Tryd.underlying23 cFun (fun fuel cs x h _ => open_fun h) h1 (fun b off hb => hfz b off (by simp [hb]))
  obtain ⟨ms, ma, mc, rfl, m1, m2, m3, m4, _⟩ := open_row (f := macC) (n := 6) (Q := fun d p => MacOk W W.heap.size p ∧ (WB 53 d → RowsT p.m.body)) (by decide) macC_len Tryd.underlying24 cMac (fun fuel cs x h hz => open_mac h hz) h2 (fun b off hb => hfz b off (by simp [hb]))
  refine ⟨⟨ss, sa, sc, fs, fa, fc, ms, ma, mc⟩, rfl, ⟨s1, s2, s3, fun s hs => (s4 s hs).choose_spec.1.1, f1, f2, f3, fun s hs => (f4 s hs).choose_spec.1, m1, m2, m3, fun s hs => (m4 s hs).choose_spec.1.1⟩, fun hB => ⟨?_, fun s hs => ?_⟩⟩
  · have h := s5 (wb_field Tryd.underlying26 hB 0 rfl rfl)
    rw [bStr9] at h
    simp only [reachBytes] at h
    show ss.length ≤ _
    omega
  · obtain ⟨d, ⟨_, hd⟩, hw⟩ := s4 s hs
    exact hd (hw (wb_field Tryd.underlying26 hB 0 rfl rfl))
end
end Go.Proofs.YtinogambkfihpaaDoor
