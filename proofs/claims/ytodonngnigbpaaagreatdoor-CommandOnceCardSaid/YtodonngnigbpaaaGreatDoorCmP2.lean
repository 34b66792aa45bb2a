/- Package command's forms. -/
import Derived.Test.YtodonngnigbpaaaGreatDoorCmO4
import Derived.Deep.RegionHeld
import Derived.Test.YtodonngnigbpaaaGreatDoorCmA
import Derived.Deep.RegionHeld3
namespace Go.Proofs.YtodonngnigbpaaaGreatDoor
open Go.RowKit
set_option linter.unusedVariables false
/-- None of the entries has that key. -/
def noKey (k : ByteArray) (es : List MapEntry) : Bool := es.all fun e => match e.key with
  | .string s => !(k == s)
  | _ => false
theorem findNow_none (k : ByteArray) : ∀ (es : List MapEntry) (i : Nat), noKey k es = true → Instr.findNow .string (.string k) es i = some none
  | [], i, _ => rfl
  | e :: r, i, h => by
    unfold noKey at h
    rw [List.all_cons, Bool.and_eq_true] at h
    have hr := findNow_none k r (i + 1) h.2
    obtain ⟨key, val, born⟩ := e
    cases key <;> simp at h
    simp only [Instr.findNow, Instr.sameNow, h.1]
    exact hr
theorem run_ins {P : Program} (w : World) (t kt et : TypeId) (ht : P.underlying t = some (.map kt et)) (hk : P.underlying kt = some .string) (b : Nat) (es : Array MapEntry) (clock : Nat) (k : ByteArray) (v : Value) (hh : w.heap[b]? = some (.map es clock)) (hno : noKey k es.toList = true) :
    (Instr.mapUpdate t (.map (some b)) (.string k) v).run P w = .ok () (w.putObj b (.map (es.push ⟨.string k, v, clock⟩) (clock + 1))) := by
  have hck : (Instr.checkKey false 10000 kt (.string k)).run P w = .ok () w := MapKept.run_checkKey hk (by simp [MapKept.IsKey]) false 9999
  have hfk : (Instr.findKey kt (.string k) es.toList).run P w = .ok none w := by
    simp [Instr.findKey, run_underlying hk, findNow_none k es.toList 0 hno]
  simp [Instr.mapUpdate, run_underlying ht, MapKept.run_getObj_map hh, hck, hfk, MapKept.run_setObj_map _ hh, Result.andThen, World.putObj]
theorem wpList_ins {P : Program} (w : World) {ops : Array Oper} {rest : List Oper} {o : Oper} {a : Act} {Q : Exit → Act → World → Prop} (hg : o.guard = none) (m x v : Operand) (t kt et : TypeId) (hop : o.op = Op.insert t m x v)
    (ht : P.underlying t = some (.map kt et)) (hk : P.underlying kt = some .string) (b : Nat) (es : Array MapEntry) (clock : Nat) (k : ByteArray) (val : Value) (hm : a.eval m = .map (some b)) (hx : a.eval x = .string k) (hv : a.eval v = val)
    (hh : w.heap[b]? = some (.map es clock)) (hno : noKey k es.toList = true)
    (hK : ∀ w', w'.heap[b]? = some (.map (es.push ⟨.string k, val, clock⟩) (clock + 1)) → Kp (fun c => c ≠ b) w w' → w'.heap.size = w.heap.size → wpList P ops Q rest (a.put o.dst undef) w') : wpList P ops Q (o :: rest) a w := by
  refine wpList_plain hg fun K' hK' => ?_
  have hrun := run_ins w t kt et ht hk b es clock k val hh hno
  have hlt := (Array.getElem?_eq_some_iff.1 hh).1
  unfold Oper.wp execOp
  simp only [hop, hm, hx, hv, Sem.run_bind, Sem.run_pure, hrun, Result.andThen_ok]
  refine hK' _ _ (hK _ (World.putObj_heap_same hlt) ⟨rfl, rfl, rfl, by simp [World.putObj], fun c hc => World.putObj_heap_other hc⟩ (by simp [World.putObj]))
end Go.Proofs.YtodonngnigbpaaaGreatDoor
namespace Go.Proofs.YtodonngnigbpaaaGreatDoor
open Go.RowKit
set_option linter.unusedVariables false
section
variable {P : Program} {ops : Array Oper} {Q : Exit → Act → World → Prop} {md : Region.Mode} {S : World → Prop}
theorem noKey_of {k : ByteArray} {es : List MapEntry} (h : ∀ e ∈ es, ∃ s : ByteArray, e.key = .string s ∧ (k == s) = false) : noKey k es = true := by
  unfold noKey
  rw [List.all_eq_true]
  intro e he
  obtain ⟨s, h1, h2⟩ := h e he
  rw [h1]
  simp [h2]
/-- The entries so far: each of them is one of those that are asked, and all are there but those of rem. -/
structure EntS (N : Nat) (names : Nat → ByteArray) (fv : Nat → Value) (rem : List Nat) (es : List MapEntry) : Prop where
  one : ∀ e ∈ es, ∃ j, j < N ∧ e.key = .string (names j) ∧ e.val = fv j
  all : ∀ j, j < N → j ∉ rem → ∃ e ∈ es, e.key = .string (names j)
  no : ∀ j, j < N → j ∈ rem → ∀ e ∈ es, e.key ≠ .string (names j)
theorem ins_stage (N E : Nat) (names : Nat → ByteArray) (fv : Nat → Value) (a : Act) (M : Nat) (t kt et : TypeId) (ht : P.underlying t = some (.map kt et)) (hk : P.underlying kt = some .string) (hne : ∀ i j, i < N → j < N → i ≠ j → (names i == names j) = false)
    (hop : ∀ j, j < N → ∃ o m x v, ops[5 * j + 5]? = some o ∧ o.guard = none ∧ o.dst = none ∧ o.op = Op.insert t m x v ∧ a.eval m = .map (some M) ∧ a.eval x = .string (names j) ∧ a.eval v = fv j ∧ ∀ e ∈ o.after, e.on < E ∧ (e.on % 5 ≠ 0 ∨ e.on = 0))
    (hE : 5 * N < E) (hsz : ops.size = E + 2) (hlast : ∀ i, i = E ∨ i = E + 1 → ∃ o, ops[i]? = some o ∧ ∀ j, j < N → ∃ e ∈ o.after, Region.binds md e = true ∧ e.on = 5 * j + 5)
    (hmod : ∀ i, i < E → i % 5 = 0 → i ≠ 0 → ∃ j, j < N ∧ i = 5 * j + 5) (W0 : World) (hS : ∀ w w', S w → Kp (fun c => c ≠ M) w w' → w'.heap.size = w.heap.size → S w')
    (hend : ∀ (w : World) (es : Array MapEntry) (clock : Nat) (listed : Array Bool), w.heap[M]? = some (.map es clock) → EntS N names fv [] es.toList → S w → Kp (fun c => c ≠ M) W0 w → listed.size = E + 2 → (∀ i, i < E → listed[i]? = some true) → listed[E]? = some false → listed[E + 1]? = some false → wpAnyH P md ops Q S 2 listed a w) :
    ∀ (n : Nat) (rem : List Nat) (listed : Array Bool) (w : World) (es : Array MapEntry) (clock : Nat), rem.length = n → rem.Nodup → (∀ j ∈ rem, j < N) → listed.size = E + 2 → listed[E]? = some false → listed[E + 1]? = some false → (∀ i, i < E → (i % 5 ≠ 0 ∨ i = 0) → listed[i]? = some true) → (∀ j, j < N → j ∉ rem → listed[5 * j + 5]? = some true) → (∀ j, j ∈ rem → listed[5 * j + 5]? = some false) →
      w.heap[M]? = some (.map es clock) → EntS N names fv rem es.toList → S w → Kp (fun c => c ≠ M) W0 w → wpAnyH P md ops Q S (n + 2) listed a w := by
  intro n
  induction n with
  | zero =>
    intro rem listed w es clock hl hnd hr hls hlE hlE1 hpre hin hout hM hEs hSw hK
    obtain rfl := List.eq_nil_of_length_eq_zero hl
    refine hend w es clock listed hM hEs hSw hK hls (fun i hi => ?_) hlE hlE1
    by_cases h5 : i % 5 ≠ 0 ∨ i = 0
    · exact hpre i hi h5
    · obtain ⟨j, hj, rfl⟩ := hmod i hi (by omega) (by omega)
      exact hin j hj (by simp)
  | succ n ih =>
    intro rem listed w es clock hl hnd hr hls hlE hlE1 hpre hin hout hM hEs hSw hK
    have hgf : ∀ i b d, listed[i]? = some b → listed.getD i d = b := fun i b d h => by simp [h]
    refine ⟨fun h0 => ?_, fun i hi => ?_⟩
    · obtain ⟨j, rest, hjr⟩ : ∃ j rest, rem = j :: rest := by
        cases rem with
        | nil => simp at hl
        | cons j rest => exact ⟨j, rest, rfl⟩
      have hjm : j ∈ rem := by rw [hjr]; simp
      obtain ⟨o, m, x, v, ho, _, _, _, _, _, _, haf⟩ := hop j (hr j hjm)
      have : 5 * j + 5 ∈ Region.ready md ops listed := mem_ready.2 ⟨hgf _ _ _ (hout j hjm), o, ho, fun e he _ => by
        obtain ⟨h1, h2⟩ := haf e he
        exact hgf _ _ _ (hpre e.on h1 h2)⟩
      rw [h0] at this
      cases this
    · obtain ⟨hun, o, ho, haf⟩ := mem_ready.1 hi
      have hiE : i < E + 2 := by have := (Array.getElem?_eq_some_iff.1 ho).1; omega
      have hiN : ¬ (i = E ∨ i = E + 1) := fun e => by
        obtain ⟨o', ho', hall⟩ := hlast i e
        rw [ho] at ho'
        cases ho'
        obtain ⟨j, rest, hjr⟩ : ∃ j rest, rem = j :: rest := by
          cases rem with
          | nil => simp at hl
          | cons j rest => exact ⟨j, rest, rfl⟩
        have hjm : j ∈ rem := by rw [hjr]; simp
        obtain ⟨e, he, hb, hon⟩ := hall j (hr j hjm)
        have := haf e he hb
        rw [hon, hgf _ _ _ (hout j hjm)] at this
        cases this
      have h5 : ¬ (i % 5 ≠ 0 ∨ i = 0) := fun h => by
        have := hgf _ _ true (hpre i (by omega) h)
        rw [hun] at this
        cases this
      obtain ⟨j, hj, rfl⟩ := hmod i (by omega) (by omega) (by omega)
      have hjm : j ∈ rem := Classical.byContradiction fun hn => by
        have := hgf _ _ true (hin j hj hn)
        rw [hun] at this
        cases this
      obtain ⟨o', m, x, v, ho', hg, hd, hopp, hm, hx, hv, _⟩ := hop j hj
      rw [ho] at ho'
      cases ho'
      refine wpOp_step ho (fun K' hK' => ?_)
      have hw : Region.wanted o (yielded ops a.tmps) = true := by simp [Region.wanted, hg]
      rw [if_pos hw]
      have hno : noKey (names j) es.toList = true := noKey_of fun e he => by
        obtain ⟨i, hi', h1, h2⟩ := hEs.one e he
        refine ⟨names i, h1, hne j i hj hi' (fun e' => ?_)⟩
        subst e'
        exact hEs.no j hj hjm e he h1
      have hrun := run_ins w t kt et ht hk M es clock (names j) (fv j) hM hno
      have hlt := (Array.getElem?_eq_some_iff.1 hM).1
      unfold Oper.wp execOp
      simp only [hopp, hm, hx, hv, Sem.run_bind, Sem.run_pure, hrun, Result.andThen_ok]
      have hkp : Kp (fun c => c ≠ M) w (w.putObj M (.map (es.push ⟨.string (names j), fv j, clock⟩) (clock + 1))) := ⟨rfl, rfl, rfl, by simp [World.putObj], fun c hc => World.putObj_heap_other hc⟩
      have hsz' : (w.putObj M (.map (es.push ⟨.string (names j), fv j, clock⟩) (clock + 1))).heap.size = w.heap.size := by simp [World.putObj]
      have hS' := hS _ _ hSw hkp hsz'
      have hput : a.put o.dst undef = a := by rw [hd]; rfl
      show K' (a.put o.dst undef) _
      rw [hput]
      refine hK' _ _ ⟨hS', ih (rem.erase j) _ _ _ _ (by rw [List.length_erase_of_mem hjm, hl]; rfl) (hnd.erase j) (fun q hq => hr q (List.mem_of_mem_erase hq)) (by simp [hls]) ?_ ?_ ?_ ?_ ?_ (World.putObj_heap_same hlt) ?_ hS' (hK.trans hkp)⟩
      · rw [Array.getElem?_setIfInBounds_ne (by omega)]; exact hlE
      · rw [Array.getElem?_setIfInBounds_ne (by omega)]; exact hlE1
      · intro q hq hq5
        rw [Array.getElem?_setIfInBounds_ne (by omega)]
        exact hpre q hq hq5
      · intro q hq hqn
        by_cases e : q = j
        · subst e
          rw [Array.getElem?_setIfInBounds_self_of_lt (by omega)]
        · rw [Array.getElem?_setIfInBounds_ne (by omega)]
          exact hin q hq (fun h => hqn ((List.mem_erase_of_ne e).2 h))
      · intro q hq
        have hqj : q ≠ j := fun e => by subst e; exact hnd.not_mem_erase hq
        rw [Array.getElem?_setIfInBounds_ne (by omega)]
        exact hout q (List.mem_of_mem_erase hq)
      · refine ⟨fun e he => ?_, fun q hq hqn => ?_, fun q hq hqm e he => ?_⟩
        · simp only [Array.toList_push, List.mem_append, List.mem_singleton] at he
          rcases he with he | rfl
          · exact hEs.one e he
          · exact ⟨j, hj, rfl, rfl⟩
        · by_cases e : q = j
          · subst e
            exact ⟨⟨.string (names q), fv q, clock⟩, by simp [Array.toList_push], rfl⟩
          · obtain ⟨e', he', h1⟩ := hEs.all q hq (fun h => hqn ((List.mem_erase_of_ne e).2 h))
            exact ⟨e', by simp [he'], h1⟩
        · have hqj : q ≠ j := fun e => by subst e; exact hnd.not_mem_erase hqm
          simp only [Array.toList_push, List.mem_append, List.mem_singleton] at he
          rcases he with he | rfl
          · exact hEs.no q hq (List.mem_of_mem_erase hqm) e he
          · intro e
            simp only [Value.string.injEq] at e
            have := hne q j hq hj hqj
            rw [(MapKept.bytes_beq _ _).2 e.symm] at this
            cases this
theorem wp_mv {o : Oper} {a : Act} {w : World} {K : Act → World → Prop} {x : Operand} {v : Value} (hop : o.op = Op.move x ∨ o.op = Op.assign x) (hv : a.eval x = v) (hK : K (a.put o.dst v) w) : Oper.wp P o a w K Q := by
  unfold Oper.wp execOp
  rcases hop with h | h
  · simp only [h, hv, Sem.run_pure]
    exact hK
  · simp only [h, hv, Sem.run_pure]
    exact hK
/-- The last but one, behind all but the last. -/
theorem pre_last {E : Nat} {listed : Array Bool} {a : Act} {w : World} {o o2 : Oper} {v : Value} (hls : listed.size = E + 2) (hall : ∀ i, i < E → listed[i]? = some true) (hlE : listed[E]? = some false) (hlE1 : listed[E + 1]? = some false) (hsz : ops.size = E + 2) (ho : ops[E]? = some o) (haf : ∀ e ∈ o.after, e.on < E) (hg : o.guard = none) {d : Option Tmp} (hd : o.dst = d)
    (ho2 : ops[E + 1]? = some o2) (haf2 : ∃ e ∈ o2.after, Region.binds md e = true ∧ e.on = E)
    (hwp : ∀ K : Act → World → Prop, K (a.put o.dst v) w → Oper.wp P o a w K Q) (hS : S w) (hnext : wpAnyH P md ops Q S 1 (listed.setIfInBounds E true) (a.put d v) w) : wpAnyH P md ops Q S 2 listed a w := by
  subst hd
  have hgf : ∀ i b d, listed[i]? = some b → listed.getD i d = b := fun i b d h => by simp [h]
  refine ⟨fun h0 => ?_, fun i hi => ?_⟩
  · have : E ∈ Region.ready md ops listed := mem_ready.2 ⟨hgf _ _ _ hlE, o, ho, fun e he _ => hgf _ _ _ (hall e.on (haf e he))⟩
    rw [h0] at this
    cases this
  · obtain ⟨hun, o', ho', hbind⟩ := mem_ready.1 hi
    have hiE : i < E + 2 := by have := (Array.getElem?_eq_some_iff.1 ho').1; omega
    have hi2 : i = E := Classical.byContradiction fun hn => by
      by_cases h1 : i = E + 1
      · subst h1
        rw [ho2] at ho'
        cases ho'
        obtain ⟨e, he, hb, hon⟩ := haf2
        have := hbind e he hb
        rw [hon, hgf _ _ _ hlE] at this
        cases this
      · have := hgf _ _ true (hall i (by omega))
        rw [hun] at this
        cases this
    subst hi2
    refine wpOp_step ho (fun K' hK' => ?_)
    have hw : Region.wanted o (yielded ops a.tmps) = true := by simp [Region.wanted, hg]
    rw [if_pos hw]
    exact hwp K' (hK' _ _ ⟨hS, hnext⟩)
/-- The last operation, behind all others. -/
theorem last_stage {E : Nat} {listed : Array Bool} {a : Act} {w : World} {o : Oper} {v : Value} (hls : listed.size = E + 1) (hall : ∀ i, i < E → listed[i]? = some true) (hlE : listed[E]? = some false) (hsz : ops.size = E + 1) (ho : ops[E]? = some o) (haf : ∀ e ∈ o.after, e.on < E) (hg : o.guard = none) {d : Option Tmp} (hd : o.dst = d)
    (hwp : ∀ K : Act → World → Prop, K (a.put o.dst v) w → Oper.wp P o a w K Q) (hS : S w) (hQ : Q .normal (a.put d v) w) : wpAnyH P md ops Q S 1 listed a w := by
  subst hd
  have hgf : ∀ i b d, listed[i]? = some b → listed.getD i d = b := fun i b d h => by simp [h]
  refine ⟨fun h0 => ?_, fun i hi => ?_⟩
  · have : E ∈ Region.ready md ops listed := mem_ready.2 ⟨hgf _ _ _ hlE, o, ho, fun e he _ => hgf _ _ _ (hall e.on (haf e he))⟩
    rw [h0] at this
    cases this
  · obtain ⟨hun, o', ho', _⟩ := mem_ready.1 hi
    have hiE : i < E + 1 := by have := (Array.getElem?_eq_some_iff.1 ho').1; omega
    have hi2 : i = E := Classical.byContradiction fun hn => by
      have := hgf _ _ true (hall i (by omega))
      rw [hun] at this
      cases this
    subst hi2
    refine wpOp_step ho (fun K' hK' => ?_)
    have hw : Region.wanted o (yielded ops a.tmps) = true := by simp [Region.wanted, hg]
    rw [if_pos hw]
    refine hwp K' (hK' _ _ ⟨hS, ?_, hQ⟩)
    refine List.eq_nil_iff_forall_not_mem.2 fun q hq => ?_
    obtain ⟨hun, oq, hoq, _⟩ := mem_ready.1 hq
    have hq1 : q < i + 1 := by have := (Array.getElem?_eq_some_iff.1 hoq).1; omega
    by_cases hqi : q = i
    · subst hqi
      have h2 : (listed.setIfInBounds q true)[q]? = some true := Array.getElem?_setIfInBounds_self_of_lt (by omega)
      simp [h2] at hun
    · have h2 : (listed.setIfInBounds i true)[q]? = some true := by rw [Array.getElem?_setIfInBounds_ne (fun e => hqi e.symm)]; exact hall q (by omega)
      simp [h2] at hun
/-- What is found under a key. -/
theorem findNow_some {N : Nat} {names : Nat → ByteArray} {fv : Nat → Value} {j : Nat} (hj : j < N) (hinj : ∀ i j, i < N → j < N → names i = names j → i = j) : ∀ (es : List MapEntry) (i : Nat), (∀ e ∈ es, ∃ j, j < N ∧ e.key = .string (names j) ∧ e.val = fv j) → (∃ e ∈ es, e.key = .string (names j)) → ∃ q, Instr.findNow .string (.string (names j)) es i = some (some (q, fv j))
  | [], i, _, ⟨e, he, _⟩ => by cases he
  | e :: r, i, h1, h2 => by
    obtain ⟨j', hj', hk, hv⟩ := h1 e (by simp)
    by_cases hjj : names j = names j'
    · have := hinj j j' hj hj' hjj
      subst this
      refine ⟨i, ?_⟩
      have hb : (names j == names j) = true := (MapKept.bytes_beq _ _).2 rfl
      simp only [Instr.findNow, hk, Instr.sameNow, hb, hv]
    · have hb : (names j == names j') = false := by
        rw [Bool.eq_false_iff]
        intro h
        exact hjj ((MapKept.bytes_beq _ _).1 h)
      obtain ⟨q, hq⟩ := findNow_some hj hinj r (i + 1) (fun e he => h1 e (by simp [he])) (by
        obtain ⟨e', he', h3⟩ := h2
        rcases List.mem_cons.1 he' with rfl | he'
        · rw [hk] at h3
          simp only [Value.string.injEq] at h3
          exact absurd h3.symm hjj
        · exact ⟨e', he', h3⟩)
      refine ⟨q, ?_⟩
      simp only [Instr.findNow, hk, Instr.sameNow, hb]
      exact hq
end
end Go.Proofs.YtodonngnigbpaaaGreatDoor
namespace Go.Proofs.YtodonngnigbpaaaGreatDoor
open Go.RowKit
set_option linter.unusedVariables false
theorem under_fm : Tryz.prog.underlying 54 = some (.map 9 52) := by rw [Tryz.underlying54]
theorem make_fm (w : World) : (Instr.makeMap 54 none).run Tryz.prog w = .ok (.map (some w.heap.size)) (w.alloc (.map #[] 0)) := by
  simp [Instr.makeMap]
theorem any_edge {md : Region.Mode} {xs : Array Edge} {n : Nat} (h : (xs.any fun e => Region.binds md e && e.on == n) = true) : ∃ e ∈ xs, Region.binds md e = true ∧ e.on = n := by
  rw [← Array.any_toList, List.any_eq_true] at h
  obtain ⟨e, he, hp⟩ := h
  simp only [Bool.and_eq_true, beq_iff_eq] at hp
  exact ⟨e, by simpa using he, hp.1, hp.2⟩
def fnsF : List Nat := [38, 39, 40, 41, 42, 43, 44, 45, 46, 47, 48, 49, 50]
theorem names_ne (i j : Nat) (hi : i < 13) (hj : j < 13) (h : i ≠ j) : (bytesL (headsL.getD i []) == bytesL (headsL.getD j [])) = false := by
  rw [Bool.eq_false_iff]
  intro he
  have h1 := bytesL_inj ((MapKept.bytes_beq _ _).1 he)
  have h2 : ∀ i, i < 13 → ∀ j, j < 13 → headsL.getD i [] = headsL.getD j [] → i = j := by decide +kernel
  exact h (h2 i hi j hj h1)
set_option maxRecDepth 100000 in
set_option maxHeartbeats 4000000 in
theorem forms_any (R : Nat) (w : World) (hG : GH w) : Calls Tryz.prog 20 #[.pointer (some ⟨R, 0, none⟩)] w fun e w' => ∃ (M : Nat) (es : Array MapEntry) (clock : Nat), e = .returned (.map (some M)) ∧ w'.heap[M]? = some (.map es clock) ∧ EntS 13 (fun j => bytesL (headsL.getD j [])) (fun j => .func (.func (fnsF.getD j 0)) #[.pointer (some ⟨R, 0, none⟩)] #[]) [] es.toList ∧ Below w.heap.size w w' := by
  have hmm := make_fm
  have hmf : ∀ (fn : Fn) (first cap : Array Value) (w : World), (Instr.makeFunc fn first cap).run Tryz.prog w = .ok (.func fn first cap) w := fun _ _ _ _ => rfl
  have HS0 : Hid ((fun W : World => W.cell? ⟨0, 0, none⟩ = some (.string ⟨#[115, 101, 116, 45, 108, 111, 103, 105, 99]⟩) ∧ W.cell? ⟨0, 1, none⟩ = some (.string ⟨#[115, 101, 116, 45, 111, 112, 116, 105, 111, 110]⟩) ∧ W.cell? ⟨0, 2, none⟩ = some (.string ⟨#[100, 101, 99, 108, 97, 114, 101, 45, 115, 111, 114, 116]⟩) ∧ W.cell? ⟨0, 3, none⟩ = some (.string ⟨#[100, 101, 99, 108, 97, 114, 101, 45, 102, 117, 110]⟩) ∧ W.cell? ⟨0, 4, none⟩ = some (.string ⟨#[100, 101, 102, 105, 110, 101, 45, 102, 117, 110]⟩) ∧ W.cell? ⟨0, 5, none⟩ = some (.string ⟨#[97, 115, 115, 101, 114, 116]⟩) ∧ W.cell? ⟨0, 6, none⟩ = some (.string ⟨#[112, 117, 115, 104]⟩) ∧ W.cell? ⟨0, 7, none⟩ = some (.string ⟨#[112, 111, 112]⟩) ∧ W.cell? ⟨0, 8, none⟩ = some (.string ⟨#[99, 104, 101, 99, 107, 45, 115, 97, 116]⟩) ∧ W.cell? ⟨0, 9, none⟩ = some (.string ⟨#[103, 101, 116, 45, 109, 111, 100, 101, 108]⟩) ∧ W.cell? ⟨0, 10, none⟩ = some (.string ⟨#[103, 101, 116, 45, 118, 97, 108, 117, 101]⟩) ∧ W.cell? ⟨0, 11, none⟩ = some (.string ⟨#[103, 101, 116, 45, 112, 114, 111, 111, 102]⟩) ∧ W.cell? ⟨0, 12, none⟩ = some (.string ⟨#[101, 120, 105, 116]⟩)) w.drew) := by
    have hGW := hG.below (Below.refl _ _).drew
    exact ⟨hGW.h 0 _ rfl, hGW.h 1 _ rfl, hGW.h 2 _ rfl, hGW.h 3 _ rfl, hGW.h 4 _ rfl, hGW.h 5 _ rfl, hGW.h 6 _ rfl, hGW.h 7 _ rfl, hGW.h 8 _ rfl, hGW.h 9 _ rfl, hGW.h 10 _ rfl, hGW.h 11 _ rfl, hGW.h 12 _ rfl⟩
  have HGH := Lib.hid hG
  clear hG
  go_enter Tryz.func20, Tryz.ntmps20
  go_wp2_with fail
  refine wp_region_held_drew (S := fun W => W.cell? ⟨0, 0, none⟩ = some (.string ⟨#[115, 101, 116, 45, 108, 111, 103, 105, 99]⟩) ∧ W.cell? ⟨0, 1, none⟩ = some (.string ⟨#[115, 101, 116, 45, 111, 112, 116, 105, 111, 110]⟩) ∧ W.cell? ⟨0, 2, none⟩ = some (.string ⟨#[100, 101, 99, 108, 97, 114, 101, 45, 115, 111, 114, 116]⟩) ∧ W.cell? ⟨0, 3, none⟩ = some (.string ⟨#[100, 101, 99, 108, 97, 114, 101, 45, 102, 117, 110]⟩) ∧ W.cell? ⟨0, 4, none⟩ = some (.string ⟨#[100, 101, 102, 105, 110, 101, 45, 102, 117, 110]⟩) ∧ W.cell? ⟨0, 5, none⟩ = some (.string ⟨#[97, 115, 115, 101, 114, 116]⟩) ∧ W.cell? ⟨0, 6, none⟩ = some (.string ⟨#[112, 117, 115, 104]⟩) ∧ W.cell? ⟨0, 7, none⟩ = some (.string ⟨#[112, 111, 112]⟩) ∧ W.cell? ⟨0, 8, none⟩ = some (.string ⟨#[99, 104, 101, 99, 107, 45, 115, 97, 116]⟩) ∧ W.cell? ⟨0, 9, none⟩ = some (.string ⟨#[103, 101, 116, 45, 109, 111, 100, 101, 108]⟩) ∧ W.cell? ⟨0, 10, none⟩ = some (.string ⟨#[103, 101, 116, 45, 118, 97, 108, 117, 101]⟩) ∧ W.cell? ⟨0, 11, none⟩ = some (.string ⟨#[103, 101, 116, 45, 112, 114, 111, 111, 102]⟩) ∧ W.cell? ⟨0, 12, none⟩ = some (.string ⟨#[101, 120, 105, 116]⟩)) (by kernel_rfl) HS0.out (fun hHeld => ?_)
  refine wpAnyH_take (i := 1) (v := .pointer (some ⟨0, 0, none⟩)) rfl (by kernel_rfl) (by kernel_rfl) (by kernel_rfl) (fun _ _ _ h => h) (Or.inl ⟨by rfl, ?_⟩) (by assumption) ?_
  · (intro w hSw; (try dsimp only at hSw); go_split_ands; go_simp)
  try simp only [Act.put]
  try simp only [List.setIfInBounds_toArray]
  repeat simp only [List.set_cons_succ]
  try simp only [List.set_cons_zero]
  refine wpAnyH_take (i := 2) (v := .string ⟨#[115, 101, 116, 45, 108, 111, 103, 105, 99]⟩) rfl (by kernel_rfl) (by kernel_rfl) (by kernel_rfl) (fun _ _ _ h => h) (Or.inl ⟨by rfl, ?_⟩) (by assumption) ?_
  · (intro w hSw; (try dsimp only at hSw); go_split_ands; go_simp)
  try simp only [Act.put]
  try simp only [List.setIfInBounds_toArray]
  repeat simp only [List.set_cons_succ]
  try simp only [List.set_cons_zero]
  refine wpAnyH_take (i := 3) (v := .pointer (some ⟨R, 0, none⟩)) rfl (by kernel_rfl) (by kernel_rfl) (by kernel_rfl) (fun _ _ _ h => h) (Or.inl ⟨by rfl, ?_⟩) (by assumption) ?_
  · (intro w hSw; (try dsimp only at hSw); go_split_ands; go_simp)
  try simp only [Act.put]
  try simp only [List.setIfInBounds_toArray]
  repeat simp only [List.set_cons_succ]
  try simp only [List.set_cons_zero]
  refine wpAnyH_take (i := 4) (v := .func (.func 38) #[.pointer (some ⟨R, 0, none⟩)] #[]) rfl (by kernel_rfl) (by kernel_rfl) (by kernel_rfl) (fun _ _ _ h => h) (Or.inl ⟨by rfl, ?_⟩) (by assumption) ?_
  · (intro w hSw; (try dsimp only at hSw); go_split_ands; go_simp)
  try simp only [Act.put]
  try simp only [List.setIfInBounds_toArray]
  repeat simp only [List.set_cons_succ]
  try simp only [List.set_cons_zero]
  refine wpAnyH_take (i := 6) (v := .pointer (some ⟨0, 1, none⟩)) rfl (by kernel_rfl) (by kernel_rfl) (by kernel_rfl) (fun _ _ _ h => h) (Or.inl ⟨by rfl, ?_⟩) (by assumption) ?_
  · (intro w hSw; (try dsimp only at hSw); go_split_ands; go_simp)
  try simp only [Act.put]
  try simp only [List.setIfInBounds_toArray]
  repeat simp only [List.set_cons_succ]
  try simp only [List.set_cons_zero]
  refine wpAnyH_take (i := 7) (v := .string ⟨#[115, 101, 116, 45, 111, 112, 116, 105, 111, 110]⟩) rfl (by kernel_rfl) (by kernel_rfl) (by kernel_rfl) (fun _ _ _ h => h) (Or.inl ⟨by rfl, ?_⟩) (by assumption) ?_
  · (intro w hSw; (try dsimp only at hSw); go_split_ands; go_simp)
  try simp only [Act.put]
  try simp only [List.setIfInBounds_toArray]
  repeat simp only [List.set_cons_succ]
  try simp only [List.set_cons_zero]
  refine wpAnyH_take (i := 8) (v := .pointer (some ⟨R, 0, none⟩)) rfl (by kernel_rfl) (by kernel_rfl) (by kernel_rfl) (fun _ _ _ h => h) (Or.inl ⟨by rfl, ?_⟩) (by assumption) ?_
  · (intro w hSw; (try dsimp only at hSw); go_split_ands; go_simp)
  try simp only [Act.put]
  try simp only [List.setIfInBounds_toArray]
  repeat simp only [List.set_cons_succ]
  try simp only [List.set_cons_zero]
  refine wpAnyH_take (i := 9) (v := .func (.func 39) #[.pointer (some ⟨R, 0, none⟩)] #[]) rfl (by kernel_rfl) (by kernel_rfl) (by kernel_rfl) (fun _ _ _ h => h) (Or.inl ⟨by rfl, ?_⟩) (by assumption) ?_
  · (intro w hSw; (try dsimp only at hSw); go_split_ands; go_simp)
  try simp only [Act.put]
  try simp only [List.setIfInBounds_toArray]
  repeat simp only [List.set_cons_succ]
  try simp only [List.set_cons_zero]
  refine wpAnyH_take (i := 11) (v := .pointer (some ⟨0, 2, none⟩)) rfl (by kernel_rfl) (by kernel_rfl) (by kernel_rfl) (fun _ _ _ h => h) (Or.inl ⟨by rfl, ?_⟩) (by assumption) ?_
  · (intro w hSw; (try dsimp only at hSw); go_split_ands; go_simp)
  try simp only [Act.put]
  try simp only [List.setIfInBounds_toArray]
  repeat simp only [List.set_cons_succ]
  try simp only [List.set_cons_zero]
  refine wpAnyH_take (i := 12) (v := .string ⟨#[100, 101, 99, 108, 97, 114, 101, 45, 115, 111, 114, 116]⟩) rfl (by kernel_rfl) (by kernel_rfl) (by kernel_rfl) (fun _ _ _ h => h) (Or.inl ⟨by rfl, ?_⟩) (by assumption) ?_
  · (intro w hSw; (try dsimp only at hSw); go_split_ands; go_simp)
  try simp only [Act.put]
  try simp only [List.setIfInBounds_toArray]
  repeat simp only [List.set_cons_succ]
  try simp only [List.set_cons_zero]
  refine wpAnyH_take (i := 13) (v := .pointer (some ⟨R, 0, none⟩)) rfl (by kernel_rfl) (by kernel_rfl) (by kernel_rfl) (fun _ _ _ h => h) (Or.inl ⟨by rfl, ?_⟩) (by assumption) ?_
  · (intro w hSw; (try dsimp only at hSw); go_split_ands; go_simp)
  try simp only [Act.put]
  try simp only [List.setIfInBounds_toArray]
  repeat simp only [List.set_cons_succ]
  try simp only [List.set_cons_zero]
  refine wpAnyH_take (i := 14) (v := .func (.func 40) #[.pointer (some ⟨R, 0, none⟩)] #[]) rfl (by kernel_rfl) (by kernel_rfl) (by kernel_rfl) (fun _ _ _ h => h) (Or.inl ⟨by rfl, ?_⟩) (by assumption) ?_
  · (intro w hSw; (try dsimp only at hSw); go_split_ands; go_simp)
  try simp only [Act.put]
  try simp only [List.setIfInBounds_toArray]
  repeat simp only [List.set_cons_succ]
  try simp only [List.set_cons_zero]
  refine wpAnyH_take (i := 16) (v := .pointer (some ⟨0, 3, none⟩)) rfl (by kernel_rfl) (by kernel_rfl) (by kernel_rfl) (fun _ _ _ h => h) (Or.inl ⟨by rfl, ?_⟩) (by assumption) ?_
  · (intro w hSw; (try dsimp only at hSw); go_split_ands; go_simp)
  try simp only [Act.put]
  try simp only [List.setIfInBounds_toArray]
  repeat simp only [List.set_cons_succ]
  try simp only [List.set_cons_zero]
  refine wpAnyH_take (i := 17) (v := .string ⟨#[100, 101, 99, 108, 97, 114, 101, 45, 102, 117, 110]⟩) rfl (by kernel_rfl) (by kernel_rfl) (by kernel_rfl) (fun _ _ _ h => h) (Or.inl ⟨by rfl, ?_⟩) (by assumption) ?_
  · (intro w hSw; (try dsimp only at hSw); go_split_ands; go_simp)
  try simp only [Act.put]
  try simp only [List.setIfInBounds_toArray]
  repeat simp only [List.set_cons_succ]
  try simp only [List.set_cons_zero]
  refine wpAnyH_take (i := 18) (v := .pointer (some ⟨R, 0, none⟩)) rfl (by kernel_rfl) (by kernel_rfl) (by kernel_rfl) (fun _ _ _ h => h) (Or.inl ⟨by rfl, ?_⟩) (by assumption) ?_
  · (intro w hSw; (try dsimp only at hSw); go_split_ands; go_simp)
  try simp only [Act.put]
  try simp only [List.setIfInBounds_toArray]
  repeat simp only [List.set_cons_succ]
  try simp only [List.set_cons_zero]
  refine wpAnyH_take (i := 19) (v := .func (.func 41) #[.pointer (some ⟨R, 0, none⟩)] #[]) rfl (by kernel_rfl) (by kernel_rfl) (by kernel_rfl) (fun _ _ _ h => h) (Or.inl ⟨by rfl, ?_⟩) (by assumption) ?_
  · (intro w hSw; (try dsimp only at hSw); go_split_ands; go_simp)
  try simp only [Act.put]
  try simp only [List.setIfInBounds_toArray]
  repeat simp only [List.set_cons_succ]
  try simp only [List.set_cons_zero]
  refine wpAnyH_take (i := 21) (v := .pointer (some ⟨0, 4, none⟩)) rfl (by kernel_rfl) (by kernel_rfl) (by kernel_rfl) (fun _ _ _ h => h) (Or.inl ⟨by rfl, ?_⟩) (by assumption) ?_
  · (intro w hSw; (try dsimp only at hSw); go_split_ands; go_simp)
  try simp only [Act.put]
  try simp only [List.setIfInBounds_toArray]
  repeat simp only [List.set_cons_succ]
  try simp only [List.set_cons_zero]
  refine wpAnyH_take (i := 22) (v := .string ⟨#[100, 101, 102, 105, 110, 101, 45, 102, 117, 110]⟩) rfl (by kernel_rfl) (by kernel_rfl) (by kernel_rfl) (fun _ _ _ h => h) (Or.inl ⟨by rfl, ?_⟩) (by assumption) ?_
  · (intro w hSw; (try dsimp only at hSw); go_split_ands; go_simp)
  try simp only [Act.put]
  try simp only [List.setIfInBounds_toArray]
  repeat simp only [List.set_cons_succ]
  try simp only [List.set_cons_zero]
  refine wpAnyH_take (i := 23) (v := .pointer (some ⟨R, 0, none⟩)) rfl (by kernel_rfl) (by kernel_rfl) (by kernel_rfl) (fun _ _ _ h => h) (Or.inl ⟨by rfl, ?_⟩) (by assumption) ?_
  · (intro w hSw; (try dsimp only at hSw); go_split_ands; go_simp)
  try simp only [Act.put]
  try simp only [List.setIfInBounds_toArray]
  repeat simp only [List.set_cons_succ]
  try simp only [List.set_cons_zero]
  refine wpAnyH_take (i := 24) (v := .func (.func 42) #[.pointer (some ⟨R, 0, none⟩)] #[]) rfl (by kernel_rfl) (by kernel_rfl) (by kernel_rfl) (fun _ _ _ h => h) (Or.inl ⟨by rfl, ?_⟩) (by assumption) ?_
  · (intro w hSw; (try dsimp only at hSw); go_split_ands; go_simp)
  try simp only [Act.put]
  try simp only [List.setIfInBounds_toArray]
  repeat simp only [List.set_cons_succ]
  try simp only [List.set_cons_zero]
  refine wpAnyH_take (i := 26) (v := .pointer (some ⟨0, 5, none⟩)) rfl (by kernel_rfl) (by kernel_rfl) (by kernel_rfl) (fun _ _ _ h => h) (Or.inl ⟨by rfl, ?_⟩) (by assumption) ?_
  · (intro w hSw; (try dsimp only at hSw); go_split_ands; go_simp)
  try simp only [Act.put]
  try simp only [List.setIfInBounds_toArray]
  repeat simp only [List.set_cons_succ]
  try simp only [List.set_cons_zero]
  refine wpAnyH_take (i := 27) (v := .string ⟨#[97, 115, 115, 101, 114, 116]⟩) rfl (by kernel_rfl) (by kernel_rfl) (by kernel_rfl) (fun _ _ _ h => h) (Or.inl ⟨by rfl, ?_⟩) (by assumption) ?_
  · (intro w hSw; (try dsimp only at hSw); go_split_ands; go_simp)
  try simp only [Act.put]
  try simp only [List.setIfInBounds_toArray]
  repeat simp only [List.set_cons_succ]
  try simp only [List.set_cons_zero]
  refine wpAnyH_take (i := 28) (v := .pointer (some ⟨R, 0, none⟩)) rfl (by kernel_rfl) (by kernel_rfl) (by kernel_rfl) (fun _ _ _ h => h) (Or.inl ⟨by rfl, ?_⟩) (by assumption) ?_
  · (intro w hSw; (try dsimp only at hSw); go_split_ands; go_simp)
  try simp only [Act.put]
  try simp only [List.setIfInBounds_toArray]
  repeat simp only [List.set_cons_succ]
  try simp only [List.set_cons_zero]
  refine wpAnyH_take (i := 29) (v := .func (.func 43) #[.pointer (some ⟨R, 0, none⟩)] #[]) rfl (by kernel_rfl) (by kernel_rfl) (by kernel_rfl) (fun _ _ _ h => h) (Or.inl ⟨by rfl, ?_⟩) (by assumption) ?_
  · (intro w hSw; (try dsimp only at hSw); go_split_ands; go_simp)
  try simp only [Act.put]
  try simp only [List.setIfInBounds_toArray]
  repeat simp only [List.set_cons_succ]
  try simp only [List.set_cons_zero]
  refine wpAnyH_take (i := 31) (v := .pointer (some ⟨0, 6, none⟩)) rfl (by kernel_rfl) (by kernel_rfl) (by kernel_rfl) (fun _ _ _ h => h) (Or.inl ⟨by rfl, ?_⟩) (by assumption) ?_
  · (intro w hSw; (try dsimp only at hSw); go_split_ands; go_simp)
  try simp only [Act.put]
  try simp only [List.setIfInBounds_toArray]
  repeat simp only [List.set_cons_succ]
  try simp only [List.set_cons_zero]
  refine wpAnyH_take (i := 32) (v := .string ⟨#[112, 117, 115, 104]⟩) rfl (by kernel_rfl) (by kernel_rfl) (by kernel_rfl) (fun _ _ _ h => h) (Or.inl ⟨by rfl, ?_⟩) (by assumption) ?_
  · (intro w hSw; (try dsimp only at hSw); go_split_ands; go_simp)
  try simp only [Act.put]
  try simp only [List.setIfInBounds_toArray]
  repeat simp only [List.set_cons_succ]
  try simp only [List.set_cons_zero]
  refine wpAnyH_take (i := 33) (v := .pointer (some ⟨R, 0, none⟩)) rfl (by kernel_rfl) (by kernel_rfl) (by kernel_rfl) (fun _ _ _ h => h) (Or.inl ⟨by rfl, ?_⟩) (by assumption) ?_
  · (intro w hSw; (try dsimp only at hSw); go_split_ands; go_simp)
  try simp only [Act.put]
  try simp only [List.setIfInBounds_toArray]
  repeat simp only [List.set_cons_succ]
  try simp only [List.set_cons_zero]
  refine wpAnyH_take (i := 34) (v := .func (.func 44) #[.pointer (some ⟨R, 0, none⟩)] #[]) rfl (by kernel_rfl) (by kernel_rfl) (by kernel_rfl) (fun _ _ _ h => h) (Or.inl ⟨by rfl, ?_⟩) (by assumption) ?_
  · (intro w hSw; (try dsimp only at hSw); go_split_ands; go_simp)
  try simp only [Act.put]
  try simp only [List.setIfInBounds_toArray]
  repeat simp only [List.set_cons_succ]
  try simp only [List.set_cons_zero]
  refine wpAnyH_take (i := 36) (v := .pointer (some ⟨0, 7, none⟩)) rfl (by kernel_rfl) (by kernel_rfl) (by kernel_rfl) (fun _ _ _ h => h) (Or.inl ⟨by rfl, ?_⟩) (by assumption) ?_
  · (intro w hSw; (try dsimp only at hSw); go_split_ands; go_simp)
  try simp only [Act.put]
  try simp only [List.setIfInBounds_toArray]
  repeat simp only [List.set_cons_succ]
  try simp only [List.set_cons_zero]
  refine wpAnyH_take (i := 37) (v := .string ⟨#[112, 111, 112]⟩) rfl (by kernel_rfl) (by kernel_rfl) (by kernel_rfl) (fun _ _ _ h => h) (Or.inl ⟨by rfl, ?_⟩) (by assumption) ?_
  · (intro w hSw; (try dsimp only at hSw); go_split_ands; go_simp)
  try simp only [Act.put]
  try simp only [List.setIfInBounds_toArray]
  repeat simp only [List.set_cons_succ]
  try simp only [List.set_cons_zero]
  refine wpAnyH_take (i := 38) (v := .pointer (some ⟨R, 0, none⟩)) rfl (by kernel_rfl) (by kernel_rfl) (by kernel_rfl) (fun _ _ _ h => h) (Or.inl ⟨by rfl, ?_⟩) (by assumption) ?_
  · (intro w hSw; (try dsimp only at hSw); go_split_ands; go_simp)
  try simp only [Act.put]
  try simp only [List.setIfInBounds_toArray]
  repeat simp only [List.set_cons_succ]
  try simp only [List.set_cons_zero]
  refine wpAnyH_take (i := 39) (v := .func (.func 45) #[.pointer (some ⟨R, 0, none⟩)] #[]) rfl (by kernel_rfl) (by kernel_rfl) (by kernel_rfl) (fun _ _ _ h => h) (Or.inl ⟨by rfl, ?_⟩) (by assumption) ?_
  · (intro w hSw; (try dsimp only at hSw); go_split_ands; go_simp)
  try simp only [Act.put]
  try simp only [List.setIfInBounds_toArray]
  repeat simp only [List.set_cons_succ]
  try simp only [List.set_cons_zero]
  refine wpAnyH_take (i := 41) (v := .pointer (some ⟨0, 8, none⟩)) rfl (by kernel_rfl) (by kernel_rfl) (by kernel_rfl) (fun _ _ _ h => h) (Or.inl ⟨by rfl, ?_⟩) (by assumption) ?_
  · (intro w hSw; (try dsimp only at hSw); go_split_ands; go_simp)
  try simp only [Act.put]
  try simp only [List.setIfInBounds_toArray]
  repeat simp only [List.set_cons_succ]
  try simp only [List.set_cons_zero]
  refine wpAnyH_take (i := 42) (v := .string ⟨#[99, 104, 101, 99, 107, 45, 115, 97, 116]⟩) rfl (by kernel_rfl) (by kernel_rfl) (by kernel_rfl) (fun _ _ _ h => h) (Or.inl ⟨by rfl, ?_⟩) (by assumption) ?_
  · (intro w hSw; (try dsimp only at hSw); go_split_ands; go_simp)
  try simp only [Act.put]
  try simp only [List.setIfInBounds_toArray]
  repeat simp only [List.set_cons_succ]
  try simp only [List.set_cons_zero]
  refine wpAnyH_take (i := 43) (v := .pointer (some ⟨R, 0, none⟩)) rfl (by kernel_rfl) (by kernel_rfl) (by kernel_rfl) (fun _ _ _ h => h) (Or.inl ⟨by rfl, ?_⟩) (by assumption) ?_
  · (intro w hSw; (try dsimp only at hSw); go_split_ands; go_simp)
  try simp only [Act.put]
  try simp only [List.setIfInBounds_toArray]
  repeat simp only [List.set_cons_succ]
  try simp only [List.set_cons_zero]
  refine wpAnyH_take (i := 44) (v := .func (.func 46) #[.pointer (some ⟨R, 0, none⟩)] #[]) rfl (by kernel_rfl) (by kernel_rfl) (by kernel_rfl) (fun _ _ _ h => h) (Or.inl ⟨by rfl, ?_⟩) (by assumption) ?_
  · (intro w hSw; (try dsimp only at hSw); go_split_ands; go_simp)
  try simp only [Act.put]
  try simp only [List.setIfInBounds_toArray]
  repeat simp only [List.set_cons_succ]
  try simp only [List.set_cons_zero]
  refine wpAnyH_take (i := 46) (v := .pointer (some ⟨0, 9, none⟩)) rfl (by kernel_rfl) (by kernel_rfl) (by kernel_rfl) (fun _ _ _ h => h) (Or.inl ⟨by rfl, ?_⟩) (by assumption) ?_
  · (intro w hSw; (try dsimp only at hSw); go_split_ands; go_simp)
  try simp only [Act.put]
  try simp only [List.setIfInBounds_toArray]
  repeat simp only [List.set_cons_succ]
  try simp only [List.set_cons_zero]
  refine wpAnyH_take (i := 47) (v := .string ⟨#[103, 101, 116, 45, 109, 111, 100, 101, 108]⟩) rfl (by kernel_rfl) (by kernel_rfl) (by kernel_rfl) (fun _ _ _ h => h) (Or.inl ⟨by rfl, ?_⟩) (by assumption) ?_
  · (intro w hSw; (try dsimp only at hSw); go_split_ands; go_simp)
  try simp only [Act.put]
  try simp only [List.setIfInBounds_toArray]
  repeat simp only [List.set_cons_succ]
  try simp only [List.set_cons_zero]
  refine wpAnyH_take (i := 48) (v := .pointer (some ⟨R, 0, none⟩)) rfl (by kernel_rfl) (by kernel_rfl) (by kernel_rfl) (fun _ _ _ h => h) (Or.inl ⟨by rfl, ?_⟩) (by assumption) ?_
  · (intro w hSw; (try dsimp only at hSw); go_split_ands; go_simp)
  try simp only [Act.put]
  try simp only [List.setIfInBounds_toArray]
  repeat simp only [List.set_cons_succ]
  try simp only [List.set_cons_zero]
  refine wpAnyH_take (i := 49) (v := .func (.func 47) #[.pointer (some ⟨R, 0, none⟩)] #[]) rfl (by kernel_rfl) (by kernel_rfl) (by kernel_rfl) (fun _ _ _ h => h) (Or.inl ⟨by rfl, ?_⟩) (by assumption) ?_
  · (intro w hSw; (try dsimp only at hSw); go_split_ands; go_simp)
  try simp only [Act.put]
  try simp only [List.setIfInBounds_toArray]
  repeat simp only [List.set_cons_succ]
  try simp only [List.set_cons_zero]
  refine wpAnyH_take (i := 51) (v := .pointer (some ⟨0, 10, none⟩)) rfl (by kernel_rfl) (by kernel_rfl) (by kernel_rfl) (fun _ _ _ h => h) (Or.inl ⟨by rfl, ?_⟩) (by assumption) ?_
  · (intro w hSw; (try dsimp only at hSw); go_split_ands; go_simp)
  try simp only [Act.put]
  try simp only [List.setIfInBounds_toArray]
  repeat simp only [List.set_cons_succ]
  try simp only [List.set_cons_zero]
  refine wpAnyH_take (i := 52) (v := .string ⟨#[103, 101, 116, 45, 118, 97, 108, 117, 101]⟩) rfl (by kernel_rfl) (by kernel_rfl) (by kernel_rfl) (fun _ _ _ h => h) (Or.inl ⟨by rfl, ?_⟩) (by assumption) ?_
  · (intro w hSw; (try dsimp only at hSw); go_split_ands; go_simp)
  try simp only [Act.put]
  try simp only [List.setIfInBounds_toArray]
  repeat simp only [List.set_cons_succ]
  try simp only [List.set_cons_zero]
  refine wpAnyH_take (i := 53) (v := .pointer (some ⟨R, 0, none⟩)) rfl (by kernel_rfl) (by kernel_rfl) (by kernel_rfl) (fun _ _ _ h => h) (Or.inl ⟨by rfl, ?_⟩) (by assumption) ?_
  · (intro w hSw; (try dsimp only at hSw); go_split_ands; go_simp)
  try simp only [Act.put]
  try simp only [List.setIfInBounds_toArray]
  repeat simp only [List.set_cons_succ]
  try simp only [List.set_cons_zero]
  refine wpAnyH_take (i := 54) (v := .func (.func 48) #[.pointer (some ⟨R, 0, none⟩)] #[]) rfl (by kernel_rfl) (by kernel_rfl) (by kernel_rfl) (fun _ _ _ h => h) (Or.inl ⟨by rfl, ?_⟩) (by assumption) ?_
  · (intro w hSw; (try dsimp only at hSw); go_split_ands; go_simp)
  try simp only [Act.put]
  try simp only [List.setIfInBounds_toArray]
  repeat simp only [List.set_cons_succ]
  try simp only [List.set_cons_zero]
  refine wpAnyH_take (i := 56) (v := .pointer (some ⟨0, 11, none⟩)) rfl (by kernel_rfl) (by kernel_rfl) (by kernel_rfl) (fun _ _ _ h => h) (Or.inl ⟨by rfl, ?_⟩) (by assumption) ?_
  · (intro w hSw; (try dsimp only at hSw); go_split_ands; go_simp)
  try simp only [Act.put]
  try simp only [List.setIfInBounds_toArray]
  repeat simp only [List.set_cons_succ]
  try simp only [List.set_cons_zero]
  refine wpAnyH_take (i := 57) (v := .string ⟨#[103, 101, 116, 45, 112, 114, 111, 111, 102]⟩) rfl (by kernel_rfl) (by kernel_rfl) (by kernel_rfl) (fun _ _ _ h => h) (Or.inl ⟨by rfl, ?_⟩) (by assumption) ?_
  · (intro w hSw; (try dsimp only at hSw); go_split_ands; go_simp)
  try simp only [Act.put]
  try simp only [List.setIfInBounds_toArray]
  repeat simp only [List.set_cons_succ]
  try simp only [List.set_cons_zero]
  refine wpAnyH_take (i := 58) (v := .pointer (some ⟨R, 0, none⟩)) rfl (by kernel_rfl) (by kernel_rfl) (by kernel_rfl) (fun _ _ _ h => h) (Or.inl ⟨by rfl, ?_⟩) (by assumption) ?_
  · (intro w hSw; (try dsimp only at hSw); go_split_ands; go_simp)
  try simp only [Act.put]
  try simp only [List.setIfInBounds_toArray]
  repeat simp only [List.set_cons_succ]
  try simp only [List.set_cons_zero]
  refine wpAnyH_take (i := 59) (v := .func (.func 49) #[.pointer (some ⟨R, 0, none⟩)] #[]) rfl (by kernel_rfl) (by kernel_rfl) (by kernel_rfl) (fun _ _ _ h => h) (Or.inl ⟨by rfl, ?_⟩) (by assumption) ?_
  · (intro w hSw; (try dsimp only at hSw); go_split_ands; go_simp)
  try simp only [Act.put]
  try simp only [List.setIfInBounds_toArray]
  repeat simp only [List.set_cons_succ]
  try simp only [List.set_cons_zero]
  refine wpAnyH_take (i := 61) (v := .pointer (some ⟨0, 12, none⟩)) rfl (by kernel_rfl) (by kernel_rfl) (by kernel_rfl) (fun _ _ _ h => h) (Or.inl ⟨by rfl, ?_⟩) (by assumption) ?_
  · (intro w hSw; (try dsimp only at hSw); go_split_ands; go_simp)
  try simp only [Act.put]
  try simp only [List.setIfInBounds_toArray]
  repeat simp only [List.set_cons_succ]
  try simp only [List.set_cons_zero]
  refine wpAnyH_take (i := 62) (v := .string ⟨#[101, 120, 105, 116]⟩) rfl (by kernel_rfl) (by kernel_rfl) (by kernel_rfl) (fun _ _ _ h => h) (Or.inl ⟨by rfl, ?_⟩) (by assumption) ?_
  · (intro w hSw; (try dsimp only at hSw); go_split_ands; go_simp)
  try simp only [Act.put]
  try simp only [List.setIfInBounds_toArray]
  repeat simp only [List.set_cons_succ]
  try simp only [List.set_cons_zero]
  refine wpAnyH_take (i := 63) (v := .pointer (some ⟨R, 0, none⟩)) rfl (by kernel_rfl) (by kernel_rfl) (by kernel_rfl) (fun _ _ _ h => h) (Or.inl ⟨by rfl, ?_⟩) (by assumption) ?_
  · (intro w hSw; (try dsimp only at hSw); go_split_ands; go_simp)
  try simp only [Act.put]
  try simp only [List.setIfInBounds_toArray]
  repeat simp only [List.set_cons_succ]
  try simp only [List.set_cons_zero]
  refine wpAnyH_take (i := 64) (v := .func (.func 50) #[.pointer (some ⟨R, 0, none⟩)] #[]) rfl (by kernel_rfl) (by kernel_rfl) (by kernel_rfl) (fun _ _ _ h => h) (Or.inl ⟨by rfl, ?_⟩) (by assumption) ?_
  · (intro w hSw; (try dsimp only at hSw); go_split_ands; go_simp)
  try simp only [Act.put]
  try simp only [List.setIfInBounds_toArray]
  repeat simp only [List.set_cons_succ]
  try simp only [List.set_cons_zero]
  refine wpAnyH_ready (rs := [0]) (by kernel_rfl) (by simp) ?_
  refine AllReadyH.cons rfl (fun K hK => ?_) AllReadyH.nil
  go_simp
  refine hK.out _ _ ?_ (fun hHeld => ?_)
  · have hGd : Below w.heap.size w (w.alloc (.map #[] 0)).drew := ((Below.refl _ _).alloc (Nat.le_refl _) _).drew
    have hGW := HGH.out.below hGd
    exact ⟨hGW.h 0 _ rfl, hGW.h 1 _ rfl, hGW.h 2 _ rfl, hGW.h 3 _ rfl, hGW.h 4 _ rfl, hGW.h 5 _ rfl, hGW.h 6 _ rfl, hGW.h 7 _ rfl, hGW.h 8 _ rfl, hGW.h 9 _ rfl, hGW.h 10 _ rfl, hGW.h 11 _ rfl, hGW.h 12 _ rfl⟩
  clear hK K
  try simp only [Act.put]
  try simp only [List.setIfInBounds_toArray]
  repeat simp only [List.set_cons_succ]
  try simp only [List.set_cons_zero]
  clear hmm hmf
  have hGd : Below w.heap.size w (w.alloc (.map #[] 0)).drew := ((Below.refl _ _).alloc (Nat.le_refl _) _).drew
  refine ins_stage (md := .any) 13 66 (fun j => bytesL (headsL.getD j [])) (fun j => .func (.func (fnsF.getD j 0)) #[.pointer (some ⟨R, 0, none⟩)] #[]) _ w.heap.size _ 9 52 under_fm Tryz.underlying9 names_ne (fun j hj => ?_) (by omega) rfl (fun i hi => ?_) (fun i h1 h2 h3 => ⟨i / 5 - 1, by omega, by omega⟩) (w.alloc (.map #[] 0)).drew ?_ ?_ 13 (List.range 13) _ _ #[] 0 rfl List.nodup_range (fun j hj => by simpa using hj) rfl rfl rfl (by decide +kernel) (by decide +kernel) (by decide +kernel) ?_ ⟨fun e he => by simp at he, fun j hj hn => absurd (by simpa using hj) hn, fun j hj hm e he => by simp at he⟩ hHeld (Kp.refl _ _)
  · match j, hj with
    | 0, _ => exact ⟨_, _, _, _, rfl, rfl, rfl, rfl, rfl, rfl, rfl, by decide +kernel⟩
    | 1, _ => exact ⟨_, _, _, _, rfl, rfl, rfl, rfl, rfl, rfl, rfl, by decide +kernel⟩
    | 2, _ => exact ⟨_, _, _, _, rfl, rfl, rfl, rfl, rfl, rfl, rfl, by decide +kernel⟩
    | 3, _ => exact ⟨_, _, _, _, rfl, rfl, rfl, rfl, rfl, rfl, rfl, by decide +kernel⟩
    | 4, _ => exact ⟨_, _, _, _, rfl, rfl, rfl, rfl, rfl, rfl, rfl, by decide +kernel⟩
    | 5, _ => exact ⟨_, _, _, _, rfl, rfl, rfl, rfl, rfl, rfl, rfl, by decide +kernel⟩
    | 6, _ => exact ⟨_, _, _, _, rfl, rfl, rfl, rfl, rfl, rfl, rfl, by decide +kernel⟩
    | 7, _ => exact ⟨_, _, _, _, rfl, rfl, rfl, rfl, rfl, rfl, rfl, by decide +kernel⟩
    | 8, _ => exact ⟨_, _, _, _, rfl, rfl, rfl, rfl, rfl, rfl, rfl, by decide +kernel⟩
    | 9, _ => exact ⟨_, _, _, _, rfl, rfl, rfl, rfl, rfl, rfl, rfl, by decide +kernel⟩
    | 10, _ => exact ⟨_, _, _, _, rfl, rfl, rfl, rfl, rfl, rfl, rfl, by decide +kernel⟩
    | 11, _ => exact ⟨_, _, _, _, rfl, rfl, rfl, rfl, rfl, rfl, rfl, by decide +kernel⟩
    | 12, _ => exact ⟨_, _, _, _, rfl, rfl, rfl, rfl, rfl, rfl, rfl, by decide +kernel⟩
  · rcases hi with rfl | rfl
    · refine ⟨_, rfl, fun j hj => any_edge ?_⟩
      revert j
      decide +kernel
    · refine ⟨_, rfl, fun j hj => any_edge ?_⟩
      revert j
      decide +kernel
  · intro w1 w2 hs hk hsz
    have hb := hk.2.2.2.2 0 (by have := HGH.out.lt; omega)
    obtain ⟨s0, s1, s2, s3, s4, s5, s6, s7, s8, s9, s10, s11, s12⟩ := hs
    exact ⟨(World.cell?_of_block (a := ⟨0, 0, none⟩) hb).trans s0, (World.cell?_of_block (a := ⟨0, 1, none⟩) hb).trans s1, (World.cell?_of_block (a := ⟨0, 2, none⟩) hb).trans s2, (World.cell?_of_block (a := ⟨0, 3, none⟩) hb).trans s3, (World.cell?_of_block (a := ⟨0, 4, none⟩) hb).trans s4, (World.cell?_of_block (a := ⟨0, 5, none⟩) hb).trans s5, (World.cell?_of_block (a := ⟨0, 6, none⟩) hb).trans s6, (World.cell?_of_block (a := ⟨0, 7, none⟩) hb).trans s7, (World.cell?_of_block (a := ⟨0, 8, none⟩) hb).trans s8, (World.cell?_of_block (a := ⟨0, 9, none⟩) hb).trans s9, (World.cell?_of_block (a := ⟨0, 10, none⟩) hb).trans s10, (World.cell?_of_block (a := ⟨0, 11, none⟩) hb).trans s11, (World.cell?_of_block (a := ⟨0, 12, none⟩) hb).trans s12⟩
  · intro w2 es clock listed h1 h2 h3 h4 h5 h6 h7 h8
    refine pre_last (E := 66) (v := .map (some w.heap.size)) (d := some 56) h5 h6 h7 h8 rfl rfl (by decide +kernel) rfl rfl rfl (any_edge (by decide +kernel)) (fun K hK => wp_mv (.inl rfl) rfl hK) h3 (last_stage (E := 67) (v := .map (some w.heap.size)) (d := some 2) (by simp [h5]) (fun i hi => ?_) ?_ rfl rfl (by decide +kernel) rfl rfl (fun K hK => wp_mv (.inr rfl) rfl hK) h3 ?_)
    · by_cases e : i = 66
      · subst e
        exact Array.getElem?_setIfInBounds_self_of_lt (by omega)
      · rw [Array.getElem?_setIfInBounds_ne (fun h => e h.symm)]
        exact h6 i (by omega)
    · rw [Array.getElem?_setIfInBounds_ne (by decide)]
      exact h8
    simp only [Act.put, List.setIfInBounds_toArray, List.set_cons_succ, List.set_cons_zero]
    go_wp2
    go_ret
    refine ⟨w.heap.size, _, clock, rfl, h1, h2, ?_⟩
    exact ((Below.refl _ _).alloc (Nat.le_refl _) _).drew.trans (h4.below (fun k hk => by omega))
  · exact heap_alloc_new w _
end Go.Proofs.YtodonngnigbpaaaGreatDoor
