/- Package command's Parse. -/
import Derived.Test.YtodonngnigbpaaaGreatDoorCmP2
import Derived.Test.YtodonngnigbpaaaGreatDoorCmB
import Derived.Test.YtodonngnigbpaaaGreatDoorSexTm2
import Derived.Deep.RegionHeld3
namespace Go.Proofs.YtodonngnigbpaaaGreatDoor
open Go.RowKit
set_option linter.unusedVariables false
theorem names_inj (i j : Nat) (hi : i < 13) (hj : j < 13) (h : bytesL (headsL.getD i []) = bytesL (headsL.getD j [])) : i = j := by
  refine Classical.byContradiction fun hn => ?_
  have := names_ne i j hi hj hn
  rw [h, (MapKept.bytes_beq _ _).2 rfl] at this
  cases this
theorem headN_lt {s : List UInt8} (h : headN s < 13) : headsL.getD (headN s) [] = s := by
  unfold headN at h ⊢
  have hl : headsL.findIdx (fun x => decide (x = s)) < headsL.length := h
  have := List.findIdx_getElem (w := hl)
  rw [List.getD, List.getElem?_eq_getElem hl]
  simpa using this
theorem headN_no {s : List UInt8} (h : ¬ headN s < 13) (j : Nat) (hj : j < 13) : headsL.getD j [] ≠ s := by
  intro e
  have hl : j < headsL.length := hj
  rw [List.getD, List.getElem?_eq_getElem hl] at e
  refine h ?_
  show List.findIdx _ _ < headsL.length
  exact List.findIdx_lt_length_of_exists ⟨headsL[j], List.getElem_mem _, by simpa using e⟩
def EntF (R : Nat) (es : List MapEntry) : Prop := EntS 13 (fun j => bytesL (headsL.getD j [])) (fun j => .func (.func (fnsF.getD j 0)) #[.pointer (some ⟨R, 0, none⟩)] #[]) [] es
theorem look_yes {R M : Nat} {es : Array MapEntry} {clock : Nat} {W : World} (hM : W.heap[M]? = some (.map es clock)) (hE : EntF R es.toList) {s : List UInt8} (h : headN s < 13) :
    (Instr.lookup 54 (.map (some M)) (.string (bytesL s)) true).run Tryz.prog W = .ok (.tuple #[.func (.func (fnsF.getD (headN s) 0)) #[.pointer (some ⟨R, 0, none⟩)] #[], .bool true]) W := by
  obtain ⟨q, hq⟩ := findNow_some (N := 13) (names := fun j => bytesL (headsL.getD j [])) (fv := fun j => .func (.func (fnsF.getD j 0)) #[.pointer (some ⟨R, 0, none⟩)] #[]) (j := headN s) h names_inj es.toList 0 hE.one (hE.all _ h (by simp))
  simp only [headN_lt h] at hq
  have hk := Tryz.underlying9
  have hck : ∀ b, (Instr.checkKey b 10000 9 (.string (bytesL s))).run Tryz.prog W = .ok () W := fun b => MapKept.run_checkKey hk (by simp [MapKept.IsKey]) b 9999
  have hfk : (Instr.findKey 9 (.string (bytesL s)) es.toList).run Tryz.prog W = .ok (some (q, .func (.func (fnsF.getD (headN s) 0)) #[.pointer (some ⟨R, 0, none⟩)] #[])) W := by
    simp [Instr.findKey, run_underlying hk, hq]
  simp [Instr.lookup, run_underlying under_fm, MapKept.run_getObj_map hM, hck, hfk, Result.andThen]
theorem zero_fn (W : World) : ∃ z, (zeroValue 52).run Tryz.prog W = .ok z W := by
  have h : ((Tryz.prog.info? 52).bind (·.zero)).isSome = true := by kernel_rfl
  obtain ⟨z, hz⟩ := Option.isSome_iff_exists.1 h
  obtain ⟨i, hi, hiz⟩ := Option.bind_eq_some_iff.1 hz
  refine ⟨z, ?_⟩
  simp [zeroValue, typeInfo, hi, hiz]
theorem look_no {R M : Nat} {es : Array MapEntry} {clock : Nat} {W : World} (hM : W.heap[M]? = some (.map es clock)) (hE : EntF R es.toList) {s : List UInt8} (h : ¬ headN s < 13) :
    ∃ z, (Instr.lookup 54 (.map (some M)) (.string (bytesL s)) true).run Tryz.prog W = .ok (.tuple #[z, .bool false]) W := by
  obtain ⟨z, hz⟩ := zero_fn W
  have hno : noKey (bytesL s) es.toList = true := noKey_of fun e he => by
    obtain ⟨j, hj, h1, _⟩ := hE.one e he
    refine ⟨_, h1, ?_⟩
    rw [Bool.eq_false_iff]
    intro h2
    exact headN_no h j hj (bytesL_inj ((MapKept.bytes_beq _ _).1 h2)).symm
  have hq := findNow_none (bytesL s) es.toList 0 hno
  have hk := Tryz.underlying9
  have hck : ∀ b, (Instr.checkKey b 10000 9 (.string (bytesL s))).run Tryz.prog W = .ok () W := fun b => MapKept.run_checkKey hk (by simp [MapKept.IsKey]) b 9999
  have hfk : (Instr.findKey 9 (.string (bytesL s)) es.toList).run Tryz.prog W = .ok none W := by
    simp [Instr.findKey, run_underlying hk, hq]
  refine ⟨z, ?_⟩
  simp [Instr.lookup, run_underlying under_fm, MapKept.run_getObj_map hM, hck, hfk, hz, Result.andThen]
theorem form_at (j : Nat) (hj : j < 13) (B R rc : Nat) (ra : Option Addr) (ys : List Tree) (w : World) (hS : FormS B R ra rc ys w) :
    Calls Tryz.prog (fnsF.getD j 0) #[.pointer (some ⟨R, 0, none⟩)] w (TakeP R (takeP (cmdK j) (formsL.getD j []) ys) w) := by
  match j, hj with
  | 0, _ => exact form_logic B R rc ra ys w hS
  | 1, _ => exact form_option B R rc ra ys w hS
  | 2, _ => exact form_sort B R rc ra ys w hS
  | 3, _ => exact form_fun B R rc ra ys w hS
  | 4, _ => exact form_define B R rc ra ys w hS
  | 5, _ => exact form_assert B R rc ra ys w hS
  | 6, _ => exact form_push B R rc ra ys w hS
  | 7, _ => exact form_pop B R rc ra ys w hS
  | 8, _ => exact form_check B R rc ra ys w hS
  | 9, _ => exact form_model B R rc ra ys w hS
  | 10, _ => exact form_value B R rc ra ys w hS
  | 11, _ => exact form_proof B R rc ra ys w hS
  | 12, _ => exact form_exit B R rc ra ys w hS
theorem form_ent (j : Nat) (hj : j < 13) : ∀ args w, (callFunc (fnsF.getD j 0) args).run Tryz.prog w = .ok (.enter (fnsF.getD j 0) args) w := by
  match j, hj with
  | 0, _ => exact enters_of Tryz.func38 (by kernel_rfl) rfl
  | 1, _ => exact enters_of Tryz.func39 (by kernel_rfl) rfl
  | 2, _ => exact enters_of Tryz.func40 (by kernel_rfl) rfl
  | 3, _ => exact enters_of Tryz.func41 (by kernel_rfl) rfl
  | 4, _ => exact enters_of Tryz.func42 (by kernel_rfl) rfl
  | 5, _ => exact enters_of Tryz.func43 (by kernel_rfl) rfl
  | 6, _ => exact enters_of Tryz.func44 (by kernel_rfl) rfl
  | 7, _ => exact enters_of Tryz.func45 (by kernel_rfl) rfl
  | 8, _ => exact enters_of Tryz.func46 (by kernel_rfl) rfl
  | 9, _ => exact enters_of Tryz.func47 (by kernel_rfl) rfl
  | 10, _ => exact enters_of Tryz.func48 (by kernel_rfl) rfl
  | 11, _ => exact enters_of Tryz.func49 (by kernel_rfl) rfl
  | 12, _ => exact enters_of Tryz.func50 (by kernel_rfl) rfl
/-- What Parse answers. -/
def ParseP (sure : Prop) (t : Tree) (w : World) (e : Ending) (w' : World) : Prop :=
  ∃ r : Option CmdA, (∀ c, r = some c → parse0 t = some c ∧ mayT t = true) ∧ (sure → mayT t = true → r = parse0 t) ∧ Below w.heap.size w w' ∧
    match r with
    | some c => ∃ x : CmdV, x.c = c ∧ e = .returned (.tuple #[.agg #[.int .i8 x.c.kind, .string (bytesL x.c.name), .int .i64 x.c.n, .slice x.la x.c.l.length x.lc, .slice x.aa x.c.args.length x.ac, .slice x.pa x.c.params.length x.pc, .string (bytesL x.c.res), .slice x.ta x.c.terms.length x.tc], .int .i64 0]) ∧ CmdN w' w.heap.size x
    | none => e = .returned (.tuple #[zCmV, .int .i64 30])
/-- What sexpr's May answers, in either world. -/
theorem may_two (t : Tree) (v : Value) (w : World) (hG : Globs w) (hr : Sx w t v) (sure : Prop) (hs : sure → SxK w t v) :
    Calls Tryz.prog 22 #[v] w fun e w' => (∃ r, e = .returned (.bool r) ∧ (r = true → mayT t = true) ∧ (sure → mayT t = true → r = true)) ∧ Below w.heap.size w w' := by
  by_cases h : sure
  · obtain ⟨bad, h1, h2, h3⟩ := hs h
    refine (May_any t v w hG bad h1 h2 h3).mono ?_
    rintro e w' ⟨rfl, hb⟩
    exact ⟨⟨_, rfl, fun h => h, fun _ h => h⟩, hb⟩
  · refine (May_mk t v w hG (fun b => w.heap.size ≤ b) (fun b hb => by omega) hr).mono ?_
    rintro e w' ⟨⟨r, rfl, hm⟩, hb⟩
    exact ⟨⟨r, rfl, hm, fun h' => absurd h' h⟩, hb⟩
end Go.Proofs.YtodonngnigbpaaaGreatDoor
namespace Go.Proofs.YtodonngnigbpaaaGreatDoor
open Go.RowKit
set_option linter.unusedVariables false
theorem three_new (W : World) (o o' o'' : Obj) : (((W.alloc o).alloc o').alloc o'').heap[W.heap.size]? = some o ∧ (((W.alloc o).alloc o').alloc o'').heap[W.heap.size + 1]? = some o' ∧ (((W.alloc o).alloc o').alloc o'').heap[W.heap.size + 2]? = some o'' ∧ Below W.heap.size W (((W.alloc o).alloc o').alloc o'') ∧ (((W.alloc o).alloc o').alloc o'').heap.size = W.heap.size + 3 := by
  obtain ⟨h1, h2, h3⟩ := two_new W o o'
  refine ⟨(Below.heap_alloc _ _ _ (by simp; omega)).trans h1, (Below.heap_alloc _ _ _ (by simp)).trans h2, ?_, h3.alloc (by simp; omega) _, by simp⟩
  have := heap_alloc_new ((W.alloc o).alloc o') o''
  rwa [World.size_alloc, World.size_alloc] at this
theorem head_kids {t : Tree} (h : headN (headT t) < 13) : 0 < t.kids.length := by
  cases hk : t.kids with
  | nil =>
    have : headT t = [] := by unfold headT; rw [hk]; simp
    rw [this] at h
    exact absurd h (by decide)
  | cons a b => simp
theorem parse0_no {t : Tree} (h : ¬ headN (headT t) < 13) : parse0 t = none := by unfold parse0; rw [if_neg h]
theorem parse0_yes {t : Tree} (h : headN (headT t) < 13) : parse0 t = takeP (cmdK (headN (headT t))) (formsL.getD (headN (headT t)) []) (t.kids.drop 1) := by unfold parse0; rw [if_pos h]; rfl
theorem below_far1 {b i : Nat} {w W : World} {v : Value} (h : Below w.heap.size w W) (hb : w.heap.size ≤ b) : Below w.heap.size w (W.setCell ⟨b, i, none⟩ v) :=
  ⟨h.os, h.tape, h.output, by simp only [World.setCell, Array.size_modify]; exact h.size, fun k hk => (Below.heap_setCell _ _ _ k (by show k ≠ b; omega)).trans (h.block k hk)⟩
theorem below_far8 {b : Nat} {w W : World} {v0 v1 v2 v3 v4 v5 v6 v7 : Value} (h : Below w.heap.size w W) (hb : w.heap.size ≤ b) :
    Below w.heap.size w ((((((((W.setCell ⟨b, 0, none⟩ v0).setCell ⟨b, 1, none⟩ v1).setCell ⟨b, 2, none⟩ v2).setCell ⟨b, 3, none⟩ v3).setCell ⟨b, 4, none⟩ v4).setCell ⟨b, 5, none⟩ v5).setCell ⟨b, 6, none⟩ v6).setCell ⟨b, 7, none⟩ v7) :=
  below_far1 (below_far1 (below_far1 (below_far1 (below_far1 (below_far1 (below_far1 (below_far1 h hb) hb) hb) hb) hb) hb) hb) hb
theorem ParseP.none_ {sure : Prop} {t : Tree} {w w' : World} (h : sure → mayT t = true → none = parse0 t) (hb : Below w.heap.size w w') : ParseP sure t w (.returned (.tuple #[zCmV, .int .i64 30])) w' :=
  Exists.intro none ⟨fun c h => (by cases h), h, hb, rfl⟩
theorem ParseP.some_ {sure : Prop} {t : Tree} {w w' : World} {x : CmdV} (h : parse0 t = some x.c) (hm : mayT t = true) (hx : CmdN w' w.heap.size x) (hb : Below w.heap.size w w') : ParseP sure t w (.returned (.tuple #[.agg #[.int .i8 x.c.kind, .string (bytesL x.c.name), .int .i64 x.c.n, .slice x.la x.c.l.length x.lc, .slice x.aa x.c.args.length x.ac, .slice x.pa x.c.params.length x.pc, .string (bytesL x.c.res), .slice x.ta x.c.terms.length x.tc], .int .i64 0])) w' :=
  Exists.intro (some x.c) ⟨fun c h' => by cases h'; exact ⟨h, hm⟩, fun _ _ => h.symm, hb, x, rfl, rfl, hx⟩
def zRd : Obj := .cells #[.slice none 0 0, .int .i8 0, .string ⟨#[]⟩, .int .i64 0, .slice none 0 0, .slice none 0 0, .slice none 0 0, .string ⟨#[]⟩, .slice none 0 0] 51
set_option maxRecDepth 100000 in
set_option maxHeartbeats 2000000 in
theorem cparse_any (sure : Prop) (t : Tree) (v : Value) (w : World) (hG : GH w) (hr : Sx w t v) (hrt : RowsT t) (hsu : sure → SxK w t v) : Calls Tryz.prog 9 #[v] w (ParseP sure t w) := by
  obtain ⟨a, cap, rfl, hl, hc, hs, hk⟩ := hr.parts
  obtain ⟨W3, hW3⟩ : ∃ W3, W3 = ((w.alloc (.cells #[.int .i8 t.kind, .string (bytesL t.text), .slice a t.kids.length cap] 35)).alloc zCm).alloc zRd := ⟨_, rfl⟩
  obtain ⟨hX, hZ, hR, hB3, hsz⟩ := three_new w (.cells #[.int .i8 t.kind, .string (bytesL t.text), .slice a t.kids.length cap] 35) zCm zRd
  rw [← hW3] at hX hZ hR hB3 hsz
  have HL : Hid (W3 = ((w.alloc (.cells #[.int .i8 t.kind, .string (bytesL t.text), .slice a t.kids.length cap] 35)).alloc (.cells #[.int .i8 0, .string ⟨#[]⟩, .int .i64 0, .slice none 0 0, .slice none 0 0, .slice none 0 0, .string ⟨#[]⟩, .slice none 0 0] 28)).alloc (.cells #[.slice none 0 0, .int .i8 0, .string ⟨#[]⟩, .int .i64 0, .slice none 0 0, .slice none 0 0, .slice none 0 0, .string ⟨#[]⟩, .slice none 0 0] 51)) := hW3
  have HK : Hid (∀ W, Below W3.heap.size W3 W → W.cell? ⟨w.heap.size, 0, none⟩ = some (.int .i8 t.kind) ∧ W.cell? ⟨w.heap.size, 1, none⟩ = some (.string (bytesL t.text)) ∧ W.cell? ⟨w.heap.size, 2, none⟩ = some (.slice a t.kids.length cap)) := fun W hW => by
    have q1 := (hW.block w.heap.size (by omega)).trans hX
    exact ⟨cell_of_row _ _ 0 _ _ _ q1, cell_of_row _ _ 1 _ _ _ q1, cell_of_row _ _ 2 _ _ _ q1⟩
  obtain ⟨hx, hhx⟩ : ∃ hx, hx = bytesL (headT t) := ⟨_, rfl⟩
  have HHd : Hid (∀ W, Below W3.heap.size W3 W → Calls Tryz.prog 21 #[.agg #[.int .i8 t.kind, .string (bytesL t.text), .slice a t.kids.length cap]] W fun e w6 => e = .returned (.string hx) ∧ (w6.cell? ⟨w.heap.size, 0, none⟩ = some (.int .i8 t.kind) ∧ w6.cell? ⟨w.heap.size, 1, none⟩ = some (.string (bytesL t.text)) ∧ w6.cell? ⟨w.heap.size, 2, none⟩ = some (.slice a t.kids.length cap)) ∧ Below W.heap.size W w6 ∧ Below W3.heap.size W3 w6) := fun W hW => by
    refine (Head_is t _ hx W (Sx.below hr ((hB3.trans (hW.mono (by omega))))) hhx.symm).mono ?_
    rintro e w6 ⟨rfl, hb⟩
    exact ⟨rfl, HK.out w6 (hW.trans (hb.mono hW.size)), hb, hW.trans (hb.mono hW.size)⟩
  have HMay : Hid (∀ W, Below W3.heap.size W3 W → Calls Tryz.prog 22 #[.agg #[.int .i8 t.kind, .string (bytesL t.text), .slice a t.kids.length cap]] W fun e w' => (∃ r, e = .returned (.bool r) ∧ (r = true → mayT t = true) ∧ (sure → mayT t = true → r = true)) ∧ Below W3.heap.size W3 w') := fun W hW => by
    have hbW := hB3.trans (hW.mono (by omega))
    refine (may_two t _ W (hG.below hbW).g (Sx.below hr hbW) sure (fun h => (hsu h).below hbW)).mono ?_
    rintro e w' ⟨h, hb⟩
    exact ⟨h, hW.trans (hb.mono hW.size)⟩
  have HF : Hid (∀ W, Below W3.heap.size W3 W → Calls Tryz.prog 20 #[.pointer (some ⟨w.heap.size + 2, 0, none⟩)] W fun e w5 => ∃ M, e = .returned (.map (some M)) ∧ (w5.cell? ⟨w.heap.size, 0, none⟩ = some (.int .i8 t.kind) ∧ w5.cell? ⟨w.heap.size, 1, none⟩ = some (.string (bytesL t.text)) ∧ w5.cell? ⟨w.heap.size, 2, none⟩ = some (.slice a t.kids.length cap)) ∧ Below W3.heap.size W3 w5 ∧ ∀ W', Below w5.heap.size w5 W' → ∃ (es : Array MapEntry) (clock : Nat), W'.heap[M]? = some (.map es clock) ∧ EntF (w.heap.size + 2) es.toList) := fun W hW => by
    have hbW := hB3.trans (hW.mono (by omega))
    refine (forms_any (w.heap.size + 2) W (hG.below hbW)).mono ?_
    rintro e w5 ⟨M, es, clock, rfl, hM, hE, hb⟩
    refine ⟨M, rfl, HK.out w5 (hW.trans (hb.mono hW.size)), hW.trans (hb.mono hW.size), fun W' h' => ⟨es, clock, (h'.block M (Array.getElem?_eq_some_iff.1 hM).1).trans hM, hE⟩⟩
  have HZ : Hid (∀ W, Below W3.heap.size W3 W → W.heap[w.heap.size + 1]? = some zCm) := fun W hW => (hW.block _ (by omega)).trans hZ
  have HR : Hid (∀ W, Below W3.heap.size W3 W → W.heap[w.heap.size + 2]? = some zRd) := fun W hW => (hW.block _ (by omega)).trans hR
  have HB3 := Lib.hid hB3
  have HSX := Lib.hid hr
  have HRT := Lib.hid hrt
  clear hG hr hrt hsu hs hW3 hX hZ hR hB3
  by_cases hn : headN (headT t) < 13
  · have HLK : Hid (∀ (W : World) (M : Nat) (es : Array MapEntry) (clock : Nat), W.heap[M]? = some (.map es clock) → EntF (w.heap.size + 2) es.toList → (Instr.lookup 54 (.map (some M)) (.string hx) true).run Tryz.prog W = .ok (.tuple #[.func (.func (fnsF.getD (headN (headT t)) 0)) #[.pointer (some ⟨w.heap.size + 2, 0, none⟩)] #[], .bool true]) W) := fun W M es clock h1 h2 => by rw [hhx]; exact look_yes h1 h2 hn
    have HP0 : Hid (parse0 t = takeP (cmdK (headN (headT t))) (formsL.getD (headN (headT t)) []) (t.kids.drop 1)) := parse0_yes hn
    have hpos := head_kids hn
    have hent := form_ent _ hn
    have HFO : Hid (∀ (rc : Nat) (ra : Option Addr) (W : World), Below W3.heap.size W3 W → (1 < t.kids.length → ∃ g o, a = some ⟨g, o, none⟩ ∧ ra = some ⟨g, o + 3, none⟩) → Calls Tryz.prog (fnsF.getD (headN (headT t)) 0) #[.pointer (some ⟨w.heap.size + 2, 0, none⟩)] (W.setCell ⟨w.heap.size + 2, 0, none⟩ (.slice ra (t.kids.length - 1) rc)) (TakeP (w.heap.size + 2) (parse0 t) (W.setCell ⟨w.heap.size + 2, 0, none⟩ (.slice ra (t.kids.length - 1) rc)))) := fun rc ra W hW h1 => by
      rw [HP0.out]
      have e1 : (t.kids.drop 1).length = t.kids.length - 1 := by simp
      refine form_at _ hn w.heap.size _ rc ra _ _ ⟨by omega, ?_, ?_, fun y hy => HRT.out.kids.2 y (List.mem_of_mem_drop hy), ?_⟩
      · have hb := HR.out W hW
        unfold zRd at hb
        unfold Rdr0
        rw [e1]
        simp [World.setCell, Array.getElem?_modify, hb]
      · by_cases h2 : 1 < t.kids.length
        · obtain ⟨g, o, e2, e3⟩ := h1 h2
          subst e2
          rw [e3]
          have hbw := HB3.out.trans (hW.mono (by omega))
          have := RdL.drop t.kids g o 1 hk
          refine RdL.keep (fun b hb _ => ?_) _ _ this
          exact (Below.heap_setCell _ _ _ b (by show b ≠ w.heap.size + 2; omega)).trans (hbw.block b (by omega))
        · have : t.kids.drop 1 = [] := List.drop_eq_nil_of_le (by omega)
          rw [this]
          trivial
      · have := HRT.out.kids.1
        rw [e1]
        omega
    obtain ⟨g, o, ea, hg, _, _, _⟩ := hk.addr hpos
    subst ea
    have HK' := Lib.hid hk
    clear hk
    obtain ⟨f, hf⟩ : ∃ f, f = fnsF.getD (headN (headT t)) 0 := ⟨_, rfl⟩
    rw [← hf] at hent HLK HFO
    clear hf hn hhx HP0
    go_enter Tryz.func9, Tryz.ntmps9
    go_wp2_with fail
    rw [← HL.out]
    clear HL
    have H0 := HK.out W3 (Below.refl _ _)
    have H1 := HK.out W3.drew (Below.refl _ _).drew
    go_region_held3 (fun W => W.cell? ⟨w.heap.size, 0, none⟩ = some (.int .i8 t.kind) ∧ W.cell? ⟨w.heap.size, 1, none⟩ = some (.string (bytesL t.text)) ∧ W.cell? ⟨w.heap.size, 2, none⟩ = some (.slice (some ⟨g, o, none⟩) t.kids.length cap))
      (first | with_reducible exact H0 | with_reducible exact H1 | with_reducible exact hs5 | with_reducible exact hs6)
      (first
        | (go_at_call 20; refine (HF.out _ HB6.out).mono ?_; rintro e wf ⟨M, rfl, hs5, hb5, hm5⟩; obtain ⟨es, clock, hm1, hm2⟩ := hm5 _ (Below.refl _ _); have hlk := HLK.out _ _ _ _ hm1 hm2; have HBf := Lib.hid hb5; clear hb5 hm5 hm1 hm2)
        | (go_at_call 20; refine (HF.out _ (Below.refl _ _).drew).mono ?_; rintro e w5 ⟨M, rfl, hs5, hb5, hm5⟩; have HB5 := Lib.hid hb5; have HM5 := Lib.hid hm5; clear hb5 hm5)
        | (go_at_call 21; refine (HHd.out _ HB5.out).mono ?_; rintro e wf ⟨rfl, hs6, hb6, hb6'⟩; obtain ⟨es, clock, hm1, hm2⟩ := HM5.out _ hb6; have hlk := HLK.out _ _ _ _ hm1 hm2; have HBf := Lib.hid hb6'; clear hb6 hb6' hm1 hm2)
        | (go_at_call 21; refine (HHd.out _ (Below.refl _ _).drew).mono ?_; rintro e w6 ⟨rfl, hs6, hb6, hb6'⟩; have HB6 := Lib.hid hb6'; clear hb6 hb6'))
    all_goals (
      go_wp2_with fail
      refine (HMay.out wf HBf.out).mono ?_
      rintro e w7 ⟨⟨r, rfl, hm1, hm2⟩, hb7⟩
      have HB7 := Lib.hid hb7
      have HM1 := Lib.hid hm1
      have HM2 := Lib.hid hm2
      clear hlk hm1 hm2 hb7
      obtain ⟨d0, d1, d2, d3, d4, d5, d6, d7, fz2, hzz⟩ := cells8b (HZ.out _ HB7.out)
      cases r with
      | false =>
        go_wp2
        refine bodyPost_ret (res_cell_tmp rfl _ _ (w.heap.size + 1) _ _ _ _ rfl (set8 (HZ.out _ HB7.out)) Tryz.underlying28 rfl cmdSize) rfl ?_
        refine ParseP.none_ (fun h1 h2 => ?_) (below_far8 (HB3.out.trans (HB7.out.mono (by omega))) (by omega))
        have := HM2.out h1 h2
        cases this
      | true =>
        obtain ⟨c0, c1, c2⟩ := HK.out _ HB7.out
        have hzr := HR.out _ HB7.out
        unfold zRd at hzr
        have r0 : w7.cell? ⟨w.heap.size + 1 + 1, 0, none⟩ = some (.slice none 0 0) := cell_of_row _ _ 0 _ _ _ hzr
        have r0' : w7.cell? ⟨w.heap.size + 2, 0, none⟩ = some (.slice none 0 0) := r0
        have rf : w7.frozen? ⟨w.heap.size + 1 + 1, 0, none⟩ = false := by simp [World.frozen?, hzr]
        have rf' : w7.frozen? ⟨w.heap.size + 2, 0, none⟩ = false := rf
        clear hzr
        have HEnd : Hid (∀ (rc : Nat) (ra : Option Addr) (e : Ending) (w9 : World), TakeP (w.heap.size + 2) (parse0 t) (w7.setCell ⟨w.heap.size + 2, 0, none⟩ (.slice ra (t.kids.length - 1) rc)) e w9 → w9.heap[w.heap.size + 1]? = some zCm ∧ Below w.heap.size w w9 ∧ (e = .returned (.tuple #[.agg #[.int .i8 0, .string ⟨#[]⟩, .int .i64 0, .slice none 0 0, .slice none 0 0, .slice none 0 0, .string ⟨#[]⟩, .slice none 0 0], .int .i64 30]) ∧ parse0 t = none ∨ ∃ x : CmdV, e = .returned (.tuple #[.agg #[.int .i8 x.c.kind, .string (bytesL x.c.name), .int .i64 x.c.n, .slice x.la x.c.l.length x.lc, .slice x.aa x.c.args.length x.ac, .slice x.pa x.c.params.length x.pc, .string (bytesL x.c.res), .slice x.ta x.c.terms.length x.tc], .int .i64 0]) ∧ parse0 t = some x.c ∧ CmdN w9 (w.heap.size + 3) x)) := fun rc ra e w9 hT => by
          have hO : Oth (w.heap.size + 2) w7 (w7.setCell ⟨w.heap.size + 2, 0, none⟩ (.slice ra (t.kids.length - 1) rc)) := (Oth.refl _ _).set 0 _
          have hO9 : Oth (w.heap.size + 2) (w7.setCell ⟨w.heap.size + 2, 0, none⟩ (.slice ra (t.kids.length - 1) rc)) w9 := hT.1
          have hO2 := hO.trans hO9
          have hb7 := HB3.out.trans (HB7.out.mono (by omega))
          have hs7 := HB7.out.size
          refine ⟨(hO2.block _ (by omega) (by omega)).trans (HZ.out _ HB7.out), hb7.trans (hO2.below (by omega) (by omega)), ?_⟩
          cases hp : parse0 t with
          | none => exact .inl ⟨(hT.no hp).1, rfl⟩
          | some c =>
            obtain ⟨x, hx, he, hn, _⟩ := hT.yes hp
            exact .inr ⟨x, he, by rw [hx], hn.more (by simp only [World.setCell, Array.size_modify]; omega)⟩
        by_cases hcap : cap = 1
        · subst hcap
          have el : t.kids.length - 1 = 0 := by omega
          have hFO := HFO.out 0 (some ⟨g, o, none⟩) w7 HB7.out (fun h => absurd h (by omega))
          have hEn := HEnd.out 0 (some ⟨g, o, none⟩)
          rw [el] at hFO hEn
          have HFO1 := Lib.hid hFO
          have HEn := Lib.hid hEn
          clear hFO hEn el
          go_wp2_with fail
          refine HFO1.out.mono ?_
          intro e w9 hT
          obtain ⟨hZ9, hb9, hor⟩ := HEn.out _ _ hT
          have HZ9 := Lib.hid hZ9
          have HB9 := Lib.hid hb9
          clear hT hb9 c0 c1 c2 r0 r0' rf rf' d0 d1 d2 d3 d4 d5 d6 d7 fz2 hzz
          obtain ⟨d0, d1, d2, d3, d4, d5, d6, d7, fz2, hzz⟩ := cells8b hZ9
          clear hZ9
          rcases hor with ⟨rfl, hp⟩ | ⟨x, rfl, hp, hxn⟩
          · have HP := Lib.hid hp
            clear hp
            go_wp2
            refine bodyPost_ret (res_cell_tmp rfl _ _ (w.heap.size + 1) _ _ _ _ rfl (set8 HZ9.out) Tryz.underlying28 rfl cmdSize) rfl ?_
            exact ParseP.none_ (fun _ _ => HP.out.symm) (below_far8 HB9.out (by omega))
          · have HP := Lib.hid hp
            have HNX : Hid (CmdN ((((((((w9.setCell ⟨w.heap.size + 1, 0, none⟩ (.int .i8 x.c.kind)).setCell ⟨w.heap.size + 1, 1, none⟩ (.string (bytesL x.c.name))).setCell ⟨w.heap.size + 1, 2, none⟩ (.int .i64 x.c.n)).setCell ⟨w.heap.size + 1, 3, none⟩ (.slice x.la x.c.l.length x.lc)).setCell ⟨w.heap.size + 1, 4, none⟩ (.slice x.aa x.c.args.length x.ac)).setCell ⟨w.heap.size + 1, 5, none⟩ (.slice x.pa x.c.params.length x.pc)).setCell ⟨w.heap.size + 1, 6, none⟩ (.string (bytesL x.c.res))).setCell ⟨w.heap.size + 1, 7, none⟩ (.slice x.ta x.c.terms.length x.tc)) w.heap.size x) := (hxn.keep (by rw [size8]; exact Nat.le_refl _) (fun b hb _ => oth8 (by omega))).more (by omega)
            clear hp hxn
            go_wp2
            refine bodyPost_ret (res_cell_tmp rfl _ _ (w.heap.size + 1) _ _ _ _ rfl (set8 HZ9.out) Tryz.underlying28 rfl cmdSize) rfl ?_
            have hb := below_far8 (v0 := .int .i8 x.c.kind) (v1 := .string (bytesL x.c.name)) (v2 := .int .i64 x.c.n) (v3 := .slice x.la x.c.l.length x.lc) (v4 := .slice x.aa x.c.args.length x.ac) (v5 := .slice x.pa x.c.params.length x.pc) (v6 := .string (bytesL x.c.res)) (v7 := .slice x.ta x.c.terms.length x.tc) HB9.out (show w.heap.size ≤ w.heap.size + 1 by omega)
            refine ParseP.some_ HP.out (by first | exact HM1.out rfl | exact HM1.out trivial) ?_ hb
            exact HNX.out
        · go_wp2_with fail
          refine (HFO.out _ _ _ HB7.out (fun _ => ⟨g, o, rfl, rfl⟩)).mono ?_
          intro e w9 hT
          obtain ⟨hZ9, hb9, hor⟩ := HEnd.out _ _ _ _ hT
          have HZ9 := Lib.hid hZ9
          have HB9 := Lib.hid hb9
          clear hT hb9 c0 c1 c2 r0 r0' rf rf' d0 d1 d2 d3 d4 d5 d6 d7 fz2 hzz
          obtain ⟨d0, d1, d2, d3, d4, d5, d6, d7, fz2, hzz⟩ := cells8b hZ9
          clear hZ9
          rcases hor with ⟨rfl, hp⟩ | ⟨x, rfl, hp, hxn⟩
          · have HP := Lib.hid hp
            clear hp
            go_wp2
            refine bodyPost_ret (res_cell_tmp rfl _ _ (w.heap.size + 1) _ _ _ _ rfl (set8 HZ9.out) Tryz.underlying28 rfl cmdSize) rfl ?_
            exact ParseP.none_ (fun _ _ => HP.out.symm) (below_far8 HB9.out (by omega))
          · have HP := Lib.hid hp
            have HNX : Hid (CmdN ((((((((w9.setCell ⟨w.heap.size + 1, 0, none⟩ (.int .i8 x.c.kind)).setCell ⟨w.heap.size + 1, 1, none⟩ (.string (bytesL x.c.name))).setCell ⟨w.heap.size + 1, 2, none⟩ (.int .i64 x.c.n)).setCell ⟨w.heap.size + 1, 3, none⟩ (.slice x.la x.c.l.length x.lc)).setCell ⟨w.heap.size + 1, 4, none⟩ (.slice x.aa x.c.args.length x.ac)).setCell ⟨w.heap.size + 1, 5, none⟩ (.slice x.pa x.c.params.length x.pc)).setCell ⟨w.heap.size + 1, 6, none⟩ (.string (bytesL x.c.res))).setCell ⟨w.heap.size + 1, 7, none⟩ (.slice x.ta x.c.terms.length x.tc)) w.heap.size x) := (hxn.keep (by rw [size8]; exact Nat.le_refl _) (fun b hb _ => oth8 (by omega))).more (by omega)
            clear hp hxn
            go_wp2
            refine bodyPost_ret (res_cell_tmp rfl _ _ (w.heap.size + 1) _ _ _ _ rfl (set8 HZ9.out) Tryz.underlying28 rfl cmdSize) rfl ?_
            have hb := below_far8 (v0 := .int .i8 x.c.kind) (v1 := .string (bytesL x.c.name)) (v2 := .int .i64 x.c.n) (v3 := .slice x.la x.c.l.length x.lc) (v4 := .slice x.aa x.c.args.length x.ac) (v5 := .slice x.pa x.c.params.length x.pc) (v6 := .string (bytesL x.c.res)) (v7 := .slice x.ta x.c.terms.length x.tc) HB9.out (show w.heap.size ≤ w.heap.size + 1 by omega)
            refine ParseP.some_ HP.out (by first | exact HM1.out rfl | exact HM1.out trivial) ?_ hb
            exact HNX.out)
  · have HLK : Hid (∀ (W : World) (M : Nat) (es : Array MapEntry) (clock : Nat), W.heap[M]? = some (.map es clock) → EntF (w.heap.size + 2) es.toList → ∃ z, (Instr.lookup 54 (.map (some M)) (.string hx) true).run Tryz.prog W = .ok (.tuple #[z, .bool false]) W) := fun W M es clock h1 h2 => by rw [hhx]; exact look_no h1 h2 hn
    have HP0 : Hid (parse0 t = none) := parse0_no hn
    clear hn hhx
    go_enter Tryz.func9, Tryz.ntmps9
    go_wp2_with fail
    rw [← HL.out]
    clear HL
    have H0 := HK.out W3 (Below.refl _ _)
    have H1 := HK.out W3.drew (Below.refl _ _).drew
    go_region_held3 (fun W => W.cell? ⟨w.heap.size, 0, none⟩ = some (.int .i8 t.kind) ∧ W.cell? ⟨w.heap.size, 1, none⟩ = some (.string (bytesL t.text)) ∧ W.cell? ⟨w.heap.size, 2, none⟩ = some (.slice a t.kids.length cap))
      (first | with_reducible exact H0 | with_reducible exact H1 | with_reducible exact hs5 | with_reducible exact hs6)
      (first
        | (go_at_call 20; refine (HF.out _ HB6.out).mono ?_; rintro e wf ⟨M, rfl, hs5, hb5, hm5⟩; obtain ⟨es, clock, hm1, hm2⟩ := hm5 _ (Below.refl _ _); obtain ⟨z, hlk⟩ := HLK.out _ _ _ _ hm1 hm2; have HBf := Lib.hid hb5; clear hb5 hm5 hm1 hm2)
        | (go_at_call 20; refine (HF.out _ (Below.refl _ _).drew).mono ?_; rintro e w5 ⟨M, rfl, hs5, hb5, hm5⟩; have HB5 := Lib.hid hb5; have HM5 := Lib.hid hm5; clear hb5 hm5)
        | (go_at_call 21; refine (HHd.out _ HB5.out).mono ?_; rintro e wf ⟨rfl, hs6, hb6, hb6'⟩; obtain ⟨es, clock, hm1, hm2⟩ := HM5.out _ hb6; obtain ⟨z, hlk⟩ := HLK.out _ _ _ _ hm1 hm2; have HBf := Lib.hid hb6'; clear hb6 hb6' hm1 hm2)
        | (go_at_call 21; refine (HHd.out _ (Below.refl _ _).drew).mono ?_; rintro e w6 ⟨rfl, hs6, hb6, hb6'⟩; have HB6 := Lib.hid hb6'; clear hb6 hb6'))
    all_goals (
      obtain ⟨d0, d1, d2, d3, d4, d5, d6, d7, fz2, hzz⟩ := cells8b (HZ.out _ HBf.out)
      go_wp2
      refine bodyPost_ret (res_cell_tmp rfl _ _ (w.heap.size + 1) _ _ _ _ rfl (set8 (HZ.out _ HBf.out)) Tryz.underlying28 rfl cmdSize) rfl ?_
      exact ParseP.none_ (fun _ _ => HP0.out.symm) (below_far8 (HB3.out.trans (HBf.out.mono (by omega))) (by omega)))
end Go.Proofs.YtodonngnigbpaaaGreatDoor
