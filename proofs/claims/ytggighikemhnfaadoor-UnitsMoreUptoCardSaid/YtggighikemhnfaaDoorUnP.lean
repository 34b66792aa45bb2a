/- The run's page. -/
import Derived.Test.YtggighikemhnfaaDoorUnO
import Derived.Laws.EntriesVeiled
namespace Go.Proofs.YtggighikemhnfaaDoor.Tm
open Go.RowKit
set_option linter.unusedVariables false
theorem page_zero (s : USt) (k : Nat) (h1 : ∀ x : Int, 0 ≤ x → x / 1024 = (k : Int) → s.heads x = 0) (h2 : ∀ x ∈ s.ps, x / 1024 ≠ (k : Int)) : pgC s k = ⟨(List.replicate 512 (Value.int .i8 0)) ++ List.replicate 1024 (Value.int .i64 0)⟩ := by
  have a : pgN s.ps k = List.replicate 512 0 := by
    unfold pgN
    apply List.ext_getElem?
    intro i
    rw [List.getElem?_map]
    by_cases hi : i < 512
    · rw [List.getElem?_range hi, List.getElem?_replicate, if_pos hi]
      have : nodeV s.ps (512 * k + i) = 0 := by
        unfold nodeV
        rw [if_neg (fun h => h2 _ h (by omega)), if_neg (fun h => h2 _ h (by omega))]
      rw [← this]; rfl
    · rw [List.getElem?_eq_none (by rw [List.length_range]; omega), List.getElem?_eq_none (by rw [List.length_replicate]; omega)]; rfl
  have b : pgH s.heads k = List.replicate 1024 0 := by
    unfold pgH
    apply List.ext_getElem?
    intro i
    rw [List.getElem?_map]
    by_cases hi : i < 1024
    · rw [List.getElem?_range hi, List.getElem?_replicate, if_pos hi]
      have : s.heads ((1024 * k + i : Nat) : Int) = 0 := h1 _ (by omega) (by omega)
      rw [← this]; rfl
    · rw [List.getElem?_eq_none (by rw [List.length_range]; omega), List.getElem?_eq_none (by rw [List.length_replicate]; omega)]; rfl
  unfold pgC
  rw [a, b, List.map_replicate, List.map_replicate]
theorem zeroP : Tryd.zeroCells88 = ⟨(List.replicate 512 (Value.int .i8 0)) ++ List.replicate 1024 (Value.int .i64 0)⟩ := by kernel_rfl
/-- A page is made where there was none. -/
theorem RunX.newPage {W0 w : World} {b : Nat} {s : USt} {ls : List Int} {pg : Nat → Option Nat} {rv qv lv : Value} {xs : List RowV} {L : List Int} (h : RunX W0 w b s ls pg rv qv lv xs L) {k : Nat} (hk : k < 1025) (hp : pg k = none) :
    RunX W0 ((w.setCell ⟨b, k, none⟩ (.pointer (some ⟨w.heap.size, 0, none⟩))).alloc (.cells (pgC s k) 88)) b s ls (fun j => if j = k then some w.heap.size else pg j) rv qv lv xs L := by
  have hbl := h.box.cells.2.2.2.2.1
  have hW := h.bel.size
  have hsz : (w.setCell ⟨b, k, none⟩ (.pointer (some ⟨w.heap.size, 0, none⟩))).heap.size = w.heap.size := by simp
  have hold : ∀ g, g < w.heap.size → g ≠ b → ((w.setCell ⟨b, k, none⟩ (.pointer (some ⟨w.heap.size, 0, none⟩))).alloc (.cells (pgC s k) 88)).heap[g]? = w.heap[g]? := fun g h1 h2 => (Below.heap_alloc _ _ g (by rw [hsz]; exact h1)).trans (Below.heap_setCell _ _ _ _ (fun e => h2 (by rw [e])))
  have hnew : ((w.setCell ⟨b, k, none⟩ (.pointer (some ⟨w.heap.size, 0, none⟩))).alloc (.cells (pgC s k) 88)).heap[w.heap.size]? = some (.cells (pgC s k) 88 (0, 0)) := by
    have := heap_alloc_new (w.setCell ⟨b, k, none⟩ (.pointer (some ⟨w.heap.size, 0, none⟩))) (.cells (pgC s k) 88)
    rw [hsz] at this
    exact this
  have hB : BoxR ((w.setCell ⟨b, k, none⟩ (.pointer (some ⟨w.heap.size, 0, none⟩))).alloc (.cells (pgC s k) 88)) b (fun j => if j = k then some w.heap.size else pg j) rv qv lv s.conf := (h.box.setp hk w.heap.size).heap (Below.heap_alloc _ _ b (by rw [hsz]; exact hbl))
  refine ⟨(h.bel.setCell h.hb _).alloc (by rw [hsz]; exact hW) _, h.hb, h.gc, hB, fun j g hg => ?_, fun j j' g hg hg' => ?_, fun j hj => ?_, own_move h.rows (fun g hg => hold g (own_lt h.rows hg).2 (h.rv_ne hg).1), h.rws, h.rest, ⟨own_move h.qu.row (fun g hg => hold g (own_lt h.qu.row hg).2 (h.qv_ne hg).1), h.qu.heap, h.qu.perm⟩, own_move h.lits (fun g hg => hold g (own_lt h.lits hg).2 (h.lv_ne hg).1), h.apart, h.may, h.cons⟩
  · split at hg
    · rename_i e
      cases hg
      subst e
      exact ⟨hk, hW, hnew⟩
    · obtain ⟨g1, g2, g3⟩ := h.pages j g hg
      exact ⟨g1, g2, (hold g (Array.getElem?_eq_some_iff.1 g3).1 (h.pg_ne hg)).trans g3⟩
  · split at hg <;> split at hg'
    · rename_i e1 e2
      rw [e1, e2]
    · cases hg
      have := (Array.getElem?_eq_some_iff.1 (h.pages _ _ hg').2.2).1
      omega
    · cases hg'
      have := (Array.getElem?_eq_some_iff.1 (h.pages _ _ hg).2.2).1
      omega
    · exact h.inj _ _ _ hg hg'
  · split at hj
    · cases hj
    · exact h.nop j hj
def PageO (W0 w' : World) (b : Nat) (s : USt) (ls : List Int) (k g : Nat) (rv qv lv : Value) (xs : List RowV) (L : List Int) : Prop := ∃ pg', pg' k = some g ∧ RunX W0 w' b s ls pg' rv qv lv xs L
theorem page_any {W0 : World} {b : Nat} {s : USt} {ls : List Int} {pg : Nat → Option Nat} {rv qv lv : Value} {xs : List RowV} {L : List Int} (x : Int) (k : Nat) (w : World) (h : RunX W0 w b s ls pg rv qv lv xs L) (hm : mayU x = true) (hk : x / 1024 = (k : Int)) :
    Calls Tryd.prog 63 #[.pointer (some ⟨b, 0, none⟩), .int .i64 x] w fun e w' => ∃ g, e = .returned (.pointer (some ⟨g, 0, none⟩)) ∧ PageO W0 w' b s ls k g rv qv lv xs L := by
  obtain ⟨_, _, _, _, hlt, hfz⟩ := h.box.cells
  obtain ⟨h0, h1⟩ := mayU_iff.1 hm
  have hk2 : k < 1025 := by omega
  have hki : (k : Int) < 1025 := by omega
  have hpc := h.box.page hk2
  have hf := hfz k
  cases hp : pg k with
  | some g =>
    rw [hp] at hpc
    unfold pgV at hpc
    have HE : Hid (PageO W0 w b s ls k g rv qv lv xs L) := ⟨pg, hp, h⟩
    clear h hfz hp hm h0 h1
    go_enter Tryd.func63, Tryd.ntmps63
    go_wp2
    go_ret
    exact ⟨g, rfl, HE.out⟩
  | none =>
    rw [hp] at hpc
    unfold pgV at hpc
    have hz := page_zero s k (h.nop k hp).1 (h.nop k hp).2
    have HE : Hid (PageO W0 ((w.setCell ⟨b, k, none⟩ (.pointer (some ⟨w.heap.size, 0, none⟩))).alloc (.cells (pgC s k) 88)) b s ls k w.heap.size rv qv lv xs L) := ⟨_, by simp, h.newPage hk2 hp⟩
    rw [hz, ← zeroP] at HE
    clear h hfz hp hm h0 h1 hz
    go_enter Tryd.func63, Tryd.ntmps63
    go_wp2
    go_ret
    exact ⟨_, rfl, HE.out⟩
end Go.Proofs.YtggighikemhnfaaDoor.Tm
