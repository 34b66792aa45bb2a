/- What follows of signatures, on plain data. -/
import Derived.Test.YthejmepiliiihaaDoorSgX
namespace Go.Proofs.YthejmepiliiihaaDoor
open Go.RowKit
set_option linter.unusedVariables false
theorem freeA_zero {t : Bool} {s : ByteArray} {b : Bool} (h : freeA t s b = 0) : mayNm s = true ∧ t = false ∧ coreK s b = false := by
  unfold freeA at h
  split at h
  · rename_i h1
    split at h
    · cases h
    · rename_i h2
      simp only [Bool.or_eq_true, not_or, Bool.not_eq_true] at h2
      exact ⟨h1, h2.1, h2.2⟩
  · cases h
theorem freeA_free {s : ByteArray} {b : Bool} (h : mayNm s = true) (hc : coreK s b = false) : freeA false s b = 0 := by
  unfold freeA
  rw [if_pos h, hc]; rfl
theorem freeA_there {s : ByteArray} {b : Bool} (h : mayNm s = true) : freeA true s b = 32 := by
  unfold freeA
  rw [if_pos h]; rfl
theorem memB_append (z : Nm) (l m : List Nm) : memB z (l ++ m) = (memB z l || memB z m) := by simp [memB]
theorem memB_no {z : Nm} {l : List Nm} (h : memB z l = false) : ∀ y ∈ l, ¬ y = z := by
  intro y hy e
  subst e
  rw [memB_iff.2 hy] at h
  cases h
theorem memB_not {z : Nm} {l : List Nm} (h : ∀ y ∈ l, ¬ y = z) : memB z l = false := by
  rw [Bool.eq_false_iff]
  intro e
  exact h z (memB_iff.1 e) rfl
theorem okFrom_congr : ∀ (l a a' : List Nm), (∀ y ∈ l, memB y a = memB y a') → okFrom a l = okFrom a' l
  | [], _, _, _ => rfl
  | y :: r, a, a', h => by
    unfold okFrom
    rw [h y (by simp), okFrom_congr r (a ++ [y]) (a' ++ [y]) (fun z hz => by rw [memB_append, memB_append, h z (by simp [hz])])]
theorem ok_insert {l m : List Nm} {k : Nm} (h : okFrom [] (l ++ m) = true) (hf : freeA (memB k (l ++ m)) k.1 k.2 = 0) : okFrom [] (l ++ (k :: m)) = true := by
  obtain ⟨h1, h2, h3⟩ := freeA_zero hf
  rw [memB_append, Bool.or_eq_false_iff] at h2
  rw [okFrom_append, Bool.and_eq_true, List.nil_append] at h
  rw [okFrom_append, Bool.and_eq_true, List.nil_append]
  refine ⟨h.1, ?_⟩
  unfold okFrom
  rw [h2.1, freeA_free h1 h3]
  simp only [decide_true, Bool.true_and]
  rw [okFrom_congr m (l ++ [k]) l (fun y hy => by
    rw [memB_append]
    have : memB y [k] = false := memB_not (fun z hz e => by simp at hz; subst hz; exact memB_no h2.2 y hy e.symm)
    rw [this, Bool.or_false])]
  exact h.2
theorem mem_sorts {x : SigA} {s : ByteArray} (h : memB (s, true) (namesA x) = false) : ¬ s ∈ x.sorts := by
  intro hm
  exact memB_no h (s, true) (by unfold namesA; exact List.mem_append_left _ (List.mem_map.2 ⟨s, hm, rfl⟩)) rfl
theorem mem_funs {x : SigA} {s : ByteArray} (h : memB (s, false) (namesA x) = false) : ¬ s ∈ x.funs.map (·.name) := by
  intro hm
  obtain ⟨f, hf, e⟩ := List.mem_map.1 hm
  exact memB_no h (s, false) (by unfold namesA; exact List.mem_append_right _ (List.mem_append_left _ (List.mem_map.2 ⟨f, hf, by rw [e]⟩))) rfl
theorem fnd_new {l : List ByteArray} {s : ByteArray} (h : ¬ s ∈ l) : fndB (l ++ [s]) s = true ∧ fndI (l ++ [s]) s = l.length := by
  have hk : fnd (l ++ [s]) s = l.length := fnd_at (by simp) (fun j hj y hy e => by
    rw [List.getElem?_append_left hj] at hy
    exact h (e ▸ List.mem_of_getElem? hy)) (by simp)
  exact ⟨by unfold fndB; rw [hk]; simp, by unfold fndI; rw [hk, if_pos (by simp)]⟩
theorem fnd_old {l : List ByteArray} {s o : ByteArray} (h : ¬ o = s) : fndB (l ++ [s]) o = fndB l o ∧ fndI (l ++ [s]) o = fndI l o := by
  have hb : fndB (l ++ [s]) o = fndB l o := by
    rw [Bool.eq_iff_iff, fndB_iff, fndB_iff]
    simp [h]
  refine ⟨hb, ?_⟩
  unfold fndB at hb
  rw [decide_eq_decide] at hb
  unfold fndI
  by_cases hl : fnd l o < l.length
  · rw [if_pos hl, if_pos (hb.2 hl)]
    have : fnd (l ++ [s]) o = fnd l o := by
      unfold fnd at hl ⊢
      rw [List.findIdx_append, if_pos hl]
    rw [this]
  · rw [if_neg hl, if_neg (fun e => hl (hb.1 e))]
theorem core_sort {s : ByteArray} (h : coreK s true = false) : ¬ s = boolS ∧ ¬ s = intS := by
  have h : sortB [] s = false := h
  unfold sortB at h
  simp only [Bool.or_eq_false_iff, decide_eq_false_iff_not] at h
  exact ⟨h.1, h.2.1⟩
theorem sort_new {l : List ByteArray} {s : ByteArray} (h : ¬ s ∈ l) (hc : coreK s true = false) : sortB (l ++ [s]) s = true ∧ sortI (l ++ [s]) s = 2 + (l.length : Int) := by
  obtain ⟨h1, h2⟩ := core_sort hc
  obtain ⟨h3, h4⟩ := fnd_new h
  exact ⟨by unfold sortB; rw [h3]; simp, by unfold sortI; rw [if_neg h1, if_neg h2, if_pos h3, h4]⟩
theorem sort_old {l : List ByteArray} {s o : ByteArray} (h : ¬ o = s) : sortB (l ++ [s]) o = sortB l o ∧ sortI (l ++ [s]) o = sortI l o := by
  obtain ⟨h1, h2⟩ := fnd_old (l := l) h
  exact ⟨by unfold sortB; rw [h1], by unfold sortI; rw [h1, h2]⟩
theorem mayA_parts {x : SigA} (h : mayA x = true) : fitsA x.sorts.length x.funs.length x.macros.length = true ∧ okFrom [] (namesA x) = true ∧ restA x = true := by
  unfold mayA at h
  rw [Bool.and_eq_true, Bool.and_eq_true] at h
  exact h
theorem mayA_sort {x : SigA} {s : ByteArray} (h : mayA x = true) (hf : freeA (memB (s, true) (namesA x)) s true = 0) (hr : restA ⟨x.sorts ++ [s], x.funs, x.macros⟩ = true) (hfit : fitsA (x.sorts ++ [s]).length x.funs.length x.macros.length = true) : mayA ⟨x.sorts ++ [s], x.funs, x.macros⟩ = true := by
  obtain ⟨_, h2, _⟩ := mayA_parts h
  unfold mayA
  rw [hr, Bool.and_true, Bool.and_eq_true]
  refine ⟨hfit, ?_⟩
  have := ok_insert (k := (s, true)) (l := x.sorts.map (fun s => (s, true))) (m := x.funs.map (fun f => (f.name, false)) ++ x.macros.map (fun m => (m.name, false))) h2 hf
  unfold namesA
  simp only [List.map_append, List.map_cons, List.map_nil, List.append_assoc, List.cons_append, List.nil_append]
  exact this
theorem mayA_fun {x : SigA} {f : FunA} (h : mayA x = true) (hf : freeA (memB (f.name, false) (namesA x)) f.name false = 0) (hr : restA ⟨x.sorts, x.funs ++ [f], x.macros⟩ = true) (hfit : fitsA x.sorts.length (x.funs ++ [f]).length x.macros.length = true) : mayA ⟨x.sorts, x.funs ++ [f], x.macros⟩ = true := by
  obtain ⟨_, h2, _⟩ := mayA_parts h
  unfold mayA
  rw [hr, Bool.and_true, Bool.and_eq_true]
  refine ⟨hfit, ?_⟩
  have h2' : okFrom [] ((x.sorts.map (fun s => (s, true)) ++ x.funs.map (fun f => (f.name, false))) ++ x.macros.map (fun m => (m.name, false))) = true := by rw [List.append_assoc]; exact h2
  have hf' : freeA (memB (f.name, false) ((x.sorts.map (fun s => (s, true)) ++ x.funs.map (fun f => (f.name, false))) ++ x.macros.map (fun m => (m.name, false)))) f.name false = 0 := by rw [List.append_assoc]; exact hf
  have := ok_insert (k := (f.name, false)) h2' hf'
  unfold namesA
  simp only [List.map_append, List.map_cons, List.map_nil, List.append_assoc, List.cons_append, List.nil_append] at this ⊢
  exact this
theorem cut_sort (x : SigA) (s : ByteArray) : cutA ⟨x.sorts ++ [s], x.funs, x.macros⟩ x.sorts.length x.funs.length x.macros.length = x := by simp [cutA]
theorem cut_fun (x : SigA) (f : FunA) : cutA ⟨x.sorts, x.funs ++ [f], x.macros⟩ x.sorts.length x.funs.length x.macros.length = x := by simp [cutA]
theorem names_sort (x : SigA) (s : ByteArray) (b : Bool) (k : ByteArray) : memB (k, b) (namesA ⟨x.sorts ++ [s], x.funs, x.macros⟩) = (memB (k, b) (namesA x) || decide ((s, true) = (k, b))) := by
  unfold namesA
  simp only [List.map_append, List.map_cons, List.map_nil, memB_append]
  have : memB (k, b) [(s, true)] = decide ((s, true) = (k, b)) := by simp [memB]
  rw [this]
  ac_rfl
theorem names_fun (x : SigA) (f : FunA) (b : Bool) (k : ByteArray) : memB (k, b) (namesA ⟨x.sorts, x.funs ++ [f], x.macros⟩) = (memB (k, b) (namesA x) || decide ((f.name, false) = (k, b))) := by
  unfold namesA
  simp only [List.map_append, List.map_cons, List.map_nil, memB_append]
  have : memB (k, b) [(f.name, false)] = decide ((f.name, false) = (k, b)) := by simp [memB]
  rw [this]
  ac_rfl
end Go.Proofs.YthejmepiliiihaaDoor
