/- ref16's first in a run's words. -/
import Derived.Test.YtggighikemhnfaaDoorRaA
namespace Go.Proofs.YtggighikemhnfaaDoor.Tm
open Go.RowKit Go.Lib
set_option linter.unusedVariables false
theorem fal_iff {ps xs m : List Int} (h : MkF xs m) : FalC ps xs ↔ FalC ps m := by
  refine ⟨fun g x hx => g x ((h.1 x).1 hx).1, fun g x hx => ?_⟩
  by_cases hm : mayU x = true
  · exact g x ((h.1 x).2 ⟨hx, hm⟩)
  · unfold valL; rw [if_neg hm]
theorem uni_iff {ps xs m : List Int} {y : Int} (h : MkF xs m) : UniC ps xs y ↔ UniC ps m y := by
  refine ⟨fun ⟨g1, g2, g3⟩ => ⟨(h.1 y).2 ⟨g1, valL_may (by rw [g2]; decide)⟩, g2, fun x hx => g3 x ((h.1 x).1 hx).1⟩, fun ⟨g1, g2, g3⟩ => ⟨((h.1 y).1 g1).1, g2, fun x hx => ?_⟩⟩
  by_cases hm : mayU x = true
  · exact g3 x ((h.1 x).2 ⟨hx, hm⟩)
  · exact .inl (by unfold valL; rw [if_neg hm])
theorem rv_val {ps xs m : List Int} (h : MkF xs m) (hp : PsI ps) {x : Int} (hx : x ∈ m) : rvM (vL ps) x = valL ps x := valM_vL ((h.1 x).1 hx).2 hp.cons
theorem mem_op {ps xs m : List Int} (h : MkF xs m) (hp : PsI ps) {x : Int} : x ∈ opF (vL ps) m ↔ x ∈ m ∧ valL ps x = 0 := by
  unfold opF
  rw [List.mem_filter]
  refine ⟨fun ⟨h1, h2⟩ => ⟨h1, by rw [← rv_val h hp h1]; simpa using h2⟩, fun ⟨h1, h2⟩ => ⟨h1, by rw [rv_val h hp h1, h2]; rfl⟩⟩
theorem st_fal {ps xs m : List Int} (h : MkF xs m) (hp : PsI ps) {s l : Int} (hs : StP (vL ps) m s l) : FalC ps xs ↔ s = 1 := by
  rw [fal_iff h]
  rcases hs with ⟨rfl, x, hx, h1⟩ | ⟨hn, ⟨rfl, ho⟩ | ⟨rfl, ho⟩ | ⟨rfl, ho⟩⟩
  · refine ⟨fun g => ?_, fun g => by cases g⟩
    rw [rv_val h hp hx, g x hx] at h1; cases h1
  · refine ⟨fun _ => rfl, fun _ x hx => ?_⟩
    rcases valL_cases ps x with e | e | e
    · have := (mem_op h hp).2 ⟨hx, e⟩
      rw [ho] at this; cases this
    · exact absurd (by rw [rv_val h hp hx]; exact e) (hn x hx)
    · exact e
  · refine ⟨fun g => ?_, fun g => by cases g⟩
    have h2 := (mem_op h hp (x := l)).1 (by rw [ho]; simp)
    rw [g l h2.1] at h2; cases h2.2
  · refine ⟨fun g => ?_, fun g => by cases g⟩
    obtain ⟨x, hx⟩ := List.exists_mem_of_length_pos (show 0 < (opF (vL ps) m).length by omega)
    have h2 := (mem_op h hp).1 hx
    rw [g x h2.1] at h2; cases h2.2
theorem st_uni {ps xs m : List Int} (h : MkF xs m) (hp : PsI ps) {l : Int} (hs : StP (vL ps) m 2 l) : UniC ps xs l := by
  rw [uni_iff h]
  rcases hs with ⟨e, _⟩ | ⟨hn, ⟨e, ho⟩ | ⟨_, ho⟩ | ⟨e, ho⟩⟩
  · cases e
  · cases e
  · have h2 := (mem_op h hp (x := l)).1 (by rw [ho]; simp)
    refine ⟨h2.1, h2.2, fun x hx => ?_⟩
    rcases valL_cases ps x with e | e | e
    · have := (mem_op h hp).2 ⟨hx, e⟩
      rw [ho] at this
      exact .inr (by simpa using this)
    · exact absurd (by rw [rv_val h hp hx]; exact e) (hn x hx)
    · exact .inl e
  · cases e
theorem st_nouni {ps xs m : List Int} (h : MkF xs m) (hp : PsI ps) {s l : Int} (hs : StP (vL ps) m s l) (h2 : s ≠ 2) (z : Int) : ¬ UniC ps xs z := by
  rw [uni_iff h]
  rintro ⟨g1, g2, g3⟩
  rcases hs with ⟨e, x, hx, h1⟩ | ⟨hn, ⟨e, ho⟩ | ⟨e, _⟩ | ⟨e, ho⟩⟩
  · rw [rv_val h hp hx] at h1
    rcases g3 x hx with g | g
    · rw [h1] at g; cases g
    · rw [g, g2] at h1; cases h1
  · have := (mem_op h hp).2 ⟨g1, g2⟩
    rw [ho] at this; cases this
  · exact h2 e
  · have hnd : (opF (vL ps) m).Nodup := h.2.filter _
    have := nodup_sub _ [z] hnd (fun x hx => by
      have hx2 := (mem_op h hp).1 hx
      rcases g3 x hx2.1 with g | g
      · rw [hx2.2] at g; cases g
      · rw [g]; simp)
    simp at this
    omega
def PlC (cls : List (List Int)) (M : List RowD) : Prop := M.length = cls.length ∧ ∀ (j : Nat) (c : List Int) (m : RowD), cls[j]? = some c → M[j]? = some m → MkF c m.xs
theorem PlC.get {cls : List (List Int)} {M : List RowD} (h : PlC cls M) {j : Nat} {c : List Int} (hc : cls[j]? = some c) : ∃ m, M[j]? = some m ∧ MkF c m.xs := by
  have hj : j < M.length := by rw [h.1]; exact (List.getElem?_eq_some_iff.1 hc).1
  exact ⟨M[j], List.getElem?_eq_getElem hj, h.2 j c _ hc (List.getElem?_eq_getElem hj)⟩
theorem PlC.got {cls : List (List Int)} {M : List RowD} (h : PlC cls M) {j : Nat} {m : RowD} (hm : M[j]? = some m) : ∃ c, cls[j]? = some c ∧ MkF c m.xs := by
  have hj : j < cls.length := by rw [← h.1]; exact (List.getElem?_eq_some_iff.1 hm).1
  exact ⟨cls[j], List.getElem?_eq_getElem hj, h.2 j _ m (List.getElem?_eq_getElem hj) hm⟩
theorem fi_conf {cls : List (List Int)} {M : List RowD} {ps : List Int} {i l : Int} (h : PlC cls M) (hp : PsI ps) (hf : FiP (vL ps) M 1 i l) (hi : 0 ≤ i) : RunsD cls ps ps i := by
  rcases hf with ⟨k, rfl, ⟨y, hy, hs⟩, hb⟩ | ⟨rfl, _⟩
  · obtain ⟨c, hc, hm⟩ := h.got hy
    refine .conf hc ((st_fal hm hp hs).2 rfl) (fun j d hj hd hF => ?_)
    obtain ⟨m, hm2, hmf⟩ := h.get hd
    obtain ⟨s, l', h1, h2⟩ := hb j m hj hm2
    exact h2 ((st_fal hmf hp h1).1 hF)
  · omega
theorem fi_noconf {cls : List (List Int)} {M : List RowD} {ps : List Int} {i l : Int} (h : PlC cls M) (hp : PsI ps) (hf : FiP (vL ps) M 1 i l) (hi : i < 0) : ∀ (j : Nat) (d : List Int), cls[j]? = some d → ¬ FalC ps d := by
  rcases hf with ⟨k, rfl, _⟩ | ⟨rfl, _, hb⟩
  · omega
  · intro j d hd hF
    obtain ⟨m, hm2, hmf⟩ := h.get hd
    obtain ⟨s, l', h1, h2⟩ := hb j m hm2
    exact h2 ((st_fal hmf hp h1).1 hF)
theorem fi_done {cls : List (List Int)} {M : List RowD} {ps : List Int} {i l : Int} (h : PlC cls M) (hp : PsI ps) (hn : ∀ (j : Nat) (d : List Int), cls[j]? = some d → ¬ FalC ps d) (hf : FiP (vL ps) M 2 i l) (hi : i < 0) : RunsD cls ps ps (-1) := by
  rcases hf with ⟨k, rfl, _⟩ | ⟨rfl, _, hb⟩
  · omega
  · refine .done hn (fun j d hd z => ?_)
    obtain ⟨m, hm2, hmf⟩ := h.get hd
    obtain ⟨s, l', h1, h2⟩ := hb j m hm2
    exact st_nouni hmf hp h1 h2 z
theorem fi_put {cls : List (List Int)} {M : List RowD} {ps : List Int} {i l : Int} (h : PlC cls M) (hp : PsI ps) (hn : ∀ (j : Nat) (d : List Int), cls[j]? = some d → ¬ FalC ps d) (hf : FiP (vL ps) M 2 i l) (hi : 0 ≤ i) : valL ps l = 0 ∧ opens cls (ps ++ [l]) < opens cls ps ∧ ∀ r e, RunsD cls (ps ++ [l]) r e → RunsD cls ps r e := by
  rcases hf with ⟨k, rfl, ⟨y, hy, hs⟩, hb⟩ | ⟨rfl, _⟩
  · obtain ⟨c, hc, hm⟩ := h.got hy
    have hU := st_uni hm hp hs
    refine ⟨hU.2.1, opens_lt hc hU.1 hU.2.1, fun r e hr => .put hn hc hU (fun j d hj hd z => ?_) hr⟩
    obtain ⟨m, hm2, hmf⟩ := h.get hd
    obtain ⟨s, l', h1, h2⟩ := hb j m hj hm2
    exact st_nouni hmf hp h1 h2 z
  · omega
theorem PsI.len {ps : List Int} (h : PsI ps) : ps.length ≤ 1048577 := by
  have := nodup_sub ps ((List.range 1048577).map (fun (n : Nat) => (n : Int))) h.nodup (fun x hx => by
    have h0 := mayU_iff.1 (h.may x hx)
    exact List.mem_map.2 ⟨x.toNat, List.mem_range.2 (by omega), by omega⟩)
  rw [List.length_map, List.length_range] at this
  exact this
theorem plc_of {rs M : List RowD} {cls : List (List Int)} (h : PlP rs M rs.length) (hc : rs.map (·.xs) = cls) : PlC cls M := by
  refine ⟨by rw [h.1, ← hc, List.length_map], fun j c m h1 h2 => ?_⟩
  rw [← hc, List.getElem?_map] at h1
  cases hr : rs[j]? with
  | none => rw [hr] at h1; cases h1
  | some y =>
    rw [hr] at h1
    cases h1
    exact h.2 j y m hr h2
end Go.Proofs.YtggighikemhnfaaDoor.Tm
