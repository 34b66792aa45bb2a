/- Plain facts: what is put, trees and depths. -/
import Derived.Test.YtdjiebiobdhihaaDoorTmV
import Derived.Test.YtdjiebiobdhihaaDoorTmU
namespace Go.Proofs.YtdjiebiobdhihaaDoor
open Go.RowKit
set_option linter.unusedVariables false
/-- What a node that was put has come to. -/
structure OnceP (l : List NodeA) (n : NodeA) (L : List NodeA) (k : Nat) : Prop where
  may : mayT L = true
  take : L.take l.length = l
  at_ : L[k]? = some n
  le : l.length ≤ L.length
  ge : L.length ≤ l.length + 1
  lt : k < L.length
  st : standsB n L.length = true
  fnd : fndN L n = k
theorem once_there {l : List NodeA} {n : NodeA} (hm : mayT l = true) (hs : standsB n l.length = true) (hi : n ∈ l) : OnceP l n l (fndN l n) :=
  ⟨hm, by simp, fndN_get hi, Nat.le_refl _, by omega, fndN_lt.1 hi, hs, rfl⟩
theorem once_new {l : List NodeA} {n : NodeA} (hm : mayT l = true) (hs : standsB n l.length = true) (hi : n ∉ l) : OnceP l n (l ++ [n]) l.length := by
  have hm2 := mayT_snoc hm hs hi
  have hg : (l ++ [n])[l.length]? = some n := by simp
  exact ⟨hm2, by simp, hg, by simp, by simp, by simp, stands_more hs (by simp), fndN_uni (mayT_ok hm2).2 hg⟩
theorem put_two (l : List NodeA) (a : Option Addr) (c : Nat) (n : NodeA) (most : Int) (w : World) (hG : GT w) (hA : TabR w l a c) (hn : NodeOk n) (hmo : I64 most) (hl : l.length ≤ 900) (hm : mayT l = true) :
    Calls Tryd.prog 10 #[.agg #[.slice a l.length c], .agg #[.int .i8 n.op, .int .i8 n.len, .int .i64 n.a0, .int .i64 n.a1, .int .i64 n.a2, .int .i64 n.sort, .int .i64 n.fn, .int .i64 n.num], .int .i64 most] w fun e w' => Below w.heap.size w w' ∧
      ((∃ er : Int, (er = 2 ∨ er = 40) ∧ e = .returned (.tuple #[.agg #[.slice none 0 0], .int .i64 0, .int .i64 er])) ∨
       (∃ (L : List NodeA) (a' : Option Addr) (c' k : Nat), e = .returned (.tuple #[.agg #[.slice a' L.length c'], .int .i64 k, .int .i64 0]) ∧ TabR w' L a' c' ∧ OnceP l n L k)) := by
  refine (Put_any l a c n most w hG hA hn hmo hl).mono ?_
  rintro e w' ⟨hb, ⟨_, he⟩ | ⟨_, hs, hi, a', c', he, hT⟩ | ⟨_, _, _, _, he⟩ | ⟨_, hs, hi, _, L, a', c', rfl, he, hT⟩⟩
  · exact ⟨hb, .inl ⟨2, .inl rfl, he⟩⟩
  · exact ⟨hb, .inr ⟨l, a', c', _, he, hT, once_there hm hs hi⟩⟩
  · exact ⟨hb, .inl ⟨40, .inr rfl, he⟩⟩
  · exact ⟨hb, .inr ⟨_, a', c', _, he, hT, once_new hm hs hi⟩⟩
/-! Trees and depths. -/
theorem FV_at (f : Int → Int → Int) (l : List NodeA) (k : Nat) (n : NodeA) (hk : l[k]? = some n) : (FV f l).getD k 0 = (belowL n k).foldl (fun s b => f s ((FV f l).getD b 0)) 1 := by
  have hlt := (List.getElem?_eq_some_iff.1 hk).1
  have h1 : (FV f (l.take (k + 1)))[k]? = (FV f l)[k]? := by rw [FV_take f l (k + 1) (by omega), List.getElem?_take, if_pos (by omega)]
  have hlen : (FV f (l.take k)).length = k := by rw [FV_len, List.length_take]; omega
  rw [take_snoc hk, FV_snoc, List.getElem?_append_right (by omega), hlen, Nat.sub_self, List.getElem?_cons_zero] at h1
  rw [List.getD_eq_getElem?_getD, ← h1]
  show foldStep f (FV f (l.take k)) n = _
  unfold foldStep
  rw [hlen]
  have hb : ∀ b ∈ belowL n k, b < k := by
    intro b hb
    unfold belowL upL at hb
    obtain ⟨i, _, hi⟩ := List.mem_flatMap.1 hb
    unfold pickA at hi
    split at hi
    · simp at hi; omega
    · cases hi
  have : ∀ (ys : List Nat) (s : Int), (∀ b ∈ ys, b < k) → ys.foldl (fun s a => f s ((FV f (l.take k)).getD a 0)) s = ys.foldl (fun s b => f s ((FV f l).getD b 0)) s := fun ys => by
    induction ys with
    | nil => intro s _; rfl
    | cons y r ih =>
      intro s hy
      simp only [List.foldl_cons]
      have hy0 := hy y (by simp)
      rw [FV_take f l k (by omega), List.getD_eq_getElem?_getD, List.getElem?_take, if_pos hy0, ← List.getD_eq_getElem?_getD, ← FV_take f l k (by omega)]
      exact ih _ (fun b hb => hy b (by simp [hb]))
  exact this _ _ hb
/-- The arguments that count, of a node that may stand. -/
theorem below_stands {n : NodeA} {k : Nat} (h : standsB n k = true) : 0 ≤ n.len ∧ n.len ≤ 3 ∧ (∀ i : Nat, (i : Int) < n.len → 0 ≤ argA n i ∧ argA n i < k) ∧ belowL n k = (List.range n.len.toNat).map (fun i => (argA n i).toNat) := by
  unfold standsB at h
  rw [decide_eq_true_eq] at h
  have hR := (stands_iff n k).1 h
  have h1 := hR.1.2.2.1
  have h2 := hR.1.2.2.2
  have ha : ∀ i : Nat, (i : Int) < n.len → 0 ≤ argA n i ∧ argA n i < k := fun i hi => (hR.2.1 i (by omega)).1 hi
  refine ⟨h1, h2, ha, ?_⟩
  have hp : ∀ i : Nat, (i : Int) < n.len → pickA n k i = [(argA n i).toNat] := fun i hi => by unfold pickA; rw [if_pos ⟨hi, (ha i hi).1, (ha i hi).2⟩]
  have hq : ∀ i : Nat, ¬ (i : Int) < n.len → pickA n k i = [] := fun i hi => pick_no (fun g => hi g.1)
  have hr3 : List.range 3 = [0, 1, 2] := rfl
  unfold belowL upL
  rw [hr3]
  simp only [List.flatMap_cons, List.flatMap_nil, List.append_nil]
  have hc : n.len = 0 ∨ n.len = 1 ∨ n.len = 2 ∨ n.len = 3 := by omega
  rcases hc with e | e | e | e
  · rw [hq 0 (by omega), hq 1 (by omega), hq 2 (by omega), e]; rfl
  · rw [hp 0 (by omega), hq 1 (by omega), hq 2 (by omega), e]; rfl
  · rw [hp 0 (by omega), hp 1 (by omega), hq 2 (by omega), e]; rfl
  · rw [hp 0 (by omega), hp 1 (by omega), hp 2 (by omega), e]; rfl
def sumT (l : List NodeA) (n : NodeA) : Nat → Int
  | 0 => 1
  | k + 1 => sumT l n k + treeV l (argA n k).toNat
def maxD (l : List NodeA) (n : NodeA) : Nat → Int
  | 0 => 0
  | k + 1 => max (maxD l n k) (depthV l (argA n k).toNat)
theorem tree_fold (l : List NodeA) (n : NodeA) (hb : ∀ i, 0 ≤ treeV l i ∧ treeV l i ≤ 1073741824) : ∀ m, m ≤ 3 → ((List.range m).map (fun i => (argA n i).toNat)).foldl (fun s b => treeF s (treeV l b)) 1 = min (sumT l n m) 1073741824 ∧ 1 ≤ sumT l n m ∧ sumT l n m ≤ 1 + m * 1073741824
  | 0, _ => by
    show (1 : Int) = min 1 1073741824 ∧ (1 : Int) ≤ 1 ∧ (1 : Int) ≤ 1 + ((0 : Nat) : Int) * 1073741824
    omega
  | m + 1, hm => by
    obtain ⟨h1, h2, h3⟩ := tree_fold l n hb m (by omega)
    rw [List.range_succ, List.map_append, List.foldl_append, h1]
    simp only [List.map_cons, List.map_nil, List.foldl_cons, List.foldl_nil, sumT]
    have h4 := hb (argA n m).toNat
    unfold treeF wrap64
    have h5 : (m : Int) * 1073741824 ≤ 3 * 1073741824 := by omega
    refine ⟨by omega, by omega, by rw [Int.natCast_add]; omega⟩
theorem depth_fold (l : List NodeA) (n : NodeA) (hb : ∀ i, 0 ≤ depthV l i ∧ depthV l i ≤ 2000) : ∀ m, m ≤ 3 → ((List.range m).map (fun i => (argA n i).toNat)).foldl (fun s b => depthF s (depthV l b)) 1 = maxD l n m + 1 ∧ 0 ≤ maxD l n m ∧ maxD l n m ≤ 2000
  | 0, _ => by simp [maxD]
  | m + 1, hm => by
    obtain ⟨h1, h2, h3⟩ := depth_fold l n hb m (by omega)
    rw [List.range_succ, List.map_append, List.foldl_append, h1]
    simp only [List.map_cons, List.map_nil, List.foldl_cons, List.foldl_nil, maxD]
    have h4 := hb (argA n m).toNat
    unfold depthF wrap64
    omega
theorem maxD_le (l : List NodeA) (n : NodeA) (B : Int) (h0 : 0 ≤ B) : ∀ m, (∀ i, i < m → depthV l (argA n i).toNat ≤ B) → maxD l n m ≤ B
  | 0, _ => h0
  | m + 1, h => by
    have h1 := maxD_le l n B h0 m (fun i hi => h i (by omega))
    have h2 := h m (by omega)
    simp only [maxD]
    omega
theorem out_zero {f : Int → Int → Int} {l : List NodeA} {i : Nat} (h : l.length ≤ i) : (FV f l).getD i 0 = 0 := by
  rw [List.getD_eq_getElem?_getD, List.getElem?_eq_none (by rw [FV_len]; exact h)]; rfl
theorem foldl_bd {f : Int → Int → Int} {lo hi : Int} (g : Nat → Int) (hf : ∀ s b, lo ≤ f s (g b) ∧ f s (g b) ≤ hi) : ∀ (ys : List Nat) (s : Int), lo ≤ s → s ≤ hi → lo ≤ ys.foldl (fun s b => f s (g b)) s ∧ ys.foldl (fun s b => f s (g b)) s ≤ hi
  | [], s, h1, h2 => ⟨h1, h2⟩
  | y :: r, s, h1, h2 => foldl_bd g hf r _ (hf s y).1 (hf s y).2
/-- Trees are within bounds, whatever table. -/
theorem tree_bd {l : List NodeA} (hok : okFrom [] l = true) : ∀ k i, i < k → 0 ≤ treeV l i ∧ treeV l i ≤ 1073741824
  | 0, i, h => by omega
  | k + 1, i, h => by
    have ih := tree_bd hok k
    by_cases hik : i < k
    · exact ih i hik
    · obtain rfl : i = k := by omega
      by_cases hl : i < l.length
      · obtain ⟨n, hn⟩ : ∃ n, l[i]? = some n := ⟨_, List.getElem?_eq_getElem hl⟩
        have he := FV_at treeF l i n hn
        obtain ⟨h1, h2, h3, h4⟩ := below_stands (ok_at hok hn).1
        rw [h4] at he
        have hc : n.len = 0 ∨ n.len = 1 ∨ n.len = 2 ∨ n.len = 3 := by omega
        have hv : ∀ j : Nat, (j : Int) < n.len → 0 ≤ treeV l (argA n j).toNat ∧ treeV l (argA n j).toNat ≤ 1073741824 := fun j hj => ih _ (by have := h3 j hj; omega)
        show 0 ≤ (FV treeF l).getD i 0 ∧ (FV treeF l).getD i 0 ≤ 1073741824
        rw [he]
        rcases hc with e | e | e | e
        · rw [e]
          show (0 : Int) ≤ 1 ∧ (1 : Int) ≤ 1073741824
          omega
        · have v0 := hv 0 (by omega)
          rw [e]
          show 0 ≤ treeF 1 (treeV l (argA n 0).toNat) ∧ treeF 1 (treeV l (argA n 0).toNat) ≤ 1073741824
          unfold treeF wrap64; omega
        · have v0 := hv 0 (by omega)
          have v1 := hv 1 (by omega)
          rw [e]
          show 0 ≤ treeF (treeF 1 (treeV l (argA n 0).toNat)) (treeV l (argA n 1).toNat) ∧ treeF (treeF 1 (treeV l (argA n 0).toNat)) (treeV l (argA n 1).toNat) ≤ 1073741824
          unfold treeF wrap64; omega
        · have v0 := hv 0 (by omega)
          have v1 := hv 1 (by omega)
          have v2 := hv 2 (by omega)
          rw [e]
          show 0 ≤ treeF (treeF (treeF 1 (treeV l (argA n 0).toNat)) (treeV l (argA n 1).toNat)) (treeV l (argA n 2).toNat) ∧ treeF (treeF (treeF 1 (treeV l (argA n 0).toNat)) (treeV l (argA n 1).toNat)) (treeV l (argA n 2).toNat) ≤ 1073741824
          unfold treeF wrap64; omega
      · have : treeV l i = 0 := out_zero (by omega)
        rw [this]; decide
theorem depth_bd {l : List NodeA} (hok : okFrom [] l = true) (hl : l.length ≤ 1000) : ∀ k i, i < k → 0 ≤ depthV l i ∧ depthV l i ≤ i + 1 ∧ depthV l i ≤ 1001
  | 0, i, h => by omega
  | k + 1, i, h => by
    have ih := depth_bd hok hl k
    by_cases hik : i < k
    · exact ih i hik
    · obtain rfl : i = k := by omega
      by_cases hll : i < l.length
      · obtain ⟨n, hn⟩ : ∃ n, l[i]? = some n := ⟨_, List.getElem?_eq_getElem hll⟩
        have he := FV_at depthF l i n hn
        obtain ⟨h1, h2, h3, h4⟩ := below_stands (ok_at hok hn).1
        rw [h4] at he
        have hc : n.len = 0 ∨ n.len = 1 ∨ n.len = 2 ∨ n.len = 3 := by omega
        have hv : ∀ j : Nat, (j : Int) < n.len → 0 ≤ depthV l (argA n j).toNat ∧ depthV l (argA n j).toNat ≤ i ∧ depthV l (argA n j).toNat ≤ 1000 := fun j hj => by
          have h5 := h3 j hj
          have := ih (argA n j).toNat (by omega)
          omega
        show 0 ≤ (FV depthF l).getD i 0 ∧ (FV depthF l).getD i 0 ≤ i + 1 ∧ (FV depthF l).getD i 0 ≤ 1001
        rw [he]
        rcases hc with e | e | e | e
        · rw [e]
          show (0 : Int) ≤ 1 ∧ (1 : Int) ≤ i + 1 ∧ (1 : Int) ≤ 1001
          omega
        · have v0 := hv 0 (by omega)
          rw [e]
          show 0 ≤ depthF 1 (depthV l (argA n 0).toNat) ∧ depthF 1 (depthV l (argA n 0).toNat) ≤ i + 1 ∧ depthF 1 (depthV l (argA n 0).toNat) ≤ 1001
          unfold depthF wrap64; omega
        · have v0 := hv 0 (by omega)
          have v1 := hv 1 (by omega)
          rw [e]
          show 0 ≤ depthF (depthF 1 (depthV l (argA n 0).toNat)) (depthV l (argA n 1).toNat) ∧ depthF (depthF 1 (depthV l (argA n 0).toNat)) (depthV l (argA n 1).toNat) ≤ i + 1 ∧ depthF (depthF 1 (depthV l (argA n 0).toNat)) (depthV l (argA n 1).toNat) ≤ 1001
          unfold depthF wrap64; omega
        · have v0 := hv 0 (by omega)
          have v1 := hv 1 (by omega)
          have v2 := hv 2 (by omega)
          rw [e]
          show 0 ≤ depthF (depthF (depthF 1 (depthV l (argA n 0).toNat)) (depthV l (argA n 1).toNat)) (depthV l (argA n 2).toNat) ∧ depthF (depthF (depthF 1 (depthV l (argA n 0).toNat)) (depthV l (argA n 1).toNat)) (depthV l (argA n 2).toNat) ≤ i + 1 ∧ depthF (depthF (depthF 1 (depthV l (argA n 0).toNat)) (depthV l (argA n 1).toNat)) (depthV l (argA n 2).toNat) ≤ 1001
          unfold depthF wrap64; omega
      · have : depthV l i = 0 := out_zero (by omega)
        rw [this]; omega
/-- A node's tree and depth come of its arguments'. -/
theorem tree_of {l : List NodeA} (hok : okFrom [] l = true) {i : Nat} {n : NodeA} (hn : l[i]? = some n) : treeV l i = min (sumT l n n.len.toNat) 1073741824 ∧ 1 ≤ sumT l n n.len.toNat ∧ sumT l n n.len.toNat ≤ 4000000000 := by
  have he := FV_at treeF l i n hn
  obtain ⟨h1, h2, h3, h4⟩ := below_stands (ok_at hok hn).1
  rw [h4] at he
  have h := tree_fold l n (fun j => tree_bd hok (j + 1) j (by omega)) n.len.toNat (by omega)
  refine ⟨?_, h.2.1, by have := h.2.2; omega⟩
  rw [← h.1]
  exact he
theorem depth_of {l : List NodeA} (hok : okFrom [] l = true) (hl : l.length ≤ 1000) {i : Nat} {n : NodeA} (hn : l[i]? = some n) : depthV l i = maxD l n n.len.toNat + 1 ∧ 0 ≤ maxD l n n.len.toNat ∧ maxD l n n.len.toNat ≤ 2000 ∧ depthV l i ≤ i + 1 := by
  have he := FV_at depthF l i n hn
  obtain ⟨h1, h2, h3, h4⟩ := below_stands (ok_at hok hn).1
  rw [h4] at he
  have h := depth_fold l n (fun j => by have := depth_bd hok hl (j + 1) j (by omega); omega) n.len.toNat (by omega)
  refine ⟨?_, h.2.1, h.2.2, (depth_bd hok hl (i + 1) i (by omega)).2.1⟩
  rw [← h.1]
  exact he
end Go.Proofs.YtdjiebiobdhihaaDoor
