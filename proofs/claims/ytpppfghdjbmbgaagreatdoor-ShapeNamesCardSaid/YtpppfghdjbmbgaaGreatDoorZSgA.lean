/- Signatures as plain data, and what it is that a value reads as one. -/
import Derived.Test.YtpppfghdjbmbgaaGreatDoorProg
import Derived.Test.YtpppfghdjbmbgaaGreatDoorZTk
import Derived.Test.YtpppfghdjbmbgaaGreatDoorZSexRd
namespace Go.Proofs.YtpppfghdjbmbgaaGreatDoor
open Go.RowKit
/-- The flat list of values lies at an address, in a block below B. -/
def At (w : World) (B : Nat) (L : List Value) (a : Option Addr) : Prop :=
  0 < L.length → ∃ g o : Nat, a = some ⟨g, o, none⟩ ∧ g < B ∧ ∀ (i : Nat) (v : Value), L[i]? = some v → w.cell? ⟨g, o + i, none⟩ = some v
theorem At.below {w w' : World} {B : Nat} {L : List Value} {a : Option Addr} (h : At w B L a) (hb : Below B w w') : At w' B L a := by
  intro h0
  obtain ⟨g, o, e, hg, hc⟩ := h h0
  exact ⟨g, o, e, hg, fun i v hv => (hb.cell (p := ⟨g, o + i, none⟩) hg).trans (hc i v hv)⟩
theorem At.more {w : World} {B B' : Nat} {L : List Value} {a : Option Addr} (h : At w B L a) (hB : B ≤ B') : At w B' L a := by
  intro h0
  obtain ⟨g, o, e, hg, hc⟩ := h h0
  exact ⟨g, o, e, by omega, hc⟩
theorem At.low {w : World} {B : Nat} {L : List Value} {a : Option Addr} (h : At w B L a) : At w w.heap.size L a := by
  intro h0
  obtain ⟨g, o, e, hg, hc⟩ := h h0
  exact ⟨g, o, e, World.block_lt_of_cell? (a := ⟨g, o + 0, none⟩) w (hc 0 _ (List.getElem?_eq_getElem h0)), hc⟩
theorem At.take {w : World} {B : Nat} {L : List Value} {a : Option Addr} (h : At w B L a) (k : Nat) : At w B (L.take k) a := by
  intro h0
  obtain ⟨g, o, e, hg, hc⟩ := h (by simp at h0; omega)
  refine ⟨g, o, e, hg, fun i v hv => hc i v ?_⟩
  rw [List.getElem?_take] at hv
  split at hv
  · exact hv
  · cases hv
theorem At.heap {w w' : World} {B : Nat} {L : List Value} {a : Option Addr} (h : At w B L a) (hk : ∀ g o, a = some ⟨g, o, none⟩ → w'.heap[g]? = w.heap[g]?) : At w' B L a := by
  intro h0
  obtain ⟨g, o, e, hg, hc⟩ := h h0
  exact ⟨g, o, e, hg, fun i v hv => (World.cell?_of_block (a := ⟨g, o + i, none⟩) (hk g o e)).trans (hc i v hv)⟩
/-- A place in a list put together of pieces of one length. -/
theorem get_flat {α : Type} {f : α → List Value} {n : Nat} (hn : ∀ x, (f x).length = n) : ∀ (l : List α) (k j : Nat) (x : α), l[k]? = some x → j < n → (l.flatMap f)[k * n + j]? = (f x)[j]?
  | [], k, j, x, h, _ => by simp at h
  | y :: r, 0, j, x, h, hj => by
    simp at h
    subst h
    simp only [List.flatMap_cons, Nat.zero_mul, Nat.zero_add]
    exact List.getElem?_append_left (by rw [hn]; exact hj)
  | y :: r, k + 1, j, x, h, hj => by
    simp only [List.flatMap_cons]
    rw [List.getElem?_append_right (by rw [hn, Nat.succ_mul]; omega), hn]
    have e : (k + 1) * n + j - n = k * n + j := by rw [Nat.succ_mul]; omega
    rw [e]
    exact get_flat hn r k j x (by simpa using h) hj
theorem len_flat {α : Type} {f : α → List Value} {n : Nat} (hn : ∀ x, (f x).length = n) : ∀ (l : List α), (l.flatMap f).length = l.length * n
  | [] => by simp
  | y :: r => by simp only [List.flatMap_cons, List.length_append, hn, len_flat hn r, List.length_cons, Nat.succ_mul]; omega
structure FunA where
  name : ByteArray
  len : Int
  a0 : Int
  a1 : Int
  a2 : Int
  res : Int
structure ParA where
  name : ByteArray
  sort : Int
structure MacA where
  name : ByteArray
  params : List ParA
  res : Int
  body : Tree
structure SigA where
  sorts : List ByteArray
  funs : List FunA
  macros : List MacA
def strC (s : ByteArray) : List Value := [.string s]
def funC (f : FunA) : List Value := [.string f.name, .int .i64 f.len, .int .i64 f.a0, .int .i64 f.a1, .int .i64 f.a2, .int .i64 f.res]
def parC (p : ParA) : List Value := [.string p.name, .int .i64 p.sort]
/-- A macro as it lies in memory. -/
structure MacV where
  m : MacA
  pa : Option Addr
  pc : Nat
  ba : Option Addr
  bc : Nat
def bodyV (x : MacV) : Value := .agg #[.int .i8 x.m.body.kind, .string (bytesL x.m.body.text), .slice x.ba x.m.body.kids.length x.bc]
def macC (x : MacV) : List Value := [.string x.m.name, .slice x.pa x.m.params.length x.pc, .int .i64 x.m.res, .int .i8 x.m.body.kind, .string (bytesL x.m.body.text), .slice x.ba x.m.body.kids.length x.bc]
/-- A signature as it lies in memory. -/
structure SigV where
  sorts : List ByteArray
  sa : Option Addr
  sc : Nat
  funs : List FunA
  fa : Option Addr
  fc : Nat
  macs : List MacV
  ma : Option Addr
  mc : Nat
def SigV.a (x : SigV) : SigA := ⟨x.sorts, x.funs, x.macs.map (·.m)⟩
def SigV.c0 (x : SigV) : Value := .slice x.sa x.sorts.length x.sc
def SigV.c1 (x : SigV) : Value := .slice x.fa x.funs.length x.fc
def SigV.c2 (x : SigV) : Value := .slice x.ma x.macs.length x.mc
/-- A tree, the rows of which lie in blocks without a mark. -/
def SxK (w : World) (t : Tree) (v : Value) : Prop := ∃ bad : Nat → Prop, (∀ b, ¬ bad b → b < w.heap.size) ∧ Rd w bad t v ∧ Clean w bad
theorem SxK.below {w w' : World} {t : Tree} {v : Value} (h : SxK w t v) (hb : Below w.heap.size w w') : SxK w' t v := by
  obtain ⟨bad, h1, h2, h3⟩ := h
  refine ⟨bad, fun b hb' => Nat.lt_of_lt_of_le (h1 b hb') hb.size, Rd.keep (fun b hb' _ => hb.block b (h1 b hb')) t v h2, fun b hb' _ => ?_⟩
  obtain ⟨cs, ty, hc⟩ := h3 b hb' (h1 b hb')
  exact ⟨cs, ty, (hb.block b (h1 b hb')).trans hc⟩
structure ParOk (p : ParA) : Prop where
  name : p.name.size ≤ maxLen
  sort : I64 p.sort
structure FunOk (f : FunA) : Prop where
  name : f.name.size ≤ maxLen
  len : I64 f.len
  a0 : I64 f.a0
  a1 : I64 f.a1
  a2 : I64 f.a2
  res : I64 f.res
structure MacOk (w : World) (B : Nat) (x : MacV) : Prop where
  name : x.m.name.size ≤ maxLen
  plen : x.m.params.length ≤ x.pc
  pcap : x.pc ≤ maxLen
  pat : At w B (x.m.params.flatMap parC) x.pa
  pok : ∀ p ∈ x.m.params, ParOk p
  res : I64 x.m.res
  body : Sx w x.m.body (bodyV x)
theorem MacOk.below {w w' : World} {x : MacV} (h : MacOk w w.heap.size x) (hb : Below w.heap.size w w') : MacOk w' w.heap.size x :=
  ⟨h.name, h.plen, h.pcap, h.pat.below hb, h.pok, h.res, h.body.below hb⟩
/-- The signature reads as x. -/
structure SigR (w : World) (x : SigV) : Prop where
  sl : x.sorts.length ≤ x.sc
  sm : x.sc ≤ maxLen
  sat : At w w.heap.size (x.sorts.flatMap strC) x.sa
  sok : ∀ s ∈ x.sorts, s.size ≤ maxLen
  fl : x.funs.length ≤ x.fc
  fm : x.fc ≤ maxLen
  fat : At w w.heap.size (x.funs.flatMap funC) x.fa
  fok : ∀ f ∈ x.funs, FunOk f
  ml : x.macs.length ≤ x.mc
  mm : x.mc ≤ maxLen
  mat : At w w.heap.size (x.macs.flatMap macC) x.ma
  mok : ∀ m ∈ x.macs, MacOk w w.heap.size m
theorem SigR.below {w w' : World} {x : SigV} (h : SigR w x) (hb : Below w.heap.size w w') : SigR w' x :=
  ⟨h.sl, h.sm, (h.sat.below hb).more hb.size, h.sok, h.fl, h.fm, (h.fat.below hb).more hb.size, h.fok, h.ml, h.mm, (h.mat.below hb).more hb.size, fun m hm => by
    have := (h.mok m hm).below hb
    exact ⟨this.name, this.plen, this.pcap, this.pat.more hb.size, this.pok, this.res, this.body⟩⟩
/-- The bodies lie in blocks without a mark. -/
def SigK (w : World) (x : SigV) : Prop := ∀ m ∈ x.macs, SxK w m.m.body (bodyV m)
theorem SigK.below {w w' : World} {x : SigV} (h : SigK w x) (hb : Below w.heap.size w w') : SigK w' x := fun m hm => (h m hm).below hb
/-- The place of the first that is s; how many there are, if none is. -/
def fnd (l : List ByteArray) (s : ByteArray) : Nat := l.findIdx (fun x => decide (x = s))
end Go.Proofs.YtpppfghdjbmbgaaGreatDoor
