/- Clauses of a table: rows of one's own, sorted and made without repeats. -/
import Derived.Deep.RegionHeld3
import Derived.WalkKit
import Derived.ProofKit
import Derived.Outline
import Derived.LoopTactic
import Derived.Handy
import Derived.Lib.Hide
import Derived.Below
import Derived.OneCell
import Derived.OpenShut
import Derived.Sort.OwnSortedInts
import Derived.Lib.RowBridge
import Derived.Deep.AppendLies
import Derived.Deep.RegionLaw
import Derived.Laws.CopyOwn
import Derived.WalkSmall
import Derived.Deep.LoopGhost
import Derived.Laws.MakeOwn
import Derived.Laws.EntriesVeiled
import Derived.ScopeJumps
import Derived.WalkMore
import Derived.Maps.Ext
import Derived.Carry
import Derived.Test.YtfgpimhdjlmapaaGreatDoorShf
import Derived.Test.YtfgpimhdjlmapaaGreatDoorTmJ
import Derived.Test.YtfgpimhdjlmapaaGreatDoorTyC
namespace Go.Proofs.YtfgpimhdjlmapaaGreatDoor
open Go.RowKit
set_option linter.unusedVariables false
theorem tkC {P:Program} {ops:Array Oper} {Q:Exit→Act→World→Prop} {md:Region.Mode} {S:World→Prop} (i:Nat) {oi:Oper} {fuel:Nat} {listed:Array Bool} {a:Act} {w:World} (h:∀K':Act→World→Prop,Shut (∀a w,S w→(S w→wpAnyH P md ops Q S fuel (listed.setIfInBounds i true) a w)→K' a w)→if Region.wanted oi (yielded ops a.tmps)=true then Oper.wp P oi a w K' Q else K' (a.put oi.dst undef) w) (hi:ops[i]? = some oi:=by (simp only[List.getElem?_toArray,List.getElem?_cons_succ,List.getElem?_cons_zero];rfl)) (hr:Region.ready md ops listed=[i]:=by kernel_rfl):wpAnyH P md ops Q S (fuel+1) listed a w :=
 wpAnyH_ready hr (by simp) (AllReadyH.cons hi h AllReadyH.nil)
end Go.Proofs.YtfgpimhdjlmapaaGreatDoor
namespace Go.Proofs.YtfgpimhdjlmapaaGreatDoor.Tm
open Go.RowKit Go.Sort Go.Lib Go.Shelf
set_option linter.unusedVariables false
def qFo (w:World) (base:Nat) (xs:List Int) (v:Value):Prop:=w.ownsRow base 3 1 v xs.length (xs.map (Value.int .i64))
theorem qFo.ints {w:World} {base:Nat} {xs:List Int} {v:Value} (h:qFo w base xs v) (hok:∀x∈xs,I64 x):∃a c,v=.slice a xs.length c∧IntsR w xs a c:=by
 obtain⟨a,c,e,h1,h2,h3,_⟩:=own_at h
 exact⟨a,c,e,h1,h2,h3,hok⟩
theorem qFo.keep {w w':World} {base:Nat} {xs:List Int} {v:Value} (h:qFo w base xs v) (hb:Below w.heap.size w w'):qFo w' base xs v:=own_heap h (fun g _ hg=>hb.block g hg)
theorem qFo.base {w:World} {base base':Nat} {xs:List Int} {v:Value} (h:qFo w base xs v) (hb:base'≤base):qFo w base' xs v:=qV2 h hb
def ngL (x:Int):Int:=if x % 2=0 then x+1 else x-1
theorem qTz (n:Nat):n ^^^ 1=if n % 2=0 then n+1 else n-1:=by
 have h1:=Nat.xor_div_two (a:=n) (b:=1)
 have h2:(n ^^^ 1) % 2=(n+1) % 2:=by
  have:=Nat.testBit_xor n 1 0
  simp only[Nat.testBit_zero] at this
  by_cases h:n % 2=1<;>by_cases h':(n ^^^ 1) % 2=1
  ·rw[decide_eq_true h,decide_eq_true h'] at this;cases this
  ·omega
  ·omega
  ·rw[decide_eq_false h,decide_eq_false h'] at this;cases this
 rw[show (1 / 2:Nat)=0 from rfl,Nat.xor_zero] at h1
 split<;>omega
theorem qU0 (x:Int) (hx:I64 x):bits .xor .i64 x 1=ngL x:=by
 obtain⟨l1,l2⟩:=hx
 have h1:(BitVec.ofInt 64 1).toNat=1:=by decide
 have key:(BitVec.ofInt 64 x ^^^ BitVec.ofInt 64 1).toNat=(x % ((2 ^ 64:Nat):Int)).toNat ^^^ 1:=by
  rw[BitVec.toNat_xor,BitVec.toNat_ofInt,h1]
 show IntKind.i64.wrap ((BitVec.ofInt 64 x ^^^ BitVec.ofInt 64 1).toNat:Nat)=_
 rw[key,qTz,IntKind.wrap_i64]
 unfold ngL
 split<;>split<;>omega
theorem qB9 {x:Int} (h:I64 x):I64 (ngL x):=by
 obtain⟨l1,l2⟩:=h
 unfold ngL I64
 split<;>omega
theorem qU1 (x:Int):ngL x / 2=x / 2:=by unfold ngL;split<;>omega
theorem qEm (x:Int) (w:World) (hx:I64 x) :
  Calls Tryz.prog 67 #[.int .i64 x] w fun e w'=>e=.returned (.int .i64 (ngL x))∧w=w':=by
 have h:=qU0 x hx
 have H:=Lib.hid h
 clear h hx
 go_enter Tryz.func67,Tryz.ntmps67
 go_wp2
 go_ret
 exact⟨qQr H.out,rfl⟩
theorem qR7 {w:World} {base g cap q:Nat} {cur:Array Value} {xs ys rest:List Int} (os:Array Obj) (hb:w.heap[g]? = some (.cells cur 3 (0,0))) (hbase:base≤g) (h1:xs.length≤cap) (h2:cap≤maxLen) (h3:cur.size=cap*1) (hl:(ys++rest).length=xs.length) :
  qFo (grow (putRow (Value.int .i64) (Sort.ahead w q) g 0 (ys++rest).toArray) os) base ys (.slice (some ⟨g,0,none⟩) ys.length cap)∧w.grownBy (grow (putRow (Value.int .i64) (Sort.ahead w q) g 0 (ys++rest).toArray) os) (some g):=by
 rw[List.length_append] at hl
 refine⟨⟨by simp,.inr ⟨g,cap,_,rfl,hbase,heap_sortedI _ hb,by omega,h2,by simp[putCells,h3],?_⟩⟩,grownBy_sortedI _⟩
 have h:=take_putCellsI cur (ys++rest) (by rw[List.length_append,h3];omega)
 have h4:=congrArg (List.take ys.length) h
 rw[List.take_take,List.length_append,Nat.min_eq_left (by omega),List.map_append,List.take_left' (by simp)] at h4
 rw[Nat.mul_one]
 exact h4
theorem qGc {w w':World} {base g:Nat} (hg:w.grownBy w' (some g)) (hbase:base≤g) (hb:base≤w.heap.size):Below base w w' :=
 ⟨hg.os,hg.tape,hg.output,hg.size,fun k hk=>hg.block k (by omega) (fun e=>by cases e;omega)⟩
theorem qLa {w:World} {g cap:Nat} {cur:Array Value} {xs:List Int} (hb:w.heap[g]? = some (.cells cur 3 (0,0))) (ht:cur.toList.take (xs.length*1)=xs.map (Value.int .i64)):Holds (Value.int .i64) w g 0 xs.toArray:=by
 rw[Nat.mul_one] at ht
 exact holds_of_blockI hb ht
theorem qHp {n cap:Nat} (h1:n≤cap) (h2:cap≤maxLen):n≤9223372036854775807:=by simp only[maxLen] at h2;omega
theorem qU2 (xs:List Int) (v:Value) (base:Nat) (w:World) (hown:qFo w base xs v) (hbase:base≤w.heap.size) (hm:xs.length≤4000000000000000000) :
  Calls Tryz.prog 102 #[v] w fun e w'=>e=.returned (.tuple #[])∧qFo w' base (xs.mergeSort fun x y=>decide (x≤y)) v∧Below base w w':=by
 rcases hown.2 with⟨rfl,h0⟩|⟨g,cap,cur,rfl,h1,h2,h3,h4,h5,h6⟩
 ·have hx:xs=[]:=List.eq_nil_of_length_eq_zero h0
  subst hx
  refine(Tryz.slices_Sort_int_none none 0 w).mono ?_
  rintro e w' ⟨rfl,rfl⟩
  exact⟨rfl,by rw[List.mergeSort_nil];exact hown,Below.refl _ _⟩
 ·have hglt:=(Array.getElem?_eq_some_iff.1 h2).1
  refine(Tryz.slices_Sort_int g 0 cap xs w (qLa (cap:=cap) h2 h6) hglt (by omega)).mono ?_
  rintro e w' ⟨rfl,q,os,rfl⟩
  obtain⟨r1,r2⟩:=qR7 (w:=w) (base:=base) (q:=q) (xs:=xs) (ys:=xs.mergeSort fun x y=>decide (x≤y)) (rest:=[]) os h2 h1 h3 h4 h5 (by simp)
  rw[List.append_nil] at r1 r2
  refine⟨rfl,?_,qGc r2 h1 hbase⟩
  rw[List.length_mergeSort] at r1
  exact r1
theorem qMl (xs:List Int) (v:Value) (base:Nat) (w:World) (hown:qFo w base xs v) (hbase:base≤w.heap.size) :
  Calls Tryz.prog 103 #[v] w fun e w'=>∃v',e=.returned v'∧qFo w' base (Lib.compact xs) v'∧Below base w w':=by
 rcases hown.2 with⟨rfl,h0⟩|⟨g,cap,cur,rfl,h1,h2,h3,h4,h5,h6⟩
 ·have hx:xs=[]:=List.eq_nil_of_length_eq_zero h0
  subst hx
  refine(Tryz.slices_Compact_int_empty none 0 w).mono ?_
  rintro e w' ⟨rfl,rfl⟩
  exact⟨_,rfl,hown,Below.refl _ _⟩
 ·have hglt:=(Array.getElem?_eq_some_iff.1 h2).1
  refine(Tryz.slices_Compact_int g 0 cap xs w (qLa (cap:=cap) h2 h6) (qHp h3 h4) h3).mono ?_
  rintro e w' ⟨rfl,q,rfl⟩
  have hfl:=Lib.compact_length_le xs
  obtain⟨r1,r2⟩:=qR7 (w:=w) (base:=base) (q:=q) (xs:=xs) (ys:=Lib.compact xs) (rest:=List.replicate (xs.length-(Lib.compact xs).length) 0) #[] h2 h1 h3 h4 h5 (by rw[List.length_append,List.length_replicate];omega)
  rw[grow_empty] at r1 r2
  exact⟨_,rfl,r1,qGc r2 h1 hbase⟩
def qOp (xs:List Int):List Int:=xs.mergeSort fun x y=>decide (x≤y)
theorem qR8 (xs:List Int):(qOp xs).length=xs.length:=List.length_mergeSort _
theorem qR9 {xs:List Int} {x:Int}:x∈qOp xs↔x∈xs:=List.mem_mergeSort
theorem qLb (xs:List Int):(qOp xs).Pairwise (·≤·):=by
 have h:=List.pairwise_mergeSort (le:=fun (x y:Int)=>decide (x≤y)) (fun a b c h1 h2=>by simp only[decide_eq_true_eq] at *;omega) (fun a b=>by simp only[Bool.or_eq_true,decide_eq_true_eq];omega) xs
 exact h.imp (fun h=>by simpa using h)
structure RowD where
 xs:List Int
 a:Option Addr
 c:Nat
def rowV (r:RowD):Value:=.slice r.a r.xs.length r.c
structure RowsR (w:World) (rs:List RowD) (a:Option Addr) (c:Nat):Prop where
 le:rs.length≤c
 cap:c≤maxLen
 tat:At w w.heap.size (rs.map rowV) a
 ok:∀r∈rs,IntsR w r.xs r.a r.c
theorem RowsR.below {w w':World} {rs:List RowD} {a:Option Addr} {c:Nat} (h:RowsR w rs a c) (hb:Below w.heap.size w w'):RowsR w' rs a c :=
 ⟨h.le,h.cap,(h.tat.below hb).more hb.size,fun r hr=>(h.ok r hr).below hb⟩
theorem RowsR.cell {w:World} {rs:List RowD} {a:Option Addr} {c k:Nat} {r:RowD} (h:RowsR w rs a c) (hk:rs[k]? = some r):∃g o:Nat,a=some ⟨g,o,none⟩∧g<w.heap.size∧w.cell? ⟨g,o+k,none⟩=some (.slice r.a r.xs.length r.c):=by
 have hlt:=(List.getElem?_eq_some_iff.1 hk).1
 obtain⟨g,o,e,hg,hc⟩:=h.tat (by simp;omega)
 exact⟨g,o,e,hg,hc k _ (by rw[List.getElem?_map,hk];rfl)⟩
theorem qOq (d:Array Int) (hs:d.toList.Pairwise (·≤·)):∀i j,i≤j→j<d.size→d[i]!≤d[j]!:=fun i j hij hj=>by
 rw[getElem!_pos d i (by omega),getElem!_pos d j hj]
 by_cases e:i=j
 ·subst e;exact Int.le_refl _
 ·have:=List.pairwise_iff_getElem.1 hs i j (by simp;omega) (by simpa using hj) (by omega)
  simpa using this
theorem qJ5 (zs:List Int) (hs:zs.Pairwise (·≤·)):(Lib.compact zs).Pairwise (· < ·):=by
 unfold Lib.compact compactUpTo
 rw[List.pairwise_map]
 have hm:=qOq zs.toArray (by simpa using hs)
 have h1:((List.range zs.length).filter (keeps zs.toArray)).Pairwise (· < ·):=List.Pairwise.filter _ List.pairwise_lt_range
 refine List.Pairwise.imp_of_mem (fun {a b} ha hb hab=>?_) h1
 obtain⟨hb1,hb2⟩:=List.mem_filter.1 hb
 have hbl:b<zs.length:=by simpa using hb1
 have hne:zs.toArray[b]!≠zs.toArray[b-1]!:=by
  unfold keeps at hb2
  rcases of_decide_eq_true hb2 with h|h
  ·omega
  ·exact h
 have l1:=hm a (b-1) (by omega) (by simp;omega)
 have l2:=hm (b-1) b (by omega) (by simpa using hbl)
 omega
theorem qMm {zs:List Int} {x:Int}:x∈Lib.compact zs↔x∈zs:=by
 unfold Lib.compact compactUpTo
 rw[List.mem_map]
 constructor
 ·rintro⟨i,hi,rfl⟩
  have hl:i<zs.length:=by simpa using (List.mem_filter.1 hi).1
  rw[getElem!_pos zs.toArray i (by simpa using hl)]
  simp
 ·intro hx
  have hex:∃i,i<zs.length∧zs.toArray[i]! = x:=by
   obtain⟨i,hi⟩:=List.getElem?_of_mem hx
   obtain⟨hl,e⟩:=List.getElem?_eq_some_iff.1 hi
   exact⟨i,hl,by rw[getElem!_pos zs.toArray i (by simpa using hl)];simpa using e⟩
  obtain⟨i,⟨hi1,hi2⟩,hmin⟩:∃i,(i<zs.length∧zs.toArray[i]! = x)∧∀j,j<i→¬(j<zs.length∧zs.toArray[j]! = x):=by
   obtain⟨n,hn⟩:=hex
   induction n using Nat.strongRecOn with
   | _ n ih =>
    by_cases h:∃m,m<n∧(m<zs.length∧zs.toArray[m]! = x)
    ·obtain⟨m,hm,hm2⟩:=h
     exact ih m hm hm2
    ·exact⟨n,hn,fun j hj hh=>h ⟨j,hj,hh⟩⟩
  refine⟨i,List.mem_filter.2 ⟨by simpa using hi1,?_⟩,hi2⟩
  unfold keeps
  refine decide_eq_true ?_
  by_cases h0:i=0
  ·exact .inl h0
  ·exact .inr (fun e=>hmin (i-1) (by omega) ⟨by omega,by rw[←e,hi2]⟩)
def clM (xs:List Int):List Int:=Lib.compact (qOp xs)
theorem qEn {xs:List Int} {x:Int}:x∈clM xs↔x∈xs:=by unfold clM;rw[qMm,qR9]
theorem qF5 (xs:List Int):(clM xs).Pairwise (· < ·):=qJ5 _ (qLb _)
theorem qY2 (xs:List Int):(clM xs).length≤xs.length:=by
 unfold clM
 refine Nat.le_trans (Lib.compact_length_le _) ?_
 rw[qR8]
 exact Nat.le_refl _
theorem qY3 {xs:List Int} (h:xs≠[]):0<(clM xs).length:=by
 obtain⟨x,hx⟩:=List.exists_mem_of_ne_nil xs h
 exact List.length_pos_of_mem (qEn.2 hx)
theorem qOr (xs:List Int) (v:Value) (base:Nat) (w:World) (hown:qFo w base xs v) (hbase:base≤w.heap.size) (hm:xs.length≤100) :
  Calls Tryz.prog 88 #[v] w fun e w'=>∃v',e=.returned v'∧qFo w' base (clM xs) v'∧Below base w w':=by
 have HS:Hid (Calls Tryz.prog 102 #[v] w fun e w'=>e=.returned (.tuple #[])∧Hid (qFo w' base (qOp xs) v)∧Hid (Below base w w')):=qU2 xs v base w hown hbase (by omega)
 have HK:Hid (∀V,Below base w V→qFo V base (qOp xs) v→Calls Tryz.prog 103 #[v] V fun e w'=>∃v',e=.returned v'∧Hid (qFo w' base (clM xs) v')∧Hid (Below base w w')):=fun V hV hr=>(qMl _ v base V hr (Nat.le_trans hbase hV.size)).mono fun e w' ⟨v',h1,h2,h3⟩=>⟨v',h1,h2,hV.trans h3⟩
 clear hown
 go_enter Tryz.func88,Tryz.ntmps88
 go_wp2_with (first
  | (go_at_call 102;refine HS.out.mono ?_;rintro e w3 ⟨rfl,HR3,HB3⟩)
  | (go_at_call 103;refine(HK.out _ HB3.out HR3.out).mono ?_;rintro e w4 ⟨v4,rfl,HR4,HB4⟩))
 go_ret
 exact⟨_,rfl,HR4.out,HB4.out⟩
theorem qNq (k:Nat) (w:World) (hk:k≤3000):Calls Tryz.prog 66 #[.int .i64 k,.bool false] w fun e w'=>e=.returned (.int .i64 (2*(k:Int)))∧w=w':=by
 have hr:(k:Int)*2=2*(k:Int):=by omega
 have HR:=Lib.hid hr
 clear hr
 go_enter Tryz.func66,Tryz.ntmps66
 go_wp2
 go_ret
 exact⟨qQr HR.out,rfl⟩
theorem qU3 (x:Int) (w:World) (hx:I64 x) :
  Calls Tryz.prog 68 #[.int .i64 x] w fun e w'=>e=.returned (.int .i64 (x / 2))∧w=w':=by
 obtain⟨h1,h2⟩:=hx
 go_enter Tryz.func68,Tryz.ntmps68
 go_wp2
 go_ret
 exact⟨rfl,rfl⟩
end Go.Proofs.YtfgpimhdjlmapaaGreatDoor.Tm
