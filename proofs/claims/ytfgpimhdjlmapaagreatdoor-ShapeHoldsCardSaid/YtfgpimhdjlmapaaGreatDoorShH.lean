/- The literals of nodes that are asked for. -/
import Derived.Laws.CopyOwn
import Derived.Deep.LoopGhost
import Derived.Laws.MakeOwn
import Derived.Laws.EntriesVeiled
import Derived.Sort.OwnSortedInts
import Derived.Lib.RowBridge
import Derived.Test.YtfgpimhdjlmapaaGreatDoorShf
import Derived.Test.YtfgpimhdjlmapaaGreatDoorCqF
import Derived.Test.YtfgpimhdjlmapaaGreatDoorDaB
import Derived.Deep.RegionHeldLaw
import Derived.Laws.Bits128
import Derived.Test.YtfgpimhdjlmapaaGreatDoorShF
import Derived.Test.YtfgpimhdjlmapaaGreatDoorShPe
namespace Go.Proofs.YtfgpimhdjlmapaaGreatDoor.Tm
open Go.RowKit
set_option linter.unusedVariables false
set_option maxRecDepth 100000
set_option maxHeartbeats 4000000 in
theorem qU8 (c:List NodeA) (hC:Cl c) (n:NodeA) (m:Nat) (hm:c[m]? = some n) (a:Option Addr) (ca:Nat) (w:World) (hA:TabR w c a ca) :
  Calls Tryz.prog 135 #[.slice a c.length ca,.agg #[.int .i8 n.op,.int .i8 n.len,.int .i64 n.a0,.int .i64 n.a1,.int .i64 n.a2,.int .i64 n.sort,.int .i64 n.fn,.int .i64 n.num]] w fun e w'=>e=.returned (.int .i64 m)∧Below w.heap.size w w':=by
 have hml:=(List.getElem?_eq_some_iff.1 hm).1
 have hlen:c.length≤2000:=hC.len
 have hcap:=hA.le
 have HNk:=Lib.hid (hA.ok n (List.mem_of_getElem? hm))
 have HOk:Hid (∀z∈c,NodeOk z):=hA.ok
 have HNE:Hid (∀j:Nat,j<m→c[j]?≠some n):=fun j hj=>(ok_at (mayT_ok hC.may).2 hm).2 j hj
 have HM:=Lib.hid hm
 obtain⟨W0,hW0⟩:∃W0,W0=w.alloc (.cells #[.int .i8 n.op,.int .i8 n.len,.int .i64 n.a0,.int .i64 n.a1,.int .i64 n.a2,.int .i64 n.sort,.int .i64 n.fn,.int .i64 n.num] 54):=⟨_,rfl⟩
 have hB0:Below w.heap.size w W0:=by rw[hW0];exact(Below.refl _ w).alloc (Nat.le_refl _) _
 have hn0:W0.heap[w.heap.size]? = some (.cells #[.int .i8 n.op,.int .i8 n.len,.int .i64 n.a0,.int .i64 n.a1,.int .i64 n.a2,.int .i64 n.sort,.int .i64 n.fn,.int .i64 n.num] 54 (0,0)):=by rw[hW0];exact heap_alloc_new w _
 have HX:Hid (∀V,Below W0.heap.size W0 V→V.heap[w.heap.size]? = some (.cells #[.int .i8 n.op,.int .i8 n.len,.int .i64 n.a0,.int .i64 n.a1,.int .i64 n.a2,.int .i64 n.sort,.int .i64 n.fn,.int .i64 n.num] 54 (0,0))):=fun V hV=>(hV.block _ (Array.getElem?_eq_some_iff.1 hn0).1).trans hn0
 have HA:Hid (∀V,Below W0.heap.size W0 V→TabR V c a ca):=fun V hV=>hA.below (hB0.trans (hV.mono hB0.size))
 have HB0:=Lib.hid hB0
 have hA0:=hW0.symm
 clear hW0 hA hn0 hB0 hm hC
 go_enter Tryz.func135,Tryz.ntmps135
 go_wp2
 go_loopw [8] (fun i wr=>∃k:Nat,k≤m∧i=.int .i64 k∧Hid (Below W0.heap.size W0 wr)) (fun i _=>c.length-(intOf i).toNat)
 case atStart=>exact⟨0,Nat.zero_le _,rfl,Below.refl _ _⟩
 case round =>
  obtain⟨k,hkl,rfl,HR⟩:=hrel
  have hnb:=HX.out wr HR.out
  obtain⟨z,hz⟩:∃z,c[k]? = some z:=⟨_,List.getElem?_eq_getElem (by omega)⟩
  obtain⟨g,o,rfl,hg,q0,q1,q2,q3,q4,q5,q6,q7⟩:=(HA.out wr HR.out).node hz
  obtain⟨n0,n1,n2,n3,n4,n5,n6,n7,nz⟩:=qAi hnb
  have e0:=qFr n z HNk.out (HOk.out z (List.mem_of_getElem? hz))
  have f0:=qFa n z HNk.out (HOk.out z (List.mem_of_getElem? hz))
  have hki:(k:Int)<(c.length:Int):=by omega
  have hk0:(0:Int)≤(k:Int):=by omega
  by_cases hkm:k=m
  ·subst hkm
   obtain rfl:n=z:=by
    have:=HM.out
    rw[hz] at this
    exact(Option.some.inj this).symm
   rw[decide_eq_true rfl] at e0 f0
   have HBw:Hid (Below w.heap.size w wr):=HB0.out.trans (HR.out.mono HB0.out.size)
   clear hz hnb
   go_wp2
   go_quiet (fail)
   go_wp2
   go_ret
   exact⟨rfl,qA1 HBw.out⟩
  ·have hne:¬n=z:=fun e=>HNE.out k (by omega) (by rw[hz,e])
   rw[decide_eq_false hne] at e0 f0
   clear hne hz hnb
   go_wp2
   go_quiet (fail)
   go_wp2
   go_roundw
   case rel=>exact⟨k+1,by omega,by go_num,qA1 HR.out⟩
   case measure=>simp[intOf];omega
theorem qY9 (m:Nat):max (m:Int) 0=(m:Int):=by omega
theorem qYa (c:List NodeA) (hC:Cl c) (n:NodeA) (m:Nat) (hm:c[m]? = some n) (a:Option Addr) (ca:Nat) (w:World) (hA:TabR w c a ca) :
  Calls Tryz.prog 119 #[.agg #[.slice a c.length ca],.agg #[.int .i8 n.op,.int .i8 n.len,.int .i64 n.a0,.int .i64 n.a1,.int .i64 n.a2,.int .i64 n.sort,.int .i64 n.fn,.int .i64 n.num]] w fun e w'=>e=.returned (.tuple #[.int .i64 m,.bool true])∧Below w.heap.size w w':=by
 obtain⟨W0,hW0⟩:∃W0,W0=(w.alloc (.cells #[.slice a c.length ca] 33)).alloc (.cells #[.int .i8 n.op,.int .i8 n.len,.int .i64 n.a0,.int .i64 n.a1,.int .i64 n.a2,.int .i64 n.sort,.int .i64 n.fn,.int .i64 n.num] 54):=⟨_,rfl⟩
 obtain⟨hB0,hXX⟩:=qM5 hW0
 obtain⟨⟨x0,xz⟩,hnb⟩:=hXX W0 (Below.refl _ _)
 obtain⟨n0,n1,n2,n3,n4,n5,n6,n7,nz⟩:=qAi hnb
 have HI:Hid (Calls Tryz.prog 135 #[.slice a c.length ca,.agg #[.int .i8 n.op,.int .i8 n.len,.int .i64 n.a0,.int .i64 n.a1,.int .i64 n.a2,.int .i64 n.sort,.int .i64 n.fn,.int .i64 n.num]] W0 fun e w'=>e=.returned (.int .i64 m)∧Hid (Below W0.heap.size W0 w')):=qU8 c hC n m hm a ca W0 (hA.below hB0)
 have HB0:=Lib.hid hB0
 have hm0:(0:Int)≤(m:Int):=by omega
 have hmx:=qY9 m
 clear hXX hnb hB0 hA hm hC
 have hA0:=hW0.symm
 clear hW0
 go_enter Tryz.func119,Tryz.ntmps119
 go_wp2_with (go_at_call 135;refine HI.out.mono ?_;rintro e w1 ⟨rfl,HB1⟩)
 go_ret2
 exact⟨rfl,HB0.out.trans (HB1.out.mono HB0.out.size)⟩
theorem qCu {c:List NodeA} (hC:Cl c) {k:Nat} {n:NodeA} (hk:c[k]? = some n):((qC3 c k).1:Int)=(qA0 c k).1∧(qC3 c k).2=((qA0 c k).2,0)∧qAn (qA0 c k).2=true:=by
 have hn:=qBf hk
 have hst:=hC.st hk
 unfold qA0
 rw[hn]
 have hadd:∀x:Int,qAn x=true→qC6 0 x=x∧qC4 0 x=0:=fun x hx=>by
  have h:=qAc.1 hx
  have:qD4 0 x=true:=qB5.2 ⟨⟨by omega,by omega⟩,h,⟨by omega,by omega⟩⟩
  unfold qC6 qC4
  rw[if_pos this,if_pos this]
  exact⟨by omega,rfl⟩
 by_cases h10:n.op=10
 ·obtain⟨hmb,_⟩:=qOl hst h10
  obtain⟨e1,e2⟩:=hadd _ hmb
  rw[if_pos h10]
  unfold qC3
  rw[qIa hk h10,qGa,e1,e2]
  exact⟨rfl,rfl,hmb⟩
 ·by_cases h11:n.op=11
  ·obtain⟨l0,l1,hmb,_⟩:=qCt hst h11
   obtain⟨e1,e2⟩:=hadd _ hmb
   obtain⟨_,q1,q2⟩:=(hC.qo n (List.mem_of_getElem? hk)).1 h11
   rw[if_neg h10,if_pos h11]
   unfold qC3
   rw[qIb hk h11,qGa,e1,e2]
   obtain⟨m,hm⟩:∃m:Nat,n.a0=(m:Int):=⟨n.a0.toNat,by omega⟩
   have hkl:=(List.getElem?_eq_some_iff.1 hk).1
   obtain⟨z,hz⟩:∃z,c[m]? = some z:=⟨_,List.getElem?_eq_getElem (by omega)⟩
   rw[hm,qBf hz] at q1 q2
   obtain⟨j,hj⟩:∃j,k=j+1:=⟨k-1,by omega⟩
   rw[hm,Int.toNat_natCast,hj,qGb hz q2 q1]
   exact⟨rfl,rfl,hmb⟩
  ·rw[if_neg h10,if_neg h11]
   unfold qC3
   rw[qGb hk h10 h11]
   exact⟨rfl,rfl,by show qAn 0=true;decide⟩
theorem qLg {c:List NodeA} (hC:Cl c) {k:Nat} {n:NodeA} (hk:c[k]? = some n) (hs:n.sort=1):ofP c k=((qA0 c k).1,(qA0 c k).2,0)∧OfP c k=((qA0 c k).1,(qA0 c k).2,0)∧qAn (qA0 c k).2=true:=by
 obtain⟨h1,h2,h3⟩:=qCu hC hk
 have h:=qVp hk hs (by rw[h2])
 rw[h1,h2] at h
 exact⟨h,by rw[zAw hC.may];exact h,h3⟩
theorem qKh {c:List NodeA} (hC:Cl c) {k i:Nat} {n z:NodeA} (hk:c[k]? = some n) (hs:n.sort=1) (ho:n.op=7) (hi:c[i]? = some z) (hz:z.sort=1):qMh c k i 0=((k:Int),(qA0 c i).1,(qA0 c i).2,0)∧qMh c i k 0=((qA0 c i).1,(k:Int),-(qA0 c i).2,0):=by
 obtain⟨a1,a2,a3⟩:=qLg hC hk hs
 obtain⟨b1,b2,b3⟩:=qLg hC hi hz
 have hsk:qA0 c k=((k:Int),0):=by unfold qA0;rw[qBf hk,if_neg (by omega),if_neg (by omega)]
 rw[hsk] at a1 a2 a3
 have hm:=qAc.1 b3
 have o1:qD4 0 (-0)=true:=qB5.2 ⟨⟨by omega,by omega⟩,⟨by omega,by omega⟩,⟨by omega,by omega⟩⟩
 have o2:qD4 0 (qA0 c i).2=true:=qB5.2 ⟨⟨by omega,by omega⟩,hm,⟨by omega,by omega⟩⟩
 have o3:qD4 0 (-(qA0 c i).2)=true:=qB5.2 ⟨⟨by omega,by omega⟩,⟨by omega,by omega⟩,⟨by omega,by omega⟩⟩
 have o4:qD4 (0-(qA0 c i).2) 0=true:=qB5.2 ⟨⟨by omega,by omega⟩,⟨by omega,by omega⟩,⟨by omega,by omega⟩⟩
 have d1:qL8 c k i 0=((qA0 c i).2,0):=by
  unfold qL8
  rw[a2,b1]
  show qCk (qHc (0,0) 0) (qA0 c i).2=_
  rw[qKb]
  unfold qFc qFs
  rw[if_pos o1,if_pos o1]
  show qCk (0-0,0) _=_
  rw[qGa]
  unfold qC6 qC4
  rw[show (0:Int)-0=0 from rfl,if_pos o2,if_pos o2,Int.zero_add]
 have d2:qL8 c i k 0=(-(qA0 c i).2,0):=by
  unfold qL8
  rw[b2,a1]
  show qCk (qHc (0,0) (qA0 c i).2) 0=_
  rw[qKb]
  unfold qFc qFs
  rw[if_pos o3,if_pos o3,qGa]
  unfold qC6 qC4
  rw[if_pos o4,if_pos o4]
  congr 1
  omega
 unfold qMh
 rw[a2,b2,d1,d2,a1,b1]
 exact⟨rfl,rfl⟩
set_option maxHeartbeats 4000000 in
theorem qIf (c:List NodeA) (hC:Cl c) (n:NodeA) (m:Nat) (hm:c[m]? = some n) (a:Option Addr) (ca:Nat) (la:Option Addr) (w:World) (hM:MkrR w c a ca la) :
  Calls Tryz.prog 105 #[.agg #[.slice a c.length ca,.slice la c.length c.length,.func (.func 69) #[] #[],.nilFunc,.func (.func 70) #[] #[],.func (.func 71) #[] #[],.nilFunc,.nilFunc,.func (.func 72) #[] #[],.func (.func 73) #[] #[],.nilFunc,.nilFunc,.nilFunc,.nilFunc,.nilFunc,.nilFunc],.agg #[.int .i8 n.op,.int .i8 n.len,.int .i64 n.a0,.int .i64 n.a1,.int .i64 n.a2,.int .i64 n.sort,.int .i64 n.fn,.int .i64 n.num]] w fun e w'=>e=.returned (.int .i64 (qAb c m))∧Below w.heap.size w w':=by
 have hml:=(List.getElem?_eq_some_iff.1 hm).1
 obtain⟨W0,hW0⟩:∃W0,W0=(w.alloc (.cells #[.slice a c.length ca,.slice la c.length c.length,.func (.func 69) #[] #[],.nilFunc,.func (.func 70) #[] #[],.func (.func 71) #[] #[],.nilFunc,.nilFunc,.func (.func 72) #[] #[],.func (.func 73) #[] #[],.nilFunc,.nilFunc,.nilFunc,.nilFunc,.nilFunc,.nilFunc] 85)).alloc (.cells #[.int .i8 n.op,.int .i8 n.len,.int .i64 n.a0,.int .i64 n.a1,.int .i64 n.a2,.int .i64 n.sort,.int .i64 n.fn,.int .i64 n.num] 54):=⟨_,rfl⟩
 have hB0:Below w.heap.size w W0:=by rw[hW0];exact((Below.refl _ w).alloc (Nat.le_refl _) _).alloc (by simp) _
 have hbx:W0.heap[w.heap.size]? = some (.cells #[.slice a c.length ca,.slice la c.length c.length,.func (.func 69) #[] #[],.nilFunc,.func (.func 70) #[] #[],.func (.func 71) #[] #[],.nilFunc,.nilFunc,.func (.func 72) #[] #[],.func (.func 73) #[] #[],.nilFunc,.nilFunc,.nilFunc,.nilFunc,.nilFunc,.nilFunc] 85 (0,0)):=by rw[hW0];exact(Below.heap_alloc _ _ _ (by simp)).trans (heap_alloc_new w _)
 have hnb:W0.heap[w.heap.size+1]? = some (.cells #[.int .i8 n.op,.int .i8 n.len,.int .i64 n.a0,.int .i64 n.a1,.int .i64 n.a2,.int .i64 n.sort,.int .i64 n.fn,.int .i64 n.num] 54 (0,0)):=by
  have h:=heap_alloc_new (w.alloc (.cells #[.slice a c.length ca,.slice la c.length c.length,.func (.func 69) #[] #[],.nilFunc,.func (.func 70) #[] #[],.func (.func 71) #[] #[],.nilFunc,.nilFunc,.func (.func 72) #[] #[],.func (.func 73) #[] #[],.nilFunc,.nilFunc,.nilFunc,.nilFunc,.nilFunc,.nilFunc] 85)) (.cells #[.int .i8 n.op,.int .i8 n.len,.int .i64 n.a0,.int .i64 n.a1,.int .i64 n.a2,.int .i64 n.sort,.int .i64 n.fn,.int .i64 n.num] 54)
  rw[World.size_alloc] at h
  rw[hW0];exact h
 have hbz:=(Array.getElem?_eq_some_iff.1 hbx).1
 have hM0:=hM.below hB0
 obtain⟨gl,ol,rfl,hgl,r0⟩:=hM0.lit hml
 obtain⟨n0,n1,n2,n3,n4,n5,n6,n7,nz⟩:=qAi hnb
 have HF:Hid (Calls Tryz.prog 119 #[.agg #[.slice a c.length ca],.agg #[.int .i8 n.op,.int .i8 n.len,.int .i64 n.a0,.int .i64 n.a1,.int .i64 n.a2,.int .i64 n.sort,.int .i64 n.fn,.int .i64 n.num]] W0 fun e w'=>e=.returned (.tuple #[.int .i64 m,.bool true])∧Hid (Below W0.heap.size W0 w')):=qYa c hC n m hm a ca W0 hM0.tab
 have HC:Hid (∀V,Below W0.heap.size W0 V→V.cell? ⟨w.heap.size,1,none⟩=some (.slice (some ⟨gl,ol,none⟩) c.length c.length)∧V.cell? ⟨gl,ol+m,none⟩=some (.int .i64 (qAb c m))∧w.heap.size<V.heap.size∧gl<V.heap.size):=fun V hV=>by
  have e0:=(hV.block _ (Array.getElem?_eq_some_iff.1 hbx).1).trans hbx
  exact⟨(cell_of_row _ _ 1 _ _ _ e0).trans rfl,(hV.cell (p:=⟨gl,ol+m,none⟩) hgl).trans r0,(Array.getElem?_eq_some_iff.1 e0).1,Nat.lt_of_lt_of_le hgl hV.size⟩
 have b0:W0.cell? ⟨w.heap.size,0,none⟩=some (.slice a c.length ca):=(cell_of_row _ _ 0 _ _ _ hbx).trans rfl
 have hmi:(m:Int)<(c.length:Int):=by omega
 have hm0:(0:Int)≤(m:Int):=by omega
 obtain⟨x,hx⟩:∃x,x=qAb c m:=⟨_,rfl⟩
 rw[←hx] at HC ⊢
 have HB0:=Lib.hid hB0
 clear hm hC hM hM0 hbx hnb hB0 r0 hx
 have hA0:=hW0.symm
 clear hW0
 go_enter Tryz.func105,Tryz.ntmps105
 go_wp2_with (go_at_call 119;refine HF.out.mono ?_;rintro e w1 ⟨rfl,HB1⟩;obtain⟨p0,p1,p2,p3⟩:=HC.out _ HB1.out)
 go_ret
 exact⟨rfl,HB0.out.trans (HB1.out.mono HB0.out.size)⟩
set_option maxHeartbeats 4000000 in
theorem qF8 (c:List NodeA) (hC:Cl c) (p q:Nat) (hp:p<c.length) (hq:q<c.length) (x y:Nat) (d:Int) (hd:qMh c p q 0=((x:Int),(y:Int),d,0)) (hxy:¬x=y) (m:Nat) (hm:c[m]? = some (qAk 12 x y d)) (a:Option Addr) (ca:Nat) (la:Option Addr) (w:World) (hG:GT w) (hM:MkrR w c a ca la) :
  Calls Tryz.prog 90 #[.agg #[.slice a c.length ca,.slice la c.length c.length,.func (.func 69) #[] #[],.nilFunc,.func (.func 70) #[] #[],.func (.func 71) #[] #[],.nilFunc,.nilFunc,.func (.func 72) #[] #[],.func (.func 73) #[] #[],.nilFunc,.nilFunc,.nilFunc,.nilFunc,.nilFunc,.nilFunc],.int .i64 p,.int .i64 q] w fun e w'=>e=.returned (.int .i64 (qAb c m))∧Below w.heap.size w w':=by
 obtain⟨W0,hW0⟩:∃W0,W0=w.alloc (.cells #[.slice a c.length ca,.slice la c.length c.length,.func (.func 69) #[] #[],.nilFunc,.func (.func 70) #[] #[],.func (.func 71) #[] #[],.nilFunc,.nilFunc,.func (.func 72) #[] #[],.func (.func 73) #[] #[],.nilFunc,.nilFunc,.nilFunc,.nilFunc,.nilFunc,.nilFunc] 85):=⟨_,rfl⟩
 obtain⟨hB0',hbx,hbz⟩:=qAu hW0
 have hM0:=hM.below hB0'
 have HB0:Hid (Below w.heap.size w W0):=hB0'
 have b0:W0.cell? ⟨w.heap.size,0,none⟩=some (.slice a c.length ca):=(cell_of_row _ _ 0 _ _ _ hbx).trans rfl
 have b1:W0.cell? ⟨w.heap.size,1,none⟩=some (.slice la c.length c.length):=(cell_of_row _ _ 1 _ _ _ hbx).trans rfl
 have b2:W0.cell? ⟨w.heap.size,2,none⟩=some (.func (.func 69) #[] #[]):=(cell_of_row _ _ 2 _ _ _ hbx).trans rfl
 have b3:W0.cell? ⟨w.heap.size,3,none⟩=some (.nilFunc):=(cell_of_row _ _ 3 _ _ _ hbx).trans rfl
 have b4:W0.cell? ⟨w.heap.size,4,none⟩=some (.func (.func 70) #[] #[]):=(cell_of_row _ _ 4 _ _ _ hbx).trans rfl
 have b5:W0.cell? ⟨w.heap.size,5,none⟩=some (.func (.func 71) #[] #[]):=(cell_of_row _ _ 5 _ _ _ hbx).trans rfl
 have b6:W0.cell? ⟨w.heap.size,6,none⟩=some (.nilFunc):=(cell_of_row _ _ 6 _ _ _ hbx).trans rfl
 have b7:W0.cell? ⟨w.heap.size,7,none⟩=some (.nilFunc):=(cell_of_row _ _ 7 _ _ _ hbx).trans rfl
 have b8:W0.cell? ⟨w.heap.size,8,none⟩=some (.func (.func 72) #[] #[]):=(cell_of_row _ _ 8 _ _ _ hbx).trans rfl
 have b9:W0.cell? ⟨w.heap.size,9,none⟩=some (.func (.func 73) #[] #[]):=(cell_of_row _ _ 9 _ _ _ hbx).trans rfl
 have b10:W0.cell? ⟨w.heap.size,10,none⟩=some (.nilFunc):=(cell_of_row _ _ 10 _ _ _ hbx).trans rfl
 have b11:W0.cell? ⟨w.heap.size,11,none⟩=some (.nilFunc):=(cell_of_row _ _ 11 _ _ _ hbx).trans rfl
 have b12:W0.cell? ⟨w.heap.size,12,none⟩=some (.nilFunc):=(cell_of_row _ _ 12 _ _ _ hbx).trans rfl
 have b13:W0.cell? ⟨w.heap.size,13,none⟩=some (.nilFunc):=(cell_of_row _ _ 13 _ _ _ hbx).trans rfl
 have b14:W0.cell? ⟨w.heap.size,14,none⟩=some (.nilFunc):=(cell_of_row _ _ 14 _ _ _ hbx).trans rfl
 have b15:W0.cell? ⟨w.heap.size,15,none⟩=some (.nilFunc):=(cell_of_row _ _ 15 _ _ _ hbx).trans rfl
 have hlen:c.length≤2000:=hC.len
 have HD:Hid (Calls Tryz.prog 104 #[.agg #[.slice a c.length ca],.int .i64 p,.int .i64 q,.int .i64 0] W0 fun e w'=>e=.returned (.tuple #[.int .i64 x,.int .i64 y,.int .i64 d,.int .i64 0])∧Hid (Below W0.heap.size W0 w')):=qUm c a ca p q 0 _ W0 (hG.below hB0') hM0.tab (by omega) ⟨by omega,by omega⟩ ⟨by omega,by omega⟩ ⟨by decide,by decide⟩ hd
 have HL:Hid (∀V,Below W0.heap.size W0 V→Calls Tryz.prog 105 #[.agg #[.slice a c.length ca,.slice la c.length c.length,.func (.func 69) #[] #[],.nilFunc,.func (.func 70) #[] #[],.func (.func 71) #[] #[],.nilFunc,.nilFunc,.func (.func 72) #[] #[],.func (.func 73) #[] #[],.nilFunc,.nilFunc,.nilFunc,.nilFunc,.nilFunc,.nilFunc],.agg #[.int .i8 12,.int .i8 2,.int .i64 x,.int .i64 y,.int .i64 0,.int .i64 0,.int .i64 0,.int .i64 d]] V fun e w'=>e=.returned (.int .i64 (qAb c m))∧Hid (Below V.heap.size V w')):=fun V hV=>qIf c hC (qAk 12 x y d) m hm a ca la V (hM0.below hV)
 have HC:Hid (∀V,Below W0.heap.size W0 V→V.cell? ⟨w.heap.size,0,none⟩=some (.slice a c.length ca)∧V.cell? ⟨w.heap.size,1,none⟩=some (.slice la c.length c.length)∧V.cell? ⟨w.heap.size,2,none⟩=some (.func (.func 69) #[] #[])∧V.cell? ⟨w.heap.size,3,none⟩=some (.nilFunc)∧V.cell? ⟨w.heap.size,4,none⟩=some (.func (.func 70) #[] #[])∧V.cell? ⟨w.heap.size,5,none⟩=some (.func (.func 71) #[] #[])∧V.cell? ⟨w.heap.size,6,none⟩=some (.nilFunc)∧V.cell? ⟨w.heap.size,7,none⟩=some (.nilFunc)∧V.cell? ⟨w.heap.size,8,none⟩=some (.func (.func 72) #[] #[])∧V.cell? ⟨w.heap.size,9,none⟩=some (.func (.func 73) #[] #[])∧V.cell? ⟨w.heap.size,10,none⟩=some (.nilFunc)∧V.cell? ⟨w.heap.size,11,none⟩=some (.nilFunc)∧V.cell? ⟨w.heap.size,12,none⟩=some (.nilFunc)∧V.cell? ⟨w.heap.size,13,none⟩=some (.nilFunc)∧V.cell? ⟨w.heap.size,14,none⟩=some (.nilFunc)∧V.cell? ⟨w.heap.size,15,none⟩=some (.nilFunc)∧w.heap.size<V.heap.size):=fun V hV=>by
  have e0:=(hV.block _ hbz).trans hbx
  exact⟨(cell_of_row _ _ 0 _ _ _ e0).trans rfl,(cell_of_row _ _ 1 _ _ _ e0).trans rfl,(cell_of_row _ _ 2 _ _ _ e0).trans rfl,(cell_of_row _ _ 3 _ _ _ e0).trans rfl,(cell_of_row _ _ 4 _ _ _ e0).trans rfl,(cell_of_row _ _ 5 _ _ _ e0).trans rfl,(cell_of_row _ _ 6 _ _ _ e0).trans rfl,(cell_of_row _ _ 7 _ _ _ e0).trans rfl,(cell_of_row _ _ 8 _ _ _ e0).trans rfl,(cell_of_row _ _ 9 _ _ _ e0).trans rfl,(cell_of_row _ _ 10 _ _ _ e0).trans rfl,(cell_of_row _ _ 11 _ _ _ e0).trans rfl,(cell_of_row _ _ 12 _ _ _ e0).trans rfl,(cell_of_row _ _ 13 _ _ _ e0).trans rfl,(cell_of_row _ _ 14 _ _ _ e0).trans rfl,(cell_of_row _ _ 15 _ _ _ e0).trans rfl,(Array.getElem?_eq_some_iff.1 e0).1⟩
 have hxi:¬(x:Int)=(y:Int):=by omega
 have e0:=qB7 hxi
 obtain⟨z,hz⟩:∃x,x=qAb c m:=⟨_,rfl⟩
 rw[←hz] at HL ⊢
 clear hM hM0 hC hG hd hm hbx hB0' hp hq hz
 have hA0:=hW0.symm
 clear hW0
 go_enter Tryz.func90,Tryz.ntmps90
 go_wp2_with (go_at_call 104;refine HD.out.mono ?_;rintro e w1 ⟨rfl,HB1⟩;obtain⟨c0,c1,c2,c3,c4,c5,c6,c7,c8,c9,c10,c11,c12,c13,c14,c15,hbz1⟩:=HC.out _ HB1.out)
 go_wp2_with (go_at_call 105;refine(HL.out _ HB1.out).mono ?_;rintro e w2 ⟨rfl,HB2⟩)
 go_ret
 exact⟨rfl,qA5 (HB0.out.trans (HB1.out.mono HB0.out.size)) HB2.out⟩
set_option maxHeartbeats 4000000 in
theorem qNt (c:List NodeA) (hC:Cl c) (k i:Nat) (hk:k<c.length) (hik:i<k) (m:Nat) (hm:c[m]? = some (qAk 6 i k 0)) (a:Option Addr) (ca:Nat) (la:Option Addr) (w:World) (hM:MkrR w c a ca la) :
  Calls Tryz.prog 91 #[.agg #[.slice a c.length ca,.slice la c.length c.length,.func (.func 69) #[] #[],.nilFunc,.func (.func 70) #[] #[],.func (.func 71) #[] #[],.nilFunc,.nilFunc,.func (.func 72) #[] #[],.func (.func 73) #[] #[],.nilFunc,.nilFunc,.nilFunc,.nilFunc,.nilFunc,.nilFunc],.int .i64 k,.int .i64 i] w fun e w'=>e=.returned (.int .i64 (qAb c m))∧Below w.heap.size w w':=by
 obtain⟨W0,hW0⟩:∃W0,W0=w.alloc (.cells #[.slice a c.length ca,.slice la c.length c.length,.func (.func 69) #[] #[],.nilFunc,.func (.func 70) #[] #[],.func (.func 71) #[] #[],.nilFunc,.nilFunc,.func (.func 72) #[] #[],.func (.func 73) #[] #[],.nilFunc,.nilFunc,.nilFunc,.nilFunc,.nilFunc,.nilFunc] 85):=⟨_,rfl⟩
 obtain⟨hB0',hbx,hbz⟩:=qAu hW0
 have hM0:=hM.below hB0'
 have HB0:Hid (Below w.heap.size w W0):=hB0'
 have b0:W0.cell? ⟨w.heap.size,0,none⟩=some (.slice a c.length ca):=(cell_of_row _ _ 0 _ _ _ hbx).trans rfl
 have b1:W0.cell? ⟨w.heap.size,1,none⟩=some (.slice la c.length c.length):=(cell_of_row _ _ 1 _ _ _ hbx).trans rfl
 have b2:W0.cell? ⟨w.heap.size,2,none⟩=some (.func (.func 69) #[] #[]):=(cell_of_row _ _ 2 _ _ _ hbx).trans rfl
 have b3:W0.cell? ⟨w.heap.size,3,none⟩=some (.nilFunc):=(cell_of_row _ _ 3 _ _ _ hbx).trans rfl
 have b4:W0.cell? ⟨w.heap.size,4,none⟩=some (.func (.func 70) #[] #[]):=(cell_of_row _ _ 4 _ _ _ hbx).trans rfl
 have b5:W0.cell? ⟨w.heap.size,5,none⟩=some (.func (.func 71) #[] #[]):=(cell_of_row _ _ 5 _ _ _ hbx).trans rfl
 have b6:W0.cell? ⟨w.heap.size,6,none⟩=some (.nilFunc):=(cell_of_row _ _ 6 _ _ _ hbx).trans rfl
 have b7:W0.cell? ⟨w.heap.size,7,none⟩=some (.nilFunc):=(cell_of_row _ _ 7 _ _ _ hbx).trans rfl
 have b8:W0.cell? ⟨w.heap.size,8,none⟩=some (.func (.func 72) #[] #[]):=(cell_of_row _ _ 8 _ _ _ hbx).trans rfl
 have b9:W0.cell? ⟨w.heap.size,9,none⟩=some (.func (.func 73) #[] #[]):=(cell_of_row _ _ 9 _ _ _ hbx).trans rfl
 have b10:W0.cell? ⟨w.heap.size,10,none⟩=some (.nilFunc):=(cell_of_row _ _ 10 _ _ _ hbx).trans rfl
 have b11:W0.cell? ⟨w.heap.size,11,none⟩=some (.nilFunc):=(cell_of_row _ _ 11 _ _ _ hbx).trans rfl
 have b12:W0.cell? ⟨w.heap.size,12,none⟩=some (.nilFunc):=(cell_of_row _ _ 12 _ _ _ hbx).trans rfl
 have b13:W0.cell? ⟨w.heap.size,13,none⟩=some (.nilFunc):=(cell_of_row _ _ 13 _ _ _ hbx).trans rfl
 have b14:W0.cell? ⟨w.heap.size,14,none⟩=some (.nilFunc):=(cell_of_row _ _ 14 _ _ _ hbx).trans rfl
 have b15:W0.cell? ⟨w.heap.size,15,none⟩=some (.nilFunc):=(cell_of_row _ _ 15 _ _ _ hbx).trans rfl
 have hlen:c.length≤2000:=hC.len
 have HL:Hid (∀V,Below W0.heap.size W0 V→Calls Tryz.prog 105 #[.agg #[.slice a c.length ca,.slice la c.length c.length,.func (.func 69) #[] #[],.nilFunc,.func (.func 70) #[] #[],.func (.func 71) #[] #[],.nilFunc,.nilFunc,.func (.func 72) #[] #[],.func (.func 73) #[] #[],.nilFunc,.nilFunc,.nilFunc,.nilFunc,.nilFunc,.nilFunc],.agg #[.int .i8 6,.int .i8 2,.int .i64 i,.int .i64 k,.int .i64 0,.int .i64 0,.int .i64 0,.int .i64 0]] V fun e w'=>e=.returned (.int .i64 (qAb c m))∧Hid (Below V.heap.size V w')):=fun V hV=>qIf c hC (qAk 6 i k 0) m hm a ca la V (hM0.below hV)
 have hmn:min (k:Int) (i:Int)=i:=by omega
 have hmx:max (k:Int) (i:Int)=k:=by omega
 obtain⟨z,hz⟩:∃x,x=qAb c m:=⟨_,rfl⟩
 rw[←hz] at HL ⊢
 clear hM hM0 hC hm hbx hB0' hz
 have hA0:=hW0.symm
 clear hW0
 go_enter Tryz.func91,Tryz.ntmps91
 go_wp2_with (go_at_call 105;refine(HL.out _ (Below.refl _ _)).mono ?_;rintro e w2 ⟨rfl,HB2⟩)
 go_ret
 exact⟨rfl,qA5 HB0.out HB2.out⟩
end Go.Proofs.YtfgpimhdjlmapaaGreatDoor.Tm
