/- What a maker tells of a node. -/
import Derived.Deep.LoopGhost
import Derived.Deep.RegionHeldLaw
import Derived.Laws.Bits128
import Derived.Test.YtfgpimhdjlmapaaGreatDoorShf
import Derived.Test.YtfgpimhdjlmapaaGreatDoorShH
import Derived.Laws.CopyOwn
import Derived.Laws.EntriesVeiled
import Derived.ScopeJumps
import Derived.WalkMore
import Derived.Test.YtfgpimhdjlmapaaGreatDoorHdN
import Derived.Test.YtfgpimhdjlmapaaGreatDoorShC
namespace Go.Proofs.YtfgpimhdjlmapaaGreatDoor.Tm
open Go.RowKit
set_option linter.unusedVariables false
set_option maxRecDepth 100000
def qZj (w:World) (g o gl ol len ca:Nat) (V:World):Prop:=V.heap[w.heap.size]? = some (.cells #[.slice (some ⟨g,o,none⟩) len ca,.slice (some ⟨gl,ol,none⟩) len len,.func (.func 69) #[] #[],.nilFunc,.func (.func 70) #[] #[],.func (.func 71) #[] #[],.nilFunc,.nilFunc,.func (.func 72) #[] #[],.func (.func 73) #[] #[],.nilFunc,.nilFunc,.nilFunc,.nilFunc,.nilFunc,.nilFunc] 85 (0,0))
set_option maxHeartbeats 4000000 in
theorem zB4 {V:World} {b g o gl ol len ca:Nat} (h:V.cell? ⟨b,0,none⟩=some (.slice (some ⟨g,o,none⟩) len ca)∧V.cell? ⟨b,1,none⟩=some (.slice (some ⟨gl,ol,none⟩) len len)∧V.cell? ⟨b,2,none⟩=some (.func (.func 69) #[] #[])∧V.cell? ⟨b,3,none⟩=some (.nilFunc)∧V.cell? ⟨b,4,none⟩=some (.func (.func 70) #[] #[])∧V.cell? ⟨b,5,none⟩=some (.func (.func 71) #[] #[])∧V.cell? ⟨b,6,none⟩=some (.nilFunc)∧V.cell? ⟨b,7,none⟩=some (.nilFunc)∧V.cell? ⟨b,8,none⟩=some (.func (.func 72) #[] #[])∧V.cell? ⟨b,9,none⟩=some (.func (.func 73) #[] #[])∧V.cell? ⟨b,10,none⟩=some (.nilFunc)∧V.cell? ⟨b,11,none⟩=some (.nilFunc)∧V.cell? ⟨b,12,none⟩=some (.nilFunc)∧V.cell? ⟨b,13,none⟩=some (.nilFunc)∧V.cell? ⟨b,14,none⟩=some (.nilFunc)∧V.cell? ⟨b,15,none⟩=some (.nilFunc)∧b<V.heap.size) (ev:Operand→Value) (he:ev (.tmp 2)=.pointer (some ⟨b,0,none⟩)) (d:Option Tmp) (ty:TypeId) (pos:String) (aft:_) (gd:_):(execOp ev ⟨d,.load 85 (.tmp 2),ty,pos,aft,gd⟩).run Tryz.prog V=.ok (.value (.agg #[.slice (some ⟨g,o,none⟩) len ca,.slice (some ⟨gl,ol,none⟩) len len,.func (.func 69) #[] #[],.nilFunc,.func (.func 70) #[] #[],.func (.func 71) #[] #[],.nilFunc,.nilFunc,.func (.func 72) #[] #[],.func (.func 73) #[] #[],.nilFunc,.nilFunc,.nilFunc,.nilFunc,.nilFunc,.nilFunc])) V:=by
 go_simp
theorem qOt {w V:World} {g o gl ol len ca:Nat} (h:qZj w g o gl ol len ca V) (ev:Operand→Value) (he:ev (.tmp 2)=.pointer (some ⟨w.heap.size,0,none⟩)) (d:Option Tmp) (ty:TypeId) (pos:String) (aft:_) (gd:_):(execOp ev ⟨d,.load 85 (.tmp 2),ty,pos,aft,gd⟩).run Tryz.prog V=.ok (.value (.agg #[.slice (some ⟨g,o,none⟩) len ca,.slice (some ⟨gl,ol,none⟩) len len,.func (.func 69) #[] #[],.nilFunc,.func (.func 70) #[] #[],.func (.func 71) #[] #[],.nilFunc,.nilFunc,.func (.func 72) #[] #[],.func (.func 73) #[] #[],.nilFunc,.nilFunc,.nilFunc,.nilFunc,.nilFunc,.nilFunc])) V:=by
 have e0:=h
 unfold qZj at e0
 exact zB4 ⟨(cell_of_row _ _ 0 _ _ _ e0).trans rfl,(cell_of_row _ _ 1 _ _ _ e0).trans rfl,(cell_of_row _ _ 2 _ _ _ e0).trans rfl,(cell_of_row _ _ 3 _ _ _ e0).trans rfl,(cell_of_row _ _ 4 _ _ _ e0).trans rfl,(cell_of_row _ _ 5 _ _ _ e0).trans rfl,(cell_of_row _ _ 6 _ _ _ e0).trans rfl,(cell_of_row _ _ 7 _ _ _ e0).trans rfl,(cell_of_row _ _ 8 _ _ _ e0).trans rfl,(cell_of_row _ _ 9 _ _ _ e0).trans rfl,(cell_of_row _ _ 10 _ _ _ e0).trans rfl,(cell_of_row _ _ 11 _ _ _ e0).trans rfl,(cell_of_row _ _ 12 _ _ _ e0).trans rfl,(cell_of_row _ _ 13 _ _ _ e0).trans rfl,(cell_of_row _ _ 14 _ _ _ e0).trans rfl,(cell_of_row _ _ 15 _ _ _ e0).trans rfl,(Array.getElem?_eq_some_iff.1 e0).1⟩ ev he d ty pos aft gd
set_option maxHeartbeats 16000000 in
theorem qU9 (c:List NodeA) (hC:Cl c) (a:Option Addr) (ca:Nat) (la:Option Addr) (k:Nat) (n:NodeA) (w:World) (hG:GT w) (hM:MkrR w c a ca la) (hn:c[k]? = some n) (ho:n.op=7) (i j l:Nat) (hi:n.a0=i) (hj:n.a1=j) (hl:n.a2=l) (hic:i<c.length) (hjk:j<k) (hlk:l<k) (hs:n.sort=0) :
  Calls Tryz.prog 73 #[.agg #[.slice a c.length ca,.slice la c.length c.length,.func (.func 69) #[] #[],.nilFunc,.func (.func 70) #[] #[],.func (.func 71) #[] #[],.nilFunc,.nilFunc,.func (.func 72) #[] #[],.func (.func 73) #[] #[],.nilFunc,.nilFunc,.nilFunc,.nilFunc,.nilFunc,.nilFunc],.int .i64 k] w fun e w'=>∃v,e=.returned v∧Hid (qAm w' v [clM [ngL (qAb c k),ngL (qAb c i),(qAb c j)],clM [ngL (qAb c k),(qAb c i),(qAb c l)],clM [(qAb c k),ngL (qAb c i),ngL (qAb c j)],clM [(qAb c k),(qAb c i),ngL (qAb c l)]])∧Hid (Below w.heap.size w w'):=by
 have hkc:k<c.length:=(List.getElem?_eq_some_iff.1 hn).1
 have hjc:j<c.length:=by omega
 have hlc:l<c.length:=by omega
 have hlen:c.length≤2000:=hC.len
 obtain⟨W0,hW0⟩:∃W0,W0=w.alloc (.cells #[.slice a c.length ca,.slice la c.length c.length,.func (.func 69) #[] #[],.nilFunc,.func (.func 70) #[] #[],.func (.func 71) #[] #[],.nilFunc,.nilFunc,.func (.func 72) #[] #[],.func (.func 73) #[] #[],.nilFunc,.nilFunc,.nilFunc,.nilFunc,.nilFunc,.nilFunc] 85):=⟨_,rfl⟩
 obtain⟨hB0',hbx,hbz⟩:=qAu hW0
 have hM0:=hM.below hB0'
 have hG0:=hG.below hB0'
 have HB0:Hid (Below w.heap.size w W0):=hB0'
 obtain⟨g,o,rfl,hg,q0,q1,q2,q3,q4,q5,q6,q7⟩:=hM0.tab.node hn
 obtain⟨gl,ol,rfl,hgl,r0⟩:=hM0.lit hkc
 have b0:W0.cell? ⟨w.heap.size,0,none⟩=some (.slice (some ⟨g,o,none⟩) c.length ca):=(cell_of_row _ _ 0 _ _ _ hbx).trans rfl
 have b1:W0.cell? ⟨w.heap.size,1,none⟩=some (.slice (some ⟨gl,ol,none⟩) c.length c.length):=(cell_of_row _ _ 1 _ _ _ hbx).trans rfl
 have hki:(k:Int)<(c.length:Int):=by omega
 have hk0:(0:Int)≤(k:Int):=by omega
 have r1:=hM0.lit0 hic
 have r2:=hM0.lit0 hjc
 have r3:=hM0.lit0 hlc
 rw[hi] at q2
 rw[hj] at q3
 rw[hl] at q4
 have hii:(i:Int)<(c.length:Int):=by omega
 have hi0:(0:Int)≤(i:Int):=by omega
 have hji:(j:Int)<(c.length:Int):=by omega
 have hj0:(0:Int)≤(j:Int):=by omega
 have hli:(l:Int)<(c.length:Int):=by omega
 have hl0:(0:Int)≤(l:Int):=by omega
 rw[hs] at q5
 obtain⟨xt,hxt⟩:∃t,t=qAb c k:=⟨_,rfl⟩
 obtain⟨xc,hxc⟩:∃t,t=qAb c i:=⟨_,rfl⟩
 obtain⟨xa,hxa⟩:∃t,t=qAb c j:=⟨_,rfl⟩
 obtain⟨xb,hxb⟩:∃t,t=qAb c l:=⟨_,rfl⟩
 have it:=qAp hC hkc
 have ic:=qAp hC hic
 have ia:=qAp hC hjc
 have ib:=qAp hC hlc
 rw[←hxt] at r0 it ⊢
 rw[←hxc] at r1 ic ⊢
 rw[←hxa] at r2 ia ⊢
 rw[←hxb] at r3 ib ⊢
 have HCh:Hid (∀V,Calls Tryz.prog 89 #[.int .i64 xt,.int .i64 xc,.int .i64 xa,.int .i64 xb] V fun e w'=>∃v,e=.returned v∧Hid (qAm w' v [clM [ngL xt,ngL xc,xa],clM [ngL xt,xc,xb],clM [xt,ngL xc,ngL xa],clM [xt,xc,ngL xb]])∧Hid (Below V.heap.size V w')):=fun V=>qOs xt xc xa xb it ic ia ib V
 have HS:Hid (∀V,Below W0.heap.size W0 V→((fun V:World=>V.cell? ⟨w.heap.size,1,none⟩=some (.slice (some ⟨gl,ol,none⟩) c.length c.length)∧V.cell? ⟨gl,ol+k,none⟩=some (.int .i64 xt)∧V.cell? ⟨gl,ol+j,none⟩=some (.int .i64 xa)∧V.cell? ⟨gl,ol+l,none⟩=some (.int .i64 xb)∧w.heap.size<V.heap.size∧gl<V.heap.size)) V):=fun V hV=>by
  have e0:=(hV.block _ hbz).trans hbx
  exact⟨(cell_of_row _ _ 1 _ _ _ e0).trans rfl,(hV.cell (p:=⟨gl,ol+k,none⟩) hgl).trans r0,(hV.cell (p:=⟨gl,ol+j,none⟩) hgl).trans r2,(hV.cell (p:=⟨gl,ol+l,none⟩) hgl).trans r3,(Array.getElem?_eq_some_iff.1 e0).1,Nat.lt_of_lt_of_le hgl hV.size⟩
 clear hbx hn hM hM0 hG hG0 hC hB0' hxt hxc hxa hxb it ic ia ib ho hs
 have hA0:=hW0.symm
 clear hW0
 go_enter Tryz.func73,Tryz.ntmps73
 go_wp2
 go_quiet (fail)
 go_wp2
 obtain⟨V0,hV0⟩:∃V0,V0=(W0.alloc (.cells #[.int .i8 n.op,.int .i8 n.len,.int .i64 i,.int .i64 j,.int .i64 l,.int .i64 0,.int .i64 n.fn,.int .i64 n.num] 54)).drewN nq:=⟨_,rfl⟩
 have HV0:Hid (Below W0.heap.size W0 V0):=by rw[hV0];exact qA1 ((Below.refl _ W0).alloc (Nat.le_refl _) _)
 rw[←hV0]
 clear hV0 hA0 q0 q1 q2 q3 q4 q5 q6 q7 b0 b1 r0 r1 r2 r3
 refine wp_region_held_drew (S:=(fun V:World=>V.cell? ⟨w.heap.size,1,none⟩=some (.slice (some ⟨gl,ol,none⟩) c.length c.length)∧V.cell? ⟨gl,ol+k,none⟩=some (.int .i64 xt)∧V.cell? ⟨gl,ol+j,none⟩=some (.int .i64 xa)∧V.cell? ⟨gl,ol+l,none⟩=some (.int .i64 xb)∧w.heap.size<V.heap.size∧gl<V.heap.size)) (by kernel_rfl) (HS.out _ HV0.out.drew) (fun hHeld=>?_)
 refine tkY 0 (.pointer (some ⟨w.heap.size,1,none⟩)) ?_;try simp only[k4]
 refine tkY 1 (.slice (some ⟨gl,ol,none⟩) c.length c.length) ?_;try simp only[k4]
 refine tkY 2 (.int .i64 k) ?_;try simp only[k4]
 refine tkY 3 (.pointer (some ⟨gl,ol+k,none⟩)) ?_;try simp only[k4]
 refine tkY 4 (.int .i64 xt) ?_;try simp only[k4]
 refine tkY 5 (.int .i64 xc) ?_;try simp only[k4]
 refine tkY 6 (.pointer (some ⟨w.heap.size,1,none⟩)) ?_;try simp only[k4]
 refine tkY 7 (.slice (some ⟨gl,ol,none⟩) c.length c.length) ?_;try simp only[k4]
 refine tkY 8 (.int .i64 j) ?_;try simp only[k4]
 refine tkY 9 (.pointer (some ⟨gl,ol+j,none⟩)) ?_;try simp only[k4]
 refine tkY 10 (.int .i64 xa) ?_;try simp only[k4]
 refine tkY 11 (.pointer (some ⟨w.heap.size,1,none⟩)) ?_;try simp only[k4]
 refine tkY 12 (.slice (some ⟨gl,ol,none⟩) c.length c.length) ?_;try simp only[k4]
 refine tkY 13 (.int .i64 l) ?_;try simp only[k4]
 refine tkY 14 (.pointer (some ⟨gl,ol+l,none⟩)) ?_;try simp only[k4]
 refine tkY 15 (.int .i64 xb) ?_;try simp only[k4]
 refine tkC 16 ?_
 intro K hK
 go_simp
 go_at_call 89
 refine(HCh.out _).mono ?_
 rintro e u1 ⟨v1,rfl,HR1,HB1⟩
 obtain⟨rs1,ra1,rc1,rfl,_⟩:=HR1.out
 go_wp2_with fail
 refine hK.out _ _ (HS.out _ (qA5 HV0.out.drew HB1.out)) (fun hHeld=>?_)
 clear hK K;try simp only[k4]
 refine tkY 17 (.slice ra1 rs1.length rc1) ?_;try simp only[k4]
 refine wpAnyH_done (by kernel_rfl) ?_ _
 go_wp2
 go_ret
 exact⟨_,rfl,HR1,HB0.out.trans ((qA5 HV0.out.drew HB1.out).mono HB0.out.size)⟩
set_option maxHeartbeats 16000000 in
theorem qUa (c:List NodeA) (hC:Cl c) (a:Option Addr) (ca:Nat) (la:Option Addr) (k:Nat) (n:NodeA) (w:World) (hG:GT w) (hM:MkrR w c a ca la) (hn:c[k]? = some n) (ho:n.op=7) (i j l:Nat) (hi:n.a0=i) (hj:n.a1=j) (hl:n.a2=l) (hic:i<c.length) (hjk:j<k) (hlk:l<k) (hs:n.sort=1) (hma:qAk 12 (k:Nat) (qA0 c j).1 (qA0 c j).2∈c) (hmb:qAk 12 (qA0 c j).1 (k:Nat) (-(qA0 c j).2)∈c) (hmc:qAk 12 (k:Nat) (qA0 c l).1 (qA0 c l).2∈c) (hmd:qAk 12 (qA0 c l).1 (k:Nat) (-(qA0 c l).2)∈c) :
  Calls Tryz.prog 73 #[.agg #[.slice a c.length ca,.slice la c.length c.length,.func (.func 69) #[] #[],.nilFunc,.func (.func 70) #[] #[],.func (.func 71) #[] #[],.nilFunc,.nilFunc,.func (.func 72) #[] #[],.func (.func 73) #[] #[],.nilFunc,.nilFunc,.nilFunc,.nilFunc,.nilFunc,.nilFunc],.int .i64 k] w fun e w'=>∃v,e=.returned v∧Hid (qAm w' v [clM [ngL (qAb c i),qAb c (qD2 c (qAk 12 (k:Nat) (qA0 c j).1 (qA0 c j).2))],clM [ngL (qAb c i),qAb c (qD2 c (qAk 12 (qA0 c j).1 (k:Nat) (-(qA0 c j).2)))],clM [qAb c i,qAb c (qD2 c (qAk 12 (k:Nat) (qA0 c l).1 (qA0 c l).2))],clM [qAb c i,qAb c (qD2 c (qAk 12 (qA0 c l).1 (k:Nat) (-(qA0 c l).2)))]])∧Hid (Below w.heap.size w w'):=by
 have hkc:k<c.length:=(List.getElem?_eq_some_iff.1 hn).1
 have hjc:j<c.length:=by omega
 have hlc:l<c.length:=by omega
 have hlen:c.length≤2000:=hC.len
 obtain⟨W0,hW0⟩:∃W0,W0=w.alloc (.cells #[.slice a c.length ca,.slice la c.length c.length,.func (.func 69) #[] #[],.nilFunc,.func (.func 70) #[] #[],.func (.func 71) #[] #[],.nilFunc,.nilFunc,.func (.func 72) #[] #[],.func (.func 73) #[] #[],.nilFunc,.nilFunc,.nilFunc,.nilFunc,.nilFunc,.nilFunc] 85):=⟨_,rfl⟩
 obtain⟨hB0',hbx,hbz⟩:=qAu hW0
 have hM0:=hM.below hB0'
 have hG0:=hG.below hB0'
 have HB0:Hid (Below w.heap.size w W0):=hB0'
 obtain⟨g,o,rfl,hg,q0,q1,q2,q3,q4,q5,q6,q7⟩:=hM0.tab.node hn
 obtain⟨gl,ol,rfl,hgl,r0⟩:=hM0.lit hkc
 have b0:W0.cell? ⟨w.heap.size,0,none⟩=some (.slice (some ⟨g,o,none⟩) c.length ca):=(cell_of_row _ _ 0 _ _ _ hbx).trans rfl
 have b1:W0.cell? ⟨w.heap.size,1,none⟩=some (.slice (some ⟨gl,ol,none⟩) c.length c.length):=(cell_of_row _ _ 1 _ _ _ hbx).trans rfl
 have hki:(k:Int)<(c.length:Int):=by omega
 have hk0:(0:Int)≤(k:Int):=by omega
 have r1:=hM0.lit0 hic
 have r2:=hM0.lit0 hjc
 have r3:=hM0.lit0 hlc
 rw[hi] at q2
 rw[hj] at q3
 rw[hl] at q4
 have hii:(i:Int)<(c.length:Int):=by omega
 have hi0:(0:Int)≤(i:Int):=by omega
 have hji:(j:Int)<(c.length:Int):=by omega
 have hj0:(0:Int)≤(j:Int):=by omega
 have hli:(l:Int)<(c.length:Int):=by omega
 have hl0:(0:Int)≤(l:Int):=by omega
 rw[hs] at q5
 obtain⟨zj,hjz⟩:∃z,c[j]? = some z:=⟨_,List.getElem?_eq_getElem hjc⟩
 obtain⟨zl,hlz⟩:∃z,c[l]? = some z:=⟨_,List.getElem?_eq_getElem hlc⟩
 have hw:=(hC.ws n (List.mem_of_getElem? hn)).s7 ho
 have hjs:zj.sort=1:=by have:=hw.2.1;unfold srt at this;rw[hj,qBf hjz] at this;omega
 have hls:zl.sort=1:=by have:=hw.2.2;unfold srt at this;rw[hl,qBf hlz] at this;omega
 have Hma:Hid (∀V,Below W0.heap.size W0 V→Calls Tryz.prog 90 #[.agg #[.slice (some ⟨g,o,none⟩) c.length ca,.slice (some ⟨gl,ol,none⟩) c.length c.length,.func (.func 69) #[] #[],.nilFunc,.func (.func 70) #[] #[],.func (.func 71) #[] #[],.nilFunc,.nilFunc,.func (.func 72) #[] #[],.func (.func 73) #[] #[],.nilFunc,.nilFunc,.nilFunc,.nilFunc,.nilFunc,.nilFunc],.int .i64 k,.int .i64 j] V fun e w'=>e=.returned (.int .i64 (qAb c (qD2 c (qAk 12 (k:Nat) (qA0 c j).1 (qA0 c j).2))))∧Hid (Below V.heap.size V w')):=fun V hV=>by
  obtain⟨s1,_,_⟩:=qCu hC hjz
  have hd:=(qKh hC hn hs ho hjz hjs).1
  have hne:=((hC.qo _ hma).2 rfl).1
  have hg:=qBk hma
  simp only[qAk] at hne
  rw[←s1] at hd hg hne ⊢
  exact qF8 c hC k j (by omega) (by omega) k (qC3 c j).1 _ hd (by omega) _ hg _ ca _ V (hG0.below hV) (hM0.below hV)
 have Hmb:Hid (∀V,Below W0.heap.size W0 V→Calls Tryz.prog 90 #[.agg #[.slice (some ⟨g,o,none⟩) c.length ca,.slice (some ⟨gl,ol,none⟩) c.length c.length,.func (.func 69) #[] #[],.nilFunc,.func (.func 70) #[] #[],.func (.func 71) #[] #[],.nilFunc,.nilFunc,.func (.func 72) #[] #[],.func (.func 73) #[] #[],.nilFunc,.nilFunc,.nilFunc,.nilFunc,.nilFunc,.nilFunc],.int .i64 j,.int .i64 k] V fun e w'=>e=.returned (.int .i64 (qAb c (qD2 c (qAk 12 (qA0 c j).1 (k:Nat) (-(qA0 c j).2)))))∧Hid (Below V.heap.size V w')):=fun V hV=>by
  obtain⟨s1,_,_⟩:=qCu hC hjz
  have hd:=(qKh hC hn hs ho hjz hjs).2
  have hne:=((hC.qo _ hmb).2 rfl).1
  have hg:=qBk hmb
  simp only[qAk] at hne
  rw[←s1] at hd hg hne ⊢
  exact qF8 c hC j k (by omega) (by omega) (qC3 c j).1 k _ hd (by omega) _ hg _ ca _ V (hG0.below hV) (hM0.below hV)
 have Hmc:Hid (∀V,Below W0.heap.size W0 V→Calls Tryz.prog 90 #[.agg #[.slice (some ⟨g,o,none⟩) c.length ca,.slice (some ⟨gl,ol,none⟩) c.length c.length,.func (.func 69) #[] #[],.nilFunc,.func (.func 70) #[] #[],.func (.func 71) #[] #[],.nilFunc,.nilFunc,.func (.func 72) #[] #[],.func (.func 73) #[] #[],.nilFunc,.nilFunc,.nilFunc,.nilFunc,.nilFunc,.nilFunc],.int .i64 k,.int .i64 l] V fun e w'=>e=.returned (.int .i64 (qAb c (qD2 c (qAk 12 (k:Nat) (qA0 c l).1 (qA0 c l).2))))∧Hid (Below V.heap.size V w')):=fun V hV=>by
  obtain⟨s1,_,_⟩:=qCu hC hlz
  have hd:=(qKh hC hn hs ho hlz hls).1
  have hne:=((hC.qo _ hmc).2 rfl).1
  have hg:=qBk hmc
  simp only[qAk] at hne
  rw[←s1] at hd hg hne ⊢
  exact qF8 c hC k l (by omega) (by omega) k (qC3 c l).1 _ hd (by omega) _ hg _ ca _ V (hG0.below hV) (hM0.below hV)
 have Hmd:Hid (∀V,Below W0.heap.size W0 V→Calls Tryz.prog 90 #[.agg #[.slice (some ⟨g,o,none⟩) c.length ca,.slice (some ⟨gl,ol,none⟩) c.length c.length,.func (.func 69) #[] #[],.nilFunc,.func (.func 70) #[] #[],.func (.func 71) #[] #[],.nilFunc,.nilFunc,.func (.func 72) #[] #[],.func (.func 73) #[] #[],.nilFunc,.nilFunc,.nilFunc,.nilFunc,.nilFunc,.nilFunc],.int .i64 l,.int .i64 k] V fun e w'=>e=.returned (.int .i64 (qAb c (qD2 c (qAk 12 (qA0 c l).1 (k:Nat) (-(qA0 c l).2)))))∧Hid (Below V.heap.size V w')):=fun V hV=>by
  obtain⟨s1,_,_⟩:=qCu hC hlz
  have hd:=(qKh hC hn hs ho hlz hls).2
  have hne:=((hC.qo _ hmd).2 rfl).1
  have hg:=qBk hmd
  simp only[qAk] at hne
  rw[←s1] at hd hg hne ⊢
  exact qF8 c hC l k (by omega) (by omega) (qC3 c l).1 k _ hd (by omega) _ hg _ ca _ V (hG0.below hV) (hM0.below hV)
 have HS:Hid (∀V,Below W0.heap.size W0 V→((qZj w g o gl ol c.length ca)) V):=fun V hV=>by
  have e0:=(hV.block _ hbz).trans hbx
  exact e0
 obtain⟨ci,hci_⟩:∃t,t=qAb c i:=⟨_,rfl⟩
 have hci:=Lib.hid (qAp hC hic)
 rw[←hci_] at r1 hci ⊢
 obtain⟨ma,hma_⟩:∃t,t=qAb c (qD2 c (qAk 12 (k:Nat) (qA0 c j).1 (qA0 c j).2)):=⟨_,rfl⟩
 have hmma:=Lib.hid (qAp hC (k:=qD2 c (qAk 12 (k:Nat) (qA0 c j).1 (qA0 c j).2)) (qCn.1 hma))
 rw[←hma_] at hmma Hma ⊢
 obtain⟨mb,hmb_⟩:∃t,t=qAb c (qD2 c (qAk 12 (qA0 c j).1 (k:Nat) (-(qA0 c j).2))):=⟨_,rfl⟩
 have hmmb:=Lib.hid (qAp hC (k:=qD2 c (qAk 12 (qA0 c j).1 (k:Nat) (-(qA0 c j).2))) (qCn.1 hmb))
 rw[←hmb_] at hmmb Hmb ⊢
 obtain⟨mc,hmc_⟩:∃t,t=qAb c (qD2 c (qAk 12 (k:Nat) (qA0 c l).1 (qA0 c l).2)):=⟨_,rfl⟩
 have hmmc:=Lib.hid (qAp hC (k:=qD2 c (qAk 12 (k:Nat) (qA0 c l).1 (qA0 c l).2)) (qCn.1 hmc))
 rw[←hmc_] at hmmc Hmc ⊢
 obtain⟨md,hmd_⟩:∃t,t=qAb c (qD2 c (qAk 12 (qA0 c l).1 (k:Nat) (-(qA0 c l).2))):=⟨_,rfl⟩
 have hmmd:=Lib.hid (qAp hC (k:=qD2 c (qAk 12 (qA0 c l).1 (k:Nat) (-(qA0 c l).2))) (qCn.1 hmd))
 rw[←hmd_] at hmmd Hmd ⊢
 clear hbx hn hM hM0 hG hG0 hC hB0' ho hs hci_ hma_ hma hmb_ hmb hmc_ hmc hmd_ hmd r0 r2 r3
 have hA0:=hW0.symm
 clear hW0
 go_enter Tryz.func73,Tryz.ntmps73
 go_wp2
 go_quiet (fail)
 go_wp2
 obtain⟨V0,hV0⟩:∃V0,V0=(W0.alloc (.cells #[.int .i8 n.op,.int .i8 n.len,.int .i64 i,.int .i64 j,.int .i64 l,.int .i64 1,.int .i64 n.fn,.int .i64 n.num] 54)).drewN nq:=⟨_,rfl⟩
 have HV0:Hid (Below W0.heap.size W0 V0):=by rw[hV0];exact qA1 ((Below.refl _ W0).alloc (Nat.le_refl _) _)
 rw[←hV0]
 clear hV0 hA0 q0 q1 q2 q3 q4 q5 q6 q7 b0 b1 r1
 refine wp_region_held_drew (S:=(qZj w g o gl ol c.length ca)) (by kernel_rfl) (HS.out _ HV0.out.drew) (fun hHeld=>?_)
 refine tkY 0 (.int .i64 ci) ?_;try simp only[k4]
 refine tkY 2 (.agg #[.slice (some ⟨g,o,none⟩) c.length ca,.slice (some ⟨gl,ol,none⟩) c.length c.length,.func (.func 69) #[] #[],.nilFunc,.func (.func 70) #[] #[],.func (.func 71) #[] #[],.nilFunc,.nilFunc,.func (.func 72) #[] #[],.func (.func 73) #[] #[],.nilFunc,.nilFunc,.nilFunc,.nilFunc,.nilFunc,.nilFunc]) ?_ (hv:=fun V hSw=>qOt hSw _ rfl _ _ _ _ _);try simp only[k4]
 refine tkY 3 (.int .i64 k) ?_;try simp only[k4]
 refine tkY 4 (.int .i64 j) ?_;try simp only[k4]
 refine tkY 8 (.int .i64 ci) ?_;try simp only[k4]
 refine tkY 10 (.agg #[.slice (some ⟨g,o,none⟩) c.length ca,.slice (some ⟨gl,ol,none⟩) c.length c.length,.func (.func 69) #[] #[],.nilFunc,.func (.func 70) #[] #[],.func (.func 71) #[] #[],.nilFunc,.nilFunc,.func (.func 72) #[] #[],.func (.func 73) #[] #[],.nilFunc,.nilFunc,.nilFunc,.nilFunc,.nilFunc,.nilFunc]) ?_ (hv:=fun V hSw=>qOt hSw _ rfl _ _ _ _ _);try simp only[k4]
 refine tkY 11 (.int .i64 j) ?_;try simp only[k4]
 refine tkY 12 (.int .i64 k) ?_;try simp only[k4]
 refine tkY 16 (.int .i64 ci) ?_;try simp only[k4]
 refine tkY 17 (.agg #[.slice (some ⟨g,o,none⟩) c.length ca,.slice (some ⟨gl,ol,none⟩) c.length c.length,.func (.func 69) #[] #[],.nilFunc,.func (.func 70) #[] #[],.func (.func 71) #[] #[],.nilFunc,.nilFunc,.func (.func 72) #[] #[],.func (.func 73) #[] #[],.nilFunc,.nilFunc,.nilFunc,.nilFunc,.nilFunc,.nilFunc]) ?_ (hv:=fun V hSw=>qOt hSw _ rfl _ _ _ _ _);try simp only[k4]
 refine tkY 18 (.int .i64 k) ?_;try simp only[k4]
 refine tkY 19 (.int .i64 l) ?_;try simp only[k4]
 refine tkY 23 (.int .i64 ci) ?_;try simp only[k4]
 refine tkY 24 (.agg #[.slice (some ⟨g,o,none⟩) c.length ca,.slice (some ⟨gl,ol,none⟩) c.length c.length,.func (.func 69) #[] #[],.nilFunc,.func (.func 70) #[] #[],.func (.func 71) #[] #[],.nilFunc,.nilFunc,.func (.func 72) #[] #[],.func (.func 73) #[] #[],.nilFunc,.nilFunc,.nilFunc,.nilFunc,.nilFunc,.nilFunc]) ?_ (hv:=fun V hSw=>qOt hSw _ rfl _ _ _ _ _);try simp only[k4]
 refine tkY 25 (.int .i64 l) ?_;try simp only[k4]
 refine tkY 26 (.int .i64 k) ?_;try simp only[k4]
 as_aux_lemma =>
  refine tkC 1 ?_
  intro K hK
  go_simp
  go_at_call 67
  refine(qEm _ _ hci.out).mono ?_
  rintro e w9 ⟨rfl,rfl⟩
  go_wp2_with fail
  refine hK.out _ _ (HS.out _ (HV0.out.drew)) (fun hHeld=>?_)
  clear hK K;try simp only[k4]
  refine tkC 5 ?_
  intro K hK
  go_simp
  go_at_call 90
  refine(Hma.out _ (HV0.out.drew)).mono ?_
  rintro e u1 ⟨rfl,HU1⟩
  go_wp2_with fail
  refine hK.out _ _ (HS.out _ (qA5 (HV0.out.drew) HU1.out)) (fun hHeld=>?_)
  clear hK K;try simp only[k4]
  refine tkC 6 ?_
  intro K hK
  go_simp
  refine hK.out _ _ (HS.out _ ((qA5 (HV0.out.drew) HU1.out).alloc (qA5 (HV0.out.drew) HU1.out).size _)) (fun hHeld=>?_)
  clear hK K;try simp only[k4]
  refine tkC 7 ?_
  intro K hK
  go_simp
  go_at_call 88
  refine(qDc _ _ _).mono ?_
  rintro e w1 ⟨va1,vl1,vc1,rfl,HR1,HB1⟩
  go_wp2_with fail
  refine hK.out _ _ (HS.out _ (qA5 (qA5 (HV0.out.drew) HU1.out) HB1.out)) (fun hHeld=>?_)
  clear hK K;try simp only[k4]
  as_aux_lemma =>
   refine tkC 9 ?_
   intro K hK
   go_simp
   go_at_call 67
   refine(qEm _ _ hci.out).mono ?_
   rintro e w9 ⟨rfl,rfl⟩
   go_wp2_with fail
   refine hK.out _ _ (HS.out _ (qA5 (qA5 (HV0.out.drew) HU1.out) HB1.out)) (fun hHeld=>?_)
   clear hK K;try simp only[k4]
   refine tkC 13 ?_
   intro K hK
   go_simp
   go_at_call 90
   refine(Hmb.out _ (qA5 (qA5 (HV0.out.drew) HU1.out) HB1.out)).mono ?_
   rintro e u2 ⟨rfl,HU2⟩
   go_wp2_with fail
   refine hK.out _ _ (HS.out _ (qA5 (qA5 (qA5 (HV0.out.drew) HU1.out) HB1.out) HU2.out)) (fun hHeld=>?_)
   clear hK K;try simp only[k4]
   refine tkC 14 ?_
   intro K hK
   go_simp
   refine hK.out _ _ (HS.out _ ((qA5 (qA5 (qA5 (HV0.out.drew) HU1.out) HB1.out) HU2.out).alloc (qA5 (qA5 (qA5 (HV0.out.drew) HU1.out) HB1.out) HU2.out).size _)) (fun hHeld=>?_)
   clear hK K;try simp only[k4]
   refine tkC 15 ?_
   intro K hK
   go_simp
   go_at_call 88
   refine(qDc _ _ _).mono ?_
   rintro e w2 ⟨va2,vl2,vc2,rfl,HR2,HB2⟩
   go_wp2_with fail
   refine hK.out _ _ (HS.out _ (qA5 (qA5 (qA5 (qA5 (HV0.out.drew) HU1.out) HB1.out) HU2.out) HB2.out)) (fun hHeld=>?_)
   clear hK K;try simp only[k4]
   as_aux_lemma =>
    refine tkC 20 ?_
    intro K hK
    go_simp
    go_at_call 90
    refine(Hmc.out _ (qA5 (qA5 (qA5 (qA5 (HV0.out.drew) HU1.out) HB1.out) HU2.out) HB2.out)).mono ?_
    rintro e u3 ⟨rfl,HU3⟩
    go_wp2_with fail
    refine hK.out _ _ (HS.out _ (qA5 (qA5 (qA5 (qA5 (qA5 (HV0.out.drew) HU1.out) HB1.out) HU2.out) HB2.out) HU3.out)) (fun hHeld=>?_)
    clear hK K;try simp only[k4]
    refine tkC 21 ?_
    intro K hK
    go_simp
    refine hK.out _ _ (HS.out _ ((qA5 (qA5 (qA5 (qA5 (qA5 (HV0.out.drew) HU1.out) HB1.out) HU2.out) HB2.out) HU3.out).alloc (qA5 (qA5 (qA5 (qA5 (qA5 (HV0.out.drew) HU1.out) HB1.out) HU2.out) HB2.out) HU3.out).size _)) (fun hHeld=>?_)
    clear hK K;try simp only[k4]
    refine tkC 22 ?_
    intro K hK
    go_simp
    go_at_call 88
    refine(qDc _ _ _).mono ?_
    rintro e w3 ⟨va3,vl3,vc3,rfl,HR3,HB3⟩
    go_wp2_with fail
    refine hK.out _ _ (HS.out _ (qA5 (qA5 (qA5 (qA5 (qA5 (qA5 (HV0.out.drew) HU1.out) HB1.out) HU2.out) HB2.out) HU3.out) HB3.out)) (fun hHeld=>?_)
    clear hK K;try simp only[k4]
    as_aux_lemma =>
     refine tkC 27 ?_
     intro K hK
     go_simp
     go_at_call 90
     refine(Hmd.out _ (qA5 (qA5 (qA5 (qA5 (qA5 (qA5 (HV0.out.drew) HU1.out) HB1.out) HU2.out) HB2.out) HU3.out) HB3.out)).mono ?_
     rintro e u4 ⟨rfl,HU4⟩
     go_wp2_with fail
     refine hK.out _ _ (HS.out _ (qA5 (qA5 (qA5 (qA5 (qA5 (qA5 (qA5 (HV0.out.drew) HU1.out) HB1.out) HU2.out) HB2.out) HU3.out) HB3.out) HU4.out)) (fun hHeld=>?_)
     clear hK K;try simp only[k4]
     refine tkC 28 ?_
     intro K hK
     go_simp
     refine hK.out _ _ (HS.out _ ((qA5 (qA5 (qA5 (qA5 (qA5 (qA5 (qA5 (HV0.out.drew) HU1.out) HB1.out) HU2.out) HB2.out) HU3.out) HB3.out) HU4.out).alloc (qA5 (qA5 (qA5 (qA5 (qA5 (qA5 (qA5 (HV0.out.drew) HU1.out) HB1.out) HU2.out) HB2.out) HU3.out) HB3.out) HU4.out).size _)) (fun hHeld=>?_)
     clear hK K;try simp only[k4]
     refine tkC 29 ?_
     intro K hK
     go_simp
     go_at_call 88
     refine(qDc _ _ _).mono ?_
     rintro e w4 ⟨va4,vl4,vc4,rfl,HR4,HB4⟩
     go_wp2_with fail
     refine hK.out _ _ (HS.out _ (qA5 (qA5 (qA5 (qA5 (qA5 (qA5 (qA5 (qA5 (HV0.out.drew) HU1.out) HB1.out) HU2.out) HB2.out) HU3.out) HB3.out) HU4.out) HB4.out)) (fun hHeld=>?_)
     clear hK K;try simp only[k4]
     as_aux_lemma =>
      refine tkC 30 ?_
      intro K hK
      go_simp
      refine hK.out _ _ (HS.out _ ((qA5 (qA5 (qA5 (qA5 (qA5 (qA5 (qA5 (qA5 (HV0.out.drew) HU1.out) HB1.out) HU2.out) HB2.out) HU3.out) HB3.out) HU4.out) HB4.out).alloc (qA5 (qA5 (qA5 (qA5 (qA5 (qA5 (qA5 (qA5 (HV0.out.drew) HU1.out) HB1.out) HU2.out) HB2.out) HU3.out) HB3.out) HU4.out) HB4.out).size _)) (fun hHeld=>?_)
      clear hK K;try simp only[k4]
      refine tkY 31 (.slice (some ⟨w4.heap.size,0,none⟩) 4 4) ?_;try simp only[k4]
      refine wpAnyH_done (by kernel_rfl) ?_ _
      go_wp2
      go_ret
      exact⟨_,rfl,qE0 (.cons ⟨(qCl (qCl (qCl HR1.out (qA5 HU2.out HB2.out)) (qA5 HU3.out HB3.out)) (qA5 HU4.out HB4.out)),i2 (qB9 hci.out) hmma.out⟩ (.cons ⟨(qCl (qCl HR2.out (qA5 HU3.out HB3.out)) (qA5 HU4.out HB4.out)),i2 (qB9 hci.out) hmmb.out⟩ (.cons ⟨(qCl HR3.out (qA5 HU4.out HB4.out)),i2 (hci.out) hmmc.out⟩ (.cons ⟨HR4.out,i2 (hci.out) hmmd.out⟩ .nil)))),HB0.out.trans (((qA5 (qA5 (qA5 (qA5 (qA5 (qA5 (qA5 (qA5 (HV0.out.drew) HU1.out) HB1.out) HU2.out) HB2.out) HU3.out) HB3.out) HU4.out) HB4.out).alloc (qA5 (qA5 (qA5 (qA5 (qA5 (qA5 (qA5 (qA5 (HV0.out.drew) HU1.out) HB1.out) HU2.out) HB2.out) HU3.out) HB3.out) HU4.out) HB4.out).size _).mono HB0.out.size)⟩
set_option maxHeartbeats 16000000 in
theorem qUb (c:List NodeA) (hC:Cl c) (a:Option Addr) (ca:Nat) (la:Option Addr) (k:Nat) (n:NodeA) (w:World) (hG:GT w) (hM:MkrR w c a ca la) (hn:c[k]? = some n) (ho:n.op=7) (i j l:Nat) (hi:n.a0=i) (hj:n.a1=j) (hl:n.a2=l) (hic:i<c.length) (hjk:j<k) (hlk:l<k) (hs0:¬n.sort=0) (hs1:¬n.sort=1) (hma:qAk 6 (j:Nat) (k:Nat) 0∈c) (hmb:qAk 6 (l:Nat) (k:Nat) 0∈c) :
  Calls Tryz.prog 73 #[.agg #[.slice a c.length ca,.slice la c.length c.length,.func (.func 69) #[] #[],.nilFunc,.func (.func 70) #[] #[],.func (.func 71) #[] #[],.nilFunc,.nilFunc,.func (.func 72) #[] #[],.func (.func 73) #[] #[],.nilFunc,.nilFunc,.nilFunc,.nilFunc,.nilFunc,.nilFunc],.int .i64 k] w fun e w'=>∃v,e=.returned v∧Hid (qAm w' v [clM [ngL (qAb c i),qAb c (qD2 c (qAk 6 (j:Nat) (k:Nat) 0))],clM [qAb c i,qAb c (qD2 c (qAk 6 (l:Nat) (k:Nat) 0))]])∧Hid (Below w.heap.size w w'):=by
 have hkc:k<c.length:=(List.getElem?_eq_some_iff.1 hn).1
 have hjc:j<c.length:=by omega
 have hlc:l<c.length:=by omega
 have hlen:c.length≤2000:=hC.len
 obtain⟨W0,hW0⟩:∃W0,W0=w.alloc (.cells #[.slice a c.length ca,.slice la c.length c.length,.func (.func 69) #[] #[],.nilFunc,.func (.func 70) #[] #[],.func (.func 71) #[] #[],.nilFunc,.nilFunc,.func (.func 72) #[] #[],.func (.func 73) #[] #[],.nilFunc,.nilFunc,.nilFunc,.nilFunc,.nilFunc,.nilFunc] 85):=⟨_,rfl⟩
 obtain⟨hB0',hbx,hbz⟩:=qAu hW0
 have hM0:=hM.below hB0'
 have hG0:=hG.below hB0'
 have HB0:Hid (Below w.heap.size w W0):=hB0'
 obtain⟨g,o,rfl,hg,q0,q1,q2,q3,q4,q5,q6,q7⟩:=hM0.tab.node hn
 obtain⟨gl,ol,rfl,hgl,r0⟩:=hM0.lit hkc
 have b0:W0.cell? ⟨w.heap.size,0,none⟩=some (.slice (some ⟨g,o,none⟩) c.length ca):=(cell_of_row _ _ 0 _ _ _ hbx).trans rfl
 have b1:W0.cell? ⟨w.heap.size,1,none⟩=some (.slice (some ⟨gl,ol,none⟩) c.length c.length):=(cell_of_row _ _ 1 _ _ _ hbx).trans rfl
 have hki:(k:Int)<(c.length:Int):=by omega
 have hk0:(0:Int)≤(k:Int):=by omega
 have r1:=hM0.lit0 hic
 have r2:=hM0.lit0 hjc
 have r3:=hM0.lit0 hlc
 rw[hi] at q2
 rw[hj] at q3
 rw[hl] at q4
 have hii:(i:Int)<(c.length:Int):=by omega
 have hi0:(0:Int)≤(i:Int):=by omega
 have hji:(j:Int)<(c.length:Int):=by omega
 have hj0:(0:Int)≤(j:Int):=by omega
 have hli:(l:Int)<(c.length:Int):=by omega
 have hl0:(0:Int)≤(l:Int):=by omega
 have d0:=qB7 hs0
 have d1:=qB7 hs1
 have Hma:Hid (∀V,Below W0.heap.size W0 V→Calls Tryz.prog 91 #[.agg #[.slice (some ⟨g,o,none⟩) c.length ca,.slice (some ⟨gl,ol,none⟩) c.length c.length,.func (.func 69) #[] #[],.nilFunc,.func (.func 70) #[] #[],.func (.func 71) #[] #[],.nilFunc,.nilFunc,.func (.func 72) #[] #[],.func (.func 73) #[] #[],.nilFunc,.nilFunc,.nilFunc,.nilFunc,.nilFunc,.nilFunc],.int .i64 k,.int .i64 j] V fun e w'=>e=.returned (.int .i64 (qAb c (qD2 c (qAk 6 (j:Nat) (k:Nat) 0))))∧Hid (Below V.heap.size V w')):=fun V hV=>qNt c hC k j hkc hjk _ (qBk hma) _ ca _ V (hM0.below hV)
 have Hmb:Hid (∀V,Below W0.heap.size W0 V→Calls Tryz.prog 91 #[.agg #[.slice (some ⟨g,o,none⟩) c.length ca,.slice (some ⟨gl,ol,none⟩) c.length c.length,.func (.func 69) #[] #[],.nilFunc,.func (.func 70) #[] #[],.func (.func 71) #[] #[],.nilFunc,.nilFunc,.func (.func 72) #[] #[],.func (.func 73) #[] #[],.nilFunc,.nilFunc,.nilFunc,.nilFunc,.nilFunc,.nilFunc],.int .i64 k,.int .i64 l] V fun e w'=>e=.returned (.int .i64 (qAb c (qD2 c (qAk 6 (l:Nat) (k:Nat) 0))))∧Hid (Below V.heap.size V w')):=fun V hV=>qNt c hC k l hkc hlk _ (qBk hmb) _ ca _ V (hM0.below hV)
 have HS:Hid (∀V,Below W0.heap.size W0 V→((qZj w g o gl ol c.length ca)) V):=fun V hV=>by
  have e0:=(hV.block _ hbz).trans hbx
  exact e0
 obtain⟨ci,hci_⟩:∃t,t=qAb c i:=⟨_,rfl⟩
 have hci:=Lib.hid (qAp hC hic)
 rw[←hci_] at r1 hci ⊢
 obtain⟨ma,hma_⟩:∃t,t=qAb c (qD2 c (qAk 6 (j:Nat) (k:Nat) 0)):=⟨_,rfl⟩
 have hmma:=Lib.hid (qAp hC (k:=qD2 c (qAk 6 (j:Nat) (k:Nat) 0)) (qCn.1 hma))
 rw[←hma_] at hmma Hma ⊢
 obtain⟨mb,hmb_⟩:∃t,t=qAb c (qD2 c (qAk 6 (l:Nat) (k:Nat) 0)):=⟨_,rfl⟩
 have hmmb:=Lib.hid (qAp hC (k:=qD2 c (qAk 6 (l:Nat) (k:Nat) 0)) (qCn.1 hmb))
 rw[←hmb_] at hmmb Hmb ⊢
 clear hbx hn hM hM0 hG hG0 hC hB0' ho hs0 hs1 hci_ hma_ hma hmb_ hmb r0 r2 r3
 have hA0:=hW0.symm
 clear hW0
 go_enter Tryz.func73,Tryz.ntmps73
 go_wp2
 go_quiet (fail)
 go_wp2
 obtain⟨V0,hV0⟩:∃V0,V0=(W0.alloc (.cells #[.int .i8 n.op,.int .i8 n.len,.int .i64 i,.int .i64 j,.int .i64 l,.int .i64 n.sort,.int .i64 n.fn,.int .i64 n.num] 54)).drewN nq:=⟨_,rfl⟩
 have HV0:Hid (Below W0.heap.size W0 V0):=by rw[hV0];exact qA1 ((Below.refl _ W0).alloc (Nat.le_refl _) _)
 rw[←hV0]
 clear hV0 hA0 q0 q1 q2 q3 q4 q5 q6 q7 b0 b1 r1
 refine wp_region_held_drew (S:=(qZj w g o gl ol c.length ca)) (by kernel_rfl) (HS.out _ HV0.out.drew) (fun hHeld=>?_)
 refine tkY 0 (.int .i64 ci) ?_;try simp only[k4]
 refine tkY 2 (.agg #[.slice (some ⟨g,o,none⟩) c.length ca,.slice (some ⟨gl,ol,none⟩) c.length c.length,.func (.func 69) #[] #[],.nilFunc,.func (.func 70) #[] #[],.func (.func 71) #[] #[],.nilFunc,.nilFunc,.func (.func 72) #[] #[],.func (.func 73) #[] #[],.nilFunc,.nilFunc,.nilFunc,.nilFunc,.nilFunc,.nilFunc]) ?_ (hv:=fun V hSw=>qOt hSw _ rfl _ _ _ _ _);try simp only[k4]
 refine tkY 3 (.int .i64 k) ?_;try simp only[k4]
 refine tkY 4 (.int .i64 j) ?_;try simp only[k4]
 refine tkY 8 (.int .i64 ci) ?_;try simp only[k4]
 refine tkY 9 (.agg #[.slice (some ⟨g,o,none⟩) c.length ca,.slice (some ⟨gl,ol,none⟩) c.length c.length,.func (.func 69) #[] #[],.nilFunc,.func (.func 70) #[] #[],.func (.func 71) #[] #[],.nilFunc,.nilFunc,.func (.func 72) #[] #[],.func (.func 73) #[] #[],.nilFunc,.nilFunc,.nilFunc,.nilFunc,.nilFunc,.nilFunc]) ?_ (hv:=fun V hSw=>qOt hSw _ rfl _ _ _ _ _);try simp only[k4]
 refine tkY 10 (.int .i64 k) ?_;try simp only[k4]
 refine tkY 11 (.int .i64 l) ?_;try simp only[k4]
 as_aux_lemma =>
  refine tkC 1 ?_
  intro K hK
  go_simp
  go_at_call 67
  refine(qEm _ _ hci.out).mono ?_
  rintro e w9 ⟨rfl,rfl⟩
  go_wp2_with fail
  refine hK.out _ _ (HS.out _ (HV0.out.drew)) (fun hHeld=>?_)
  clear hK K;try simp only[k4]
  refine tkC 5 ?_
  intro K hK
  go_simp
  go_at_call 91
  refine(Hma.out _ (HV0.out.drew)).mono ?_
  rintro e u1 ⟨rfl,HU1⟩
  go_wp2_with fail
  refine hK.out _ _ (HS.out _ (qA5 (HV0.out.drew) HU1.out)) (fun hHeld=>?_)
  clear hK K;try simp only[k4]
  refine tkC 6 ?_
  intro K hK
  go_simp
  refine hK.out _ _ (HS.out _ ((qA5 (HV0.out.drew) HU1.out).alloc (qA5 (HV0.out.drew) HU1.out).size _)) (fun hHeld=>?_)
  clear hK K;try simp only[k4]
  refine tkC 7 ?_
  intro K hK
  go_simp
  go_at_call 88
  refine(qDc _ _ _).mono ?_
  rintro e w1 ⟨va1,vl1,vc1,rfl,HR1,HB1⟩
  go_wp2_with fail
  refine hK.out _ _ (HS.out _ (qA5 (qA5 (HV0.out.drew) HU1.out) HB1.out)) (fun hHeld=>?_)
  clear hK K;try simp only[k4]
  as_aux_lemma =>
   refine tkC 12 ?_
   intro K hK
   go_simp
   go_at_call 91
   refine(Hmb.out _ (qA5 (qA5 (HV0.out.drew) HU1.out) HB1.out)).mono ?_
   rintro e u2 ⟨rfl,HU2⟩
   go_wp2_with fail
   refine hK.out _ _ (HS.out _ (qA5 (qA5 (qA5 (HV0.out.drew) HU1.out) HB1.out) HU2.out)) (fun hHeld=>?_)
   clear hK K;try simp only[k4]
   refine tkC 13 ?_
   intro K hK
   go_simp
   refine hK.out _ _ (HS.out _ ((qA5 (qA5 (qA5 (HV0.out.drew) HU1.out) HB1.out) HU2.out).alloc (qA5 (qA5 (qA5 (HV0.out.drew) HU1.out) HB1.out) HU2.out).size _)) (fun hHeld=>?_)
   clear hK K;try simp only[k4]
   refine tkC 14 ?_
   intro K hK
   go_simp
   go_at_call 88
   refine(qDc _ _ _).mono ?_
   rintro e w2 ⟨va2,vl2,vc2,rfl,HR2,HB2⟩
   go_wp2_with fail
   refine hK.out _ _ (HS.out _ (qA5 (qA5 (qA5 (qA5 (HV0.out.drew) HU1.out) HB1.out) HU2.out) HB2.out)) (fun hHeld=>?_)
   clear hK K;try simp only[k4]
   as_aux_lemma =>
    refine tkC 15 ?_
    intro K hK
    go_simp
    refine hK.out _ _ (HS.out _ ((qA5 (qA5 (qA5 (qA5 (HV0.out.drew) HU1.out) HB1.out) HU2.out) HB2.out).alloc (qA5 (qA5 (qA5 (qA5 (HV0.out.drew) HU1.out) HB1.out) HU2.out) HB2.out).size _)) (fun hHeld=>?_)
    clear hK K;try simp only[k4]
    refine tkY 16 (.slice (some ⟨w2.heap.size,0,none⟩) 2 2) ?_;try simp only[k4]
    refine wpAnyH_done (by kernel_rfl) ?_ _
    go_wp2
    go_ret
    exact⟨_,rfl,qE0 (.cons ⟨(qCl HR1.out (qA5 HU2.out HB2.out)),i2 (qB9 hci.out) hmma.out⟩ (.cons ⟨HR2.out,i2 (hci.out) hmmb.out⟩ .nil)),HB0.out.trans (((qA5 (qA5 (qA5 (qA5 (HV0.out.drew) HU1.out) HB1.out) HU2.out) HB2.out).alloc (qA5 (qA5 (qA5 (qA5 (HV0.out.drew) HU1.out) HB1.out) HU2.out) HB2.out).size _).mono HB0.out.size)⟩
open Go.RowKit Go.Lib Go.Sort
def fL (c:List NodeA) (n:NodeA):Int:=qAb c (qD2 c n)
def qAy (c:List NodeA) (k:Nat):List (List Int) :=
 if (qAd c k).op=0 then [clM [2*(k:Int)]]
 else if (qAd c k).op=2 then [clM [ngL (qAb c k),qAb c (qAd c k).a0.toNat],clM [ngL (qAb c k),qAb c (qAd c k).a1.toNat],clM [qAb c k,ngL (qAb c (qAd c k).a0.toNat),ngL (qAb c (qAd c k).a1.toNat)]]
 else if (qAd c k).op=3 then [clM [qAb c k,ngL (qAb c (qAd c k).a0.toNat)],clM [qAb c k,ngL (qAb c (qAd c k).a1.toNat)],clM [ngL (qAb c k),qAb c (qAd c k).a0.toNat,qAb c (qAd c k).a1.toNat]]
 else if (qAd c k).op=6 then (if srt c (qAd c k).a0=0 then [clM [ngL (qAb c k),ngL (qAb c (qAd c k).a0.toNat),qAb c (qAd c k).a1.toNat],clM [ngL (qAb c k),qAb c (qAd c k).a0.toNat,ngL (qAb c (qAd c k).a1.toNat)],clM [qAb c k,qAb c (qAd c k).a0.toNat,qAb c (qAd c k).a1.toNat],clM [qAb c k,ngL (qAb c (qAd c k).a0.toNat),ngL (qAb c (qAd c k).a1.toNat)]] else [])
 else if (qAd c k).op=7 then
  (if (qAd c k).sort=0 then [clM [ngL (qAb c k),ngL (qAb c (qAd c k).a0.toNat),qAb c (qAd c k).a1.toNat],clM [ngL (qAb c k),qAb c (qAd c k).a0.toNat,qAb c (qAd c k).a2.toNat],clM [qAb c k,ngL (qAb c (qAd c k).a0.toNat),ngL (qAb c (qAd c k).a1.toNat)],clM [qAb c k,qAb c (qAd c k).a0.toNat,ngL (qAb c (qAd c k).a2.toNat)]]
   else if (qAd c k).sort=1 then [clM [ngL (qAb c (qAd c k).a0.toNat),fL c (qAk 12 (k:Nat) (qA0 c (qAd c k).a1).1 (qA0 c (qAd c k).a1).2)],clM [ngL (qAb c (qAd c k).a0.toNat),fL c (qAk 12 (qA0 c (qAd c k).a1).1 (k:Nat) (-(qA0 c (qAd c k).a1).2))],clM [qAb c (qAd c k).a0.toNat,fL c (qAk 12 (k:Nat) (qA0 c (qAd c k).a2).1 (qA0 c (qAd c k).a2).2)],clM [qAb c (qAd c k).a0.toNat,fL c (qAk 12 (qA0 c (qAd c k).a2).1 (k:Nat) (-(qA0 c (qAd c k).a2).2))]]
   else [clM [ngL (qAb c (qAd c k).a0.toNat),fL c (qAk 6 (qAd c k).a1 (k:Nat) 0)],clM [qAb c (qAd c k).a0.toNat,fL c (qAk 6 (qAd c k).a2 (k:Nat) 0)]])
 else []
def qHd (c:List NodeA) (x:Int):Prop:=0≤x∧x<2*(c.length:Int)
theorem qBt {c:List NodeA} (hC:Cl c) {k:Nat} (hk:k<c.length) (h0:(qAd c k).sort=0):qHd c (qAb c k):=by
 unfold qAb
 rw[if_pos h0]
 exact qMn hC hk
theorem qAv {c:List NodeA} {x:Int} (h:qHd c x):qHd c (ngL x):=by
 obtain⟨h1,h2⟩:=h
 unfold ngL
 split
 ·exact⟨by omega,by omega⟩
 ·exact⟨by omega,by omega⟩
theorem qH0 {c:List NodeA} (hC:Cl c) {n:NodeA} (hn:n∈c) (h0:n.sort=0):qHd c (fL c n):=qBt hC (qCn.1 hn) (by rw[qBf (qBk hn)];exact h0)
def qHe (c:List NodeA) (xs:List Int):Prop:=xs≠[]∧(∀x∈xs,qHd c x)∧xs.Pairwise (· < ·)∧xs.length≤3
theorem qKi {c:List NodeA} {xs:List Int} (h0:xs≠[]) (h3:xs.length≤3) (h:∀x∈xs,qHd c x):qHe c (clM xs) :=
 ⟨fun e=>by have:=qY3 h0;rw[e] at this;exact absurd this (by simp),fun x hx=>h x (qEn.1 hx),qF5 xs,Nat.le_trans (qY2 xs) h3⟩
theorem zB5 {c:List NodeA} {x:Int} (h:qHd c x):qHe c (clM [x]):=qKi (by simp) (by simp) (fun z hz=>by simp at hz;subst hz;exact h)
theorem qFg {c:List NodeA} {x y:Int} (h:qHd c x) (h2:qHd c y):qHe c (clM [x,y]):=qKi (by simp) (by simp) (fun z hz=>by simp at hz;rcases hz with rfl|rfl<;>assumption)
theorem qFh {c:List NodeA} {x y u:Int} (h:qHd c x) (h2:qHd c y) (h3:qHd c u):qHe c (clM [x,y,u]):=qKi (by simp) (by simp) (fun z hz=>by simp at hz;rcases hz with rfl|rfl|rfl<;>assumption)
theorem qIg {c:List NodeA} (hC:Cl c) {k:Nat} {n:NodeA} (hn:c[k]? = some n) (j:Nat) (hj:(j:Int)<n.len):∃i:Nat,qBc n j=(i:Int)∧i<k:=by
 obtain⟨_,_,h⟩:=stands_args (hC.st hn)
 obtain⟨h1,h2⟩:=h j hj
 exact⟨(qBc n j).toNat,by omega,by omega⟩
theorem qGe {c:List NodeA} (hC:Cl c) {k:Nat} {n:NodeA} (hn:c[k]? = some n) (h:¬n.op=13):n.len=arityA n.op:=by
 rcases (stands_args (hC.st hn)).2.1 with h1|h1
 ·exact absurd h1 h
 ·exact h1
theorem qH1 {c:List NodeA} (hC:Cl c) {k:Nat} {n:NodeA} (hn:c[k]? = some n) (h:n.op=2∨n.op=3∨n.op=6):∃i j:Nat,n.a0=(i:Int)∧n.a1=(j:Int)∧i<k∧j<k:=by
 have hl:=qGe hC hn (by omega)
 have h2:n.len=2:=by
  rcases h with h|h|h<;>(rw[h] at hl;rw[hl];decide)
 obtain⟨i,h3,h4⟩:=qIg hC hn 0 (by omega)
 obtain⟨j,h5,h6⟩:=qIg hC hn 1 (by omega)
 exact⟨i,j,h3,h5,h4,h6⟩
theorem qUc {c:List NodeA} (hC:Cl c) {k:Nat} {n:NodeA} (hn:c[k]? = some n) (h:n.op=7):∃i j l:Nat,n.a0=(i:Int)∧n.a1=(j:Int)∧n.a2=(l:Int)∧i<k∧j<k∧l<k:=by
 have hl:=qGe hC hn (by omega)
 have h2:n.len=3:=by rw[h] at hl;rw[hl];decide
 obtain⟨i,h3,h4⟩:=qIg hC hn 0 (by omega)
 obtain⟨j,h5,h6⟩:=qIg hC hn 1 (by omega)
 obtain⟨l,h7,h8⟩:=qIg hC hn 2 (by omega)
 exact⟨i,j,l,h3,h5,h7,h4,h6,h8⟩
theorem qCm {c:List NodeA} (hC:Cl c) {k:Nat} (hk:k<c.length):∀xs∈qAy c k,qHe c xs:=by
 obtain⟨n,hn⟩:∃n,c[k]? = some n:=⟨_,List.getElem?_eq_getElem hk⟩
 have hnn:=qBf hn
 have hw:=hC.ws n (List.mem_of_getElem? hn)
 unfold qAy
 rw[hnn]
 by_cases h0:n.op=0
 ·rw[if_pos h0]
  intro xs hx
  simp only[List.mem_cons,List.not_mem_nil,or_false] at hx
  subst hx
  exact zB5 ⟨by omega,by omega⟩
 rw[if_neg h0]
 by_cases h2:n.op=2
 ·rw[if_pos h2]
  obtain⟨i,j,ei,ej,hi,hj⟩:=qH1 hC hn (.inl h2)
  obtain⟨s1,s2,s3⟩:=hw.s2 (.inl h2)
  unfold srt at s2 s3
  rw[ei] at s2
  rw[ej] at s3
  rw[ei,ej,Int.toNat_natCast,Int.toNat_natCast]
  have lt:=qBt hC hk (by rw[hnn];exact s1)
  have la:=qBt hC (by omega) s2
  have lb:=qBt hC (by omega) s3
  intro xs hx
  simp only[List.mem_cons,List.not_mem_nil,or_false] at hx
  rcases hx with rfl|rfl|rfl
  ·exact qFg (qAv lt) la
  ·exact qFg (qAv lt) lb
  ·exact qFh lt (qAv la) (qAv lb)
 rw[if_neg h2]
 by_cases h3:n.op=3
 ·rw[if_pos h3]
  obtain⟨i,j,ei,ej,hi,hj⟩:=qH1 hC hn (.inr (.inl h3))
  obtain⟨s1,s2,s3⟩:=hw.s2 (.inr (.inl h3))
  unfold srt at s2 s3
  rw[ei] at s2
  rw[ej] at s3
  rw[ei,ej,Int.toNat_natCast,Int.toNat_natCast]
  have lt:=qBt hC hk (by rw[hnn];exact s1)
  have la:=qBt hC (by omega) s2
  have lb:=qBt hC (by omega) s3
  intro xs hx
  simp only[List.mem_cons,List.not_mem_nil,or_false] at hx
  rcases hx with rfl|rfl|rfl
  ·exact qFg lt (qAv la)
  ·exact qFg lt (qAv lb)
  ·exact qFh (qAv lt) la lb
 rw[if_neg h3]
 by_cases h6:n.op=6
 ·rw[if_pos h6]
  obtain⟨i,j,ei,ej,hi,hj⟩:=qH1 hC hn (.inr (.inr h6))
  obtain⟨s1,s2⟩:=hw.s6 h6
  by_cases hs:srt c n.a0=0
  ·rw[if_pos hs]
   have s3:srt c n.a1=0:=by rw[←s2];exact hs
   unfold srt at hs s3
   rw[ei] at hs
   rw[ej] at s3
   rw[ei,ej,Int.toNat_natCast,Int.toNat_natCast]
   have lt:=qBt hC hk (by rw[hnn];exact s1)
   have la:=qBt hC (by omega) hs
   have lb:=qBt hC (by omega) s3
   intro xs hx
   simp only[List.mem_cons,List.not_mem_nil,or_false] at hx
   rcases hx with rfl|rfl|rfl|rfl
   ·exact qFh (qAv lt) (qAv la) lb
   ·exact qFh (qAv lt) la (qAv lb)
   ·exact qFh lt la lb
   ·exact qFh lt (qAv la) (qAv lb)
  ·rw[if_neg hs]
   intro xs hx
   simp at hx
 rw[if_neg h6]
 by_cases h7:n.op=7
 ·rw[if_pos h7]
  obtain⟨i,j,l,ei,ej,el,hi,hj,hl⟩:=qUc hC hn h7
  obtain⟨s1,s2,s3⟩:=hw.s7 h7
  obtain⟨g0,g1,g2⟩:=hC.ite k n hn h7
  unfold srt at s1 s2 s3
  rw[ei] at s1
  have lc:=qBt hC (by omega) s1
  by_cases hs:n.sort=0
  ·rw[if_pos hs]
   rw[hs] at s2 s3
   rw[ej] at s2
   rw[el] at s3
   rw[ei,ej,el,Int.toNat_natCast,Int.toNat_natCast,Int.toNat_natCast]
   have lt:=qBt hC hk (by rw[hnn];exact hs)
   have la:=qBt hC (by omega) s2
   have lb:=qBt hC (by omega) s3
   intro xs hx
   simp only[List.mem_cons,List.not_mem_nil,or_false] at hx
   rcases hx with rfl|rfl|rfl|rfl
   ·exact qFh (qAv lt) (qAv lc) la
   ·exact qFh (qAv lt) lc lb
   ·exact qFh lt (qAv lc) (qAv la)
   ·exact qFh lt lc (qAv lb)
  rw[if_neg hs]
  by_cases hs1:n.sort=1
  ·rw[if_pos hs1,ei,Int.toNat_natCast]
   obtain⟨f1,f2⟩:=g1 hs1 n.a1 (.inl rfl)
   obtain⟨f3,f4⟩:=g1 hs1 n.a2 (.inr rfl)
   intro xs hx
   simp only[List.mem_cons,List.not_mem_nil,or_false] at hx
   rcases hx with rfl|rfl|rfl|rfl
   ·exact qFg (qAv lc) (qH0 hC f1 rfl)
   ·exact qFg (qAv lc) (qH0 hC f2 rfl)
   ·exact qFg lc (qH0 hC f3 rfl)
   ·exact qFg lc (qH0 hC f4 rfl)
  ·rw[if_neg hs1,ei,Int.toNat_natCast]
   have f1:=g2 hs hs1 n.a1 (.inl rfl)
   have f2:=g2 hs hs1 n.a2 (.inr rfl)
   intro xs hx
   simp only[List.mem_cons,List.not_mem_nil,or_false] at hx
   rcases hx with rfl|rfl
   ·exact qFg (qAv lc) (qH0 hC f1 rfl)
   ·exact qFg lc (qH0 hC f2 rfl)
 ·rw[if_neg h7]
  intro xs hx
  simp at hx
theorem qLh (p:List Int→Bool) (Q:List Int→Prop) (gf:Nat) (lb:Array Value) (eg:∀args w,(callFunc gf args).run Tryz.prog w=.ok (.enter gf args) w) (rs:List RowD) (a:Option Addr) (c:Nat) (w:World) (hA:RowsR w rs a c) (hQ:∀r∈rs,Q r.xs)
  (hp:∀W (r:RowD),Below w.heap.size w W→IntsR W r.xs r.a r.c→Q r.xs→FnGives Tryz.prog gf lb #[rowV r] (.bool (p r.xs)) W) :
  Calls Tryz.prog 28 #[.slice a rs.length c,.func (.func gf) #[] lb] w fun e w'=>e=.returned (.bool ((rs.map RowD.xs).any p))∧Below w.heap.size w w':=by
 by_cases h0:rs.length=0
 ·have hx:rs=[]:=List.eq_nil_of_length_eq_zero h0
  subst hx
  refine(Tryz.slices_ContainsFunc_empty (α:=Int) a c _ w).mono ?_
  rintro e w' ⟨rfl,rfl⟩
  exact⟨rfl,Below.refl _ _⟩
 ·obtain⟨g,o,rfl,hg,hc⟩:=hA.tat (by simp;omega)
  have hin:∀r∈rs,IntsR w r.xs r.a r.c∧Q r.xs:=fun r hr=>⟨hA.ok r hr,hQ r hr⟩
  obtain⟨r0,hr0⟩:∃r0,r0∈rs:=List.exists_mem_of_length_pos (by omega)
  let α:={ r:RowD // IntsR w r.xs r.a r.c∧Q r.xs }
  haveI:Inhabited α:=⟨⟨r0,hin r0 hr0⟩⟩
  let zs:List α:=rs.pmap (fun r h=>⟨r,h⟩) hin
  have hzl:zs.length=rs.length:=List.length_pmap ..
  have hmap:zs.map (fun x=>x.1)=rs:=by
   show (rs.pmap _ hin).map _=rs
   rw[List.map_pmap]
   exact List.pmap_eq_self.2 (fun _ _=>rfl) |>.trans rfl
  refine(Tryz.slices_ContainsFunc (α:=α) (fun x=>rowV x.1) (fun x=>p x.1.xs) gf lb eg g o rs.length c zs w (fun W x hW=>hp W x.1 hW (x.2.1.below hW) x.2.2) (by omega) (qHp hA.le hA.cap) (fun j hj=>?_)).mono ?_
  ·refine hc j _ ?_
   rw[getElem!_pos zs j hj]
   have:rs[j]? = some zs[j].1:=by
    conv=>lhs;rw[←hmap]
    rw[List.getElem?_map,List.getElem?_eq_getElem hj]
    rfl
   rw[List.getElem?_map,this]
   rfl
  ·rintro e w' ⟨rfl,n,rfl⟩
   refine⟨?_,qA1 (Below.refl _ _)⟩
   rw[←hzl,List.take_length]
   congr 2
   conv=>rhs;rw[←hmap]
   rw[List.map_map,List.any_map]
   rfl
theorem qRe (xs:List Int) (hx:xs≠[]) (a:Option Addr) (c:Nat) (W:World) (hA:IntsR W xs a c) :
  FnGives Tryz.prog 41 #[] #[.slice a xs.length c] (.bool (decide (xs.headD 0<0))) W:=by
 show Calls Tryz.prog 41 #[.slice a xs.length c] W _
 obtain⟨x,r,rfl⟩:=List.exists_cons_of_ne_nil hx
 obtain⟨g,o,rfl,hg,q0⟩:=hA.cell (k:=0) (x:=x) rfl
 have q0':W.cell? ⟨g,o,none⟩=some (.int .i64 x):=q0
 obtain⟨z,hz⟩:∃z,decide (x<0)=z:=⟨_,rfl⟩
 have hl:(0:Int)<((x :: r).length:Int):=by simp
 show Calls _ _ _ _ (fun e w'=>e=.returned (.bool (decide (x<0)))∧_)
 obtain⟨n,hn⟩:∃n,n=(x :: r).length:=⟨_,rfl⟩
 rw[←hn] at hl ⊢
 have hn1:0<n:=by omega
 rw[hz]
 clear q0 hA hn hx
 go_enter Tryz.func41,Tryz.ntmps41
 go_wp2
 go_ret
 exact⟨rfl,0,rfl⟩
end Go.Proofs.YtfgpimhdjlmapaaGreatDoor.Tm
