/- The document's image, of every node. -/
import Derived.Laws.CopyOwn
import Derived.Deep.LoopGhost
import Derived.Laws.MakeOwn
import Derived.Laws.EntriesVeiled
import Derived.Deep.RegionHeldLaw
import Derived.Test.YtfgpimhdjlmapaaGreatDoorDaF
import Derived.Test.YtfgpimhdjlmapaaGreatDoorDaM
import Derived.Test.YtfgpimhdjlmapaaGreatDoorDaN
namespace Go.Proofs.YtfgpimhdjlmapaaGreatDoor.Tm
open Go.RowKit
set_option linter.unusedVariables false
set_option maxRecDepth 100000
set_option maxHeartbeats 16000000 in
theorem qX1 {s:MkS} (h0:s.e=0) (hl:0<s.l.length) {w:World} {a:Option Addr} {c:Nat} {ll p0 p1 p2 so fn nu most:Int} {va:Option Addr} {k d:Nat} (hA:TabN w s.l a c) :
  Calls Tryz.prog 33 #[.agg #[.slice a s.l.length c],.agg #[.int .i8 0,.int .i8 ll,.int .i64 p0,.int .i64 p1,.int .i64 p2,.int .i64 so,.int .i64 fn,.int .i64 nu],.slice va k d,.int .i64 most] w (qB4 w (s,0)):=by
 obtain⟨W0,hW0⟩:∃W0,W0=((w.alloc (.cells #[.slice a s.l.length c] 33)).alloc (.cells #[.int .i8 0,.int .i8 ll,.int .i64 p0,.int .i64 p1,.int .i64 p2,.int .i64 so,.int .i64 fn,.int .i64 nu] 54)).alloc (.cells #[.slice none 0 0] 33):=⟨_,rfl⟩
 obtain⟨W1,hW1⟩:∃W1,W1=((w.alloc (.cells #[.slice a s.l.length c] 33)).alloc (.cells #[.int .i8 0,.int .i8 ll,.int .i64 p0,.int .i64 p1,.int .i64 p2,.int .i64 so,.int .i64 fn,.int .i64 nu] 54)).alloc (.cells #[.slice a s.l.length c] 33):=⟨_,rfl⟩
 have hb1:Below w.heap.size w W1:=by
  rw[hW1]
  exact(((Below.refl _ w).alloc (Nat.le_refl _) _).alloc (by simp) _).alloc (by simp;omega) _
 have hr1:W1.heap[w.heap.size+1+1]? = some (.cells #[.slice a s.l.length c] 33 (0,0)):=by
  have:=heap_alloc_new ((w.alloc (.cells #[.slice a s.l.length c] 33)).alloc (.cells #[.int .i8 0,.int .i8 ll,.int .i64 p0,.int .i64 p1,.int .i64 p2,.int .i64 so,.int .i64 fn,.int .i64 nu] 54)) (.cells #[.slice a s.l.length c] 33)
  rw[World.size_alloc,World.size_alloc] at this
  rw[hW1];exact this
 have HE:Hid (qB4 w (s,(0:Int)) (.returned (.tuple #[.agg #[.slice a s.l.length c],.int .i64 0,.int .i64 0])) W1):=⟨hb1,.inl ⟨h0,a,c,rfl,hA.below hb1⟩⟩
 obtain⟨hB0,hXX⟩:=qB6 (n:=⟨0,ll,p0,p1,p2,so,fn,nu⟩) hW0
 obtain⟨⟨t0,tz⟩,hnb,hrb⟩:=hXX _ (Below.refl _ _)
 obtain⟨n0,-,-,-,-,-,-,n7,nz⟩:=qAi hnb
 obtain⟨y0,yf,yz⟩:=qA6 hrb
 replace n0:W0.cell? ⟨w.heap.size+1,0,none⟩=some (.int .i8 0):=n0
 have HR1:=Lib.hid hr1
 have HW1:=Lib.hid hW1
 clear hA h0 hl hB0 hXX hnb hrb n7 hb1 hr1 hW1
 rw[hW0] at t0 tz n0 nz y0 yf yz
 go_enter Tryz.func33,Tryz.ntmps33
 go_wp2_with fail
 rw[←HW1.out]
 refine bodyPost_ret (qA4 rfl _ _ (w.heap.size+1+1) _ _ _ _ rfl HR1.out Tryz.underlying33 rfl qA3) rfl ?_
 exact HE.out
def qX2 (x:NodeA) (k:Nat):NodeA:={ x with a0:=if 0<k then x.a0 else 0,a1:=if 1<k then x.a1 else 0,a2:=if 2<k then x.a2 else 0 }
theorem qX3 {x:NodeA} {k:Nat} (hk:k<3):qBc (qX2 x k) k=0:=by
 have hc:k=0∨k=1∨k=2:=by omega
 rcases hc with rfl|rfl|rfl<;>rfl
theorem qSx {x:NodeA} {k:Nat} (hk:k≤3) (h:∀j:Nat,k≤j→j<3→qBc x j=0):qX2 x k=x:=by
 have hc:k=0∨k=1∨k=2∨k=3:=by omega
 cases x with
 | mk op len a0 a1 a2 so fn nu =>
 have h0:k≤0→a0=0:=fun e=>h 0 e (by omega)
 have h1:k≤1→a1=0:=fun e=>h 1 e (by omega)
 have h2:k≤2→a2=0:=fun e=>h 2 e (by omega)
 rcases hc with rfl|rfl|rfl|rfl
 ·rw[h0 (by omega),h1 (by omega),h2 (by omega)];rfl
 ·rw[h1 (by omega),h2 (by omega)];rfl
 ·rw[h2 (by omega)];rfl
 ·rfl
structure AfR (B:Nat) (W1 wr:World) (nd:NodeA):Prop where
 bl:Below B W1 wr
 box:wr.heap[B]? = some (.cells #[.int .i8 nd.op,.int .i8 nd.len,.int .i64 nd.a0,.int .i64 nd.a1,.int .i64 nd.a2,.int .i64 nd.sort,.int .i64 nd.fn,.int .i64 nd.num] 54 (0,0))
theorem AfR.put {B:Nat} {W1 wr:World} {x:NodeA} {k:Nat} (h:AfR B W1 wr (qX2 x k)) (hk:k<3):AfR B W1 (wr.setCell ⟨B,2+k,none⟩ (.int .i64 (qBc x k))) (qX2 x (k+1)):=by
 refine⟨h.bl.setCell (p:=⟨B,2+k,none⟩) (Nat.le_refl _) _,?_⟩
 refine Eq.trans (heap_setCell_same wr B (2+k) _ _ _ h.box) ?_
 have hc:k=0∨k=1∨k=2:=by omega
 rcases hc with rfl|rfl|rfl<;>rfl
set_option maxHeartbeats 16000000 in
theorem qSy {w:World} {a:Option Addr} {ln c:Nat} {p0 p1 p2 most:Int} {va:Option Addr} {d:Nat} {x:NodeA} (hop:x.op=13) {vs:List Int} (hv:IntsR w vs va d) (hvl:vs.length≤3) (hva:∀j:Nat,j<vs.length→vs[j]? = some (qBc x j)) (hvz:∀j:Nat,vs.length≤j→j<3→qBc x j=0) {r:MkS × Int} (hC:∀V,Below w.heap.size w V→Calls Tryz.prog 55 #[.agg #[.slice a ln c],.agg #[.int .i8 x.op,.int .i8 x.len,.int .i64 x.a0,.int .i64 x.a1,.int .i64 x.a2,.int .i64 x.sort,.int .i64 x.fn,.int .i64 x.num],.int .i64 most] V (qB4 V r)) (hL:r.1.e=0→0<r.1.l.length) :
  Calls Tryz.prog 33 #[.agg #[.slice a ln c],.agg #[.int .i8 13,.int .i8 x.len,.int .i64 p0,.int .i64 p1,.int .i64 p2,.int .i64 x.sort,.int .i64 x.fn,.int .i64 x.num],.slice va vs.length d,.int .i64 most] w (qB4 w r):=by
 obtain⟨W0,hW0⟩:∃W0,W0=((w.alloc (.cells #[.slice a ln c] 33)).alloc (.cells #[.int .i8 13,.int .i8 x.len,.int .i64 p0,.int .i64 p1,.int .i64 p2,.int .i64 x.sort,.int .i64 x.fn,.int .i64 x.num] 54)).alloc (.cells #[.slice none 0 0] 33):=⟨_,rfl⟩
 obtain⟨hB0,hXX⟩:=qB6 (n:=⟨13,x.len,p0,p1,p2,x.sort,x.fn,x.num⟩) hW0
 have hs0:W0.heap.size=w.heap.size+1+1+1:=by rw[hW0];simp
 obtain⟨W1,hW1⟩:∃W1,W1=W0.alloc (.cells #[.int .i8 13,.int .i8 x.len,.int .i64 0,.int .i64 0,.int .i64 0,.int .i64 x.sort,.int .i64 x.fn,.int .i64 x.num] 54):=⟨_,rfl⟩
 have hP1:AfR (w.heap.size+1+1+1) W0 W1 (qX2 x 0):=by
  rw[hW1,←hs0]
  refine⟨(Below.refl _ _).alloc (Nat.le_refl _) _,?_⟩
  show _=some (Obj.cells #[.int .i8 x.op,.int .i8 x.len,.int .i64 0,.int .i64 0,.int .i64 0,.int .i64 x.sort,.int .i64 x.fn,.int .i64 x.num] 54 (0,0))
  rw[hop]
  exact heap_alloc_new W0 _
 have hvc:=hv.le
 have hvcap:=hv.cap
 have hlm:vs.length≤9223372036854775807:=by omega
 have HV:Hid (∀V,Below W0.heap.size W0 V→∀j:Nat,j<vs.length→∃g o:Nat,va=some ⟨g,o,none⟩∧g<V.heap.size∧V.cell? ⟨g,o+j,none⟩=some (.int .i64 (qBc x j))):=fun V hV j hj=>(hv.below (hB0.trans (hV.mono hB0.size))).cell (hva j hj)
 have HXX:Hid (∀V,Below W0.heap.size W0 V→(V.cell? ⟨w.heap.size,0,none⟩=some (.slice a ln c)∧w.heap.size<V.heap.size)∧V.heap[w.heap.size+1+1]? = some (.cells #[.slice none 0 0] 33 (0,0))):=fun V hV=>⟨(hXX V hV).1,(hXX V hV).2.2⟩
 have HC:Hid (∀V,Below W0.heap.size W0 V→Calls Tryz.prog 55 #[.agg #[.slice a ln c],.agg #[.int .i8 x.op,.int .i8 x.len,.int .i64 x.a0,.int .i64 x.a1,.int .i64 x.a2,.int .i64 x.sort,.int .i64 x.fn,.int .i64 x.num],.int .i64 most] V (qB4 V r)):=fun V hV=>hC V (hB0.trans (hV.mono hB0.size))
 have HAll:Hid (qX2 x vs.length=x):=qSx hvl hvz
 have HB0:=Lib.hid hB0
 have HP1:=Lib.hid hP1
 have HS0:=Lib.hid hs0
 have HW0:=Lib.hid hW0
 have HW1:=Lib.hid hW1
 have HL:=Lib.hid hL
 obtain⟨⟨t0,tz⟩,hnb,hrb⟩:=hXX _ (Below.refl _ _)
 obtain⟨n0,n1,n2,n3,n4,n5,n6,n7,nz⟩:=qAi hnb
 replace n0:W0.cell? ⟨w.heap.size+1,0,none⟩=some (.int .i8 13):=n0
 replace n1:W0.cell? ⟨w.heap.size+1,1,none⟩=some (.int .i8 x.len):=n1
 replace n2:W0.cell? ⟨w.heap.size+1,2,none⟩=some (.int .i64 p0):=n2
 replace n3:W0.cell? ⟨w.heap.size+1,3,none⟩=some (.int .i64 p1):=n3
 replace n4:W0.cell? ⟨w.heap.size+1,4,none⟩=some (.int .i64 p2):=n4
 replace n5:W0.cell? ⟨w.heap.size+1,5,none⟩=some (.int .i64 x.sort):=n5
 replace n6:W0.cell? ⟨w.heap.size+1,6,none⟩=some (.int .i64 x.fn):=n6
 replace n7:W0.cell? ⟨w.heap.size+1,7,none⟩=some (.int .i64 x.num):=n7
 rw[hW0] at n0 n1 n2 n3 n4 n5 n6 n7 nz
 clear hC hL hB0 hXX hnb hrb hv hva hvz hP1 hs0 hW0 hW1 t0 tz hop
 go_enter Tryz.func33,Tryz.ntmps33
 go_wp2_with fail
 rw[←HW0.out,←HW1.out]
 clear n0 n1 n2 n3 n4 n5 n6 n7 nz
 go_loopw [12] (fun i wr=>∃k:Nat,k≤vs.length∧i=.int .i64 k∧Hid (AfR (w.heap.size+1+1+1) W0 wr (qX2 x k))) (fun i _=>vs.length-(intOf i).toNat)
 case atStart=>exact⟨0,Nat.zero_le _,rfl,HP1⟩
 case round =>
  obtain⟨k,hkl,rfl,HP⟩:=hrel
  by_cases hlt:k<vs.length
  ·obtain⟨gi,oi,rfl,hgi,q0⟩:=HV.out wr (by have:=HP.out.bl;rw[←HS0.out] at this;exact this) k hlt
   have qa:wr.cell? ⟨w.heap.size+1+1+1,2+k,none⟩=some (.int .i64 0):=(qEr HP.out.box k (by omega)).trans (by rw[qX3 (by omega)])
   have qf:wr.frozen? ⟨w.heap.size+1+1+1,2+k,none⟩=false:=by simp[World.frozen?,HP.out.box]
   have qz:w.heap.size+1+1+1<wr.heap.size:=(Array.getElem?_eq_some_iff.1 HP.out.box).1
   have hki:(k:Int)<(vs.length:Int):=by omega
   have hk3:(k:Int)<3:=by omega
   have hk0:(0:Int)≤(k:Int):=by omega
   have HP2:=Lib.hid (HP.out.put (show k<3 by omega))
   go_wp2_with fail
   go_roundw
   case rel=>exact⟨k+1,by omega,by go_num,HP2⟩
   case measure=>simp[intOf];omega
  ·obtain rfl:k=vs.length:=by omega
   have HP:Hid (AfR (w.heap.size+1+1+1) W0 wr x):=by show AfR _ _ _ _;rw[←HAll.out];exact HP.out
   have HB:Hid (Below W0.heap.size W0 wr):=by show Below _ _ _;rw[HS0.out];exact HP.out.bl
   obtain⟨⟨t0,tz⟩,hrb⟩:=HXX.out wr HB.out
   obtain⟨n0,n1,n2,n3,n4,n5,n6,n7,nz⟩:=qAi HP.out.box
   have hjn:¬(vs.length:Int)<(vs.length:Int):=by omega
   have HRb:=Lib.hid hrb
   clear hrb
   go_wp2_with fail
   refine(HC.out _ HB.out).mono ?_
   rintro e w2 hO
   obtain⟨va',nn,cc,ii,er,rfl,hr2,hO2⟩:=qAl (w:=w) hO (HB0.out.trans (HB.out.mono HB0.out.size)) (show w.heap.size≤w.heap.size+1+1 by omega) HRb.out HL.out
   have HO2:=Lib.hid hO2
   have HR2:=Lib.hid hr2
   clear hO hO2 t0 tz n0 n1 n2 n3 n4 n5 n6 n7 nz
   obtain⟨y0,yf,yz⟩:=qA6 hr2
   clear hr2
   go_wp2_with fail
   refine bodyPost_ret (qA4 rfl _ _ (w.heap.size+1+1) _ _ _ _ rfl (qAf HR2.out) Tryz.underlying33 rfl qA3) rfl ?_
   exact HO2.out
theorem qX4 {x:NodeA} {k:Nat} (h:standsB x k=true) (ho:¬x.op=13):x=⟨x.op,arityA x.op,if 0<arityA x.op then x.a0 else 0,if 1<arityA x.op then x.a1 else 0,if 2<arityA x.op then x.a2 else 0,x.sort,0,if x.op=10∨x.op=11∨x.op=12 then x.num else 0⟩∧(x.op=10∨x.op=11∨x.op=12→qAn x.num=true):=by
 unfold standsB at h
 rw[decide_eq_true_eq] at h
 obtain⟨⟨_,_,h2⟩,_,h4,h5,h6⟩:=h
 rw[if_neg ho] at h2
 have hz:∀ {a:Int} {i:Nat},qBr x.len a i k→(if (i:Int)<x.len then a else 0)=a:=fun {a i} ha=>by
  split
  ·rfl
  ·rename_i hn
   exact(ha.2 (by omega)).symm
 have z4:=hz h4
 have z5:=hz h5
 have z6:=hz h6
 by_cases h10:x.op=10∨x.op=11∨x.op=12
 ·rw[if_pos h10] at h2
  obtain⟨hl,hf,hm⟩:=h2
  rw[hl] at z4 z5 z6
  refine⟨?_,fun _=>hm⟩
  rw[if_pos h10]
  cases x
  simp only at hl hf z4 z5 z6 ⊢
  subst hl hf
  rw[show (if 0<arityA _ then _ else (0:Int))=_ from z4,show (if 1<arityA _ then _ else (0:Int))=_ from z5,show (if 2<arityA _ then _ else (0:Int))=_ from z6]
 ·rw[if_neg h10] at h2
  obtain⟨hl,hf,hm⟩:=h2
  rw[hl] at z4 z5 z6
  refine⟨?_,fun h=>absurd h h10⟩
  rw[if_neg h10]
  cases x
  simp only at hl hf hm z4 z5 z6 ⊢
  subst hl hf hm
  rw[show (if 0<arityA _ then _ else (0:Int))=_ from z4,show (if 1<arityA _ then _ else (0:Int))=_ from z5,show (if 2<arityA _ then _ else (0:Int))=_ from z6]
theorem zAk {vs:List Int} {f:Nat→Int} (hl:vs.length=1) (h:∀j:Nat,j<vs.length→vs[j]? = some (f j)):vs=[f 0]:=by
 match vs,hl with
 | [a],_=>have:=h 0 (by simp);simp at this;rw[this]
theorem list2 {vs:List Int} {f:Nat→Int} (hl:vs.length=2) (h:∀j:Nat,j<vs.length→vs[j]? = some (f j)):vs=[f 0,f 1]:=by
 match vs,hl with
 | [a,b],_=>have h0:=h 0 (by simp);have h1:=h 1 (by simp);simp at h0 h1;rw[h0,h1]
theorem list3 {vs:List Int} {f:Nat→Int} (hl:vs.length=3) (h:∀j:Nat,j<vs.length→vs[j]? = some (f j)):vs=[f 0,f 1,f 2]:=by
 match vs,hl with
 | [a,b,c],_=>have h0:=h 0 (by simp);have h1:=h 1 (by simp);have h2:=h 2 (by simp);simp at h0 h1 h2;rw[h0,h1,h2]
theorem IntsR.at1 {w:World} {x:Int} {va:Option Addr} {d:Nat} (h:IntsR w [x] va d):∃g o:Nat,va=some ⟨g,o,none⟩∧g<w.heap.size∧w.cell? ⟨g,o,none⟩=some (.int .i64 x):=h.cell (k:=0) rfl
theorem IntsR.at2 {w:World} {x y:Int} {va:Option Addr} {d:Nat} (h:IntsR w [x,y] va d):∃g o:Nat,va=some ⟨g,o,none⟩∧g<w.heap.size∧w.cell? ⟨g,o,none⟩=some (.int .i64 x)∧w.cell? ⟨g,o+1,none⟩=some (.int .i64 y):=by
 obtain⟨g,o,rfl,hg,h0⟩:=h.cell (k:=0) rfl
 obtain⟨g',o',e,_,h1⟩:=h.cell (k:=1) rfl
 cases e
 exact⟨g,o,rfl,hg,h0,h1⟩
theorem IntsR.at3 {w:World} {x y z:Int} {va:Option Addr} {d:Nat} (h:IntsR w [x,y,z] va d):∃g o:Nat,va=some ⟨g,o,none⟩∧g<w.heap.size∧w.cell? ⟨g,o,none⟩=some (.int .i64 x)∧w.cell? ⟨g,o+1,none⟩=some (.int .i64 y)∧w.cell? ⟨g,o+2,none⟩=some (.int .i64 z):=by
 obtain⟨g,o,rfl,hg,h0⟩:=h.cell (k:=0) rfl
 obtain⟨g',o',e,_,h1⟩:=h.cell (k:=1) rfl
 cases e
 obtain⟨g',o',e,_,h2⟩:=h.cell (k:=2) rfl
 cases e
 exact⟨g,o,rfl,hg,h0,h1,h2⟩
theorem qX5 {s:MkS} (hI:MkI s):PlA s 1∧srt s.l 1=1∧(qA0 s.l 1).1=1:=by
 have hz:=mayT_zero hI.may
 have hl:=hI.le
 have hg:=nodA_get (l:=s.l) (k:=1) (by omega)
 rw[hz] at hg
 have hn:qAd s.l 1=qD5:=(Option.some.inj hg).symm
 refine⟨⟨by decide,by omega⟩,?_,?_⟩
 ·show (qAd s.l 1).sort=1
  rw[hn];rfl
 ·unfold qA0
  rw[hn];rfl
set_option maxHeartbeats 4000000 in
theorem qSz {s:MkS} (hI:MkI s) (h0:s.e=0) (hQ:QO s.l) (hW:WS s.l) (most:Int) (hm:most≤2000) {x:NodeA} (hst:standsB x s.l.length=true) (hw:WsN s.l x) {p0 p1 p2:Int} {vs:List Int} (hvl:vs.length=x.len.toNat) (hva:∀j:Nat,j<vs.length→vs[j]? = some (qBc x j)) {va:Option Addr} {d:Nat} {w:World} (hv:IntsR w vs va d) (a:Option Addr) (c:Nat) (hA:TabN w s.l a c) :
  Calls Tryz.prog 33 #[.agg #[.slice a s.l.length c],.agg #[.int .i8 x.op,.int .i8 x.len,.int .i64 p0,.int .i64 p1,.int .i64 p2,.int .i64 x.sort,.int .i64 x.fn,.int .i64 x.num],.slice va vs.length d,.int .i64 most] w (qB4 w (qCs most s x)):=by
 have hok:=qCh hst hI.len
 have HL:(qCs most s x).1.e=0→0<(qCs most s x).1.l.length:=fun _=>by
  have:=(qLx (most:=most) hI hm hok hst).inv.le
  omega
 obtain⟨hl3,hlen,harg⟩:=stands_args hst
 have hT:∀V,Below w.heap.size w V→TabN V s.l a c:=fun V hV=>hA.below hV
 have hlp:=hI.le
 have hrng:0≤x.op∧x.op<14:=by
  unfold standsB at hst
  rw[decide_eq_true_eq] at hst
  exact⟨hst.1.1,hst.1.2.1⟩
 by_cases c13:x.op=13
 ·have hr:qCs most s x=qAq most s x:=by
   unfold qCs
   rw[if_neg (by omega),if_neg (by omega),if_neg (by omega),if_neg (by omega),if_neg (by omega),if_neg (by omega),if_neg (by omega),if_neg (by omega),if_neg (by omega)]
  rw[hr] at HL ⊢
  have hz:∀j:Nat,vs.length≤j→j<3→qBc x j=0:=fun j h1 h2=>by
   have h:=hst
   unfold standsB at h
   rw[decide_eq_true_eq] at h
   obtain⟨⟨_,_,h3⟩,_,h4,h5,h6⟩:=h
   rw[if_pos c13] at h3
   have hc:j=0∨j=1∨j=2:=by omega
   rcases hc with rfl|rfl|rfl
   ·exact h4.2 (by omega)
   ·exact h5.2 (by omega)
   ·exact h6.2 (by omega)
  rw[c13]
  exact qSy c13 hv (by omega) hva hz (fun V hV=>qEu hI h0 most hm x hst a c V (hT V hV)) HL
 obtain⟨hx,hmay⟩:=qX4 hst c13
 have hlx:x.len=arityA x.op:=by rcases hlen with h|h<;>first|exact absurd h c13|exact h
 have hc:x.op=0∨x.op=1∨x.op=2∨x.op=3∨x.op=4∨x.op=5∨x.op=6∨x.op=7∨x.op=8∨x.op=9∨x.op=10∨x.op=11∨x.op=12:=by omega
 rcases hc with ho|ho|ho|ho|ho|ho|ho|ho|ho|ho|ho|ho|ho
 ·have hs:=hw.s0 ho
  have e:x=trueN:=by rw[ho,hs] at hx;exact hx
  have hr:qCs most s x=(s,0):=by
   rw[e];exact(show qCs most s trueN=qAq most s trueN from rfl).trans (qSp hI h0)
  rw[hr,ho]
  exact qX1 h0 (by omega) hA
 ·have hl1:x.len=1:=by rw[hlx,ho];decide
  obtain rfl:=zAk (by omega) hva
  obtain⟨hs,s0⟩:=hw.s1 ho
  have e:x=qMz 1 x.a0:=by rw[ho,hs] at hx;exact hx
  have hr:qCs most s x=qDg most s x.a0:=by
   unfold qCs qDg
   rw[if_pos ho,←e]
  rw[hr] at HL ⊢
  obtain⟨g,o,rfl,hg,q0⟩:=hv.at1
  rw[ho]
  exact qWs hg q0 (fun V hV=>qJv hI h0 most hm (harg 0 (by omega)) s0 a c V (hT V hV)) HL
 ·have hl1:x.len=2:=by rw[hlx,ho];decide
  obtain rfl:=list2 (by omega) hva
  obtain⟨hs,s0,s1⟩:=hw.s2 (by omega)
  have e:qGk 2 [x.a0,x.a1] 3 0=x:=by rw[ho,hs] at hx;exact hx.symm
  have hr:qCs most s x=qAq most s (qGk 2 [x.a0,x.a1] 3 0):=by
   unfold qCs
   rw[if_neg (by omega),if_neg (by omega),if_neg (by omega),if_neg (by omega),if_neg (by omega),if_neg (by omega),if_neg (by omega),if_neg (by omega),if_neg (by omega),e]
  rw[hr] at HL ⊢
  rw[ho]
  have he:opE 2 ([x.a0,x.a1].map (srt s.l))=0∧opV 2 ([x.a0,x.a1].map (srt s.l))=0:=by
   show opE 2 [srt s.l x.a0,srt s.l x.a1]=0∧opV 2 [srt s.l x.a0,srt s.l x.a1]=0
   rw[s0,s1];exact⟨rfl,rfl⟩
  exact qWt (fun V hV=>qEe hI h0 most hm 2 (qCi (by decide)) [x.a0,x.a1] (by simp) (by simp) (PlA.mem2 (harg 0 (by omega)) (harg 1 (by omega))) 0 he.1 he.2 (by rw[e];exact hst) a c va d V (hT V hV) (hv.below hV)) HL
 ·have hl1:x.len=2:=by rw[hlx,ho];decide
  obtain rfl:=list2 (by omega) hva
  obtain⟨hs,s0,s1⟩:=hw.s2 (by omega)
  have e:qGk 3 [x.a0,x.a1] 3 0=x:=by rw[ho,hs] at hx;exact hx.symm
  have hr:qCs most s x=qAq most s (qGk 3 [x.a0,x.a1] 3 0):=by
   unfold qCs
   rw[if_neg (by omega),if_neg (by omega),if_neg (by omega),if_neg (by omega),if_neg (by omega),if_neg (by omega),if_neg (by omega),if_neg (by omega),if_neg (by omega),e]
  rw[hr] at HL ⊢
  rw[ho]
  have he:opE 3 ([x.a0,x.a1].map (srt s.l))=0∧opV 3 ([x.a0,x.a1].map (srt s.l))=0:=by
   show opE 3 [srt s.l x.a0,srt s.l x.a1]=0∧opV 3 [srt s.l x.a0,srt s.l x.a1]=0
   rw[s0,s1];exact⟨rfl,rfl⟩
  exact qWu (fun V hV=>qEe hI h0 most hm 3 (qCi (by decide)) [x.a0,x.a1] (by simp) (by simp) (PlA.mem2 (harg 0 (by omega)) (harg 1 (by omega))) 0 he.1 he.2 (by rw[e];exact hst) a c va d V (hT V hV) (hv.below hV)) HL
 ·have hl1:x.len=2:=by rw[hlx,ho];decide
  obtain rfl:=list2 (by omega) hva
  obtain⟨hs,s0,s1⟩:=hw.s2 (by omega)
  have hr:qCs most s x=qDg most (eqM most s (qAk 6 x.a0 x.a1 0)).1 (eqM most s (qAk 6 x.a0 x.a1 0)).2:=by
   unfold qCs
   rw[if_neg (by omega),if_pos ho];rfl
  rw[hr] at HL ⊢
  rw[ho]
  obtain⟨g,o,rfl,hg,q0,q1⟩:=hv.at2
  exact qWv hg q0 q1 (fun V hV=>qSq hI h0 hW most hm (harg 0 (by omega)) (harg 1 (by omega)) s0 s1 a c V (hT V hV)) HL
 ·have hl1:x.len=2:=by rw[hlx,ho];decide
  obtain rfl:=list2 (by omega) hva
  obtain⟨hs,s0,s1⟩:=hw.s2 (by omega)
  have hr:qCs most s x=qAq most (qDg most s x.a0).1 (qAk 3 (qDg most s x.a0).2 x.a1 0):=by
   unfold qCs
   rw[if_neg (by omega),if_neg (by omega),if_pos ho];rfl
  rw[hr] at HL ⊢
  rw[ho]
  obtain⟨g,o,rfl,hg,q0,q1⟩:=hv.at2
  exact qWw hg q0 q1 (fun V hV=>qSr hI h0 hW most hm (harg 0 (by omega)) (harg 1 (by omega)) s0 s1 a c V (hT V hV)) HL
 ·have hl1:x.len=2:=by rw[hlx,ho];decide
  obtain rfl:=list2 (by omega) hva
  obtain⟨hs,s0⟩:=hw.s6 ho
  have e:qAk 6 x.a0 x.a1 0=x:=by rw[ho,hs] at hx;exact hx.symm
  have hr:qCs most s x=eqM most s (qAk 6 x.a0 x.a1 0):=by
   unfold qCs
   rw[if_neg (by omega),if_neg (by omega),if_neg (by omega),if_pos ho,e]
  rw[hr] at HL ⊢
  rw[ho]
  obtain⟨g,o,rfl,hg,q0,q1⟩:=hv.at2
  exact qWx hg q0 q1 (fun V hV=>qO7 hI h0 hQ hW most hm (harg 0 (by omega)) (harg 1 (by omega)) s0 a c V (hT V hV)) HL
 ·have hl1:x.len=3:=by rw[hlx,ho];decide
  obtain rfl:=list3 (by omega) hva
  obtain⟨s0,s1,s2⟩:=hw.s7 ho
  have e:qGk 7 [x.a0,x.a1,x.a2] 3 x.sort=x:=by rw[ho] at hx;exact hx.symm
  have hr:qCs most s x=qIv most s (qGk 7 [x.a0,x.a1,x.a2] 3 x.sort):=by
   unfold qCs
   rw[if_neg (by omega),if_neg (by omega),if_neg (by omega),if_neg (by omega),if_pos ho,e]
  rw[hr] at HL ⊢
  rw[ho]
  obtain⟨g,o,rfl,hg,q0,q1,q2⟩:=hv.at3
  exact qWy hg q0 q1 q2 (fun V hV=>qSt hI h0 hQ hW most hm (harg 0 (by omega)) (harg 1 (by omega)) (harg 2 (by omega)) s0 s1 s2 a c V (hT V hV)) HL
 ·have hl1:x.len=2:=by rw[hlx,ho];decide
  obtain rfl:=list2 (by omega) hva
  obtain⟨hs,s0,s1⟩:=hw.s8 (by omega)
  have hr:qCs most s x=leM most s x.a0 x.a1 0:=by
   unfold qCs
   rw[if_neg (by omega),if_neg (by omega),if_neg (by omega),if_neg (by omega),if_neg (by omega),if_pos ho]
  rw[hr] at HL ⊢
  rw[ho]
  obtain⟨g,o,rfl,hg,q0,q1⟩:=hv.at2
  exact qWz hg q0 q1 (fun V hV=>qHy hI h0 hQ most hm (harg 0 (by omega)) (harg 1 (by omega)) s0 s1 0 a c V (hT V hV)) HL
 ·have hl1:x.len=2:=by rw[hlx,ho];decide
  obtain rfl:=list2 (by omega) hva
  obtain⟨hs,s0,s1⟩:=hw.s8 (by omega)
  have hr:qCs most s x=leM most s x.a0 x.a1 (-1):=by
   unfold qCs
   rw[if_neg (by omega),if_neg (by omega),if_neg (by omega),if_neg (by omega),if_neg (by omega),if_neg (by omega),if_pos ho]
  rw[hr] at HL ⊢
  rw[ho]
  obtain⟨g,o,rfl,hg,q0,q1⟩:=hv.at2
  exact qX0 hg q0 q1 (fun V hV=>qHy hI h0 hQ most hm (harg 0 (by omega)) (harg 1 (by omega)) s0 s1 (-1) a c V (hT V hV)) HL
 ·have hs:=hw.s10 ho
  have e:x=⟨10,0,0,0,0,1,0,x.num⟩:=by rw[ho,hs] at hx;exact hx
  have hr:qCs most s x=qFy most s 1 x.num:=by
   have h1:qCs most s x=qAq most s x:=by
    unfold qCs
    rw[if_neg (by omega),if_neg (by omega),if_neg (by omega),if_neg (by omega),if_neg (by omega),if_neg (by omega),if_neg (by omega),if_neg (by omega),if_neg (by omega)]
   rw[h1]
   unfold qFy
   rw[if_pos rfl,←e]
  rw[hr] at HL ⊢
  rw[ho]
  obtain⟨hz,sz,hsp⟩:=qX5 hI
  exact qSu (fun V hV=>qKx hI h0 hQ most hm hz sz hsp (hmay (.inl ho)) a c V (hT V hV)) HL
 ·have hl1:x.len=1:=by rw[hlx,ho];decide
  obtain rfl:=zAk (by omega) hva
  obtain⟨hs,s0⟩:=hw.s11 ho
  have e:x=⟨11,1,x.a0,0,0,1,0,x.num⟩:=by rw[ho,hs] at hx;exact hx
  have hr:qCs most s x=qIw most s ⟨11,1,x.a0,0,0,1,0,x.num⟩:=by
   unfold qCs
   rw[if_neg (by omega),if_neg (by omega),if_neg (by omega),if_neg (by omega),if_neg (by omega),if_neg (by omega),if_neg (by omega),if_pos ho,←e]
  rw[hr] at HL ⊢
  rw[ho]
  obtain⟨g,o,rfl,hg,q0⟩:=hv.at1
  exact qSv hg q0 (fun V hV=>qQ1 hI h0 hQ hW most hm (harg 0 (by omega)) s0 a c V (hT V hV)) HL
 ·have hl1:x.len=2:=by rw[hlx,ho];decide
  obtain rfl:=list2 (by omega) hva
  obtain⟨hs,s0,s1⟩:=hw.s8 (by omega)
  have hr:qCs most s x=leM most s x.a0 x.a1 x.num:=by
   unfold qCs
   rw[if_neg (by omega),if_neg (by omega),if_neg (by omega),if_neg (by omega),if_neg (by omega),if_neg (by omega),if_neg (by omega),if_neg (by omega),if_pos ho]
  rw[hr] at HL ⊢
  rw[ho]
  obtain⟨g,o,rfl,hg,q0,q1⟩:=hv.at2
  exact qSw hg q0 q1 (fun V hV=>qHy hI h0 hQ most hm (harg 0 (by omega)) (harg 1 (by omega)) s0 s1 x.num a c V (hT V hV)) HL
end Go.Proofs.YtfgpimhdjlmapaaGreatDoor.Tm
