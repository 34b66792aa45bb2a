/- The document's image of a node, kind by kind: the walks. -/
import Derived.Laws.CopyOwn
import Derived.Deep.LoopGhost
import Derived.Laws.MakeOwn
import Derived.Laws.EntriesVeiled
import Derived.Deep.RegionHeldLaw
import Derived.Test.YtfgpimhdjlmapaaGreatDoorDaF
import Derived.Test.YtfgpimhdjlmapaaGreatDoorSgA
namespace Go.Proofs.YtfgpimhdjlmapaaGreatDoor.Tm
open Go.RowKit
set_option linter.unusedVariables false
set_option maxRecDepth 100000
theorem qA7 {V:World} {b g o:Nat} {v u:Value} (h:V.cell? ⟨g,o,none⟩=some u) (hb:g≠b):(V.setCell ⟨b,0,none⟩ v).cell? ⟨g,o,none⟩=some u:=by
 have:(V.setCell ⟨b,0,none⟩ v).heap[g]? = V.heap[g]?:=Below.heap_setCell V _ _ _ (fun e=>hb (by simpa using e))
 rw[←h]
 simp only[World.cell?,this]
set_option maxHeartbeats 16000000 in
theorem qSu {w:World} {a:Option Addr} {ln c:Nat} {ll p0 p1 p2 so fn nu most:Int} {va:Option Addr} {k:Nat} {d:Nat} {r:MkS × Int} (hC:∀V,Below w.heap.size w V→Calls Tryz.prog 47 #[.agg #[.slice a ln c],.int .i64 1,.int .i64 nu,.int .i64 most] V (qB4 V r)) (hL:r.1.e=0→0<r.1.l.length) :
  Calls Tryz.prog 33 #[.agg #[.slice a ln c],.agg #[.int .i8 10,.int .i8 ll,.int .i64 p0,.int .i64 p1,.int .i64 p2,.int .i64 so,.int .i64 fn,.int .i64 nu],.slice va k d,.int .i64 most] w (qB4 w r):=by
 obtain⟨W0,hW0⟩:∃W0,W0=((w.alloc (.cells #[.slice a ln c] 33)).alloc (.cells #[.int .i8 10,.int .i8 ll,.int .i64 p0,.int .i64 p1,.int .i64 p2,.int .i64 so,.int .i64 fn,.int .i64 nu] 54)).alloc (.cells #[.slice none 0 0] 33):=⟨_,rfl⟩
 obtain⟨hB0,hXX⟩:=qB6 (n:=⟨10,ll,p0,p1,p2,so,fn,nu⟩) hW0
 obtain⟨⟨t0,tz⟩,hnb,hrb⟩:=hXX _ (Below.refl _ _)
 obtain⟨n0,-,-,-,-,-,-,n7,nz⟩:=qAi hnb
 obtain⟨y0,yf,yz⟩:=qA6 hrb
 replace n0:W0.cell? ⟨w.heap.size+1,0,none⟩=some (.int .i8 10):=n0
 replace n7:W0.cell? ⟨w.heap.size+1,7,none⟩=some (.int .i64 nu):=n7
 have gn:True:=trivial
 have HC:Hid (∀V,Below W0.heap.size W0 V→Calls Tryz.prog 47 #[.agg #[.slice a ln c],.int .i64 1,.int .i64 nu,.int .i64 most] V (qB4 V r)):=fun V hV=>hC V (hB0.trans (hV.mono hB0.size))
 have HR:Hid (∀V,Below W0.heap.size W0 V→Below w.heap.size w V∧V.heap[w.heap.size+1+1]? = some (.cells #[.slice none 0 0] 33 (0,0))):=fun V hV=>⟨hB0.trans (hV.mono hB0.size),(hXX V hV).2.2⟩
 have HL:=Lib.hid hL
 clear hC hL hB0 hXX hnb hrb gn
 rw[hW0] at t0 tz n0 n7 nz y0 yf yz
 go_enter Tryz.func33,Tryz.ntmps33
 go_wp2_with fail
 rw[←hW0]
 clear hW0
 with_reducible refine(HC.out _ (Below.refl _ _)).mono ?_
 rintro e w2 hO
 obtain⟨va',nn,cc,ii,er,rfl,hr2,hO2⟩:=qAl (w:=w) hO (HR.out _ (Below.refl _ _)).1 (show w.heap.size≤w.heap.size+1+1 by omega) (HR.out _ (Below.refl _ _)).2 HL.out
 have HO2:=Lib.hid hO2
 have HR2:=Lib.hid hr2
 clear hO hO2 t0 tz n0 n7 nz y0 yf yz
 obtain⟨y0,yf,yz⟩:=qA6 hr2
 clear hr2
 go_wp2_with fail
 refine bodyPost_ret (qA4 rfl _ _ (w.heap.size+1+1) _ _ _ _ rfl (qAf HR2.out) Tryz.underlying33 rfl qA3) rfl ?_
 exact HO2.out
set_option maxHeartbeats 16000000 in
theorem qSv {w:World} {a:Option Addr} {ln c:Nat} {ll p0 p1 p2 so fn nu most:Int} {gb ob:Nat} {x0:Int} {d:Nat} (hg:gb<w.heap.size) (hx0:w.cell? ⟨gb,ob,none⟩=some (.int .i64 x0)) {r:MkS × Int} (hC:∀V,Below w.heap.size w V→Calls Tryz.prog 48 #[.agg #[.slice a ln c],.int .i64 x0,.int .i64 nu,.int .i64 most] V (qB4 V r)) (hL:r.1.e=0→0<r.1.l.length) :
  Calls Tryz.prog 33 #[.agg #[.slice a ln c],.agg #[.int .i8 11,.int .i8 ll,.int .i64 p0,.int .i64 p1,.int .i64 p2,.int .i64 so,.int .i64 fn,.int .i64 nu],.slice (some ⟨gb,ob,none⟩) 1 d,.int .i64 most] w (qB4 w r):=by
 obtain⟨W0,hW0⟩:∃W0,W0=((w.alloc (.cells #[.slice a ln c] 33)).alloc (.cells #[.int .i8 11,.int .i8 ll,.int .i64 p0,.int .i64 p1,.int .i64 p2,.int .i64 so,.int .i64 fn,.int .i64 nu] 54)).alloc (.cells #[.slice none 0 0] 33):=⟨_,rfl⟩
 obtain⟨hB0,hXX⟩:=qB6 (n:=⟨11,ll,p0,p1,p2,so,fn,nu⟩) hW0
 obtain⟨⟨t0,tz⟩,hnb,hrb⟩:=hXX _ (Below.refl _ _)
 obtain⟨n0,-,-,-,-,-,-,n7,nz⟩:=qAi hnb
 obtain⟨y0,yf,yz⟩:=qA6 hrb
 replace n0:W0.cell? ⟨w.heap.size+1,0,none⟩=some (.int .i8 11):=n0
 replace n7:W0.cell? ⟨w.heap.size+1,7,none⟩=some (.int .i64 nu):=n7
 have qx0:=(hB0.cell (p:=⟨gb,ob,none⟩) hg).trans hx0
 have gz:gb<W0.heap.size:=Nat.lt_of_lt_of_le hg hB0.size
 have gn:gb≠w.heap.size+1+1:=by omega
 have HS:Hid (∀V,Below W0.heap.size W0 V→V.cell? ⟨w.heap.size,0,none⟩=some (.slice a ln c)∧V.cell? ⟨w.heap.size+1,0,none⟩=some (.int .i8 11)∧V.cell? ⟨w.heap.size+1,7,none⟩=some (.int .i64 nu)∧V.cell? ⟨gb,ob,none⟩=some (.int .i64 x0)):=fun V hV=>⟨(hV.cell (p:=⟨w.heap.size,0,none⟩) tz).trans t0,(hV.cell (p:=⟨w.heap.size+1,0,none⟩) nz).trans n0,(hV.cell (p:=⟨w.heap.size+1,7,none⟩) nz).trans n7,(hV.cell (p:=⟨gb,ob,none⟩) gz).trans qx0⟩
 have HSu:Hid (∀V u,Below W0.heap.size W0 V→(V.setCell ⟨w.heap.size+1+1,0,none⟩ u).cell? ⟨w.heap.size,0,none⟩=some (.slice a ln c)∧(V.setCell ⟨w.heap.size+1+1,0,none⟩ u).cell? ⟨w.heap.size+1,0,none⟩=some (.int .i8 11)∧(V.setCell ⟨w.heap.size+1+1,0,none⟩ u).cell? ⟨w.heap.size+1,7,none⟩=some (.int .i64 nu)∧(V.setCell ⟨w.heap.size+1+1,0,none⟩ u).cell? ⟨gb,ob,none⟩=some (.int .i64 x0)):=fun V u hV=>⟨qA7 ((hV.cell (p:=⟨w.heap.size,0,none⟩) tz).trans t0) (by omega),qA7 ((hV.cell (p:=⟨w.heap.size+1,0,none⟩) nz).trans n0) (by omega),qA7 ((hV.cell (p:=⟨w.heap.size+1,7,none⟩) nz).trans n7) (by omega),qA7 ((hV.cell (p:=⟨gb,ob,none⟩) gz).trans qx0) gn⟩
 have HC:Hid (∀V,Below W0.heap.size W0 V→Calls Tryz.prog 48 #[.agg #[.slice a ln c],.int .i64 x0,.int .i64 nu,.int .i64 most] V (qB4 V r)):=fun V hV=>hC V (hB0.trans (hV.mono hB0.size))
 have HR:Hid (∀V,Below W0.heap.size W0 V→Below w.heap.size w V∧V.heap[w.heap.size+1+1]? = some (.cells #[.slice none 0 0] 33 (0,0))):=fun V hV=>⟨hB0.trans (hV.mono hB0.size),(hXX V hV).2.2⟩
 have HL:=Lib.hid hL
 clear hC hL hB0 hXX hnb hrb gn hg hx0
 rw[hW0] at t0 tz n0 n7 nz y0 yf yz gz qx0
 go_enter Tryz.func33,Tryz.ntmps33
 go_wp2_with fail
 rw[←hW0] at t0 tz n0 n7 nz y0 yf yz gz qx0
 rw[←hW0]
 clear hW0
 go_region_held3 (fun V=>V.cell? ⟨w.heap.size,0,none⟩=some (.slice a ln c)∧V.cell? ⟨w.heap.size+1,0,none⟩=some (.int .i8 11)∧V.cell? ⟨w.heap.size+1,7,none⟩=some (.int .i64 nu)∧V.cell? ⟨gb,ob,none⟩=some (.int .i64 x0))
  (first|exact⟨t0,n0,n7,qx0⟩|exact HS.out _ (Below.refl _ _).drew|with_reducible exact HS.out _ HB2.out|with_reducible exact HSu.out _ _ HB2.out)
  (first|(go_at_call 48;refine(HC.out _ (Below.refl _ _).drew).mono ?_;rintro e w2 hO;have HB2:Hid (Below W0.heap.size W0 w2):=(show Below W0.heap.size W0 W0.drew from (Below.refl _ W0).drew).trans (hO.1.mono (Nat.le_refl _));obtain⟨va',nn,cc,ii,er,rfl,hr2,hO2⟩:=qAl (w:=w) hO (HR.out _ (Below.refl _ _).drew).1 (show w.heap.size≤w.heap.size+1+1 by omega) (HR.out _ (Below.refl _ _).drew).2 HL.out;have HO2:=Lib.hid hO2;have HR2:=Lib.hid hr2;clear hO hO2 y0 yf yz;obtain⟨y0,yf,yz⟩:=qA6 hr2;clear hr2))
 go_wp2_with fail
 refine bodyPost_ret (qA4 rfl _ _ (w.heap.size+1+1) _ _ _ _ rfl (qAf HR2.out) Tryz.underlying33 rfl qA3) rfl ?_
 exact HO2.out
set_option maxHeartbeats 16000000 in
theorem qWs {w:World} {a:Option Addr} {ln c:Nat} {ll p0 p1 p2 so fn nu most:Int} {gb ob:Nat} {x0:Int} {d:Nat} (hg:gb<w.heap.size) (hx0:w.cell? ⟨gb,ob,none⟩=some (.int .i64 x0)) {r:MkS × Int} (hC:∀V,Below w.heap.size w V→Calls Tryz.prog 49 #[.agg #[.slice a ln c],.int .i64 x0,.int .i64 most] V (qB4 V r)) (hL:r.1.e=0→0<r.1.l.length) :
  Calls Tryz.prog 33 #[.agg #[.slice a ln c],.agg #[.int .i8 1,.int .i8 ll,.int .i64 p0,.int .i64 p1,.int .i64 p2,.int .i64 so,.int .i64 fn,.int .i64 nu],.slice (some ⟨gb,ob,none⟩) 1 d,.int .i64 most] w (qB4 w r):=by
 obtain⟨W0,hW0⟩:∃W0,W0=((w.alloc (.cells #[.slice a ln c] 33)).alloc (.cells #[.int .i8 1,.int .i8 ll,.int .i64 p0,.int .i64 p1,.int .i64 p2,.int .i64 so,.int .i64 fn,.int .i64 nu] 54)).alloc (.cells #[.slice none 0 0] 33):=⟨_,rfl⟩
 obtain⟨hB0,hXX⟩:=qB6 (n:=⟨1,ll,p0,p1,p2,so,fn,nu⟩) hW0
 obtain⟨⟨t0,tz⟩,hnb,hrb⟩:=hXX _ (Below.refl _ _)
 obtain⟨n0,-,-,-,-,-,-,n7,nz⟩:=qAi hnb
 obtain⟨y0,yf,yz⟩:=qA6 hrb
 replace n0:W0.cell? ⟨w.heap.size+1,0,none⟩=some (.int .i8 1):=n0
 replace n7:W0.cell? ⟨w.heap.size+1,7,none⟩=some (.int .i64 nu):=n7
 have qx0:=(hB0.cell (p:=⟨gb,ob,none⟩) hg).trans hx0
 have gz:gb<W0.heap.size:=Nat.lt_of_lt_of_le hg hB0.size
 have gn:gb≠w.heap.size+1+1:=by omega
 have HS:Hid (∀V,Below W0.heap.size W0 V→V.cell? ⟨w.heap.size,0,none⟩=some (.slice a ln c)∧V.cell? ⟨w.heap.size+1,0,none⟩=some (.int .i8 1)∧V.cell? ⟨w.heap.size+1,7,none⟩=some (.int .i64 nu)∧V.cell? ⟨gb,ob,none⟩=some (.int .i64 x0)):=fun V hV=>⟨(hV.cell (p:=⟨w.heap.size,0,none⟩) tz).trans t0,(hV.cell (p:=⟨w.heap.size+1,0,none⟩) nz).trans n0,(hV.cell (p:=⟨w.heap.size+1,7,none⟩) nz).trans n7,(hV.cell (p:=⟨gb,ob,none⟩) gz).trans qx0⟩
 have HSu:Hid (∀V u,Below W0.heap.size W0 V→(V.setCell ⟨w.heap.size+1+1,0,none⟩ u).cell? ⟨w.heap.size,0,none⟩=some (.slice a ln c)∧(V.setCell ⟨w.heap.size+1+1,0,none⟩ u).cell? ⟨w.heap.size+1,0,none⟩=some (.int .i8 1)∧(V.setCell ⟨w.heap.size+1+1,0,none⟩ u).cell? ⟨w.heap.size+1,7,none⟩=some (.int .i64 nu)∧(V.setCell ⟨w.heap.size+1+1,0,none⟩ u).cell? ⟨gb,ob,none⟩=some (.int .i64 x0)):=fun V u hV=>⟨qA7 ((hV.cell (p:=⟨w.heap.size,0,none⟩) tz).trans t0) (by omega),qA7 ((hV.cell (p:=⟨w.heap.size+1,0,none⟩) nz).trans n0) (by omega),qA7 ((hV.cell (p:=⟨w.heap.size+1,7,none⟩) nz).trans n7) (by omega),qA7 ((hV.cell (p:=⟨gb,ob,none⟩) gz).trans qx0) gn⟩
 have HC:Hid (∀V,Below W0.heap.size W0 V→Calls Tryz.prog 49 #[.agg #[.slice a ln c],.int .i64 x0,.int .i64 most] V (qB4 V r)):=fun V hV=>hC V (hB0.trans (hV.mono hB0.size))
 have HR:Hid (∀V,Below W0.heap.size W0 V→Below w.heap.size w V∧V.heap[w.heap.size+1+1]? = some (.cells #[.slice none 0 0] 33 (0,0))):=fun V hV=>⟨hB0.trans (hV.mono hB0.size),(hXX V hV).2.2⟩
 have HL:=Lib.hid hL
 clear hC hL hB0 hXX hnb hrb gn hg hx0
 rw[hW0] at t0 tz n0 n7 nz y0 yf yz gz qx0
 go_enter Tryz.func33,Tryz.ntmps33
 go_wp2_with fail
 rw[←hW0] at t0 tz n0 n7 nz y0 yf yz gz qx0
 rw[←hW0]
 clear hW0
 go_region_held3 (fun V=>V.cell? ⟨w.heap.size,0,none⟩=some (.slice a ln c)∧V.cell? ⟨w.heap.size+1,0,none⟩=some (.int .i8 1)∧V.cell? ⟨w.heap.size+1,7,none⟩=some (.int .i64 nu)∧V.cell? ⟨gb,ob,none⟩=some (.int .i64 x0))
  (first|exact⟨t0,n0,n7,qx0⟩|exact HS.out _ (Below.refl _ _).drew|with_reducible exact HS.out _ HB2.out|with_reducible exact HSu.out _ _ HB2.out)
  (first|(go_at_call 49;refine(HC.out _ (Below.refl _ _).drew).mono ?_;rintro e w2 hO;have HB2:Hid (Below W0.heap.size W0 w2):=(show Below W0.heap.size W0 W0.drew from (Below.refl _ W0).drew).trans (hO.1.mono (Nat.le_refl _));obtain⟨va',nn,cc,ii,er,rfl,hr2,hO2⟩:=qAl (w:=w) hO (HR.out _ (Below.refl _ _).drew).1 (show w.heap.size≤w.heap.size+1+1 by omega) (HR.out _ (Below.refl _ _).drew).2 HL.out;have HO2:=Lib.hid hO2;have HR2:=Lib.hid hr2;clear hO hO2 y0 yf yz;obtain⟨y0,yf,yz⟩:=qA6 hr2;clear hr2))
 go_wp2_with fail
 refine bodyPost_ret (qA4 rfl _ _ (w.heap.size+1+1) _ _ _ _ rfl (qAf HR2.out) Tryz.underlying33 rfl qA3) rfl ?_
 exact HO2.out
set_option maxHeartbeats 16000000 in
theorem qWt {w:World} {a:Option Addr} {ln c:Nat} {ll p0 p1 p2 so fn nu most:Int} {va:Option Addr} {d:Nat} {r:MkS × Int} (hC:∀V,Below w.heap.size w V→Calls Tryz.prog 50 #[.agg #[.slice a ln c],.int .i8 2,.slice va 2 d,.int .i64 most] V (qB4 V r)) (hL:r.1.e=0→0<r.1.l.length) :
  Calls Tryz.prog 33 #[.agg #[.slice a ln c],.agg #[.int .i8 2,.int .i8 ll,.int .i64 p0,.int .i64 p1,.int .i64 p2,.int .i64 so,.int .i64 fn,.int .i64 nu],.slice va 2 d,.int .i64 most] w (qB4 w r):=by
 obtain⟨W0,hW0⟩:∃W0,W0=((w.alloc (.cells #[.slice a ln c] 33)).alloc (.cells #[.int .i8 2,.int .i8 ll,.int .i64 p0,.int .i64 p1,.int .i64 p2,.int .i64 so,.int .i64 fn,.int .i64 nu] 54)).alloc (.cells #[.slice none 0 0] 33):=⟨_,rfl⟩
 obtain⟨hB0,hXX⟩:=qB6 (n:=⟨2,ll,p0,p1,p2,so,fn,nu⟩) hW0
 obtain⟨⟨t0,tz⟩,hnb,hrb⟩:=hXX _ (Below.refl _ _)
 obtain⟨n0,-,-,-,-,-,-,n7,nz⟩:=qAi hnb
 obtain⟨y0,yf,yz⟩:=qA6 hrb
 replace n0:W0.cell? ⟨w.heap.size+1,0,none⟩=some (.int .i8 2):=n0
 replace n7:W0.cell? ⟨w.heap.size+1,7,none⟩=some (.int .i64 nu):=n7
 have gn:True:=trivial
 have HC:Hid (∀V,Below W0.heap.size W0 V→Calls Tryz.prog 50 #[.agg #[.slice a ln c],.int .i8 2,.slice va 2 d,.int .i64 most] V (qB4 V r)):=fun V hV=>hC V (hB0.trans (hV.mono hB0.size))
 have HR:Hid (∀V,Below W0.heap.size W0 V→Below w.heap.size w V∧V.heap[w.heap.size+1+1]? = some (.cells #[.slice none 0 0] 33 (0,0))):=fun V hV=>⟨hB0.trans (hV.mono hB0.size),(hXX V hV).2.2⟩
 have HL:=Lib.hid hL
 clear hC hL hB0 hXX hnb hrb gn
 rw[hW0] at t0 tz n0 n7 nz y0 yf yz
 go_enter Tryz.func33,Tryz.ntmps33
 go_wp2_with fail
 rw[←hW0]
 clear hW0
 with_reducible refine(HC.out _ (Below.refl _ _)).mono ?_
 rintro e w2 hO
 obtain⟨va',nn,cc,ii,er,rfl,hr2,hO2⟩:=qAl (w:=w) hO (HR.out _ (Below.refl _ _)).1 (show w.heap.size≤w.heap.size+1+1 by omega) (HR.out _ (Below.refl _ _)).2 HL.out
 have HO2:=Lib.hid hO2
 have HR2:=Lib.hid hr2
 clear hO hO2 t0 tz n0 n7 nz y0 yf yz
 obtain⟨y0,yf,yz⟩:=qA6 hr2
 clear hr2
 go_wp2_with fail
 refine bodyPost_ret (qA4 rfl _ _ (w.heap.size+1+1) _ _ _ _ rfl (qAf HR2.out) Tryz.underlying33 rfl qA3) rfl ?_
 exact HO2.out
set_option maxHeartbeats 16000000 in
theorem qWu {w:World} {a:Option Addr} {ln c:Nat} {ll p0 p1 p2 so fn nu most:Int} {va:Option Addr} {d:Nat} {r:MkS × Int} (hC:∀V,Below w.heap.size w V→Calls Tryz.prog 50 #[.agg #[.slice a ln c],.int .i8 3,.slice va 2 d,.int .i64 most] V (qB4 V r)) (hL:r.1.e=0→0<r.1.l.length) :
  Calls Tryz.prog 33 #[.agg #[.slice a ln c],.agg #[.int .i8 3,.int .i8 ll,.int .i64 p0,.int .i64 p1,.int .i64 p2,.int .i64 so,.int .i64 fn,.int .i64 nu],.slice va 2 d,.int .i64 most] w (qB4 w r):=by
 obtain⟨W0,hW0⟩:∃W0,W0=((w.alloc (.cells #[.slice a ln c] 33)).alloc (.cells #[.int .i8 3,.int .i8 ll,.int .i64 p0,.int .i64 p1,.int .i64 p2,.int .i64 so,.int .i64 fn,.int .i64 nu] 54)).alloc (.cells #[.slice none 0 0] 33):=⟨_,rfl⟩
 obtain⟨hB0,hXX⟩:=qB6 (n:=⟨3,ll,p0,p1,p2,so,fn,nu⟩) hW0
 obtain⟨⟨t0,tz⟩,hnb,hrb⟩:=hXX _ (Below.refl _ _)
 obtain⟨n0,-,-,-,-,-,-,n7,nz⟩:=qAi hnb
 obtain⟨y0,yf,yz⟩:=qA6 hrb
 replace n0:W0.cell? ⟨w.heap.size+1,0,none⟩=some (.int .i8 3):=n0
 replace n7:W0.cell? ⟨w.heap.size+1,7,none⟩=some (.int .i64 nu):=n7
 have gn:True:=trivial
 have HC:Hid (∀V,Below W0.heap.size W0 V→Calls Tryz.prog 50 #[.agg #[.slice a ln c],.int .i8 3,.slice va 2 d,.int .i64 most] V (qB4 V r)):=fun V hV=>hC V (hB0.trans (hV.mono hB0.size))
 have HR:Hid (∀V,Below W0.heap.size W0 V→Below w.heap.size w V∧V.heap[w.heap.size+1+1]? = some (.cells #[.slice none 0 0] 33 (0,0))):=fun V hV=>⟨hB0.trans (hV.mono hB0.size),(hXX V hV).2.2⟩
 have HL:=Lib.hid hL
 clear hC hL hB0 hXX hnb hrb gn
 rw[hW0] at t0 tz n0 n7 nz y0 yf yz
 go_enter Tryz.func33,Tryz.ntmps33
 go_wp2_with fail
 rw[←hW0]
 clear hW0
 with_reducible refine(HC.out _ (Below.refl _ _)).mono ?_
 rintro e w2 hO
 obtain⟨va',nn,cc,ii,er,rfl,hr2,hO2⟩:=qAl (w:=w) hO (HR.out _ (Below.refl _ _)).1 (show w.heap.size≤w.heap.size+1+1 by omega) (HR.out _ (Below.refl _ _)).2 HL.out
 have HO2:=Lib.hid hO2
 have HR2:=Lib.hid hr2
 clear hO hO2 t0 tz n0 n7 nz y0 yf yz
 obtain⟨y0,yf,yz⟩:=qA6 hr2
 clear hr2
 go_wp2_with fail
 refine bodyPost_ret (qA4 rfl _ _ (w.heap.size+1+1) _ _ _ _ rfl (qAf HR2.out) Tryz.underlying33 rfl qA3) rfl ?_
 exact HO2.out
set_option maxHeartbeats 16000000 in
theorem qWv {w:World} {a:Option Addr} {ln c:Nat} {ll p0 p1 p2 so fn nu most:Int} {gb ob:Nat} {x0 x1:Int} {d:Nat} (hg:gb<w.heap.size) (hx0:w.cell? ⟨gb,ob,none⟩=some (.int .i64 x0)) (hx1:w.cell? ⟨gb,ob+1,none⟩=some (.int .i64 x1)) {r:MkS × Int} (hC:∀V,Below w.heap.size w V→Calls Tryz.prog 51 #[.agg #[.slice a ln c],.int .i8 4,.int .i64 x0,.int .i64 x1,.int .i64 most] V (qB4 V r)) (hL:r.1.e=0→0<r.1.l.length) :
  Calls Tryz.prog 33 #[.agg #[.slice a ln c],.agg #[.int .i8 4,.int .i8 ll,.int .i64 p0,.int .i64 p1,.int .i64 p2,.int .i64 so,.int .i64 fn,.int .i64 nu],.slice (some ⟨gb,ob,none⟩) 2 d,.int .i64 most] w (qB4 w r):=by
 obtain⟨W0,hW0⟩:∃W0,W0=((w.alloc (.cells #[.slice a ln c] 33)).alloc (.cells #[.int .i8 4,.int .i8 ll,.int .i64 p0,.int .i64 p1,.int .i64 p2,.int .i64 so,.int .i64 fn,.int .i64 nu] 54)).alloc (.cells #[.slice none 0 0] 33):=⟨_,rfl⟩
 obtain⟨hB0,hXX⟩:=qB6 (n:=⟨4,ll,p0,p1,p2,so,fn,nu⟩) hW0
 obtain⟨⟨t0,tz⟩,hnb,hrb⟩:=hXX _ (Below.refl _ _)
 obtain⟨n0,-,-,-,-,-,-,n7,nz⟩:=qAi hnb
 obtain⟨y0,yf,yz⟩:=qA6 hrb
 replace n0:W0.cell? ⟨w.heap.size+1,0,none⟩=some (.int .i8 4):=n0
 replace n7:W0.cell? ⟨w.heap.size+1,7,none⟩=some (.int .i64 nu):=n7
 have qx0:=(hB0.cell (p:=⟨gb,ob,none⟩) hg).trans hx0
 have qx1:=(hB0.cell (p:=⟨gb,ob+1,none⟩) hg).trans hx1
 have gz:gb<W0.heap.size:=Nat.lt_of_lt_of_le hg hB0.size
 have gn:gb≠w.heap.size+1+1:=by omega
 have HS:Hid (∀V,Below W0.heap.size W0 V→V.cell? ⟨w.heap.size,0,none⟩=some (.slice a ln c)∧V.cell? ⟨w.heap.size+1,0,none⟩=some (.int .i8 4)∧V.cell? ⟨w.heap.size+1,7,none⟩=some (.int .i64 nu)∧V.cell? ⟨gb,ob,none⟩=some (.int .i64 x0)∧V.cell? ⟨gb,ob+1,none⟩=some (.int .i64 x1)):=fun V hV=>⟨(hV.cell (p:=⟨w.heap.size,0,none⟩) tz).trans t0,(hV.cell (p:=⟨w.heap.size+1,0,none⟩) nz).trans n0,(hV.cell (p:=⟨w.heap.size+1,7,none⟩) nz).trans n7,(hV.cell (p:=⟨gb,ob,none⟩) gz).trans qx0,(hV.cell (p:=⟨gb,ob+1,none⟩) gz).trans qx1⟩
 have HSu:Hid (∀V u,Below W0.heap.size W0 V→(V.setCell ⟨w.heap.size+1+1,0,none⟩ u).cell? ⟨w.heap.size,0,none⟩=some (.slice a ln c)∧(V.setCell ⟨w.heap.size+1+1,0,none⟩ u).cell? ⟨w.heap.size+1,0,none⟩=some (.int .i8 4)∧(V.setCell ⟨w.heap.size+1+1,0,none⟩ u).cell? ⟨w.heap.size+1,7,none⟩=some (.int .i64 nu)∧(V.setCell ⟨w.heap.size+1+1,0,none⟩ u).cell? ⟨gb,ob,none⟩=some (.int .i64 x0)∧(V.setCell ⟨w.heap.size+1+1,0,none⟩ u).cell? ⟨gb,ob+1,none⟩=some (.int .i64 x1)):=fun V u hV=>⟨qA7 ((hV.cell (p:=⟨w.heap.size,0,none⟩) tz).trans t0) (by omega),qA7 ((hV.cell (p:=⟨w.heap.size+1,0,none⟩) nz).trans n0) (by omega),qA7 ((hV.cell (p:=⟨w.heap.size+1,7,none⟩) nz).trans n7) (by omega),qA7 ((hV.cell (p:=⟨gb,ob,none⟩) gz).trans qx0) gn,qA7 ((hV.cell (p:=⟨gb,ob+1,none⟩) gz).trans qx1) gn⟩
 have HC:Hid (∀V,Below W0.heap.size W0 V→Calls Tryz.prog 51 #[.agg #[.slice a ln c],.int .i8 4,.int .i64 x0,.int .i64 x1,.int .i64 most] V (qB4 V r)):=fun V hV=>hC V (hB0.trans (hV.mono hB0.size))
 have HR:Hid (∀V,Below W0.heap.size W0 V→Below w.heap.size w V∧V.heap[w.heap.size+1+1]? = some (.cells #[.slice none 0 0] 33 (0,0))):=fun V hV=>⟨hB0.trans (hV.mono hB0.size),(hXX V hV).2.2⟩
 have HL:=Lib.hid hL
 clear hC hL hB0 hXX hnb hrb gn hg hx0 hx1
 rw[hW0] at t0 tz n0 n7 nz y0 yf yz gz qx0 qx1
 go_enter Tryz.func33,Tryz.ntmps33
 go_wp2_with fail
 rw[←hW0] at t0 tz n0 n7 nz y0 yf yz gz qx0 qx1
 rw[←hW0]
 clear hW0
 go_region_held3 (fun V=>V.cell? ⟨w.heap.size,0,none⟩=some (.slice a ln c)∧V.cell? ⟨w.heap.size+1,0,none⟩=some (.int .i8 4)∧V.cell? ⟨w.heap.size+1,7,none⟩=some (.int .i64 nu)∧V.cell? ⟨gb,ob,none⟩=some (.int .i64 x0)∧V.cell? ⟨gb,ob+1,none⟩=some (.int .i64 x1))
  (first|exact⟨t0,n0,n7,qx0,qx1⟩|exact HS.out _ (Below.refl _ _).drew|with_reducible exact HS.out _ HB2.out|with_reducible exact HSu.out _ _ HB2.out)
  (first|(go_at_call 51;refine(HC.out _ (Below.refl _ _).drew).mono ?_;rintro e w2 hO;have HB2:Hid (Below W0.heap.size W0 w2):=(show Below W0.heap.size W0 W0.drew from (Below.refl _ W0).drew).trans (hO.1.mono (Nat.le_refl _));obtain⟨va',nn,cc,ii,er,rfl,hr2,hO2⟩:=qAl (w:=w) hO (HR.out _ (Below.refl _ _).drew).1 (show w.heap.size≤w.heap.size+1+1 by omega) (HR.out _ (Below.refl _ _).drew).2 HL.out;have HO2:=Lib.hid hO2;have HR2:=Lib.hid hr2;clear hO hO2 y0 yf yz;obtain⟨y0,yf,yz⟩:=qA6 hr2;clear hr2))
 go_wp2_with fail
 refine bodyPost_ret (qA4 rfl _ _ (w.heap.size+1+1) _ _ _ _ rfl (qAf HR2.out) Tryz.underlying33 rfl qA3) rfl ?_
 exact HO2.out
set_option maxHeartbeats 16000000 in
theorem qWw {w:World} {a:Option Addr} {ln c:Nat} {ll p0 p1 p2 so fn nu most:Int} {gb ob:Nat} {x0 x1:Int} {d:Nat} (hg:gb<w.heap.size) (hx0:w.cell? ⟨gb,ob,none⟩=some (.int .i64 x0)) (hx1:w.cell? ⟨gb,ob+1,none⟩=some (.int .i64 x1)) {r:MkS × Int} (hC:∀V,Below w.heap.size w V→Calls Tryz.prog 51 #[.agg #[.slice a ln c],.int .i8 5,.int .i64 x0,.int .i64 x1,.int .i64 most] V (qB4 V r)) (hL:r.1.e=0→0<r.1.l.length) :
  Calls Tryz.prog 33 #[.agg #[.slice a ln c],.agg #[.int .i8 5,.int .i8 ll,.int .i64 p0,.int .i64 p1,.int .i64 p2,.int .i64 so,.int .i64 fn,.int .i64 nu],.slice (some ⟨gb,ob,none⟩) 2 d,.int .i64 most] w (qB4 w r):=by
 obtain⟨W0,hW0⟩:∃W0,W0=((w.alloc (.cells #[.slice a ln c] 33)).alloc (.cells #[.int .i8 5,.int .i8 ll,.int .i64 p0,.int .i64 p1,.int .i64 p2,.int .i64 so,.int .i64 fn,.int .i64 nu] 54)).alloc (.cells #[.slice none 0 0] 33):=⟨_,rfl⟩
 obtain⟨hB0,hXX⟩:=qB6 (n:=⟨5,ll,p0,p1,p2,so,fn,nu⟩) hW0
 obtain⟨⟨t0,tz⟩,hnb,hrb⟩:=hXX _ (Below.refl _ _)
 obtain⟨n0,-,-,-,-,-,-,n7,nz⟩:=qAi hnb
 obtain⟨y0,yf,yz⟩:=qA6 hrb
 replace n0:W0.cell? ⟨w.heap.size+1,0,none⟩=some (.int .i8 5):=n0
 replace n7:W0.cell? ⟨w.heap.size+1,7,none⟩=some (.int .i64 nu):=n7
 have qx0:=(hB0.cell (p:=⟨gb,ob,none⟩) hg).trans hx0
 have qx1:=(hB0.cell (p:=⟨gb,ob+1,none⟩) hg).trans hx1
 have gz:gb<W0.heap.size:=Nat.lt_of_lt_of_le hg hB0.size
 have gn:gb≠w.heap.size+1+1:=by omega
 have HS:Hid (∀V,Below W0.heap.size W0 V→V.cell? ⟨w.heap.size,0,none⟩=some (.slice a ln c)∧V.cell? ⟨w.heap.size+1,0,none⟩=some (.int .i8 5)∧V.cell? ⟨w.heap.size+1,7,none⟩=some (.int .i64 nu)∧V.cell? ⟨gb,ob,none⟩=some (.int .i64 x0)∧V.cell? ⟨gb,ob+1,none⟩=some (.int .i64 x1)):=fun V hV=>⟨(hV.cell (p:=⟨w.heap.size,0,none⟩) tz).trans t0,(hV.cell (p:=⟨w.heap.size+1,0,none⟩) nz).trans n0,(hV.cell (p:=⟨w.heap.size+1,7,none⟩) nz).trans n7,(hV.cell (p:=⟨gb,ob,none⟩) gz).trans qx0,(hV.cell (p:=⟨gb,ob+1,none⟩) gz).trans qx1⟩
 have HSu:Hid (∀V u,Below W0.heap.size W0 V→(V.setCell ⟨w.heap.size+1+1,0,none⟩ u).cell? ⟨w.heap.size,0,none⟩=some (.slice a ln c)∧(V.setCell ⟨w.heap.size+1+1,0,none⟩ u).cell? ⟨w.heap.size+1,0,none⟩=some (.int .i8 5)∧(V.setCell ⟨w.heap.size+1+1,0,none⟩ u).cell? ⟨w.heap.size+1,7,none⟩=some (.int .i64 nu)∧(V.setCell ⟨w.heap.size+1+1,0,none⟩ u).cell? ⟨gb,ob,none⟩=some (.int .i64 x0)∧(V.setCell ⟨w.heap.size+1+1,0,none⟩ u).cell? ⟨gb,ob+1,none⟩=some (.int .i64 x1)):=fun V u hV=>⟨qA7 ((hV.cell (p:=⟨w.heap.size,0,none⟩) tz).trans t0) (by omega),qA7 ((hV.cell (p:=⟨w.heap.size+1,0,none⟩) nz).trans n0) (by omega),qA7 ((hV.cell (p:=⟨w.heap.size+1,7,none⟩) nz).trans n7) (by omega),qA7 ((hV.cell (p:=⟨gb,ob,none⟩) gz).trans qx0) gn,qA7 ((hV.cell (p:=⟨gb,ob+1,none⟩) gz).trans qx1) gn⟩
 have HC:Hid (∀V,Below W0.heap.size W0 V→Calls Tryz.prog 51 #[.agg #[.slice a ln c],.int .i8 5,.int .i64 x0,.int .i64 x1,.int .i64 most] V (qB4 V r)):=fun V hV=>hC V (hB0.trans (hV.mono hB0.size))
 have HR:Hid (∀V,Below W0.heap.size W0 V→Below w.heap.size w V∧V.heap[w.heap.size+1+1]? = some (.cells #[.slice none 0 0] 33 (0,0))):=fun V hV=>⟨hB0.trans (hV.mono hB0.size),(hXX V hV).2.2⟩
 have HL:=Lib.hid hL
 clear hC hL hB0 hXX hnb hrb gn hg hx0 hx1
 rw[hW0] at t0 tz n0 n7 nz y0 yf yz gz qx0 qx1
 go_enter Tryz.func33,Tryz.ntmps33
 go_wp2_with fail
 rw[←hW0] at t0 tz n0 n7 nz y0 yf yz gz qx0 qx1
 rw[←hW0]
 clear hW0
 go_region_held3 (fun V=>V.cell? ⟨w.heap.size,0,none⟩=some (.slice a ln c)∧V.cell? ⟨w.heap.size+1,0,none⟩=some (.int .i8 5)∧V.cell? ⟨w.heap.size+1,7,none⟩=some (.int .i64 nu)∧V.cell? ⟨gb,ob,none⟩=some (.int .i64 x0)∧V.cell? ⟨gb,ob+1,none⟩=some (.int .i64 x1))
  (first|exact⟨t0,n0,n7,qx0,qx1⟩|exact HS.out _ (Below.refl _ _).drew|with_reducible exact HS.out _ HB2.out|with_reducible exact HSu.out _ _ HB2.out)
  (first|(go_at_call 51;refine(HC.out _ (Below.refl _ _).drew).mono ?_;rintro e w2 hO;have HB2:Hid (Below W0.heap.size W0 w2):=(show Below W0.heap.size W0 W0.drew from (Below.refl _ W0).drew).trans (hO.1.mono (Nat.le_refl _));obtain⟨va',nn,cc,ii,er,rfl,hr2,hO2⟩:=qAl (w:=w) hO (HR.out _ (Below.refl _ _).drew).1 (show w.heap.size≤w.heap.size+1+1 by omega) (HR.out _ (Below.refl _ _).drew).2 HL.out;have HO2:=Lib.hid hO2;have HR2:=Lib.hid hr2;clear hO hO2 y0 yf yz;obtain⟨y0,yf,yz⟩:=qA6 hr2;clear hr2))
 go_wp2_with fail
 refine bodyPost_ret (qA4 rfl _ _ (w.heap.size+1+1) _ _ _ _ rfl (qAf HR2.out) Tryz.underlying33 rfl qA3) rfl ?_
 exact HO2.out
set_option maxHeartbeats 16000000 in
theorem qWx {w:World} {a:Option Addr} {ln c:Nat} {ll p0 p1 p2 so fn nu most:Int} {gb ob:Nat} {x0 x1:Int} {d:Nat} (hg:gb<w.heap.size) (hx0:w.cell? ⟨gb,ob,none⟩=some (.int .i64 x0)) (hx1:w.cell? ⟨gb,ob+1,none⟩=some (.int .i64 x1)) {r:MkS × Int} (hC:∀V,Below w.heap.size w V→Calls Tryz.prog 52 #[.agg #[.slice a ln c],.int .i64 x0,.int .i64 x1,.int .i64 most] V (qB4 V r)) (hL:r.1.e=0→0<r.1.l.length) :
  Calls Tryz.prog 33 #[.agg #[.slice a ln c],.agg #[.int .i8 6,.int .i8 ll,.int .i64 p0,.int .i64 p1,.int .i64 p2,.int .i64 so,.int .i64 fn,.int .i64 nu],.slice (some ⟨gb,ob,none⟩) 2 d,.int .i64 most] w (qB4 w r):=by
 obtain⟨W0,hW0⟩:∃W0,W0=((w.alloc (.cells #[.slice a ln c] 33)).alloc (.cells #[.int .i8 6,.int .i8 ll,.int .i64 p0,.int .i64 p1,.int .i64 p2,.int .i64 so,.int .i64 fn,.int .i64 nu] 54)).alloc (.cells #[.slice none 0 0] 33):=⟨_,rfl⟩
 obtain⟨hB0,hXX⟩:=qB6 (n:=⟨6,ll,p0,p1,p2,so,fn,nu⟩) hW0
 obtain⟨⟨t0,tz⟩,hnb,hrb⟩:=hXX _ (Below.refl _ _)
 obtain⟨n0,-,-,-,-,-,-,n7,nz⟩:=qAi hnb
 obtain⟨y0,yf,yz⟩:=qA6 hrb
 replace n0:W0.cell? ⟨w.heap.size+1,0,none⟩=some (.int .i8 6):=n0
 replace n7:W0.cell? ⟨w.heap.size+1,7,none⟩=some (.int .i64 nu):=n7
 have qx0:=(hB0.cell (p:=⟨gb,ob,none⟩) hg).trans hx0
 have qx1:=(hB0.cell (p:=⟨gb,ob+1,none⟩) hg).trans hx1
 have gz:gb<W0.heap.size:=Nat.lt_of_lt_of_le hg hB0.size
 have gn:gb≠w.heap.size+1+1:=by omega
 have HS:Hid (∀V,Below W0.heap.size W0 V→V.cell? ⟨w.heap.size,0,none⟩=some (.slice a ln c)∧V.cell? ⟨w.heap.size+1,0,none⟩=some (.int .i8 6)∧V.cell? ⟨w.heap.size+1,7,none⟩=some (.int .i64 nu)∧V.cell? ⟨gb,ob,none⟩=some (.int .i64 x0)∧V.cell? ⟨gb,ob+1,none⟩=some (.int .i64 x1)):=fun V hV=>⟨(hV.cell (p:=⟨w.heap.size,0,none⟩) tz).trans t0,(hV.cell (p:=⟨w.heap.size+1,0,none⟩) nz).trans n0,(hV.cell (p:=⟨w.heap.size+1,7,none⟩) nz).trans n7,(hV.cell (p:=⟨gb,ob,none⟩) gz).trans qx0,(hV.cell (p:=⟨gb,ob+1,none⟩) gz).trans qx1⟩
 have HSu:Hid (∀V u,Below W0.heap.size W0 V→(V.setCell ⟨w.heap.size+1+1,0,none⟩ u).cell? ⟨w.heap.size,0,none⟩=some (.slice a ln c)∧(V.setCell ⟨w.heap.size+1+1,0,none⟩ u).cell? ⟨w.heap.size+1,0,none⟩=some (.int .i8 6)∧(V.setCell ⟨w.heap.size+1+1,0,none⟩ u).cell? ⟨w.heap.size+1,7,none⟩=some (.int .i64 nu)∧(V.setCell ⟨w.heap.size+1+1,0,none⟩ u).cell? ⟨gb,ob,none⟩=some (.int .i64 x0)∧(V.setCell ⟨w.heap.size+1+1,0,none⟩ u).cell? ⟨gb,ob+1,none⟩=some (.int .i64 x1)):=fun V u hV=>⟨qA7 ((hV.cell (p:=⟨w.heap.size,0,none⟩) tz).trans t0) (by omega),qA7 ((hV.cell (p:=⟨w.heap.size+1,0,none⟩) nz).trans n0) (by omega),qA7 ((hV.cell (p:=⟨w.heap.size+1,7,none⟩) nz).trans n7) (by omega),qA7 ((hV.cell (p:=⟨gb,ob,none⟩) gz).trans qx0) gn,qA7 ((hV.cell (p:=⟨gb,ob+1,none⟩) gz).trans qx1) gn⟩
 have HC:Hid (∀V,Below W0.heap.size W0 V→Calls Tryz.prog 52 #[.agg #[.slice a ln c],.int .i64 x0,.int .i64 x1,.int .i64 most] V (qB4 V r)):=fun V hV=>hC V (hB0.trans (hV.mono hB0.size))
 have HR:Hid (∀V,Below W0.heap.size W0 V→Below w.heap.size w V∧V.heap[w.heap.size+1+1]? = some (.cells #[.slice none 0 0] 33 (0,0))):=fun V hV=>⟨hB0.trans (hV.mono hB0.size),(hXX V hV).2.2⟩
 have HL:=Lib.hid hL
 clear hC hL hB0 hXX hnb hrb gn hg hx0 hx1
 rw[hW0] at t0 tz n0 n7 nz y0 yf yz gz qx0 qx1
 go_enter Tryz.func33,Tryz.ntmps33
 go_wp2_with fail
 rw[←hW0] at t0 tz n0 n7 nz y0 yf yz gz qx0 qx1
 rw[←hW0]
 clear hW0
 go_region_held3 (fun V=>V.cell? ⟨w.heap.size,0,none⟩=some (.slice a ln c)∧V.cell? ⟨w.heap.size+1,0,none⟩=some (.int .i8 6)∧V.cell? ⟨w.heap.size+1,7,none⟩=some (.int .i64 nu)∧V.cell? ⟨gb,ob,none⟩=some (.int .i64 x0)∧V.cell? ⟨gb,ob+1,none⟩=some (.int .i64 x1))
  (first|exact⟨t0,n0,n7,qx0,qx1⟩|exact HS.out _ (Below.refl _ _).drew|with_reducible exact HS.out _ HB2.out|with_reducible exact HSu.out _ _ HB2.out)
  (first|(go_at_call 52;refine(HC.out _ (Below.refl _ _).drew).mono ?_;rintro e w2 hO;have HB2:Hid (Below W0.heap.size W0 w2):=(show Below W0.heap.size W0 W0.drew from (Below.refl _ W0).drew).trans (hO.1.mono (Nat.le_refl _));obtain⟨va',nn,cc,ii,er,rfl,hr2,hO2⟩:=qAl (w:=w) hO (HR.out _ (Below.refl _ _).drew).1 (show w.heap.size≤w.heap.size+1+1 by omega) (HR.out _ (Below.refl _ _).drew).2 HL.out;have HO2:=Lib.hid hO2;have HR2:=Lib.hid hr2;clear hO hO2 y0 yf yz;obtain⟨y0,yf,yz⟩:=qA6 hr2;clear hr2))
 go_wp2_with fail
 refine bodyPost_ret (qA4 rfl _ _ (w.heap.size+1+1) _ _ _ _ rfl (qAf HR2.out) Tryz.underlying33 rfl qA3) rfl ?_
 exact HO2.out
set_option maxHeartbeats 16000000 in
theorem qWy {w:World} {a:Option Addr} {ln c:Nat} {ll p0 p1 p2 so fn nu most:Int} {gb ob:Nat} {x0 x1 x2:Int} {d:Nat} (hg:gb<w.heap.size) (hx0:w.cell? ⟨gb,ob,none⟩=some (.int .i64 x0)) (hx1:w.cell? ⟨gb,ob+1,none⟩=some (.int .i64 x1)) (hx2:w.cell? ⟨gb,ob+2,none⟩=some (.int .i64 x2)) {r:MkS × Int} (hC:∀V,Below w.heap.size w V→Calls Tryz.prog 53 #[.agg #[.slice a ln c],.int .i64 x0,.int .i64 x1,.int .i64 x2,.int .i64 most] V (qB4 V r)) (hL:r.1.e=0→0<r.1.l.length) :
  Calls Tryz.prog 33 #[.agg #[.slice a ln c],.agg #[.int .i8 7,.int .i8 ll,.int .i64 p0,.int .i64 p1,.int .i64 p2,.int .i64 so,.int .i64 fn,.int .i64 nu],.slice (some ⟨gb,ob,none⟩) 3 d,.int .i64 most] w (qB4 w r):=by
 obtain⟨W0,hW0⟩:∃W0,W0=((w.alloc (.cells #[.slice a ln c] 33)).alloc (.cells #[.int .i8 7,.int .i8 ll,.int .i64 p0,.int .i64 p1,.int .i64 p2,.int .i64 so,.int .i64 fn,.int .i64 nu] 54)).alloc (.cells #[.slice none 0 0] 33):=⟨_,rfl⟩
 obtain⟨hB0,hXX⟩:=qB6 (n:=⟨7,ll,p0,p1,p2,so,fn,nu⟩) hW0
 obtain⟨⟨t0,tz⟩,hnb,hrb⟩:=hXX _ (Below.refl _ _)
 obtain⟨n0,-,-,-,-,-,-,n7,nz⟩:=qAi hnb
 obtain⟨y0,yf,yz⟩:=qA6 hrb
 replace n0:W0.cell? ⟨w.heap.size+1,0,none⟩=some (.int .i8 7):=n0
 replace n7:W0.cell? ⟨w.heap.size+1,7,none⟩=some (.int .i64 nu):=n7
 have qx0:=(hB0.cell (p:=⟨gb,ob,none⟩) hg).trans hx0
 have qx1:=(hB0.cell (p:=⟨gb,ob+1,none⟩) hg).trans hx1
 have qx2:=(hB0.cell (p:=⟨gb,ob+2,none⟩) hg).trans hx2
 have gz:gb<W0.heap.size:=Nat.lt_of_lt_of_le hg hB0.size
 have gn:gb≠w.heap.size+1+1:=by omega
 have HS:Hid (∀V,Below W0.heap.size W0 V→V.cell? ⟨w.heap.size,0,none⟩=some (.slice a ln c)∧V.cell? ⟨w.heap.size+1,0,none⟩=some (.int .i8 7)∧V.cell? ⟨w.heap.size+1,7,none⟩=some (.int .i64 nu)∧V.cell? ⟨gb,ob,none⟩=some (.int .i64 x0)∧V.cell? ⟨gb,ob+1,none⟩=some (.int .i64 x1)∧V.cell? ⟨gb,ob+2,none⟩=some (.int .i64 x2)):=fun V hV=>⟨(hV.cell (p:=⟨w.heap.size,0,none⟩) tz).trans t0,(hV.cell (p:=⟨w.heap.size+1,0,none⟩) nz).trans n0,(hV.cell (p:=⟨w.heap.size+1,7,none⟩) nz).trans n7,(hV.cell (p:=⟨gb,ob,none⟩) gz).trans qx0,(hV.cell (p:=⟨gb,ob+1,none⟩) gz).trans qx1,(hV.cell (p:=⟨gb,ob+2,none⟩) gz).trans qx2⟩
 have HSu:Hid (∀V u,Below W0.heap.size W0 V→(V.setCell ⟨w.heap.size+1+1,0,none⟩ u).cell? ⟨w.heap.size,0,none⟩=some (.slice a ln c)∧(V.setCell ⟨w.heap.size+1+1,0,none⟩ u).cell? ⟨w.heap.size+1,0,none⟩=some (.int .i8 7)∧(V.setCell ⟨w.heap.size+1+1,0,none⟩ u).cell? ⟨w.heap.size+1,7,none⟩=some (.int .i64 nu)∧(V.setCell ⟨w.heap.size+1+1,0,none⟩ u).cell? ⟨gb,ob,none⟩=some (.int .i64 x0)∧(V.setCell ⟨w.heap.size+1+1,0,none⟩ u).cell? ⟨gb,ob+1,none⟩=some (.int .i64 x1)∧(V.setCell ⟨w.heap.size+1+1,0,none⟩ u).cell? ⟨gb,ob+2,none⟩=some (.int .i64 x2)):=fun V u hV=>⟨qA7 ((hV.cell (p:=⟨w.heap.size,0,none⟩) tz).trans t0) (by omega),qA7 ((hV.cell (p:=⟨w.heap.size+1,0,none⟩) nz).trans n0) (by omega),qA7 ((hV.cell (p:=⟨w.heap.size+1,7,none⟩) nz).trans n7) (by omega),qA7 ((hV.cell (p:=⟨gb,ob,none⟩) gz).trans qx0) gn,qA7 ((hV.cell (p:=⟨gb,ob+1,none⟩) gz).trans qx1) gn,qA7 ((hV.cell (p:=⟨gb,ob+2,none⟩) gz).trans qx2) gn⟩
 have HC:Hid (∀V,Below W0.heap.size W0 V→Calls Tryz.prog 53 #[.agg #[.slice a ln c],.int .i64 x0,.int .i64 x1,.int .i64 x2,.int .i64 most] V (qB4 V r)):=fun V hV=>hC V (hB0.trans (hV.mono hB0.size))
 have HR:Hid (∀V,Below W0.heap.size W0 V→Below w.heap.size w V∧V.heap[w.heap.size+1+1]? = some (.cells #[.slice none 0 0] 33 (0,0))):=fun V hV=>⟨hB0.trans (hV.mono hB0.size),(hXX V hV).2.2⟩
 have HL:=Lib.hid hL
 clear hC hL hB0 hXX hnb hrb gn hg hx0 hx1 hx2
 rw[hW0] at t0 tz n0 n7 nz y0 yf yz gz qx0 qx1 qx2
 go_enter Tryz.func33,Tryz.ntmps33
 go_wp2_with fail
 rw[←hW0] at t0 tz n0 n7 nz y0 yf yz gz qx0 qx1 qx2
 rw[←hW0]
 clear hW0
 go_region_held3 (fun V=>V.cell? ⟨w.heap.size,0,none⟩=some (.slice a ln c)∧V.cell? ⟨w.heap.size+1,0,none⟩=some (.int .i8 7)∧V.cell? ⟨w.heap.size+1,7,none⟩=some (.int .i64 nu)∧V.cell? ⟨gb,ob,none⟩=some (.int .i64 x0)∧V.cell? ⟨gb,ob+1,none⟩=some (.int .i64 x1)∧V.cell? ⟨gb,ob+2,none⟩=some (.int .i64 x2))
  (first|exact⟨t0,n0,n7,qx0,qx1,qx2⟩|exact HS.out _ (Below.refl _ _).drew|with_reducible exact HS.out _ HB2.out|with_reducible exact HSu.out _ _ HB2.out)
  (first|(go_at_call 53;refine(HC.out _ (Below.refl _ _).drew).mono ?_;rintro e w2 hO;have HB2:Hid (Below W0.heap.size W0 w2):=(show Below W0.heap.size W0 W0.drew from (Below.refl _ W0).drew).trans (hO.1.mono (Nat.le_refl _));obtain⟨va',nn,cc,ii,er,rfl,hr2,hO2⟩:=qAl (w:=w) hO (HR.out _ (Below.refl _ _).drew).1 (show w.heap.size≤w.heap.size+1+1 by omega) (HR.out _ (Below.refl _ _).drew).2 HL.out;have HO2:=Lib.hid hO2;have HR2:=Lib.hid hr2;clear hO hO2 y0 yf yz;obtain⟨y0,yf,yz⟩:=qA6 hr2;clear hr2))
 go_wp2_with fail
 refine bodyPost_ret (qA4 rfl _ _ (w.heap.size+1+1) _ _ _ _ rfl (qAf HR2.out) Tryz.underlying33 rfl qA3) rfl ?_
 exact HO2.out
set_option maxHeartbeats 16000000 in
theorem qWz {w:World} {a:Option Addr} {ln c:Nat} {ll p0 p1 p2 so fn nu most:Int} {gb ob:Nat} {x0 x1:Int} {d:Nat} (hg:gb<w.heap.size) (hx0:w.cell? ⟨gb,ob,none⟩=some (.int .i64 x0)) (hx1:w.cell? ⟨gb,ob+1,none⟩=some (.int .i64 x1)) {r:MkS × Int} (hC:∀V,Below w.heap.size w V→Calls Tryz.prog 54 #[.agg #[.slice a ln c],.int .i64 x0,.int .i64 x1,.int .i64 0,.int .i64 most] V (qB4 V r)) (hL:r.1.e=0→0<r.1.l.length) :
  Calls Tryz.prog 33 #[.agg #[.slice a ln c],.agg #[.int .i8 8,.int .i8 ll,.int .i64 p0,.int .i64 p1,.int .i64 p2,.int .i64 so,.int .i64 fn,.int .i64 nu],.slice (some ⟨gb,ob,none⟩) 2 d,.int .i64 most] w (qB4 w r):=by
 obtain⟨W0,hW0⟩:∃W0,W0=((w.alloc (.cells #[.slice a ln c] 33)).alloc (.cells #[.int .i8 8,.int .i8 ll,.int .i64 p0,.int .i64 p1,.int .i64 p2,.int .i64 so,.int .i64 fn,.int .i64 nu] 54)).alloc (.cells #[.slice none 0 0] 33):=⟨_,rfl⟩
 obtain⟨hB0,hXX⟩:=qB6 (n:=⟨8,ll,p0,p1,p2,so,fn,nu⟩) hW0
 obtain⟨⟨t0,tz⟩,hnb,hrb⟩:=hXX _ (Below.refl _ _)
 obtain⟨n0,-,-,-,-,-,-,n7,nz⟩:=qAi hnb
 obtain⟨y0,yf,yz⟩:=qA6 hrb
 replace n0:W0.cell? ⟨w.heap.size+1,0,none⟩=some (.int .i8 8):=n0
 replace n7:W0.cell? ⟨w.heap.size+1,7,none⟩=some (.int .i64 nu):=n7
 have qx0:=(hB0.cell (p:=⟨gb,ob,none⟩) hg).trans hx0
 have qx1:=(hB0.cell (p:=⟨gb,ob+1,none⟩) hg).trans hx1
 have gz:gb<W0.heap.size:=Nat.lt_of_lt_of_le hg hB0.size
 have gn:gb≠w.heap.size+1+1:=by omega
 have HS:Hid (∀V,Below W0.heap.size W0 V→V.cell? ⟨w.heap.size,0,none⟩=some (.slice a ln c)∧V.cell? ⟨w.heap.size+1,0,none⟩=some (.int .i8 8)∧V.cell? ⟨w.heap.size+1,7,none⟩=some (.int .i64 nu)∧V.cell? ⟨gb,ob,none⟩=some (.int .i64 x0)∧V.cell? ⟨gb,ob+1,none⟩=some (.int .i64 x1)):=fun V hV=>⟨(hV.cell (p:=⟨w.heap.size,0,none⟩) tz).trans t0,(hV.cell (p:=⟨w.heap.size+1,0,none⟩) nz).trans n0,(hV.cell (p:=⟨w.heap.size+1,7,none⟩) nz).trans n7,(hV.cell (p:=⟨gb,ob,none⟩) gz).trans qx0,(hV.cell (p:=⟨gb,ob+1,none⟩) gz).trans qx1⟩
 have HSu:Hid (∀V u,Below W0.heap.size W0 V→(V.setCell ⟨w.heap.size+1+1,0,none⟩ u).cell? ⟨w.heap.size,0,none⟩=some (.slice a ln c)∧(V.setCell ⟨w.heap.size+1+1,0,none⟩ u).cell? ⟨w.heap.size+1,0,none⟩=some (.int .i8 8)∧(V.setCell ⟨w.heap.size+1+1,0,none⟩ u).cell? ⟨w.heap.size+1,7,none⟩=some (.int .i64 nu)∧(V.setCell ⟨w.heap.size+1+1,0,none⟩ u).cell? ⟨gb,ob,none⟩=some (.int .i64 x0)∧(V.setCell ⟨w.heap.size+1+1,0,none⟩ u).cell? ⟨gb,ob+1,none⟩=some (.int .i64 x1)):=fun V u hV=>⟨qA7 ((hV.cell (p:=⟨w.heap.size,0,none⟩) tz).trans t0) (by omega),qA7 ((hV.cell (p:=⟨w.heap.size+1,0,none⟩) nz).trans n0) (by omega),qA7 ((hV.cell (p:=⟨w.heap.size+1,7,none⟩) nz).trans n7) (by omega),qA7 ((hV.cell (p:=⟨gb,ob,none⟩) gz).trans qx0) gn,qA7 ((hV.cell (p:=⟨gb,ob+1,none⟩) gz).trans qx1) gn⟩
 have HC:Hid (∀V,Below W0.heap.size W0 V→Calls Tryz.prog 54 #[.agg #[.slice a ln c],.int .i64 x0,.int .i64 x1,.int .i64 0,.int .i64 most] V (qB4 V r)):=fun V hV=>hC V (hB0.trans (hV.mono hB0.size))
 have HR:Hid (∀V,Below W0.heap.size W0 V→Below w.heap.size w V∧V.heap[w.heap.size+1+1]? = some (.cells #[.slice none 0 0] 33 (0,0))):=fun V hV=>⟨hB0.trans (hV.mono hB0.size),(hXX V hV).2.2⟩
 have HL:=Lib.hid hL
 clear hC hL hB0 hXX hnb hrb gn hg hx0 hx1
 rw[hW0] at t0 tz n0 n7 nz y0 yf yz gz qx0 qx1
 go_enter Tryz.func33,Tryz.ntmps33
 go_wp2_with fail
 rw[←hW0] at t0 tz n0 n7 nz y0 yf yz gz qx0 qx1
 rw[←hW0]
 clear hW0
 go_region_held3 (fun V=>V.cell? ⟨w.heap.size,0,none⟩=some (.slice a ln c)∧V.cell? ⟨w.heap.size+1,0,none⟩=some (.int .i8 8)∧V.cell? ⟨w.heap.size+1,7,none⟩=some (.int .i64 nu)∧V.cell? ⟨gb,ob,none⟩=some (.int .i64 x0)∧V.cell? ⟨gb,ob+1,none⟩=some (.int .i64 x1))
  (first|exact⟨t0,n0,n7,qx0,qx1⟩|exact HS.out _ (Below.refl _ _).drew|with_reducible exact HS.out _ HB2.out|with_reducible exact HSu.out _ _ HB2.out)
  (first|(go_at_call 54;refine(HC.out _ (Below.refl _ _).drew).mono ?_;rintro e w2 hO;have HB2:Hid (Below W0.heap.size W0 w2):=(show Below W0.heap.size W0 W0.drew from (Below.refl _ W0).drew).trans (hO.1.mono (Nat.le_refl _));obtain⟨va',nn,cc,ii,er,rfl,hr2,hO2⟩:=qAl (w:=w) hO (HR.out _ (Below.refl _ _).drew).1 (show w.heap.size≤w.heap.size+1+1 by omega) (HR.out _ (Below.refl _ _).drew).2 HL.out;have HO2:=Lib.hid hO2;have HR2:=Lib.hid hr2;clear hO hO2 y0 yf yz;obtain⟨y0,yf,yz⟩:=qA6 hr2;clear hr2))
 go_wp2_with fail
 refine bodyPost_ret (qA4 rfl _ _ (w.heap.size+1+1) _ _ _ _ rfl (qAf HR2.out) Tryz.underlying33 rfl qA3) rfl ?_
 exact HO2.out
set_option maxHeartbeats 16000000 in
theorem qX0 {w:World} {a:Option Addr} {ln c:Nat} {ll p0 p1 p2 so fn nu most:Int} {gb ob:Nat} {x0 x1:Int} {d:Nat} (hg:gb<w.heap.size) (hx0:w.cell? ⟨gb,ob,none⟩=some (.int .i64 x0)) (hx1:w.cell? ⟨gb,ob+1,none⟩=some (.int .i64 x1)) {r:MkS × Int} (hC:∀V,Below w.heap.size w V→Calls Tryz.prog 54 #[.agg #[.slice a ln c],.int .i64 x0,.int .i64 x1,.int .i64 (-1),.int .i64 most] V (qB4 V r)) (hL:r.1.e=0→0<r.1.l.length) :
  Calls Tryz.prog 33 #[.agg #[.slice a ln c],.agg #[.int .i8 9,.int .i8 ll,.int .i64 p0,.int .i64 p1,.int .i64 p2,.int .i64 so,.int .i64 fn,.int .i64 nu],.slice (some ⟨gb,ob,none⟩) 2 d,.int .i64 most] w (qB4 w r):=by
 obtain⟨W0,hW0⟩:∃W0,W0=((w.alloc (.cells #[.slice a ln c] 33)).alloc (.cells #[.int .i8 9,.int .i8 ll,.int .i64 p0,.int .i64 p1,.int .i64 p2,.int .i64 so,.int .i64 fn,.int .i64 nu] 54)).alloc (.cells #[.slice none 0 0] 33):=⟨_,rfl⟩
 obtain⟨hB0,hXX⟩:=qB6 (n:=⟨9,ll,p0,p1,p2,so,fn,nu⟩) hW0
 obtain⟨⟨t0,tz⟩,hnb,hrb⟩:=hXX _ (Below.refl _ _)
 obtain⟨n0,-,-,-,-,-,-,n7,nz⟩:=qAi hnb
 obtain⟨y0,yf,yz⟩:=qA6 hrb
 replace n0:W0.cell? ⟨w.heap.size+1,0,none⟩=some (.int .i8 9):=n0
 replace n7:W0.cell? ⟨w.heap.size+1,7,none⟩=some (.int .i64 nu):=n7
 have qx0:=(hB0.cell (p:=⟨gb,ob,none⟩) hg).trans hx0
 have qx1:=(hB0.cell (p:=⟨gb,ob+1,none⟩) hg).trans hx1
 have gz:gb<W0.heap.size:=Nat.lt_of_lt_of_le hg hB0.size
 have gn:gb≠w.heap.size+1+1:=by omega
 have HS:Hid (∀V,Below W0.heap.size W0 V→V.cell? ⟨w.heap.size,0,none⟩=some (.slice a ln c)∧V.cell? ⟨w.heap.size+1,0,none⟩=some (.int .i8 9)∧V.cell? ⟨w.heap.size+1,7,none⟩=some (.int .i64 nu)∧V.cell? ⟨gb,ob,none⟩=some (.int .i64 x0)∧V.cell? ⟨gb,ob+1,none⟩=some (.int .i64 x1)):=fun V hV=>⟨(hV.cell (p:=⟨w.heap.size,0,none⟩) tz).trans t0,(hV.cell (p:=⟨w.heap.size+1,0,none⟩) nz).trans n0,(hV.cell (p:=⟨w.heap.size+1,7,none⟩) nz).trans n7,(hV.cell (p:=⟨gb,ob,none⟩) gz).trans qx0,(hV.cell (p:=⟨gb,ob+1,none⟩) gz).trans qx1⟩
 have HSu:Hid (∀V u,Below W0.heap.size W0 V→(V.setCell ⟨w.heap.size+1+1,0,none⟩ u).cell? ⟨w.heap.size,0,none⟩=some (.slice a ln c)∧(V.setCell ⟨w.heap.size+1+1,0,none⟩ u).cell? ⟨w.heap.size+1,0,none⟩=some (.int .i8 9)∧(V.setCell ⟨w.heap.size+1+1,0,none⟩ u).cell? ⟨w.heap.size+1,7,none⟩=some (.int .i64 nu)∧(V.setCell ⟨w.heap.size+1+1,0,none⟩ u).cell? ⟨gb,ob,none⟩=some (.int .i64 x0)∧(V.setCell ⟨w.heap.size+1+1,0,none⟩ u).cell? ⟨gb,ob+1,none⟩=some (.int .i64 x1)):=fun V u hV=>⟨qA7 ((hV.cell (p:=⟨w.heap.size,0,none⟩) tz).trans t0) (by omega),qA7 ((hV.cell (p:=⟨w.heap.size+1,0,none⟩) nz).trans n0) (by omega),qA7 ((hV.cell (p:=⟨w.heap.size+1,7,none⟩) nz).trans n7) (by omega),qA7 ((hV.cell (p:=⟨gb,ob,none⟩) gz).trans qx0) gn,qA7 ((hV.cell (p:=⟨gb,ob+1,none⟩) gz).trans qx1) gn⟩
 have HC:Hid (∀V,Below W0.heap.size W0 V→Calls Tryz.prog 54 #[.agg #[.slice a ln c],.int .i64 x0,.int .i64 x1,.int .i64 (-1),.int .i64 most] V (qB4 V r)):=fun V hV=>hC V (hB0.trans (hV.mono hB0.size))
 have HR:Hid (∀V,Below W0.heap.size W0 V→Below w.heap.size w V∧V.heap[w.heap.size+1+1]? = some (.cells #[.slice none 0 0] 33 (0,0))):=fun V hV=>⟨hB0.trans (hV.mono hB0.size),(hXX V hV).2.2⟩
 have HL:=Lib.hid hL
 clear hC hL hB0 hXX hnb hrb gn hg hx0 hx1
 rw[hW0] at t0 tz n0 n7 nz y0 yf yz gz qx0 qx1
 go_enter Tryz.func33,Tryz.ntmps33
 go_wp2_with fail
 rw[←hW0] at t0 tz n0 n7 nz y0 yf yz gz qx0 qx1
 rw[←hW0]
 clear hW0
 go_region_held3 (fun V=>V.cell? ⟨w.heap.size,0,none⟩=some (.slice a ln c)∧V.cell? ⟨w.heap.size+1,0,none⟩=some (.int .i8 9)∧V.cell? ⟨w.heap.size+1,7,none⟩=some (.int .i64 nu)∧V.cell? ⟨gb,ob,none⟩=some (.int .i64 x0)∧V.cell? ⟨gb,ob+1,none⟩=some (.int .i64 x1))
  (first|exact⟨t0,n0,n7,qx0,qx1⟩|exact HS.out _ (Below.refl _ _).drew|with_reducible exact HS.out _ HB2.out|with_reducible exact HSu.out _ _ HB2.out)
  (first|(go_at_call 54;refine(HC.out _ (Below.refl _ _).drew).mono ?_;rintro e w2 hO;have HB2:Hid (Below W0.heap.size W0 w2):=(show Below W0.heap.size W0 W0.drew from (Below.refl _ W0).drew).trans (hO.1.mono (Nat.le_refl _));obtain⟨va',nn,cc,ii,er,rfl,hr2,hO2⟩:=qAl (w:=w) hO (HR.out _ (Below.refl _ _).drew).1 (show w.heap.size≤w.heap.size+1+1 by omega) (HR.out _ (Below.refl _ _).drew).2 HL.out;have HO2:=Lib.hid hO2;have HR2:=Lib.hid hr2;clear hO hO2 y0 yf yz;obtain⟨y0,yf,yz⟩:=qA6 hr2;clear hr2))
 go_wp2_with fail
 refine bodyPost_ret (qA4 rfl _ _ (w.heap.size+1+1) _ _ _ _ rfl (qAf HR2.out) Tryz.underlying33 rfl qA3) rfl ?_
 exact HO2.out
set_option maxHeartbeats 16000000 in
theorem qSw {w:World} {a:Option Addr} {ln c:Nat} {ll p0 p1 p2 so fn nu most:Int} {gb ob:Nat} {x0 x1:Int} {d:Nat} (hg:gb<w.heap.size) (hx0:w.cell? ⟨gb,ob,none⟩=some (.int .i64 x0)) (hx1:w.cell? ⟨gb,ob+1,none⟩=some (.int .i64 x1)) {r:MkS × Int} (hC:∀V,Below w.heap.size w V→Calls Tryz.prog 54 #[.agg #[.slice a ln c],.int .i64 x0,.int .i64 x1,.int .i64 nu,.int .i64 most] V (qB4 V r)) (hL:r.1.e=0→0<r.1.l.length) :
  Calls Tryz.prog 33 #[.agg #[.slice a ln c],.agg #[.int .i8 12,.int .i8 ll,.int .i64 p0,.int .i64 p1,.int .i64 p2,.int .i64 so,.int .i64 fn,.int .i64 nu],.slice (some ⟨gb,ob,none⟩) 2 d,.int .i64 most] w (qB4 w r):=by
 obtain⟨W0,hW0⟩:∃W0,W0=((w.alloc (.cells #[.slice a ln c] 33)).alloc (.cells #[.int .i8 12,.int .i8 ll,.int .i64 p0,.int .i64 p1,.int .i64 p2,.int .i64 so,.int .i64 fn,.int .i64 nu] 54)).alloc (.cells #[.slice none 0 0] 33):=⟨_,rfl⟩
 obtain⟨hB0,hXX⟩:=qB6 (n:=⟨12,ll,p0,p1,p2,so,fn,nu⟩) hW0
 obtain⟨⟨t0,tz⟩,hnb,hrb⟩:=hXX _ (Below.refl _ _)
 obtain⟨n0,-,-,-,-,-,-,n7,nz⟩:=qAi hnb
 obtain⟨y0,yf,yz⟩:=qA6 hrb
 replace n0:W0.cell? ⟨w.heap.size+1,0,none⟩=some (.int .i8 12):=n0
 replace n7:W0.cell? ⟨w.heap.size+1,7,none⟩=some (.int .i64 nu):=n7
 have qx0:=(hB0.cell (p:=⟨gb,ob,none⟩) hg).trans hx0
 have qx1:=(hB0.cell (p:=⟨gb,ob+1,none⟩) hg).trans hx1
 have gz:gb<W0.heap.size:=Nat.lt_of_lt_of_le hg hB0.size
 have gn:gb≠w.heap.size+1+1:=by omega
 have HS:Hid (∀V,Below W0.heap.size W0 V→V.cell? ⟨w.heap.size,0,none⟩=some (.slice a ln c)∧V.cell? ⟨w.heap.size+1,0,none⟩=some (.int .i8 12)∧V.cell? ⟨w.heap.size+1,7,none⟩=some (.int .i64 nu)∧V.cell? ⟨gb,ob,none⟩=some (.int .i64 x0)∧V.cell? ⟨gb,ob+1,none⟩=some (.int .i64 x1)):=fun V hV=>⟨(hV.cell (p:=⟨w.heap.size,0,none⟩) tz).trans t0,(hV.cell (p:=⟨w.heap.size+1,0,none⟩) nz).trans n0,(hV.cell (p:=⟨w.heap.size+1,7,none⟩) nz).trans n7,(hV.cell (p:=⟨gb,ob,none⟩) gz).trans qx0,(hV.cell (p:=⟨gb,ob+1,none⟩) gz).trans qx1⟩
 have HSu:Hid (∀V u,Below W0.heap.size W0 V→(V.setCell ⟨w.heap.size+1+1,0,none⟩ u).cell? ⟨w.heap.size,0,none⟩=some (.slice a ln c)∧(V.setCell ⟨w.heap.size+1+1,0,none⟩ u).cell? ⟨w.heap.size+1,0,none⟩=some (.int .i8 12)∧(V.setCell ⟨w.heap.size+1+1,0,none⟩ u).cell? ⟨w.heap.size+1,7,none⟩=some (.int .i64 nu)∧(V.setCell ⟨w.heap.size+1+1,0,none⟩ u).cell? ⟨gb,ob,none⟩=some (.int .i64 x0)∧(V.setCell ⟨w.heap.size+1+1,0,none⟩ u).cell? ⟨gb,ob+1,none⟩=some (.int .i64 x1)):=fun V u hV=>⟨qA7 ((hV.cell (p:=⟨w.heap.size,0,none⟩) tz).trans t0) (by omega),qA7 ((hV.cell (p:=⟨w.heap.size+1,0,none⟩) nz).trans n0) (by omega),qA7 ((hV.cell (p:=⟨w.heap.size+1,7,none⟩) nz).trans n7) (by omega),qA7 ((hV.cell (p:=⟨gb,ob,none⟩) gz).trans qx0) gn,qA7 ((hV.cell (p:=⟨gb,ob+1,none⟩) gz).trans qx1) gn⟩
 have HC:Hid (∀V,Below W0.heap.size W0 V→Calls Tryz.prog 54 #[.agg #[.slice a ln c],.int .i64 x0,.int .i64 x1,.int .i64 nu,.int .i64 most] V (qB4 V r)):=fun V hV=>hC V (hB0.trans (hV.mono hB0.size))
 have HR:Hid (∀V,Below W0.heap.size W0 V→Below w.heap.size w V∧V.heap[w.heap.size+1+1]? = some (.cells #[.slice none 0 0] 33 (0,0))):=fun V hV=>⟨hB0.trans (hV.mono hB0.size),(hXX V hV).2.2⟩
 have HL:=Lib.hid hL
 clear hC hL hB0 hXX hnb hrb gn hg hx0 hx1
 rw[hW0] at t0 tz n0 n7 nz y0 yf yz gz qx0 qx1
 go_enter Tryz.func33,Tryz.ntmps33
 go_wp2_with fail
 rw[←hW0] at t0 tz n0 n7 nz y0 yf yz gz qx0 qx1
 rw[←hW0]
 clear hW0
 go_region_held3 (fun V=>V.cell? ⟨w.heap.size,0,none⟩=some (.slice a ln c)∧V.cell? ⟨w.heap.size+1,0,none⟩=some (.int .i8 12)∧V.cell? ⟨w.heap.size+1,7,none⟩=some (.int .i64 nu)∧V.cell? ⟨gb,ob,none⟩=some (.int .i64 x0)∧V.cell? ⟨gb,ob+1,none⟩=some (.int .i64 x1))
  (first|exact⟨t0,n0,n7,qx0,qx1⟩|exact HS.out _ (Below.refl _ _).drew|with_reducible exact HS.out _ HB2.out|with_reducible exact HSu.out _ _ HB2.out)
  (first|(go_at_call 54;refine(HC.out _ (Below.refl _ _).drew).mono ?_;rintro e w2 hO;have HB2:Hid (Below W0.heap.size W0 w2):=(show Below W0.heap.size W0 W0.drew from (Below.refl _ W0).drew).trans (hO.1.mono (Nat.le_refl _));obtain⟨va',nn,cc,ii,er,rfl,hr2,hO2⟩:=qAl (w:=w) hO (HR.out _ (Below.refl _ _).drew).1 (show w.heap.size≤w.heap.size+1+1 by omega) (HR.out _ (Below.refl _ _).drew).2 HL.out;have HO2:=Lib.hid hO2;have HR2:=Lib.hid hr2;clear hO hO2 y0 yf yz;obtain⟨y0,yf,yz⟩:=qA6 hr2;clear hr2))
 go_wp2_with fail
 refine bodyPost_ret (qA4 rfl _ _ (w.heap.size+1+1) _ _ _ _ rfl (qAf HR2.out) Tryz.underlying33 rfl qA3) rfl ?_
 exact HO2.out
end Go.Proofs.YtfgpimhdjlmapaaGreatDoor.Tm
