/- ShapeTight, walked. -/
import Derived.Laws.CopyOwn
import Derived.Deep.LoopGhost
import Derived.Laws.EntriesVeiled
import Derived.Deep.RegionHeldLaw
import Derived.Laws.Bits128
import Derived.ScopeJumps
import Derived.WalkMore
import Derived.WalkSpells
import Derived.Shelf.RegionOpen
import Derived.Shelf.AbstractIn
import Derived.RangeFuncCalls
import Derived.RangeFuncNested
import Derived.Test.YtfgpimhdjlmapaaGreatDoorShf
import Derived.Test.YtfgpimhdjlmapaaGreatDoorShC
import Derived.Test.YtfgpimhdjlmapaaGreatDoorShN
import Derived.Test.YtfgpimhdjlmapaaGreatDoorShVg
import Derived.Test.YtfgpimhdjlmapaaGreatDoorHdK
import Derived.Test.YtfgpimhdjlmapaaGreatDoorSgOq
import Derived.Test.YtfgpimhdjlmapaaGreatDoorShT3
import Derived.Test.YtfgpimhdjlmapaaGreatDoorShV
namespace Go.Proofs.YtfgpimhdjlmapaaGreatDoor.Tm
open Go.RowKit
set_option linter.unusedVariables false
set_option maxRecDepth 100000
theorem qUr {c:List NodeA} {k:Nat} (hs:(qAd c k).sort=0) (ho:¬(qAd c k).op=1):qAb c k=2*(k:Int):=by
 unfold qAb qIe
 rw[if_pos hs,if_neg ho]
def qGg (c:List NodeA) (n:NodeA):Int:=if n.sort=0 then (if n.op=0 then 1 else if n.op=1 then 2 else if n.op=2 then 3 else if n.op=3 then 3 else if n.op=7 then 3 else if n.op=12 then 6 else if n.op=13 then 8 else if n.op=6 then (if srt c n.a0=0 then 3 else 4) else 0) else 0
theorem RSort_any (c:List NodeA) (a:Option Addr) (ca:Nat) (k:Nat) (n:NodeA) (hn:c[k]? = some n) (w:World) (hA:TabR w c a ca) :
  Calls Tryz.prog 26 #[.agg #[.slice a c.length ca],.int .i64 k] w fun e w'=>e=.returned (.int .i64 n.sort)∧Below w.heap.size w w':=by
 have hkc:=(List.getElem?_eq_some_iff.1 hn).1
 have hcap:=hA.le
 have hcm:=hA.cap
 obtain⟨W0,hW0⟩:∃W0,W0=w.alloc (.cells #[.slice a c.length ca] 33):=⟨_,rfl⟩
 obtain⟨hB0,hX⟩:=qAz hW0
 obtain⟨g,o,rfl,hg,q0,q1,q2,q3,q4,q5,q6,q7⟩:=(hA.below hB0).node hn
 have x0:=(cell_of_row _ _ 0 _ _ _ (hX W0 (Below.refl _ _)).1).trans rfl
 have xz:=(hX W0 (Below.refl _ _)).2
 have HB0:=Lib.hid hB0
 have h1:(k:Int)<(c.length:Int):=by omega
 have h2:(0:Int)≤(k:Int):=by omega
 have h3:¬(k:Int)<0:=by omega
 have h4:¬(c.length:Int)≤(k:Int):=by omega
 have hA0:=hW0.symm
 clear hW0 hX hA hB0 hn
 go_enter Tryz.func26,Tryz.ntmps26
 go_wp2
 go_ret
 exact⟨rfl,HB0.out⟩
set_option maxHeartbeats 4000000 in
theorem qRk (c:List NodeA) (a:Option Addr) (ca:Nat) (k:Nat) (n:NodeA) (hn:c[k]? = some n) (w:World) (hA:TabR w c a ca) (hs:¬n.sort=0) :
  Calls Tryz.prog 13 #[.agg #[.slice a c.length ca],.int .i64 k] w fun e w'=>e=.returned (.int .i8 0)∧Below w.heap.size w w':=by
 have hkc:=(List.getElem?_eq_some_iff.1 hn).1
 obtain⟨W0,hW0⟩:∃W0,W0=w.alloc (.cells #[.slice a c.length ca] 33):=⟨_,rfl⟩
 obtain⟨hB0,hX⟩:=qAz hW0
 have HX:Hid (∀V,Below W0.heap.size W0 V→V.cell? ⟨w.heap.size,0,none⟩=some (.slice a c.length ca)∧w.heap.size<V.heap.size):=fun V hV=>⟨(cell_of_row _ _ 0 _ _ _ (hX V hV).1).trans rfl,(hX V hV).2⟩
 have HA:Hid (∀V,Below W0.heap.size W0 V→TabR V c a ca):=fun V hV=>(hA.below hB0).below hV
 have HB0:=Lib.hid hB0
 have HN:=Lib.hid hn
 have HS:Hid (∀V,Below W0.heap.size W0 V→Calls Tryz.prog 26 #[.agg #[.slice a c.length ca],.int .i64 k] V fun e w'=>e=.returned (.int .i64 n.sort)∧Hid (Below W0.heap.size W0 w')):=fun V hV=>(RSort_any c a ca k n hn V (HA.out V hV)).mono fun e w' ⟨h1,h2⟩=>⟨h1,qA5 hV h2⟩
 obtain⟨x0,xz⟩:=HX.out W0 (Below.refl _ _)
 have h1:(k:Int)<(c.length:Int):=by omega
 have h2:(0:Int)≤(k:Int):=by omega
 have d0:=qDf hs
 have hA0:=hW0.symm
 clear hW0 hX hA hB0 hn
 go_enter Tryz.func13,Tryz.ntmps13
 go_wp2_with (go_at_call 26;refine(HS.out _ (Below.refl _ _)).mono ?_;rintro e w1 ⟨rfl,HB1⟩)
 go_ret
 exact⟨rfl,HB0.out.trans (HB1.out.mono HB0.out.size)⟩
set_option maxHeartbeats 4000000 in
theorem zBc (c:List NodeA) (a:Option Addr) (ca:Nat) (k:Nat) (n:NodeA) (hn:c[k]? = some n) (w:World) (hA:TabR w c a ca) (hs:n.sort=0) (ho:n.op=0) :
  Calls Tryz.prog 13 #[.agg #[.slice a c.length ca],.int .i64 k] w fun e w'=>e=.returned (.int .i8 1)∧Below w.heap.size w w':=by
 have hkc:=(List.getElem?_eq_some_iff.1 hn).1
 obtain⟨W0,hW0⟩:∃W0,W0=w.alloc (.cells #[.slice a c.length ca] 33):=⟨_,rfl⟩
 obtain⟨hB0,hX⟩:=qAz hW0
 have HX:Hid (∀V,Below W0.heap.size W0 V→V.cell? ⟨w.heap.size,0,none⟩=some (.slice a c.length ca)∧w.heap.size<V.heap.size):=fun V hV=>⟨(cell_of_row _ _ 0 _ _ _ (hX V hV).1).trans rfl,(hX V hV).2⟩
 have HA:Hid (∀V,Below W0.heap.size W0 V→TabR V c a ca):=fun V hV=>(hA.below hB0).below hV
 have HB0:=Lib.hid hB0
 have HN:=Lib.hid hn
 have HS:Hid (∀V,Below W0.heap.size W0 V→Calls Tryz.prog 26 #[.agg #[.slice a c.length ca],.int .i64 k] V fun e w'=>e=.returned (.int .i64 n.sort)∧Hid (Below W0.heap.size W0 w')):=fun V hV=>(RSort_any c a ca k n hn V (HA.out V hV)).mono fun e w' ⟨h1,h2⟩=>⟨h1,qA5 hV h2⟩
 obtain⟨x0,xz⟩:=HX.out W0 (Below.refl _ _)
 have h1:(k:Int)<(c.length:Int):=by omega
 have h2:(0:Int)≤(k:Int):=by omega
 rw[hs] at HS
 obtain⟨g,o,rfl,_⟩:=hA.node hn
 have hA0:=hW0.symm
 clear hW0 hX hA hB0 hn
 go_enter Tryz.func13,Tryz.ntmps13
 go_wp2_with (go_at_call 26;refine(HS.out _ (Below.refl _ _)).mono ?_;rintro e w1 ⟨rfl,HB1⟩;obtain⟨y0,yz⟩:=HX.out _ HB1.out;obtain⟨g,o,e9,hg,q0,q1,q2,q3,q4,q5,q6,q7⟩:=(HA.out _ HB1.out).node HN.out;rw[ho] at q0;cases e9)
 go_ret
 exact⟨rfl,(HB0.out.trans (HB1.out.mono HB0.out.size)).alloc (HB0.out.trans (HB1.out.mono HB0.out.size)).size _⟩
set_option maxHeartbeats 4000000 in
theorem zBd (c:List NodeA) (a:Option Addr) (ca:Nat) (k:Nat) (n:NodeA) (hn:c[k]? = some n) (w:World) (hA:TabR w c a ca) (hs:n.sort=0) (ho:n.op=1) :
  Calls Tryz.prog 13 #[.agg #[.slice a c.length ca],.int .i64 k] w fun e w'=>e=.returned (.int .i8 2)∧Below w.heap.size w w':=by
 have hkc:=(List.getElem?_eq_some_iff.1 hn).1
 obtain⟨W0,hW0⟩:∃W0,W0=w.alloc (.cells #[.slice a c.length ca] 33):=⟨_,rfl⟩
 obtain⟨hB0,hX⟩:=qAz hW0
 have HX:Hid (∀V,Below W0.heap.size W0 V→V.cell? ⟨w.heap.size,0,none⟩=some (.slice a c.length ca)∧w.heap.size<V.heap.size):=fun V hV=>⟨(cell_of_row _ _ 0 _ _ _ (hX V hV).1).trans rfl,(hX V hV).2⟩
 have HA:Hid (∀V,Below W0.heap.size W0 V→TabR V c a ca):=fun V hV=>(hA.below hB0).below hV
 have HB0:=Lib.hid hB0
 have HN:=Lib.hid hn
 have HS:Hid (∀V,Below W0.heap.size W0 V→Calls Tryz.prog 26 #[.agg #[.slice a c.length ca],.int .i64 k] V fun e w'=>e=.returned (.int .i64 n.sort)∧Hid (Below W0.heap.size W0 w')):=fun V hV=>(RSort_any c a ca k n hn V (HA.out V hV)).mono fun e w' ⟨h1,h2⟩=>⟨h1,qA5 hV h2⟩
 obtain⟨x0,xz⟩:=HX.out W0 (Below.refl _ _)
 have h1:(k:Int)<(c.length:Int):=by omega
 have h2:(0:Int)≤(k:Int):=by omega
 rw[hs] at HS
 obtain⟨g,o,rfl,_⟩:=hA.node hn
 have hA0:=hW0.symm
 clear hW0 hX hA hB0 hn
 go_enter Tryz.func13,Tryz.ntmps13
 go_wp2_with (go_at_call 26;refine(HS.out _ (Below.refl _ _)).mono ?_;rintro e w1 ⟨rfl,HB1⟩;obtain⟨y0,yz⟩:=HX.out _ HB1.out;obtain⟨g,o,e9,hg,q0,q1,q2,q3,q4,q5,q6,q7⟩:=(HA.out _ HB1.out).node HN.out;rw[ho] at q0;cases e9)
 go_ret
 exact⟨rfl,(HB0.out.trans (HB1.out.mono HB0.out.size)).alloc (HB0.out.trans (HB1.out.mono HB0.out.size)).size _⟩
set_option maxHeartbeats 4000000 in
theorem zBe (c:List NodeA) (a:Option Addr) (ca:Nat) (k:Nat) (n:NodeA) (hn:c[k]? = some n) (w:World) (hA:TabR w c a ca) (hs:n.sort=0) (ho:n.op=2) :
  Calls Tryz.prog 13 #[.agg #[.slice a c.length ca],.int .i64 k] w fun e w'=>e=.returned (.int .i8 3)∧Below w.heap.size w w':=by
 have hkc:=(List.getElem?_eq_some_iff.1 hn).1
 obtain⟨W0,hW0⟩:∃W0,W0=w.alloc (.cells #[.slice a c.length ca] 33):=⟨_,rfl⟩
 obtain⟨hB0,hX⟩:=qAz hW0
 have HX:Hid (∀V,Below W0.heap.size W0 V→V.cell? ⟨w.heap.size,0,none⟩=some (.slice a c.length ca)∧w.heap.size<V.heap.size):=fun V hV=>⟨(cell_of_row _ _ 0 _ _ _ (hX V hV).1).trans rfl,(hX V hV).2⟩
 have HA:Hid (∀V,Below W0.heap.size W0 V→TabR V c a ca):=fun V hV=>(hA.below hB0).below hV
 have HB0:=Lib.hid hB0
 have HN:=Lib.hid hn
 have HS:Hid (∀V,Below W0.heap.size W0 V→Calls Tryz.prog 26 #[.agg #[.slice a c.length ca],.int .i64 k] V fun e w'=>e=.returned (.int .i64 n.sort)∧Hid (Below W0.heap.size W0 w')):=fun V hV=>(RSort_any c a ca k n hn V (HA.out V hV)).mono fun e w' ⟨h1,h2⟩=>⟨h1,qA5 hV h2⟩
 obtain⟨x0,xz⟩:=HX.out W0 (Below.refl _ _)
 have h1:(k:Int)<(c.length:Int):=by omega
 have h2:(0:Int)≤(k:Int):=by omega
 rw[hs] at HS
 obtain⟨g,o,rfl,_⟩:=hA.node hn
 have hA0:=hW0.symm
 clear hW0 hX hA hB0 hn
 go_enter Tryz.func13,Tryz.ntmps13
 go_wp2_with (go_at_call 26;refine(HS.out _ (Below.refl _ _)).mono ?_;rintro e w1 ⟨rfl,HB1⟩;obtain⟨y0,yz⟩:=HX.out _ HB1.out;obtain⟨g,o,e9,hg,q0,q1,q2,q3,q4,q5,q6,q7⟩:=(HA.out _ HB1.out).node HN.out;rw[ho] at q0;cases e9)
 go_ret
 exact⟨rfl,(HB0.out.trans (HB1.out.mono HB0.out.size)).alloc (HB0.out.trans (HB1.out.mono HB0.out.size)).size _⟩
set_option maxHeartbeats 4000000 in
theorem zBf (c:List NodeA) (a:Option Addr) (ca:Nat) (k:Nat) (n:NodeA) (hn:c[k]? = some n) (w:World) (hA:TabR w c a ca) (hs:n.sort=0) (ho:n.op=3) :
  Calls Tryz.prog 13 #[.agg #[.slice a c.length ca],.int .i64 k] w fun e w'=>e=.returned (.int .i8 3)∧Below w.heap.size w w':=by
 have hkc:=(List.getElem?_eq_some_iff.1 hn).1
 obtain⟨W0,hW0⟩:∃W0,W0=w.alloc (.cells #[.slice a c.length ca] 33):=⟨_,rfl⟩
 obtain⟨hB0,hX⟩:=qAz hW0
 have HX:Hid (∀V,Below W0.heap.size W0 V→V.cell? ⟨w.heap.size,0,none⟩=some (.slice a c.length ca)∧w.heap.size<V.heap.size):=fun V hV=>⟨(cell_of_row _ _ 0 _ _ _ (hX V hV).1).trans rfl,(hX V hV).2⟩
 have HA:Hid (∀V,Below W0.heap.size W0 V→TabR V c a ca):=fun V hV=>(hA.below hB0).below hV
 have HB0:=Lib.hid hB0
 have HN:=Lib.hid hn
 have HS:Hid (∀V,Below W0.heap.size W0 V→Calls Tryz.prog 26 #[.agg #[.slice a c.length ca],.int .i64 k] V fun e w'=>e=.returned (.int .i64 n.sort)∧Hid (Below W0.heap.size W0 w')):=fun V hV=>(RSort_any c a ca k n hn V (HA.out V hV)).mono fun e w' ⟨h1,h2⟩=>⟨h1,qA5 hV h2⟩
 obtain⟨x0,xz⟩:=HX.out W0 (Below.refl _ _)
 have h1:(k:Int)<(c.length:Int):=by omega
 have h2:(0:Int)≤(k:Int):=by omega
 rw[hs] at HS
 obtain⟨g,o,rfl,_⟩:=hA.node hn
 have hA0:=hW0.symm
 clear hW0 hX hA hB0 hn
 go_enter Tryz.func13,Tryz.ntmps13
 go_wp2_with (go_at_call 26;refine(HS.out _ (Below.refl _ _)).mono ?_;rintro e w1 ⟨rfl,HB1⟩;obtain⟨y0,yz⟩:=HX.out _ HB1.out;obtain⟨g,o,e9,hg,q0,q1,q2,q3,q4,q5,q6,q7⟩:=(HA.out _ HB1.out).node HN.out;rw[ho] at q0;cases e9)
 go_ret
 exact⟨rfl,(HB0.out.trans (HB1.out.mono HB0.out.size)).alloc (HB0.out.trans (HB1.out.mono HB0.out.size)).size _⟩
set_option maxHeartbeats 4000000 in
theorem zBg (c:List NodeA) (a:Option Addr) (ca:Nat) (k:Nat) (n:NodeA) (hn:c[k]? = some n) (w:World) (hA:TabR w c a ca) (hs:n.sort=0) (ho:n.op=7) :
  Calls Tryz.prog 13 #[.agg #[.slice a c.length ca],.int .i64 k] w fun e w'=>e=.returned (.int .i8 3)∧Below w.heap.size w w':=by
 have hkc:=(List.getElem?_eq_some_iff.1 hn).1
 obtain⟨W0,hW0⟩:∃W0,W0=w.alloc (.cells #[.slice a c.length ca] 33):=⟨_,rfl⟩
 obtain⟨hB0,hX⟩:=qAz hW0
 have HX:Hid (∀V,Below W0.heap.size W0 V→V.cell? ⟨w.heap.size,0,none⟩=some (.slice a c.length ca)∧w.heap.size<V.heap.size):=fun V hV=>⟨(cell_of_row _ _ 0 _ _ _ (hX V hV).1).trans rfl,(hX V hV).2⟩
 have HA:Hid (∀V,Below W0.heap.size W0 V→TabR V c a ca):=fun V hV=>(hA.below hB0).below hV
 have HB0:=Lib.hid hB0
 have HN:=Lib.hid hn
 have HS:Hid (∀V,Below W0.heap.size W0 V→Calls Tryz.prog 26 #[.agg #[.slice a c.length ca],.int .i64 k] V fun e w'=>e=.returned (.int .i64 n.sort)∧Hid (Below W0.heap.size W0 w')):=fun V hV=>(RSort_any c a ca k n hn V (HA.out V hV)).mono fun e w' ⟨h1,h2⟩=>⟨h1,qA5 hV h2⟩
 obtain⟨x0,xz⟩:=HX.out W0 (Below.refl _ _)
 have h1:(k:Int)<(c.length:Int):=by omega
 have h2:(0:Int)≤(k:Int):=by omega
 rw[hs] at HS
 obtain⟨g,o,rfl,_⟩:=hA.node hn
 have hA0:=hW0.symm
 clear hW0 hX hA hB0 hn
 go_enter Tryz.func13,Tryz.ntmps13
 go_wp2_with (go_at_call 26;refine(HS.out _ (Below.refl _ _)).mono ?_;rintro e w1 ⟨rfl,HB1⟩;obtain⟨y0,yz⟩:=HX.out _ HB1.out;obtain⟨g,o,e9,hg,q0,q1,q2,q3,q4,q5,q6,q7⟩:=(HA.out _ HB1.out).node HN.out;rw[ho] at q0;cases e9)
 go_ret
 exact⟨rfl,(HB0.out.trans (HB1.out.mono HB0.out.size)).alloc (HB0.out.trans (HB1.out.mono HB0.out.size)).size _⟩
set_option maxHeartbeats 4000000 in
theorem qYl (c:List NodeA) (a:Option Addr) (ca:Nat) (k:Nat) (n:NodeA) (hn:c[k]? = some n) (w:World) (hA:TabR w c a ca) (hs:n.sort=0) (ho:n.op=12) :
  Calls Tryz.prog 13 #[.agg #[.slice a c.length ca],.int .i64 k] w fun e w'=>e=.returned (.int .i8 6)∧Below w.heap.size w w':=by
 have hkc:=(List.getElem?_eq_some_iff.1 hn).1
 obtain⟨W0,hW0⟩:∃W0,W0=w.alloc (.cells #[.slice a c.length ca] 33):=⟨_,rfl⟩
 obtain⟨hB0,hX⟩:=qAz hW0
 have HX:Hid (∀V,Below W0.heap.size W0 V→V.cell? ⟨w.heap.size,0,none⟩=some (.slice a c.length ca)∧w.heap.size<V.heap.size):=fun V hV=>⟨(cell_of_row _ _ 0 _ _ _ (hX V hV).1).trans rfl,(hX V hV).2⟩
 have HA:Hid (∀V,Below W0.heap.size W0 V→TabR V c a ca):=fun V hV=>(hA.below hB0).below hV
 have HB0:=Lib.hid hB0
 have HN:=Lib.hid hn
 have HS:Hid (∀V,Below W0.heap.size W0 V→Calls Tryz.prog 26 #[.agg #[.slice a c.length ca],.int .i64 k] V fun e w'=>e=.returned (.int .i64 n.sort)∧Hid (Below W0.heap.size W0 w')):=fun V hV=>(RSort_any c a ca k n hn V (HA.out V hV)).mono fun e w' ⟨h1,h2⟩=>⟨h1,qA5 hV h2⟩
 obtain⟨x0,xz⟩:=HX.out W0 (Below.refl _ _)
 have h1:(k:Int)<(c.length:Int):=by omega
 have h2:(0:Int)≤(k:Int):=by omega
 rw[hs] at HS
 obtain⟨g,o,rfl,_⟩:=hA.node hn
 have hA0:=hW0.symm
 clear hW0 hX hA hB0 hn
 go_enter Tryz.func13,Tryz.ntmps13
 go_wp2_with (go_at_call 26;refine(HS.out _ (Below.refl _ _)).mono ?_;rintro e w1 ⟨rfl,HB1⟩;obtain⟨y0,yz⟩:=HX.out _ HB1.out;obtain⟨g,o,e9,hg,q0,q1,q2,q3,q4,q5,q6,q7⟩:=(HA.out _ HB1.out).node HN.out;rw[ho] at q0;cases e9)
 go_ret
 exact⟨rfl,(HB0.out.trans (HB1.out.mono HB0.out.size)).alloc (HB0.out.trans (HB1.out.mono HB0.out.size)).size _⟩
set_option maxHeartbeats 4000000 in
theorem qYm (c:List NodeA) (a:Option Addr) (ca:Nat) (k:Nat) (n:NodeA) (hn:c[k]? = some n) (w:World) (hA:TabR w c a ca) (hs:n.sort=0) (ho:n.op=13) :
  Calls Tryz.prog 13 #[.agg #[.slice a c.length ca],.int .i64 k] w fun e w'=>e=.returned (.int .i8 8)∧Below w.heap.size w w':=by
 have hkc:=(List.getElem?_eq_some_iff.1 hn).1
 obtain⟨W0,hW0⟩:∃W0,W0=w.alloc (.cells #[.slice a c.length ca] 33):=⟨_,rfl⟩
 obtain⟨hB0,hX⟩:=qAz hW0
 have HX:Hid (∀V,Below W0.heap.size W0 V→V.cell? ⟨w.heap.size,0,none⟩=some (.slice a c.length ca)∧w.heap.size<V.heap.size):=fun V hV=>⟨(cell_of_row _ _ 0 _ _ _ (hX V hV).1).trans rfl,(hX V hV).2⟩
 have HA:Hid (∀V,Below W0.heap.size W0 V→TabR V c a ca):=fun V hV=>(hA.below hB0).below hV
 have HB0:=Lib.hid hB0
 have HN:=Lib.hid hn
 have HS:Hid (∀V,Below W0.heap.size W0 V→Calls Tryz.prog 26 #[.agg #[.slice a c.length ca],.int .i64 k] V fun e w'=>e=.returned (.int .i64 n.sort)∧Hid (Below W0.heap.size W0 w')):=fun V hV=>(RSort_any c a ca k n hn V (HA.out V hV)).mono fun e w' ⟨h1,h2⟩=>⟨h1,qA5 hV h2⟩
 obtain⟨x0,xz⟩:=HX.out W0 (Below.refl _ _)
 have h1:(k:Int)<(c.length:Int):=by omega
 have h2:(0:Int)≤(k:Int):=by omega
 rw[hs] at HS
 obtain⟨g,o,rfl,_⟩:=hA.node hn
 have hA0:=hW0.symm
 clear hW0 hX hA hB0 hn
 go_enter Tryz.func13,Tryz.ntmps13
 go_wp2_with (go_at_call 26;refine(HS.out _ (Below.refl _ _)).mono ?_;rintro e w1 ⟨rfl,HB1⟩;obtain⟨y0,yz⟩:=HX.out _ HB1.out;obtain⟨g,o,e9,hg,q0,q1,q2,q3,q4,q5,q6,q7⟩:=(HA.out _ HB1.out).node HN.out;rw[ho] at q0;cases e9)
 go_ret
 exact⟨rfl,(HB0.out.trans (HB1.out.mono HB0.out.size)).alloc (HB0.out.trans (HB1.out.mono HB0.out.size)).size _⟩
set_option maxHeartbeats 4000000 in
theorem qYn (c:List NodeA) (a:Option Addr) (ca:Nat) (k:Nat) (n:NodeA) (hn:c[k]? = some n) (w:World) (hA:TabR w c a ca) (hs:n.sort=0) (ho:n.op=10) :
  Calls Tryz.prog 13 #[.agg #[.slice a c.length ca],.int .i64 k] w fun e w'=>e=.returned (.int .i8 0)∧Below w.heap.size w w':=by
 have hkc:=(List.getElem?_eq_some_iff.1 hn).1
 obtain⟨W0,hW0⟩:∃W0,W0=w.alloc (.cells #[.slice a c.length ca] 33):=⟨_,rfl⟩
 obtain⟨hB0,hX⟩:=qAz hW0
 have HX:Hid (∀V,Below W0.heap.size W0 V→V.cell? ⟨w.heap.size,0,none⟩=some (.slice a c.length ca)∧w.heap.size<V.heap.size):=fun V hV=>⟨(cell_of_row _ _ 0 _ _ _ (hX V hV).1).trans rfl,(hX V hV).2⟩
 have HA:Hid (∀V,Below W0.heap.size W0 V→TabR V c a ca):=fun V hV=>(hA.below hB0).below hV
 have HB0:=Lib.hid hB0
 have HN:=Lib.hid hn
 have HS:Hid (∀V,Below W0.heap.size W0 V→Calls Tryz.prog 26 #[.agg #[.slice a c.length ca],.int .i64 k] V fun e w'=>e=.returned (.int .i64 n.sort)∧Hid (Below W0.heap.size W0 w')):=fun V hV=>(RSort_any c a ca k n hn V (HA.out V hV)).mono fun e w' ⟨h1,h2⟩=>⟨h1,qA5 hV h2⟩
 obtain⟨x0,xz⟩:=HX.out W0 (Below.refl _ _)
 have h1:(k:Int)<(c.length:Int):=by omega
 have h2:(0:Int)≤(k:Int):=by omega
 rw[hs] at HS
 obtain⟨g,o,rfl,_⟩:=hA.node hn
 have hA0:=hW0.symm
 clear hW0 hX hA hB0 hn
 go_enter Tryz.func13,Tryz.ntmps13
 go_wp2_with (go_at_call 26;refine(HS.out _ (Below.refl _ _)).mono ?_;rintro e w1 ⟨rfl,HB1⟩;obtain⟨y0,yz⟩:=HX.out _ HB1.out;obtain⟨g,o,e9,hg,q0,q1,q2,q3,q4,q5,q6,q7⟩:=(HA.out _ HB1.out).node HN.out;rw[ho] at q0;cases e9)
 go_ret
 exact⟨rfl,(HB0.out.trans (HB1.out.mono HB0.out.size)).alloc (HB0.out.trans (HB1.out.mono HB0.out.size)).size _⟩
set_option maxHeartbeats 4000000 in
theorem qYo (c:List NodeA) (a:Option Addr) (ca:Nat) (k:Nat) (n:NodeA) (hn:c[k]? = some n) (w:World) (hA:TabR w c a ca) (hs:n.sort=0) (ho:n.op=11) :
  Calls Tryz.prog 13 #[.agg #[.slice a c.length ca],.int .i64 k] w fun e w'=>e=.returned (.int .i8 0)∧Below w.heap.size w w':=by
 have hkc:=(List.getElem?_eq_some_iff.1 hn).1
 obtain⟨W0,hW0⟩:∃W0,W0=w.alloc (.cells #[.slice a c.length ca] 33):=⟨_,rfl⟩
 obtain⟨hB0,hX⟩:=qAz hW0
 have HX:Hid (∀V,Below W0.heap.size W0 V→V.cell? ⟨w.heap.size,0,none⟩=some (.slice a c.length ca)∧w.heap.size<V.heap.size):=fun V hV=>⟨(cell_of_row _ _ 0 _ _ _ (hX V hV).1).trans rfl,(hX V hV).2⟩
 have HA:Hid (∀V,Below W0.heap.size W0 V→TabR V c a ca):=fun V hV=>(hA.below hB0).below hV
 have HB0:=Lib.hid hB0
 have HN:=Lib.hid hn
 have HS:Hid (∀V,Below W0.heap.size W0 V→Calls Tryz.prog 26 #[.agg #[.slice a c.length ca],.int .i64 k] V fun e w'=>e=.returned (.int .i64 n.sort)∧Hid (Below W0.heap.size W0 w')):=fun V hV=>(RSort_any c a ca k n hn V (HA.out V hV)).mono fun e w' ⟨h1,h2⟩=>⟨h1,qA5 hV h2⟩
 obtain⟨x0,xz⟩:=HX.out W0 (Below.refl _ _)
 have h1:(k:Int)<(c.length:Int):=by omega
 have h2:(0:Int)≤(k:Int):=by omega
 rw[hs] at HS
 obtain⟨g,o,rfl,_⟩:=hA.node hn
 have hA0:=hW0.symm
 clear hW0 hX hA hB0 hn
 go_enter Tryz.func13,Tryz.ntmps13
 go_wp2_with (go_at_call 26;refine(HS.out _ (Below.refl _ _)).mono ?_;rintro e w1 ⟨rfl,HB1⟩;obtain⟨y0,yz⟩:=HX.out _ HB1.out;obtain⟨g,o,e9,hg,q0,q1,q2,q3,q4,q5,q6,q7⟩:=(HA.out _ HB1.out).node HN.out;rw[ho] at q0;cases e9)
 go_ret
 exact⟨rfl,(HB0.out.trans (HB1.out.mono HB0.out.size)).alloc (HB0.out.trans (HB1.out.mono HB0.out.size)).size _⟩
set_option maxHeartbeats 4000000 in
theorem qYp (c:List NodeA) (a:Option Addr) (ca:Nat) (k:Nat) (n:NodeA) (hn:c[k]? = some n) (w:World) (hA:TabR w c a ca) (hs:n.sort=0) (ho:n.op=6) (j:Nat) (z:NodeA) (hj:n.a0=j) (hzj:c[j]? = some z) (hz:z.sort=0) :
  Calls Tryz.prog 13 #[.agg #[.slice a c.length ca],.int .i64 k] w fun e w'=>e=.returned (.int .i8 3)∧Below w.heap.size w w':=by
 have hkc:=(List.getElem?_eq_some_iff.1 hn).1
 obtain⟨W0,hW0⟩:∃W0,W0=w.alloc (.cells #[.slice a c.length ca] 33):=⟨_,rfl⟩
 obtain⟨hB0,hX⟩:=qAz hW0
 have HX:Hid (∀V,Below W0.heap.size W0 V→V.cell? ⟨w.heap.size,0,none⟩=some (.slice a c.length ca)∧w.heap.size<V.heap.size):=fun V hV=>⟨(cell_of_row _ _ 0 _ _ _ (hX V hV).1).trans rfl,(hX V hV).2⟩
 have HA:Hid (∀V,Below W0.heap.size W0 V→TabR V c a ca):=fun V hV=>(hA.below hB0).below hV
 have HB0:=Lib.hid hB0
 have HN:=Lib.hid hn
 have HS:Hid (∀V,Below W0.heap.size W0 V→Calls Tryz.prog 26 #[.agg #[.slice a c.length ca],.int .i64 k] V fun e w'=>e=.returned (.int .i64 n.sort)∧Hid (Below W0.heap.size W0 w')):=fun V hV=>(RSort_any c a ca k n hn V (HA.out V hV)).mono fun e w' ⟨h1,h2⟩=>⟨h1,qA5 hV h2⟩
 obtain⟨x0,xz⟩:=HX.out W0 (Below.refl _ _)
 have h1:(k:Int)<(c.length:Int):=by omega
 have h2:(0:Int)≤(k:Int):=by omega
 rw[hs] at HS
 have HZ:Hid (∀V,Below W0.heap.size W0 V→Calls Tryz.prog 26 #[.agg #[.slice a c.length ca],.int .i64 j] V fun e w'=>e=.returned (.int .i64 z.sort)∧Hid (Below W0.heap.size W0 w')):=fun V hV=>(RSort_any c a ca j z hzj V (HA.out V hV)).mono fun e w' ⟨h1,h2⟩=>⟨h1,qA5 hV h2⟩
 obtain⟨g,o,rfl,_⟩:=hA.node hn
 rw[hz] at HZ
 have hA0:=hW0.symm
 clear hW0 hX hA hB0 hn
 go_enter Tryz.func13,Tryz.ntmps13
 go_wp2_with (first
  | (have _hh:=HB1.out;go_at_call 26;refine(HZ.out _ (HB1.out.alloc HB1.out.size _)).mono ?_;rintro e w2 ⟨rfl,HB2⟩)
  | (go_at_call 26;refine(HS.out _ (Below.refl _ _)).mono ?_;rintro e w1 ⟨rfl,HB1⟩;obtain⟨y0,yz⟩:=HX.out _ HB1.out;obtain⟨g,o,e9,hg,q0,q1,q2,q3,q4,q5,q6,q7⟩:=(HA.out _ HB1.out).node HN.out;rw[ho] at q0;rw[hj] at q2;cases e9))
 go_ret
 exact⟨rfl,HB0.out.trans (HB2.out.mono HB0.out.size)⟩
set_option maxHeartbeats 4000000 in
theorem qYq (c:List NodeA) (a:Option Addr) (ca:Nat) (k:Nat) (n:NodeA) (hn:c[k]? = some n) (w:World) (hA:TabR w c a ca) (hs:n.sort=0) (ho:n.op=6) (j:Nat) (z:NodeA) (hj:n.a0=j) (hzj:c[j]? = some z) (hz:2≤z.sort) :
  Calls Tryz.prog 13 #[.agg #[.slice a c.length ca],.int .i64 k] w fun e w'=>e=.returned (.int .i8 4)∧Below w.heap.size w w':=by
 have hkc:=(List.getElem?_eq_some_iff.1 hn).1
 obtain⟨W0,hW0⟩:∃W0,W0=w.alloc (.cells #[.slice a c.length ca] 33):=⟨_,rfl⟩
 obtain⟨hB0,hX⟩:=qAz hW0
 have HX:Hid (∀V,Below W0.heap.size W0 V→V.cell? ⟨w.heap.size,0,none⟩=some (.slice a c.length ca)∧w.heap.size<V.heap.size):=fun V hV=>⟨(cell_of_row _ _ 0 _ _ _ (hX V hV).1).trans rfl,(hX V hV).2⟩
 have HA:Hid (∀V,Below W0.heap.size W0 V→TabR V c a ca):=fun V hV=>(hA.below hB0).below hV
 have HB0:=Lib.hid hB0
 have HN:=Lib.hid hn
 have HS:Hid (∀V,Below W0.heap.size W0 V→Calls Tryz.prog 26 #[.agg #[.slice a c.length ca],.int .i64 k] V fun e w'=>e=.returned (.int .i64 n.sort)∧Hid (Below W0.heap.size W0 w')):=fun V hV=>(RSort_any c a ca k n hn V (HA.out V hV)).mono fun e w' ⟨h1,h2⟩=>⟨h1,qA5 hV h2⟩
 obtain⟨x0,xz⟩:=HX.out W0 (Below.refl _ _)
 have h1:(k:Int)<(c.length:Int):=by omega
 have h2:(0:Int)≤(k:Int):=by omega
 rw[hs] at HS
 have HZ:Hid (∀V,Below W0.heap.size W0 V→Calls Tryz.prog 26 #[.agg #[.slice a c.length ca],.int .i64 j] V fun e w'=>e=.returned (.int .i64 z.sort)∧Hid (Below W0.heap.size W0 w')):=fun V hV=>(RSort_any c a ca j z hzj V (HA.out V hV)).mono fun e w' ⟨h1,h2⟩=>⟨h1,qA5 hV h2⟩
 obtain⟨g,o,rfl,_⟩:=hA.node hn
 have e0:=qB7 (show ¬z.sort=0 by omega)
 have e1:=qB7 (show ¬z.sort=1 by omega)
 have hA0:=hW0.symm
 clear hW0 hX hA hB0 hn
 go_enter Tryz.func13,Tryz.ntmps13
 go_wp2_with (first
  | (have _hh:=HB1.out;go_at_call 26;refine(HZ.out _ (HB1.out.alloc HB1.out.size _)).mono ?_;rintro e w2 ⟨rfl,HB2⟩)
  | (go_at_call 26;refine(HS.out _ (Below.refl _ _)).mono ?_;rintro e w1 ⟨rfl,HB1⟩;obtain⟨y0,yz⟩:=HX.out _ HB1.out;obtain⟨g,o,e9,hg,q0,q1,q2,q3,q4,q5,q6,q7⟩:=(HA.out _ HB1.out).node HN.out;rw[ho] at q0;rw[hj] at q2;cases e9))
 go_ret
 exact⟨rfl,HB0.out.trans (HB2.out.mono HB0.out.size)⟩
theorem qUs (c:List NodeA) (hC:Cl c) (a:Option Addr) (ca:Nat) (k:Nat) (n:NodeA) (hn:c[k]? = some n) (w:World) (hA:TabR w c a ca) :
  Calls Tryz.prog 13 #[.agg #[.slice a c.length ca],.int .i64 k] w fun e w'=>e=.returned (.int .i8 (qGg c n))∧Below w.heap.size w w':=by
 have hw:=hC.ws n (List.mem_of_getElem? hn)
 have hno:=hC.no4 n (List.mem_of_getElem? hn)
 obtain⟨⟨o1,o2,_⟩,_⟩:=hC.fits hn
 by_cases hs:n.sort=0
 ·unfold qGg
  rw[if_pos hs]
  by_cases h0:n.op=0
  ·rw[if_pos h0]
   exact zBc c a ca k n hn w hA hs h0
  rw[if_neg h0]
  by_cases h1:n.op=1
  ·rw[if_pos h1]
   exact zBd c a ca k n hn w hA hs h1
  rw[if_neg h1]
  by_cases h2:n.op=2
  ·rw[if_pos h2]
   exact zBe c a ca k n hn w hA hs h2
  rw[if_neg h2]
  by_cases h3:n.op=3
  ·rw[if_pos h3]
   exact zBf c a ca k n hn w hA hs h3
  rw[if_neg h3]
  by_cases h7:n.op=7
  ·rw[if_pos h7]
   exact zBg c a ca k n hn w hA hs h7
  rw[if_neg h7]
  by_cases h12:n.op=12
  ·rw[if_pos h12]
   exact qYl c a ca k n hn w hA hs h12
  rw[if_neg h12]
  by_cases h13:n.op=13
  ·rw[if_pos h13]
   exact qYm c a ca k n hn w hA hs h13
  rw[if_neg h13]
  by_cases h6:n.op=6
  ·rw[if_pos h6]
   obtain⟨i,j,ei,ej,hi,hj⟩:=qH1 hC hn (.inr (.inr h6))
   have hkc:=(List.getElem?_eq_some_iff.1 hn).1
   obtain⟨z,hz⟩:∃z,c[i]? = some z:=⟨_,List.getElem?_eq_getElem (by omega)⟩
   have hsz:srt c n.a0=z.sort:=by unfold srt;rw[ei,qBf hz]
   have h1:=(hC.eq n (List.mem_of_getElem? hn) h6).1
   have h0:=(hC.fits hz).2.1.1
   rw[hsz] at h1 ⊢
   by_cases hzs:z.sort=0
   ·rw[if_pos hzs]
    exact qYp c a ca k n hn w hA hs h6 i z ei hz hzs
   ·rw[if_neg hzs]
    exact qYq c a ca k n hn w hA hs h6 i z ei hz (by omega)
  rw[if_neg h6]
  by_cases h10:n.op=10
  ·exact qYn c a ca k n hn w hA hs h10
  by_cases h11:n.op=11
  ·exact qYo c a ca k n hn w hA hs h11
  omega
 ·unfold qGg
  rw[if_neg hs]
  exact qRk c a ca k n hn w hA hs
set_option linter.unusedSimpArgs false
def qDq (E:List (Int × Bool)) (c:List NodeA) (k:Nat):List Int:=(tdL E c).set k (3-tdV E c k)
section
variable {x:SigV} {y:WorV} {c:List NodeA} {E:List (Int × Bool)}
theorem qJk {k:Nat} {z:Int} (hz:(z / 2).toNat≠k):qE8 (qDq E c k) z=qE8 (tdL E c) z:=by
 unfold qE8 qDq
 rw[List.getElem?_set,if_neg (Ne.symm hz)]
theorem qLl (h:WoR x y c E) {k:Nat} (hk:k<c.length) (hs:(qAd c k).sort=0):qE8 (qDq E c k) (2*(k:Int))=decide (vA E k=0):=by
 have hb:=h.bit hk hs
 have e1:(2*(k:Int) / 2).toNat=k:=by omega
 have e2:2*(k:Int) % 2=0:=by omega
 unfold qE8 qDq
 rw[e1,e2,List.getElem?_set,if_pos rfl,if_pos (by rw[qFq];exact hk)]
 unfold tdV
 rw[if_pos hs]
 unfold vA at hb ⊢
 rcases hb with e|e<;>rw[e]<;>decide
theorem qUt (h:WoR x y c E) {k:Nat} (hk:k<c.length) (hs:(qAd c k).sort=0):qE8 (qDq E c k) (2*(k:Int)+1)=decide (vA E k=1):=by
 have hb:=h.bit hk hs
 have e1:((2*(k:Int)+1) / 2).toNat=k:=by omega
 have e2:(2*(k:Int)+1) % 2=1:=by omega
 unfold qE8 qDq
 rw[e1,e2,List.getElem?_set,if_pos rfl,if_pos (by rw[qFq];exact hk)]
 unfold tdV
 rw[if_pos hs]
 unfold vA at hb ⊢
 rcases hb with e|e<;>rw[e]<;>decide
theorem qGh (h:WoR x y c E) {k:Nat} (hk:k<c.length) (hs:(qAd c k).sort=0) (ho:¬(qAd c k).op=1):qE8 (qDq E c k) (qAb c k)=decide (vA E k=0)∧qE8 (qDq E c k) (ngL (qAb c k))=decide (vA E k=1):=by
 rw[qUr hs ho,qMo]
 exact⟨qLl h hk hs,qUt h hk hs⟩
theorem qCq (h:WoR x y c E) {k i:Nat} (hi:i<k) (hk:k<c.length) (hs:(qAd c i).sort=0):qE8 (qDq E c k) (qAb c i)=decide (vA E i=1)∧qE8 (qDq E c k) (ngL (qAb c i))=decide (vA E i=0):=by
 obtain⟨m,hm,hmi,_⟩:=qLd h.cl (show i<c.length by omega) hs
 have hh:qAb c i / 2=(m:Int):=by unfold qAb;rw[if_pos hs];exact hm
 have hn:=qU1 (qAb c i)
 rw[qJk (by rw[hh];omega),qJk (by rw[hn,hh];omega)]
 exact⟨qBw h (by omega) hs,qD9 h (by omega) hs⟩
theorem qRl (h:WoR x y c E) {k:Nat} {n:NodeA} (hn:c[k]? = some n) (hk2:qGg c n=3∨qGg c n=1):qGf (qDq E c k) (qAy c k)=false:=by
 have hk:=(List.getElem?_eq_some_iff.1 hn).1
 have hnn:=qBf hn
 have hC:=h.cl
 have hw:=hC.ws n (List.mem_of_getElem? hn)
 have hs:n.sort=0:=by
  by_cases e:n.sort=0
  ·exact e
  ·unfold qGg at hk2
   rw[if_neg e] at hk2
   omega
 have s1':(qAd c k).sort=0:=by rw[hnn];exact hs
 unfold qGf qAy
 rw[hnn]
 by_cases h0:n.op=0
 ·rw[if_pos h0]
  simp only[List.all_cons,List.all_nil,zDg]
  rw[qLl h hk s1',qVt h hn h0]
  rfl
 rw[if_neg h0]
 by_cases h2:n.op=2
 ·rw[if_pos h2]
  obtain⟨i,j,ei,ej,hi,hj⟩:=qH1 hC hn (.inl h2)
  obtain⟨s1,s2,s3⟩:=hw.s2 (.inl h2)
  unfold srt at s2 s3
  rw[ei] at s2
  rw[ej] at s3
  rw[ei,ej,Int.toNat_natCast,Int.toNat_natCast]
  have hv:=zBk h hn h2 ei ej (by omega) (by omega)
  obtain⟨t1,t2⟩:=qGh h hk s1' (by rw[hnn];omega)
  obtain⟨a1,a2⟩:=qCq h hi hk s2
  obtain⟨b1,b2⟩:=qCq h hj hk s3
  rcases h.bit (show i<c.length by omega) s2 with e|e<;>rcases h.bit (show j<c.length by omega) s3 with e'|e'<;>rw[e,e'] at hv<;>simp[qS8,qVv,t1,t2,a1,a2,b1,b2,hv,e,e',wrap64]
 rw[if_neg h2]
 by_cases h3:n.op=3
 ·rw[if_pos h3]
  obtain⟨i,j,ei,ej,hi,hj⟩:=qH1 hC hn (.inr (.inl h3))
  obtain⟨s1,s2,s3⟩:=hw.s2 (.inr (.inl h3))
  unfold srt at s2 s3
  rw[ei] at s2
  rw[ej] at s3
  rw[ei,ej,Int.toNat_natCast,Int.toNat_natCast]
  have hv:=zDf h hn h3 ei ej (by omega) (by omega)
  have m1:max (0:Int) 1=1:=by decide
  have m2:max (1:Int) 0=1:=by decide
  obtain⟨t1,t2⟩:=qGh h hk s1' (by rw[hnn];omega)
  obtain⟨a1,a2⟩:=qCq h hi hk s2
  obtain⟨b1,b2⟩:=qCq h hj hk s3
  rcases h.bit (show i<c.length by omega) s2 with e|e<;>rcases h.bit (show j<c.length by omega) s3 with e'|e'<;>rw[e,e'] at hv<;>simp[qS8,qVv,t1,t2,a1,a2,b1,b2,hv,e,e',m1,m2]
 rw[if_neg h3]
 by_cases h6:n.op=6
 ·rw[if_pos h6]
  obtain⟨i,j,ei,ej,hi,hj⟩:=qH1 hC hn (.inr (.inr h6))
  obtain⟨s1,s2⟩:=hw.s6 h6
  by_cases hs6:srt c n.a0=0
  ·rw[if_pos hs6]
   have s3:srt c n.a1=0:=by rw[←s2];exact hs6
   unfold srt at hs6 s3
   rw[ei] at hs6
   rw[ej] at s3
   rw[ei,ej,Int.toNat_natCast,Int.toNat_natCast]
   have hv:=zD1 h hn h6 ei ej (by omega) (by omega)
   obtain⟨t1,t2⟩:=qGh h hk s1' (by rw[hnn];omega)
   obtain⟨a1,a2⟩:=qCq h hi hk hs6
   obtain⟨b1,b2⟩:=qCq h hj hk s3
   rcases h.bit (show i<c.length by omega) hs6 with e|e<;>rcases h.bit (show j<c.length by omega) s3 with e'|e'<;>rw[e,e'] at hv<;>simp[qS8,qVv,t1,t2,a1,a2,b1,b2,hv,e,e',qIs]
  ·exfalso
   unfold qGg at hk2
   rw[if_pos hs,if_neg h0,if_neg (by omega),if_neg h2,if_neg h3,if_neg (by omega),if_neg (by omega),if_neg (by omega),if_pos h6,if_neg hs6] at hk2
   omega
 rw[if_neg h6]
 by_cases h7:n.op=7
 ·rw[if_pos h7,if_pos hs]
  obtain⟨i,j,l,ei,ej,el,hi,hj,hl⟩:=qUc hC hn h7
  obtain⟨s1,s2,s3⟩:=hw.s7 h7
  have hv:=zBl h hn h7 ei ej el (by omega) (by omega) (by omega)
  unfold srt at s1 s2 s3
  rw[ei] at s1
  rw[hs] at s2 s3
  rw[ej] at s2
  rw[el] at s3
  rw[ei,ej,el,Int.toNat_natCast,Int.toNat_natCast,Int.toNat_natCast]
  obtain⟨t1,t2⟩:=qGh h hk s1' (by rw[hnn];omega)
  obtain⟨c1,c2⟩:=qCq h hi hk s1
  obtain⟨a1,a2⟩:=qCq h hj hk s2
  obtain⟨b1,b2⟩:=qCq h hl hk s3
  rcases h.bit (show i<c.length by omega) s1 with e0|e0<;>rcases h.bit (show j<c.length by omega) s2 with e|e<;>rcases h.bit (show l<c.length by omega) s3 with e'|e'<;>rw[e0,e,e'] at hv<;>simp[qS8,qVv,t1,t2,a1,a2,b1,b2,c1,c2,hv,e0,e,e']
 ·exfalso
  unfold qGg at hk2
  rw[if_pos hs,if_neg h0] at hk2
  by_cases h1:n.op=1
  ·rw[if_pos h1] at hk2;omega
  rw[if_neg h1,if_neg h2,if_neg h3,if_neg h7] at hk2
  by_cases h12:n.op=12
  ·rw[if_pos h12] at hk2;omega
  rw[if_neg h12] at hk2
  by_cases h13:n.op=13
  ·rw[if_pos h13] at hk2;omega
  rw[if_neg h13,if_neg h6] at hk2
  omega
end
theorem zBh:(49:Nat)≠3:=by decide
theorem qYr {V:World} {v:Value} {xss:List (List Int)} {b i:Nat} {zs:List Int} {u:Value} (h:qAm V v xss) (hb:V.heap[b]? = some (.cells (qE1 zs) 49 (0,0))):qAm (V.setCell ⟨b,i,none⟩ u) v xss:=by
 obtain⟨rs,a,c,h1,h2,h3,h4⟩:=h
 have hne:∀r∈rs,∀g o,r.a=some ⟨g,o,none⟩→g≠b:=fun r hr g o e e2=>by
  obtain⟨cs,hc⟩:=h4 r hr g o e
  rw[e2,hb] at hc
  have:=Option.some.inj hc
  injection this with _ e3 _
  exact zBh e3
 have hs:V.heap.size=(V.setCell ⟨b,i,none⟩ u).heap.size:=by simp[World.setCell]
 refine⟨rs,a,c,h1,h2,⟨h3.le,h3.cap,fun h0=>?_,fun r hr=>qCv (h3.ok r hr) (fun g o e=>Below.heap_setCell _ _ _ _ (hne r hr g o e)) (by omega)⟩,fun r hr g o e=>by obtain⟨cs,hc⟩:=h4 r hr g o e;exact⟨cs,(Below.heap_setCell _ _ _ _ (hne r hr g o e)).trans hc⟩⟩
 obtain⟨g,o,e,hg,hc⟩:=h3.tat h0
 refine⟨g,o,e,by omega,fun j w hw=>?_⟩
 have hgb:g≠b:=fun e2=>by
  have h5:=hc j w hw
  rw[e2,cell_of_row _ _ _ _ _ _ hb,←Array.getElem?_toList] at h5
  rw[List.getElem?_map] at hw
  obtain⟨r,_,hr⟩:=Option.map_eq_some_iff.1 hw
  simp only[qE1,List.getElem?_map,List.toList_toArray] at h5
  obtain⟨z,_,hz⟩:=Option.map_eq_some_iff.1 h5
  rw[←hr] at hz
  cases hz
 exact(World.cell?_of_block (a:=⟨g,o+j,none⟩) (Below.heap_setCell _ _ _ _ hgb)).trans (hc j w hw)
theorem qYs (tt:Int) (n:Nat) (h0:0<n) (h6:n≤3000):∃k:Nat,(wrap64 (tt.tmod ↑n+↑n)).tmod ↑n=(k:Int)∧k<n:=by
 have h1:=Int.natAbs_tmod tt n
 have h2:(tt.tmod (n:Int)).natAbs<n:=by rw[h1];exact Nat.mod_lt _ (by simpa using h0)
 generalize tt.tmod ↑n=t at h2
 have h3:wrap64 (t+n)=t+n:=by unfold wrap64;omega
 rw[h3,Int.tmod_eq_emod_of_nonneg (by omega)]
 have h4:=Int.emod_nonneg (t+n) (show (n:Int)≠0 by omega)
 have h5:=Int.emod_lt_of_pos (t+n) (show (0:Int)<n by omega)
 exact⟨((t+n) % n).toNat,by omega,by omega⟩
theorem qRm {c:List NodeA} (hC:Cl c) {k:Nat} {n:NodeA} (hn:c[k]? = some n) (h3:¬qGg c n=3) (h1:¬qGg c n=1):(n.op==7)=decide (0<((qAy c k).length:Int)):=by
 have hw:=hC.ws n (List.mem_of_getElem? hn)
 unfold qGg at h3 h1
 unfold qAy
 rw[qBf hn]
 by_cases h0:n.op=0
 ·exfalso;rw[if_pos (hw.s0 h0),if_pos h0] at h1;omega
 rw[if_neg h0]
 by_cases h2:n.op=2
 ·exfalso;rw[if_pos (hw.s2 (.inl h2)).1,if_neg h0,if_neg (by omega),if_pos h2] at h3;omega
 rw[if_neg h2]
 by_cases h3':n.op=3
 ·exfalso;rw[if_pos (hw.s2 (.inr (.inl h3'))).1,if_neg h0,if_neg (by omega),if_neg h2,if_pos h3'] at h3;omega
 rw[if_neg h3']
 by_cases h6:n.op=6
 ·rw[if_pos h6]
  by_cases hs:srt c n.a0=0
  ·exfalso;rw[if_pos (hw.s6 h6).1,if_neg h0,if_neg (by omega),if_neg h2,if_neg h3',if_neg (by omega),if_neg (by omega),if_neg (by omega),if_pos h6,if_pos hs] at h3;omega
  ·rw[if_neg hs,h6];rfl
 rw[if_neg h6]
 by_cases h7:n.op=7
 ·rw[if_pos h7]
  by_cases hs:n.sort=0
  ·exfalso;rw[if_pos hs,if_neg h0,if_neg (by omega),if_neg h2,if_neg h3',if_pos h7] at h3;omega
  rw[if_neg hs,h7]
  split<;>rfl
 ·rw[if_neg h7]
  rw[beq_eq_false_iff_ne.2 h7];rfl
set_option maxHeartbeats 16000000 in
theorem ShapeTight_c (w:World) (x:SigV) (hX:SigR w x) (y:WorV) (hY:WorR w y) (l:List NodeA) (ad:Option Addr) (cp:Nat) (hA:TabR w l ad cp) (xs:List Int) (b1:Option Addr) (d1:Nat) (hXs:IntsR w xs b1 d1) (tt:Int) (htt:I64 tt) (hG:GT w) :
  Calls Tryz.prog 4 #[.agg #[.slice x.sa x.sorts.length x.sc,.slice x.fa x.funs.length x.fc,.slice x.ma x.macs.length x.mc],.agg #[.slice y.sa y.sizes.length y.sc,.slice y.fa y.funs.length y.fc],.agg #[.slice ad l.length cp],.slice b1 xs.length d1,.int .i64 tt] w fun e w'=>e=.returned (.bool true)∧Below w.heap.size w w':=by
 have hlm:l.length≤9223372036854775807:=by have h1:=hA.le;have h2:=hA.cap;simp only[maxLen] at h2;omega
 have hx2:xs.length≤9223372036854775807:=by have h1:=hXs.le;have h2:=hXs.cap;simp only[maxLen] at h2;omega
 obtain⟨W0,hW0⟩:∃W0,W0=((w.alloc (.cells #[.slice x.sa x.sorts.length x.sc,.slice x.fa x.funs.length x.fc,.slice x.ma x.macs.length x.mc] 26)).alloc (.cells #[.slice y.sa y.sizes.length y.sc,.slice y.fa y.funs.length y.fc] 30)).alloc (.cells #[.slice ad l.length cp] 33):=⟨_,rfl⟩
 obtain⟨hB0,hs0,hX0⟩:=qYk hW0
 have HK:=Lib.hid hX0
 have HB0:=Lib.hid hB0
 have HU:Hid (∀V,Below W0.heap.size W0 V→Below w.heap.size w V):=fun V hV=>hB0.trans (hV.mono hB0.size)
 have HWk:Hid (∀V,Below W0.heap.size W0 V→Calls Tryz.prog 8 #[] V fun e w'=>e=.returned (.bool true)∧Hid (Below W0.heap.size W0 w')):=fun V hV=>(qJl V ((hG.below hB0).below hV)).mono fun e w' ⟨h1,h2⟩=>⟨h1,qA5 hV h2⟩
 have HGs:Hid (∀V,Below W0.heap.size W0 V→Calls Tryz.prog 5 #[.agg #[.slice x.sa x.sorts.length x.sc,.slice x.fa x.funs.length x.fc,.slice x.ma x.macs.length x.mc]] V fun e w'=>∃q,e=.returned (.bool q)∧Hid (Below W0.heap.size W0 w')):=fun V hV=>(Go.Proofs.YtfgpimhdjlmapaaGreatDoor.Great_any x V ((hX.below hB0).below hV)).mono fun e w' ⟨⟨q,h1⟩,h2⟩=>⟨q,h1,qA5 hV h2⟩
 have HGw:Hid (∀V,Below W0.heap.size W0 V→Calls Tryz.prog 6 #[.agg #[.slice y.sa y.sizes.length y.sc,.slice y.fa y.funs.length y.fc]] V fun e w'=>∃q,e=.returned (.bool q)∧Hid (Below W0.heap.size W0 w')):=fun V hV=>(qI2 y V ((hY.below hB0).below hV)).mono fun e w' ⟨⟨q,h1⟩,h2⟩=>⟨q,h1,qA5 hV h2⟩
 have HGt:Hid (∀q,decide (300<l.length)=q→∀V,Below W0.heap.size W0 V→Calls Tryz.prog 7 #[.agg #[.slice ad l.length cp]] V fun e w'=>e=.returned (.bool q)∧Hid (Below W0.heap.size W0 w')):=fun q hq V hV=>(Great_any l ad cp q V hlm hq).mono fun e w' ⟨h1,h2⟩=>⟨h1,qA5 hV h2⟩
 have HOf:Hid (l.length≤300→xs.length≤100→∀V,Below W0.heap.size W0 V→Calls Tryz.prog 9 #[.agg #[.slice ad l.length cp],.slice b1 xs.length d1,.int .i64 2000] V fun e w'=>Hid (Below W0.heap.size W0 w')∧((∃(c:List NodeA) (ac:Option Addr) (cc:Nat) (b:Option Addr) (d:Nat),e=.returned (.tuple #[.agg #[.slice ac c.length cc],.slice b xs.length d,.int .i64 0])∧Hid (Cl c)∧Hid (TabR w' c ac cc))∨(∃er:Int,¬er=0∧e=.returned (.tuple #[.agg #[.slice none 0 0],.slice none 0 0,.int .i64 er])))):=fun h1 h2 V hV=>(qLm l (by omega) ad cp xs b1 d1 V ((hA.below hB0).below hV) ((hXs.below hB0).below hV) (by omega)).mono fun e w' ⟨g1,g2⟩=>⟨qA5 hV g1,g2⟩
 have HGT:Hid (∀V,Below W0.heap.size W0 V→GT V):=fun V hV=>(hG.below hB0).below hV
 have HXY:Hid (∀V,Below W0.heap.size W0 V→SigR V x∧WorR V y):=fun V hV=>⟨(hX.below hB0).below hV,(hY.below hB0).below hV⟩
 obtain⟨q,hq⟩:∃q,decide (300<l.length)=q:=⟨_,rfl⟩
 have HGq:=Lib.hid (HGt.out q hq)
 obtain⟨x0,x1,x2,y0,y1,t0,tz⟩:=hX0 W0 (Below.refl _ _)
 have HQ:=Lib.hid hq
 have hA0:=hW0.symm
 clear hW0 hX0 hX hY hA hXs hG hB0 HGt hq hs0
 go_enter Tryz.func4,Tryz.ntmps4
 go_wp2_with fail
 refine(HGs.out _ (Below.refl _ _)).mono ?_
 rintro e w1 ⟨qs,rfl,HB1⟩
 cases qs with
 | true =>
  go_wp2_with (go_at_call 8;refine(HWk.out _ HB1.out).mono ?_;rintro e w2 ⟨rfl,HB2⟩)
  go_ret
  exact⟨rfl,HU.out _ HB2.out⟩
 | false =>
  clear x0 x1 x2 y0 y1 t0 tz
  obtain⟨x0,x1,x2,y0,y1,t0,tz⟩:=HK.out w1 HB1.out
  go_wp2_with fail
  refine(HGw.out _ HB1.out).mono ?_
  rintro e w2 ⟨qw,rfl,HB2⟩
  cases qw with
  | true =>
   go_wp2_with (go_at_call 8;refine(HWk.out _ HB2.out).mono ?_;rintro e w3 ⟨rfl,HB3⟩)
   go_ret
   exact⟨rfl,HU.out _ HB3.out⟩
  | false =>
   clear x0 x1 x2 y0 y1 t0 tz
   obtain⟨x0,x1,x2,y0,y1,t0,tz⟩:=HK.out w2 HB2.out
   go_wp2_with fail
   refine(HGq.out _ HB2.out).mono ?_
   rintro e w3 ⟨rfl,HB3⟩
   cases q with
   | true =>
    go_wp2_with (go_at_call 8;refine(HWk.out _ HB3.out).mono ?_;rintro e w4 ⟨rfl,HB4⟩)
    go_ret
    exact⟨rfl,HU.out _ HB4.out⟩
   | false =>
    clear x0 x1 x2 y0 y1 t0 tz
    obtain⟨x0,x1,x2,y0,y1,t0,tz⟩:=HK.out w3 HB3.out
    by_cases hx:100<xs.length
    ·have hxi:(100:Int)<(xs.length:Int):=by omega
     go_wp2_with (go_at_call 8;refine(HWk.out _ HB3.out).mono ?_;rintro e w4 ⟨rfl,HB4⟩)
     go_ret
     exact⟨rfl,HU.out _ HB4.out⟩
    ·have hxi:¬(100:Int)<(xs.length:Int):=by omega
     have hl3:l.length≤300:=by have:=of_decide_eq_false HQ.out;omega
     have HOq:=Lib.hid (HOf.out hl3 (by omega))
     go_wp2_with fail
     refine(HOq.out _ HB3.out).mono ?_
     rintro e w4 ⟨HB4,⟨c,a,ca,b,d,rfl,HC,HT⟩|⟨er,her,rfl⟩⟩
     ·obtain⟨W3,hW3⟩:∃W3,W3=w4.alloc (.cells #[.slice a c.length ca] 33):=⟨_,rfl⟩
      obtain⟨hb3,hX3⟩:=qAz hW3
      have HB5:Hid (Below W0.heap.size W0 W3):=qA5 HB4.out hb3
      have HK3:Hid (∀V,Below W3.heap.size W3 V→V.cell? ⟨w4.heap.size,0,none⟩=some (.slice a c.length ca)∧w4.heap.size<V.heap.size):=fun V hV=>⟨(cell_of_row _ _ 0 _ _ _ (hX3 V hV).1).trans rfl,(hX3 V hV).2⟩
      have HT3:Hid (TabR W3 c a ca):=HT.out.below hb3
      have hlen:c.length≤2000:=HC.out.len
      have hc0:0<c.length:=by have:=qE3 HC.out.may;omega
      have HTd:Hid (Calls Tryz.prog 10 #[.agg #[.slice x.sa x.sorts.length x.sc,.slice x.fa x.funs.length x.fc,.slice x.ma x.macs.length x.mc],.agg #[.slice y.sa y.sizes.length y.sc,.slice y.fa y.funs.length y.fc],.agg #[.slice a c.length ca]] W3 fun e w'=>Hid (qRj x y c W3 e w')):=qNy x y c a ca W3 (HXY.out _ HB5.out).1 (HXY.out _ HB5.out).2 HT3.out hlen (fun h0 k hk hs=>qMu h0 hk hs)
      have hA3:=hW3.symm
      clear hW3 hb3 hX3 HT x0 x1 x2 y0 y1 t0 tz
      obtain⟨x0,x1,x2,y0,y1,t0,tz⟩:=HK.out W3 HB5.out
      obtain⟨c0,cz⟩:=HK3.out W3 (Below.refl _ _)
      go_wp2_with fail
      refine HTd.out.mono ?_
      rintro e w5 HP
      rcases HP.out with⟨hb5,rfl⟩|⟨h0,no,b5,rfl,hTd⟩
      ·have HB6:Hid (Below W0.heap.size W0 w5):=qA5 HB5.out hb5
       clear hb5
       go_wp2_with (go_at_call 8;refine(HWk.out _ HB6.out).mono ?_;rintro e w6 ⟨rfl,HB7⟩)
       go_ret
       exact⟨rfl,HU.out _ HB7.out⟩
      ·have HB6:Hid (Below W0.heap.size W0 w5):=qA5 HB5.out hTd.bel
       obtain⟨c1,cz1⟩:=HK3.out w5 hTd.bel
       obtain⟨k,hkk,hkc⟩:=qYs tt c.length hc0 (by omega)
       obtain⟨n,hn⟩:∃n,c[k]? = some n:=⟨_,List.getElem?_eq_getElem hkc⟩
       have HTR:=Lib.hid hTd
       have HWo:Hid (WoR x y c (evK x y c c.length)):=⟨HC.out,qLv h0,no⟩
       have H00:=Lib.hid h0
       clear hTd h0 no HP
       obtain⟨g2,o2,rfl,_⟩:=HT3.out.node hn
       have HA5:Hid (∀V,Below w5.heap.size w5 V→TabR V c (some ⟨g2,o2,none⟩) ca∧GT V∧V.cell? ⟨w4.heap.size,0,none⟩=some (.slice (some ⟨g2,o2,none⟩) c.length ca)∧w4.heap.size<V.heap.size):=fun V hV=>⟨(HT3.out.below HTR.out.bel).below hV,HGT.out _ (qA5 HB6.out hV),HK3.out V (qA5 HTR.out.bel hV)⟩
       have HKd:Hid (∀V,Below w5.heap.size w5 V→Calls Tryz.prog 13 #[.agg #[.slice (some ⟨g2,o2,none⟩) c.length ca],.int .i64 k] V fun e w'=>e=.returned (.int .i8 (qGg c n))∧Hid (Below w5.heap.size w5 w')):=fun V hV=>(qUs c HC.out (some ⟨g2,o2,none⟩) ca k n hn V (HA5.out V hV).1).mono fun e w' ⟨h1,h2⟩=>⟨h1,qA5 hV h2⟩
       have HO5:Hid (∀V,Below w5.heap.size w5 V→Calls Tryz.prog 14 #[.agg #[.slice (some ⟨g2,o2,none⟩) c.length ca],.int .i64 k] V fun e w'=>∃b d,e=.returned (.tuple #[.slice b (qAy c k).length d,.int .i64 0])∧Hid (qAm w' (.slice b (qAy c k).length d) (qAy c k))∧Hid (Below w5.heap.size w5 w')):=fun V hV=>(qKj c HC.out (some ⟨g2,o2,none⟩) ca k hkc V (HA5.out V hV).2.1 (HA5.out V hV).1).mono fun e w' ⟨b,d,h1,h2,h3⟩=>⟨b,d,h1,h2,qA5 hV h3.out⟩
       have HBd:Hid (∀m,Below w5.heap.size w5 (w5.drewN m)):=fun m=>qA1 (Below.refl _ _)
       have hki:(k:Int)<(c.length:Int):=by omega
       have hk0:(0:Int)≤(k:Int):=by omega
       have HN:=Lib.hid hn
       obtain⟨kd,hkd⟩:∃kd,kd=qGg c n:=⟨_,rfl⟩
       rw[←hkd] at HKd
       have HKD:=Lib.hid hkd
       clear hn hkd
       go_wp2
       go_quiet (fail)
       by_cases h3:kd=3∨kd=1
       ·have hbr:qGf (qDq (evK x y c c.length) c k) (qAy c k)=false:=qRl HWo.out HN.out (by rw[←HKD.out];exact h3)
        have HBr:=Lib.hid hbr
        clear hbr
        have hs0:(qAd c k).sort=0:=by
         rw[qBf HN.out]
         by_cases e:n.sort=0
         ·exact e
         ·have h:=HKD.out
          unfold qGg at h
          rw[if_neg e] at h
          omega
        have hbit:=HWo.out.bit hkc hs0
        obtain⟨z,hz⟩:∃z,z=tdV (evK x y c c.length) c k:=⟨_,rfl⟩
        have hzz:z=2∨z=1:=by
         rw[hz]
         unfold tdV
         rw[if_pos hs0]
         unfold vA at hbit
         omega
        have HZ:=Lib.hid hz
        have HHo:Hid (∀V rb rd,Below w5.heap.size w5 V→qAm V (.slice rb (qAy c k).length rd) (qAy c k)→Calls Tryz.prog 12 #[.slice rb (qAy c k).length rd,.slice (some ⟨b5,0,none⟩) c.length c.length] (V.setCell ⟨b5,k,none⟩ (.int .i8 (3-z))) fun e w'=>e=.returned (.bool false)∧Hid (Below W0.heap.size W0 w')):=fun V rb rd hV hR=>by
         have hrow:V.heap[b5]? = some (.cells (qE1 (tdL (evK x y c c.length) c)) 49 (0,0)):=(hV.block _ (Array.getElem?_eq_some_iff.1 HTR.out.row).1).trans HTR.out.row
         have hset:=qVs hrow k (3-z)
         have hfl:qDq (evK x y c c.length) c k=(tdL (evK x y c c.length) c).set k (3-z):=by unfold qDq;rw[HZ.out]
         rw[←hfl] at hset
         have hlf:(qDq (evK x y c c.length) c k).length=c.length:=by unfold qDq;rw[List.length_set,qFq]
         have hI:=qRi hset (by omega)
         have hok:∀zs∈qAy c k,zs.length≤3∧∀u∈zs,0≤u∧u<2*((qDq (evK x y c c.length) c k).length:Int):=fun xs hx=>by
          obtain⟨_,q2,_,q4⟩:=qCm HC.out hkc xs hx
          rw[hlf]
          exact⟨q4,q2⟩
         have hrg:∀q∈qDq (evK x y c c.length) c k,0≤q∧q≤2:=fun q hq=>by
          rw[hfl] at hq
          rcases List.mem_or_eq_of_mem_set hq with h|h
          ·exact qO0 H00.out q h
          ·omega
         have hr:=qJi (qAy c k) (qDq (evK x y c c.length) c k) rb rd (some ⟨b5,0,none⟩) (qDq (evK x y c c.length) c k).length _ (qYr (i:=k) (u:=.int .i8 (3-z)) hR hrow) hI hok hrg (by omega) (by have:=qKl c k;omega)
         rw[hlf,HBr.out] at hr
         have hlo:=HTR.out.lo
         exact hr.mono fun e w' ⟨h1,h2⟩=>⟨h1,qA5 ((qA5 HB6.out hV).setCell (p:=⟨b5,k,none⟩) (by show W0.heap.size≤b5;have:=HB5.out.size;omega) _) h2⟩
        have HTc:Hid (∀V,Below w5.heap.size w5 V→V.cell? ⟨b5,k,none⟩=some (.int .i8 z)∧V.frozen? ⟨b5,k,none⟩=false∧b5<V.heap.size):=fun V hV=>by
         have hrow:V.heap[b5]? = some (.cells (qE1 (tdL (evK x y c c.length) c)) 49 (0,0)):=(hV.block _ (Array.getElem?_eq_some_iff.1 HTR.out.row).1).trans HTR.out.row
         exact⟨by rw[HZ.out];exact qRh hrow (qJj hkc),qF6 hrow k,(Array.getElem?_eq_some_iff.1 hrow).1⟩
        clear hz hbit hs0
        rcases h3 with h3|h3<;>rcases hzz with rfl|rfl<;>subst h3
        all_goals
         go_wp2_with (first
          | (go_at_call 13;refine(HKd.out _ (HBd.out _)).mono ?_;rintro e w6 ⟨rfl,HB7⟩;obtain⟨-,-,u0,uz⟩:=HA5.out _ HB7.out)
          | (go_at_call 14;refine(HO5.out _ HB7.out).mono ?_;rintro e w7 ⟨rb,rd,rfl,HR7,HB8⟩;obtain⟨r0,rf,rz⟩:=HTc.out _ HB8.out)
          | (go_at_call 12;refine(HHo.out _ _ _ HB8.out HR7.out).mono ?_;rintro e w8 ⟨rfl,HB9⟩)
          | (go_at_call 8;refine(HWk.out _ HB9.out).mono ?_;rintro e w9 ⟨rfl,HB10⟩))
         go_ret
         exact⟨rfl,HU.out _ HB10.out⟩
       ·have hf:=qRm HC.out HN.out (by rw[←HKD.out];omega) (by rw[←HKD.out];omega)
        have d3:=qDf (show ¬kd=3 by omega)
        have d1:=qDf (show ¬kd=1 by omega)
        have HNd:Hid (∀V,Below w5.heap.size w5 V→V.cell? ⟨g2,o2+k*8,none⟩=some (.int .i8 n.op)∧g2<V.heap.size):=fun V hV=>by
         obtain⟨_,_,e9,hg,q0,_⟩:=(HA5.out V hV).1.node HN.out
         cases e9
         exact⟨q0,hg⟩
        obtain⟨L,hL⟩:∃L,L=(qAy c k).length:=⟨_,rfl⟩
        rw[←hL] at hf HO5
        clear hL h3
        by_cases h7:n.op=7
        ·have e7:=qC9 h7
         rw[e7] at hf
         have hLp:(0:Int)<(L:Int):=of_decide_eq_true hf.symm
         clear hf h7
         go_wp2_with (first
          | (go_at_call 13;refine(HKd.out _ (HBd.out _)).mono ?_;rintro e w6 ⟨rfl,HB7⟩;obtain⟨-,-,u0,uz⟩:=HA5.out _ HB7.out)
          | (go_at_call 14;refine(HO5.out _ HB7.out).mono ?_;rintro e w7 ⟨rb,rd,rfl,HR7,HB8⟩;obtain⟨-,-,s0,sz⟩:=HA5.out _ HB8.out;obtain⟨n0,nz⟩:=HNd.out _ HB8.out)
          | (go_at_call 8;refine(HWk.out _ (qA5 HB6.out HB8.out)).mono ?_;rintro e w9 ⟨rfl,HB10⟩))
         go_ret
         exact⟨rfl,HU.out _ HB10.out⟩
        ·have e7:=qB7 h7
         rw[e7] at hf
         have hLp:¬(0:Int)<(L:Int):=of_decide_eq_false hf.symm
         clear hf h7
         go_wp2_with (first
          | (go_at_call 13;refine(HKd.out _ (HBd.out _)).mono ?_;rintro e w6 ⟨rfl,HB7⟩;obtain⟨-,-,u0,uz⟩:=HA5.out _ HB7.out)
          | (go_at_call 14;refine(HO5.out _ HB7.out).mono ?_;rintro e w7 ⟨rb,rd,rfl,HR7,HB8⟩;obtain⟨-,-,s0,sz⟩:=HA5.out _ HB8.out;obtain⟨n0,nz⟩:=HNd.out _ HB8.out)
          | (go_at_call 8;refine(HWk.out _ (qA5 HB6.out HB8.out)).mono ?_;rintro e w9 ⟨rfl,HB10⟩))
         go_ret
         exact⟨rfl,HU.out _ HB10.out⟩
     ·have e0:=qDf her
      clear her
      have HBn:Hid (∀ob,Below W0.heap.size W0 (w4.alloc ob)):=fun ob=>HB4.out.alloc HB4.out.size _
      go_wp2_with (go_at_call 8;refine(HWk.out _ (HBn.out _)).mono ?_;rintro e w5 ⟨rfl,HB5⟩)
      go_ret
      exact⟨rfl,HU.out _ HB5.out⟩
end Go.Proofs.YtfgpimhdjlmapaaGreatDoor.Tm
