/- Package offset's Diff, and the nodes that it puts. -/
import Derived.ScopeJumps
import Derived.WalkMore
import Derived.Deep.AppendLies
import Derived.Deep.RegionLaw
import Derived.Laws.CopyOwn
import Derived.Deep.RegionHeld3
import Derived.WalkSmall
import Derived.Deep.LoopGhost
import Derived.Laws.MakeOwn
import Derived.Laws.EntriesVeiled
import Derived.Sort.OwnSortedInts
import Derived.Lib.RowBridge
import Derived.DeepKeys4
import Derived.WalkArith
import Derived.Maps.OwnSet
import Derived.Maps.OwnIn
import Derived.Maps.AppendAt
import Derived.Deep.CutRange
import Derived.Laws.Cover3
import Derived.Laws.Append
import Derived.Maps.Ext
import Derived.Carry
import Derived.Test.YtfgpimhdjlmapaaGreatDoorShf
import Derived.Test.YtfgpimhdjlmapaaGreatDoorNumMay
import Derived.Test.YtfgpimhdjlmapaaGreatDoorOfJ
import Derived.Test.YtfgpimhdjlmapaaGreatDoorTmC
import Derived.Deep.RegionHeldLaw
import Derived.Laws.Bits128
import Derived.Test.YtfgpimhdjlmapaaGreatDoorTmJ
namespace Go.Proofs.YtfgpimhdjlmapaaGreatDoor.Tm
open Go.RowKit
set_option linter.unusedVariables false
set_option maxRecDepth 100000
def Sum (w:World) (b:Nat) (s:Int × Int):Prop:=w.heap[b]? = some (.cells #[.int .i64 s.1,.int .i64 s.2] 173 (0,0))
theorem Sum.c0 {w:World} {b:Nat} {s:Int × Int} (h:Sum w b s):w.cell? ⟨b,0,none⟩=some (.int .i64 s.1):=(cell_of_row _ _ 0 _ _ _ h).trans rfl
theorem Sum.c1 {w:World} {b:Nat} {s:Int × Int} (h:Sum w b s):w.cell? ⟨b,1,none⟩=some (.int .i64 s.2):=(cell_of_row _ _ 1 _ _ _ h).trans rfl
theorem Sum.fz {w:World} {b:Nat} {s:Int × Int} (h:Sum w b s) (i:Nat):w.frozen? ⟨b,i,none⟩=false:=by unfold Sum at h;simp[World.frozen?,h]
theorem Sum.lt {w:World} {b:Nat} {s:Int × Int} (h:Sum w b s):b<w.heap.size:=(Array.getElem?_eq_some_iff.1 h).1
theorem Sum.keep {w w':World} {b:Nat} {s:Int × Int} (h:Sum w b s) (hb:Below w.heap.size w w'):Sum w' b s:=(hb.block _ h.lt).trans h
theorem Sum.set0 {w:World} {b:Nat} {s:Int × Int} (h:Sum w b s) (n:Int):Sum (w.setCell ⟨b,0,none⟩ (.int .i64 n)) b (n,s.2):=by
 exact heap_setCell_same w b 0 _ _ _ h
theorem Sum.set1 {w:World} {b:Nat} {s:Int × Int} (h:Sum w b s) (n:Int):Sum (w.setCell ⟨b,1,none⟩ (.int .i64 n)) b (s.1,n):=by
 exact heap_setCell_same w b 1 _ _ _ h
def qF9 (w:World) (b:Nat) (s:Int × Int) (e:Ending) (w':World):Prop:=e=.returned (.tuple #[])∧Sum w' b s∧But b w w'
theorem qNv (b:Nat) (s:Int × Int) (g:Nat) (x:Int) (w:World) (hs:Sum w b s) (he:s.2≠0) :
  Calls Tryz.prog 116 #[.pointer (some ⟨b,0,none⟩),.func (.func g) #[] #[],.int .i64 x] w (qF9 w b s):=by
 have c1:=hs.c1
 have hz:=hs.lt
 have HS:=Lib.hid hs
 obtain⟨n,e⟩:=s
 have h0:(e==0)=false:=qB7 he
 simp only at c1
 clear hs he
 go_enter Tryz.func116,Tryz.ntmps116
 go_wp2
 refine bodyPost_ret (v:=.tuple #[]) (by simp[results,Tryz.results116,go_sem]) rfl ?_
 exact⟨rfl,HS.out,But.refl _ _⟩
theorem qNw (b:Nat) (s:Int × Int) (x:Int) (w:World) (hs:Sum w b s) (hn:I64 s.1) (hx:I64 x) :
  Calls Tryz.prog 116 #[.pointer (some ⟨b,0,none⟩),.func (.func 118) #[] #[],.int .i64 x] w (qF9 w b (qCk s x)):=by
 by_cases he:s.2=0
 rotate_left
 ·rw[qQx he]
  exact qNv b s _ x w hs he
 obtain⟨n,e⟩:=s
 obtain rfl:e=0:=he
 rw[qGa]
 have c0:=hs.c0
 have c1:=hs.c1
 have hz:=hs.lt
 have HS:=Lib.hid hs
 have HA:Hid (∀V,Calls Tryz.prog 118 #[.int .i64 n,.int .i64 x] V fun e w'=>e=.returned (.tuple #[.int .i64 (qC6 n x),.int .i64 (qC4 n x)])∧Below V.heap.size V w'):=fun V=>qXs n x V hn hx
 obtain⟨r0,hr0⟩:∃r,qC6 n x=r:=⟨_,rfl⟩
 obtain⟨r1,hr1⟩:∃r,qC4 n x=r:=⟨_,rfl⟩
 rw[hr0,hr1] at HA
 rw[hr0,hr1]
 simp only at c0 c1
 clear hs hn hx hr0 hr1
 go_enter Tryz.func116,Tryz.ntmps116
 go_wp2_with (go_at_call 118;refine(HA.out _).mono ?_;rintro e w1 ⟨rfl,hb1⟩;have HB1:=Lib.hid hb1;have s1:=HS.out.keep hb1;have f0:=s1.fz 0;have d0:=s1.c0;have d1:=s1.c1;have zz:=s1.lt;have f1:=s1.fz 1;simp only at d0 d1;clear c0 c1;have HS1:=Lib.hid s1;clear hb1 s1)
 refine bodyPost_ret (v:=.tuple #[]) (by simp[results,Tryz.results116,go_sem]) rfl ?_
 exact⟨rfl,(HS1.out.set0 r0).set1 r1,((But.of HB1.out).set).set⟩
theorem qUk (b:Nat) (s:Int × Int) (x:Int) (w:World) (hs:Sum w b s) (hn:I64 s.1) (hx:I64 x) :
  Calls Tryz.prog 116 #[.pointer (some ⟨b,0,none⟩),.func (.func 117) #[] #[],.int .i64 x] w (qF9 w b (qHc s x)):=by
 by_cases he:s.2=0
 rotate_left
 ·rw[qQy he]
  exact qNv b s _ x w hs he
 obtain⟨n,e⟩:=s
 obtain rfl:e=0:=he
 rw[qKb]
 have c0:=hs.c0
 have c1:=hs.c1
 have hz:=hs.lt
 have HS:=Lib.hid hs
 have HA:Hid (∀V,Calls Tryz.prog 117 #[.int .i64 n,.int .i64 x] V fun e w'=>e=.returned (.tuple #[.int .i64 (qFc n x),.int .i64 (qFs n x)])∧Below V.heap.size V w'):=fun V=>qXt n x V hn hx
 obtain⟨r0,hr0⟩:∃r,qFc n x=r:=⟨_,rfl⟩
 obtain⟨r1,hr1⟩:∃r,qFs n x=r:=⟨_,rfl⟩
 rw[hr0,hr1] at HA
 rw[hr0,hr1]
 simp only at c0 c1
 clear hs hn hx hr0 hr1
 go_enter Tryz.func116,Tryz.ntmps116
 go_wp2_with (go_at_call 117;refine(HA.out _).mono ?_;rintro e w1 ⟨rfl,hb1⟩;have HB1:=Lib.hid hb1;have s1:=HS.out.keep hb1;have f0:=s1.fz 0;have d0:=s1.c0;have d1:=s1.c1;have zz:=s1.lt;have f1:=s1.fz 1;simp only at d0 d1;clear c0 c1;have HS1:=Lib.hid s1;clear hb1 s1)
 refine bodyPost_ret (v:=.tuple #[]) (by simp[results,Tryz.results116,go_sem]) rfl ?_
 exact⟨rfl,(HS1.out.set0 r0).set1 r1,((But.of HB1.out).set).set⟩
structure RootW (w V:World) (l:List NodeA) (a:Option Addr) (c:Nat) (s:Int × Int):Prop where
 below:Below w.heap.size w V
 sum:Sum V (w.heap.size+1) s
 tab:V.heap[w.heap.size]? = some (.cells #[.slice a l.length c] 33 (0,0))
 i64:I64 s.1
theorem RootW.then {w V V':World} {l:List NodeA} {a:Option Addr} {c:Nat} {s s':Int × Int} {o:Obj} (h:RootW w V l a c s) (hs:Sum V' (w.heap.size+1) s') (hb:But (w.heap.size+1) (V.alloc o) V') (hi:I64 s'.1):RootW w V' l a c s':=by
 have hz:=h.sum.lt
 refine⟨?_,hs,(hb.block _ (by simp;omega) (by omega)).trans ((Below.heap_alloc _ _ _ (by omega)).trans h.tab),hi⟩
 have h1:=h.below.alloc (by have:=h.below.size;omega) o
 exact⟨hb.os.trans h1.os,hb.tape.trans h1.tape,hb.output.trans h1.output,Nat.le_trans h1.size hb.size,fun k hk=>(hb.block k (Nat.lt_of_lt_of_le hk h1.size) (by omega)).trans (h1.block k hk)⟩
theorem qNx {w V:World} {l:List NodeA} {a:Option Addr} {c:Nat} {s:Int × Int} (h:RootW w V l a c s):Sum ((V.setCell ⟨w.heap.size+1,0,none⟩ (.int .i64 s.1)).setCell ⟨w.heap.size+1,1,none⟩ (.int .i64 s.2)).drew (w.heap.size+1) s∧Below w.heap.size w ((V.setCell ⟨w.heap.size+1,0,none⟩ (.int .i64 s.1)).setCell ⟨w.heap.size+1,1,none⟩ (.int .i64 s.2)).drew :=
 ⟨(h.sum.set0 s.1).set1 s.2,((h.below.setCell (p:=⟨w.heap.size+1,0,none⟩) (by simp) _).setCell (p:=⟨w.heap.size+1,1,none⟩) (by simp) _).drew⟩
theorem qLi {w V:World} {l:List NodeA} {a:Option Addr} {c:Nat} {s:Int × Int} (h:RootW w V l a c s) (o:Obj):Sum (((V.setCell ⟨w.heap.size+1,0,none⟩ (.int .i64 s.1)).setCell ⟨w.heap.size+1,1,none⟩ (.int .i64 s.2)).alloc o).drew (w.heap.size+1) s∧Below w.heap.size w (((V.setCell ⟨w.heap.size+1,0,none⟩ (.int .i64 s.1)).setCell ⟨w.heap.size+1,1,none⟩ (.int .i64 s.2)).alloc o).drew :=
 ⟨Sum.keep ((h.sum.set0 s.1).set1 s.2) ((Below.refl _ _).alloc (Nat.le_refl _) _).drew,(((h.below.setCell (p:=⟨w.heap.size+1,0,none⟩) (by simp) _).setCell (p:=⟨w.heap.size+1,1,none⟩) (by simp) _).alloc (by simpa using h.below.size) o).drew⟩
set_option maxHeartbeats 4000000 in
theorem qUl (l:List NodeA) (a:Option Addr) (c k:Nat) (w:World) (hA:TabR w l a c) (hm:qBu l=true) (hk:k<l.length) (hl:l.length≤3000) :
  Calls Tryz.prog 134 #[.agg #[.slice a l.length c],.int .i64 k] w fun e w'=>e=.returned (.tuple #[.int .i64 (qC3 l k).1,.agg #[.int .i64 (qC3 l k).2.1,.int .i64 (qC3 l k).2.2]])∧Below w.heap.size w w':=by
 obtain⟨R,hR⟩:∃R,qC3 l k=R:=⟨_,rfl⟩
 rw[hR]
 have HR:Hid (qE5 l (k+1) k (0,0)=R):=hR
 have HOK:=Lib.hid (mayT_ok hm).2
 have HA:=Lib.hid hA
 have hcap:=hA.le
 have HT:Hid (∀(V:World) (s:Int × Int) (x:Int),Sum V (w.heap.size+1) s→I64 s.1→I64 x→Calls Tryz.prog 116 #[.pointer (some ⟨w.heap.size+1,0,none⟩),.func (.func 118) #[] #[],.int .i64 x] V (qF9 V (w.heap.size+1) (qCk s x))):=fun V s x h1 h2 h3=>qNw _ s x V h1 h2 h3
 have HC:Hid (∀(V:World) (s:Int × Int) (m:Nat) (n:NodeA),RootW w V l a c s→l[m]? = some n→∃g o:Nat,a=some ⟨g,o,none⟩∧g<V.heap.size∧w.heap.size<V.heap.size∧w.heap.size+1<V.heap.size∧V.cell? ⟨w.heap.size,0,none⟩=some (.slice a l.length c)∧V.cell? ⟨g,o+m*8,none⟩=some (.int .i8 n.op)∧V.cell? ⟨g,o+m*8+1,none⟩=some (.int .i8 n.len)∧V.cell? ⟨g,o+m*8+2,none⟩=some (.int .i64 n.a0)∧V.cell? ⟨g,o+m*8+3,none⟩=some (.int .i64 n.a1)∧V.cell? ⟨g,o+m*8+4,none⟩=some (.int .i64 n.a2)∧V.cell? ⟨g,o+m*8+5,none⟩=some (.int .i64 n.sort)∧V.cell? ⟨g,o+m*8+6,none⟩=some (.int .i64 n.fn)∧V.cell? ⟨g,o+m*8+7,none⟩=some (.int .i64 n.num)):=fun V s m n hV hn=>by
  obtain⟨g,o,e,hg,q0,q1,q2,q3,q4,q5,q6,q7⟩:=(HA.out.below hV.below).node hn
  exact⟨g,o,e,hg,(Array.getElem?_eq_some_iff.1 hV.tab).1,hV.sum.lt,(cell_of_row _ _ 0 _ _ _ hV.tab).trans rfl,q0,q1,q2,q3,q4,q5,q6,q7⟩
 obtain⟨W0,hW0⟩:∃W0,W0=(w.alloc (.cells #[.slice a l.length c] 33)).alloc (.cells #[.int .i64 0,.int .i64 0] 173):=⟨_,rfl⟩
 have HW0:Hid (RootW w W0 l a c (0,0)):=by
  refine⟨?_,?_,?_,⟨by decide,by decide⟩⟩
  ·rw[hW0];exact((Below.refl _ w).alloc (Nat.le_refl _) _).alloc (by simp) _
  ·have:=heap_alloc_new (w.alloc (.cells #[.slice a l.length c] 33)) (.cells #[.int .i64 0,.int .i64 0] 173)
   rw[World.size_alloc] at this
   rw[hW0];exact this
  ·rw[hW0];exact(Below.heap_alloc _ _ _ (by simp)).trans (heap_alloc_new w _)
 obtain⟨n,hn⟩:∃n,l[k]? = some n:=⟨_,List.getElem?_eq_getElem hk⟩
 obtain⟨g,o,rfl,hg,z0,z1,t0,q0,q1,q2,q3,q4,q5,q6,q7⟩:=HC.out _ _ k n HW0.out hn
 have hki:(k:Int)<(l.length:Int):=by omega
 have hk0:(0:Int)≤(k:Int):=by omega
 have hno:=hA.ok n (List.mem_of_getElem? hn)
 have HST:=Lib.hid (ok_at HOK.out hn).1
 have HN:=Lib.hid (And.intro hn hno)
 clear hA hR hm hn hno
 go_enter Tryz.func134,Tryz.ntmps134
 go_wp2
 refine wp_scope_jumps 0 (fun a' w'=>∃(m:Nat) (s:Int × Int) (u6 u7 u8 u9 u10 u11 u12 u13 u14 u15 u16 u17 u18 u19 u20 u21 u22 u23 u24 u25 u26 u27 u28:Value),a'={ tmps:=#[.agg #[.slice (some ⟨g,o,none⟩) l.length c],.int .i64 m,.pointer (some ⟨w.heap.size,0,none⟩),undef,.int .i64 0,.pointer (some ⟨w.heap.size+1,0,none⟩),u6,u7,u8,u9,u10,u11,u12,u13,u14,u15,u16,u17,u18,u19,u20,u21,u22,u23,u24,u25,u26,u27,u28],defers:=[] }∧m<l.length∧Hid (RootW w w' l (some ⟨g,o,none⟩) c s)∧Hid (qE5 l (m+1) m s=R)) (fun a' _=>(intOf (a'.tmps.getD 1 undef)).toNat) rfl ?_ ?_
 ·go_wp2
  rw[←hW0]
  clear hW0
  go_step3
  by_cases h0:n.op=10
  ·have e0:=qC9 h0
   have HF:Hid (R=(1,qCk (0,0) n.num)):=by show _=_;rw[←HR.out];exact qIa HN.out.1 h0
   clear h0
   go_wp2_with (go_at_call 116;refine(HT.out _ (0,0) n.num (HW0.out.sum.keep ((Below.refl _ _).alloc (Nat.le_refl _) _)) HW0.out.i64 HN.out.2.num).mono ?_;rintro e w1 ⟨rfl,hs1,hb1⟩;have HW1:=Lib.hid (HW0.out.then hs1 hb1 (qDn HW0.out.i64));have s0:=hs1.c0;have s1:=hs1.c1;have sf:=hs1.fz;have sz:=hs1.lt;have hq:=(hb1.block _ (by simp) (by simp;omega)).trans (heap_alloc_new _ _);have y0:=(cell_of_row _ _ 2 _ _ _ hq).trans rfl;have yz:=(Array.getElem?_eq_some_iff.1 hq).1;simp only[List.getElem?_toArray,List.getElem?_cons_succ,List.getElem?_cons_zero] at y0;clear hs1 hb1 hq t0 q0 q1 q2 q3 q4 q5 q6 q7 z0 z1)
   go_region
   go_wp2_with fail
   simp only[Exit.jump]
   obtain⟨hsum,hbel⟩:=qNx HW1.out
   have e0:=hsum.c0
   have e1:=hsum.c1
   refine bodyPost_ret (v:=.tuple #[.int .i64 1,.agg #[.int .i64 (qCk (0,0) n.num).1,.int .i64 (qCk (0,0) n.num).2]]) (by simp[results,Tryz.results134,go_sem,e0,e1]) rfl ?_
   exact⟨by rw[HF.out];rfl,hbel⟩
  by_cases h1:n.op=11
  ·have e0:=qB7 h0
   have e1:=qC9 h1
   have HF:Hid (∀m2:Nat,n.a0=(m2:Int)→qE5 l (m2+1) m2 (qCk (0,0) n.num)=R):=fun m2 h=>by
    have hr:=HR.out
    rw[qIb HN.out.1 h1,h] at hr
    rw[←hr]
    have:=qCt HST.out h1
    exact qGx HOK.out _ _ _ _ (by omega) (by omega)
   obtain⟨p0,p1,p2,p3,_⟩:=qCt HST.out h1
   obtain⟨m2,hm2⟩:∃m2:Nat,n.a0=(m2:Int):=⟨n.a0.toNat,by omega⟩
   have HM2:=Lib.hid hm2
   have hmk:m2<k:=by omega
   clear h0 h1 hm2
   go_wp2_with (go_at_call 116;refine(HT.out _ (0,0) n.num (HW0.out.sum.keep ((Below.refl _ _).alloc (Nat.le_refl _) _)) HW0.out.i64 HN.out.2.num).mono ?_;rintro e w1 ⟨rfl,hs1,hb1⟩;have HW1:=Lib.hid (HW0.out.then hs1 hb1 (qDn HW0.out.i64));have s0:=hs1.c0;have s1:=hs1.c1;have sf:=hs1.fz;have sz:=hs1.lt;have hq:=(hb1.block _ (by simp) (by simp;omega)).trans (heap_alloc_new _ _);have y0:=(cell_of_row _ _ 2 _ _ _ hq).trans rfl;have yz:=(Array.getElem?_eq_some_iff.1 hq).1;simp only[List.getElem?_toArray,List.getElem?_cons_succ,List.getElem?_cons_zero] at y0;clear hs1 hb1 hq t0 q0 q1 q2 q3 q4 q5 q6 q7 z0 z1)
   go_step3
   rw[HM2.out]
   exact⟨rfl,m2,qCk (0,0) n.num,_,_,_,_,_,_,_,_,_,_,_,_,_,_,_,_,_,_,_,_,_,_,_,rfl,by omega,HW1,HF.out m2 HM2.out⟩
  ·have e0:=qB7 h0
   have e1:=qB7 h1
   have HF:Hid (R=(k,(0,0))):=by show _=_;rw[←HR.out];exact qGb HN.out.1 h0 h1
   clear h0 h1
   have s0:=HW0.out.sum.c0
   have s1:=HW0.out.sum.c1
   have sf:=HW0.out.sum.fz
   have sz:=HW0.out.sum.lt
   go_wp2_with fail
   go_region
   go_wp2_with fail
   simp only[Exit.jump]
   obtain⟨hsum,hbel⟩:=qLi HW0.out (.cells #[.int .i8 n.op,.int .i8 n.len,.int .i64 n.a0,.int .i64 n.a1,.int .i64 n.a2,.int .i64 n.sort,.int .i64 n.fn,.int .i64 n.num] 54)
   have e0:=hsum.c0
   have e1:=hsum.c1
   refine bodyPost_ret (v:=.tuple #[.int .i64 (k:Nat),.agg #[.int .i64 (0,0).1,.int .i64 (0,0).2]]) (by simp[results,Tryz.results134,go_sem,e0,e1]) rfl ?_
   exact⟨by rw[HF.out],hbel⟩
 ·rintro a' w' ⟨m,s,u6,u7,u8,u9,u10,u11,u12,u13,u14,u15,u16,u17,u18,u19,u20,u21,u22,u23,u24,u25,u26,u27,u28,rfl,hml,HV,HR2⟩
  clear hW0 HN HST hki hk0 z0 z1 t0 q0 q1 q2 q3 q4 q5 q6 q7 n
  obtain⟨n,hn⟩:∃n,l[m]? = some n:=⟨_,List.getElem?_eq_getElem hml⟩
  obtain⟨g',o',he,hg',z0,z1,t0,q0,q1,q2,q3,q4,q5,q6,q7⟩:=HC.out _ _ m n HV.out hn
  cases he
  have hki:(m:Int)<(l.length:Int):=by omega
  have hk0:(0:Int)≤(m:Int):=by omega
  have HST:=Lib.hid (ok_at HOK.out hn).1
  have HN:=Lib.hid (And.intro hn (HA.out.ok n (List.mem_of_getElem? hn)))
  clear hn
  by_cases h0:n.op=10
  ·have e0:=qC9 h0
   have HF:Hid (R=(1,qCk s n.num)):=by show _=_;rw[←HR2.out];exact qIa HN.out.1 h0
   clear h0
   go_wp2_with (go_at_call 116;refine(HT.out _ s n.num (HV.out.sum.keep ((Below.refl _ _).alloc (Nat.le_refl _) _)) HV.out.i64 HN.out.2.num).mono ?_;rintro e w1 ⟨rfl,hs1,hb1⟩;have HW1:=Lib.hid (HV.out.then hs1 hb1 (qDn HV.out.i64));have s0:=hs1.c0;have s1:=hs1.c1;have sf:=hs1.fz;have sz:=hs1.lt;have hq:=(hb1.block _ (by simp) (by simp;omega)).trans (heap_alloc_new _ _);have y0:=(cell_of_row _ _ 2 _ _ _ hq).trans rfl;have yz:=(Array.getElem?_eq_some_iff.1 hq).1;simp only[List.getElem?_toArray,List.getElem?_cons_succ,List.getElem?_cons_zero] at y0;clear hs1 hb1 hq t0 q0 q1 q2 q3 q4 q5 q6 q7 z0 z1)
   go_region
   go_wp2_with fail
   simp only[Exit.jump]
   obtain⟨hsum,hbel⟩:=qNx HW1.out
   have e0:=hsum.c0
   have e1:=hsum.c1
   refine bodyPost_ret (v:=.tuple #[.int .i64 1,.agg #[.int .i64 (qCk s n.num).1,.int .i64 (qCk s n.num).2]]) (by simp[results,Tryz.results134,go_sem,e0,e1]) rfl ?_
   exact⟨by rw[HF.out];rfl,hbel⟩
  by_cases h1:n.op=11
  ·have e0:=qB7 h0
   have e1:=qC9 h1
   have HF:Hid (∀m2:Nat,n.a0=(m2:Int)→qE5 l (m2+1) m2 (qCk s n.num)=R):=fun m2 h=>by
    have hr:=HR2.out
    rw[qIb HN.out.1 h1,h] at hr
    rw[←hr]
    have:=qCt HST.out h1
    exact qGx HOK.out _ _ _ _ (by omega) (by omega)
   obtain⟨p0,p1,p2,p3,_⟩:=qCt HST.out h1
   obtain⟨m2,hm2⟩:∃m2:Nat,n.a0=(m2:Int):=⟨n.a0.toNat,by omega⟩
   have HM2:=Lib.hid hm2
   have hmk:m2<m:=by omega
   clear h0 h1 hm2
   go_wp2_with (go_at_call 116;refine(HT.out _ s n.num (HV.out.sum.keep ((Below.refl _ _).alloc (Nat.le_refl _) _)) HV.out.i64 HN.out.2.num).mono ?_;rintro e w1 ⟨rfl,hs1,hb1⟩;have HW1:=Lib.hid (HV.out.then hs1 hb1 (qDn HV.out.i64));have s0:=hs1.c0;have s1:=hs1.c1;have sf:=hs1.fz;have sz:=hs1.lt;have hq:=(hb1.block _ (by simp) (by simp;omega)).trans (heap_alloc_new _ _);have y0:=(cell_of_row _ _ 2 _ _ _ hq).trans rfl;have yz:=(Array.getElem?_eq_some_iff.1 hq).1;simp only[List.getElem?_toArray,List.getElem?_cons_succ,List.getElem?_cons_zero] at y0;clear hs1 hb1 hq t0 q0 q1 q2 q3 q4 q5 q6 q7 z0 z1)
   go_step3
   rw[HM2.out]
   exact⟨rfl,⟨m2,qCk s n.num,_,_,_,_,_,_,_,_,_,_,_,_,_,_,_,_,_,_,_,_,_,_,_,rfl,by omega,HW1,HF.out m2 HM2.out⟩,by simp[intOf];omega⟩
  ·have e0:=qB7 h0
   have e1:=qB7 h1
   have HF:Hid (R=(m,s)):=by show _=_;rw[←HR2.out];exact qGb HN.out.1 h0 h1
   clear h0 h1
   have s0:=HV.out.sum.c0
   have s1:=HV.out.sum.c1
   have sf:=HV.out.sum.fz
   have sz:=HV.out.sum.lt
   go_wp2_with fail
   go_region
   go_wp2_with fail
   simp only[Exit.jump]
   obtain⟨hsum,hbel⟩:=qLi HV.out (.cells #[.int .i8 n.op,.int .i8 n.len,.int .i64 n.a0,.int .i64 n.a1,.int .i64 n.a2,.int .i64 n.sort,.int .i64 n.fn,.int .i64 n.num] 54)
   have e0:=hsum.c0
   have e1:=hsum.c1
   refine bodyPost_ret (v:=.tuple #[.int .i64 (m:Nat),.agg #[.int .i64 s.1,.int .i64 s.2]]) (by simp[results,Tryz.results134,go_sem,e0,e1]) rfl ?_
   exact⟨by rw[HF.out],hbel⟩
set_option maxHeartbeats 4000000 in
theorem qVr (l:List NodeA) (a:Option Addr) (c:Nat) (id:Int) (r:Int × Int × Int) (w:World) (hA:TabR w l a c) (hm:qBu l=true) (hl:l.length≤3000) (hi:I64 id) (hr:ofP l id=r) :
  Calls Tryz.prog 115 #[.agg #[.slice a l.length c],.int .i64 id] w fun e w'=>e=.returned (.tuple #[.int .i64 r.1,.int .i64 r.2.1,.int .i64 r.2.2])∧Below w.heap.size w w':=by
 have HB0:Hid (Below w.heap.size w (w.alloc (.cells #[.slice a l.length c] 33))):=(Below.refl _ w).alloc (Nat.le_refl _) _
 obtain⟨hi1,hi2⟩:=hi
 by_cases h0:id<0
 ·obtain rfl:(0,0,2)=r:=(qQz (.inl h0)).symm.trans hr
  clear hA hr
  go_enter Tryz.func115,Tryz.ntmps115
  go_wp2
  refine bodyPost_ret (v:=.tuple #[.int .i64 0,.int .i64 0,.int .i64 2]) (by simp[results,Tryz.results115,go_sem]) rfl ⟨rfl,HB0.out⟩
 by_cases h1:(l.length:Int)≤id
 ·obtain rfl:(0,0,2)=r:=(qQz (.inr h1)).symm.trans hr
  clear hA hr
  go_enter Tryz.func115,Tryz.ntmps115
  go_wp2
  refine bodyPost_ret (v:=.tuple #[.int .i64 0,.int .i64 0,.int .i64 2]) (by simp[results,Tryz.results115,go_sem]) rfl ⟨rfl,HB0.out⟩
 obtain⟨k,rfl⟩:∃k:Nat,id=k:=⟨id.toNat,by omega⟩
 have hkl:k<l.length:=by omega
 obtain⟨n,hn⟩:∃n,l[k]? = some n:=⟨_,List.getElem?_eq_getElem hkl⟩
 obtain⟨W0,hW0⟩:∃W0,W0=w.alloc (.cells #[.slice a l.length c] 33):=⟨_,rfl⟩
 rw[←hW0] at HB0
 have hx0:W0.heap[w.heap.size]? = some (.cells #[.slice a l.length c] 33 (0,0)):=by rw[hW0];exact heap_alloc_new w _
 have t0:W0.cell? ⟨w.heap.size,0,none⟩=some (.slice a l.length c):=(cell_of_row _ _ 0 _ _ _ hx0).trans rfl
 have tz:w.heap.size<W0.heap.size:=(Array.getElem?_eq_some_iff.1 hx0).1
 obtain⟨g,o,rfl,hg,q0,q1,q2,q3,q4,q5,q6,q7⟩:=hA.node hn
 have hcap:=hA.le
 have HR:Hid (Calls Tryz.prog 134 #[.agg #[.slice (some ⟨g,o,none⟩) l.length c],.int .i64 k] W0 fun e w'=>e=.returned (.tuple #[.int .i64 (qC3 l k).1,.agg #[.int .i64 (qC3 l k).2.1,.int .i64 (qC3 l k).2.2]])∧Below W0.heap.size W0 w'):=qUl l _ c k W0 (hA.below HB0.out) hm hkl hl
 clear hA hm hx0 q0 q1 q2 q3 q4 q6 q7
 by_cases hs:n.sort=1
 rotate_left
 ·obtain rfl:(0,0,33)=r:=(qTu hn hs).symm.trans hr
  have e0:=qDf hs
  clear hr hs hn
  go_enter Tryz.func115,Tryz.ntmps115
  go_wp2
  refine bodyPost_ret (v:=.tuple #[.int .i64 0,.int .i64 0,.int .i64 33]) (by simp[results,Tryz.results115,go_sem]) rfl ⟨rfl,by rw[hW0] at HB0;exact HB0.out⟩
 have e0:=ne_f hs
 by_cases he:(qC3 l k).2.2=0
 ·obtain rfl:=(qVp hn hs he).symm.trans hr
  obtain⟨b,hb⟩:∃b,(qC3 l k).1=b:=⟨_,rfl⟩
  obtain⟨v,hv⟩:∃v,(qC3 l k).2.1=v:=⟨_,rfl⟩
  rw[he,hb,hv] at HR
  rw[hb,hv]
  clear hr hs hn he hb hv
  go_enter Tryz.func115,Tryz.ntmps115
  go_wp2_with (go_at_call 134;rw[←hW0];clear hW0;refine HR.out.mono ?_;rintro e w1 ⟨rfl,hb1⟩;have HB1:Hid (Below w.heap.size w w1):=HB0.out.trans (hb1.mono HB0.out.size);clear hb1 q5 t0)
  go_quiet (fail)
  go_wp2
  refine bodyPost_ret (v:=.tuple #[.int .i64 b,.int .i64 v,.int .i64 0]) (by simp[results,Tryz.results115,go_sem]) rfl ⟨rfl,qA1 (HB1.out.alloc HB1.out.size _)⟩
 ·obtain rfl:=(qXu hn hs he).symm.trans hr
  obtain⟨v,hv⟩:∃v,(qC3 l k).2.2=v:=⟨_,rfl⟩
  rw[hv] at he HR
  rw[hv]
  have e1:=qDf he
  clear hr hs hn he hv
  go_enter Tryz.func115,Tryz.ntmps115
  go_wp2_with (go_at_call 134;rw[←hW0];clear hW0;refine HR.out.mono ?_;rintro e w1 ⟨rfl,hb1⟩;have HB1:Hid (Below w.heap.size w w1):=HB0.out.trans (hb1.mono HB0.out.size);clear hb1 q5 t0)
  go_quiet (fail)
  go_wp2
  refine bodyPost_ret (v:=.tuple #[.int .i64 0,.int .i64 0,.int .i64 v]) (by simp[results,Tryz.results115,go_sem]) rfl ⟨rfl,qA1 (HB1.out.alloc HB1.out.size _)⟩
theorem zB8 (l:List NodeA) (a:Option Addr) (c:Nat) (id:Int) (r:Int × Int × Int) (w:World) (hG:GT w) (hA:TabR w l a c) (hl:l.length≤3000) (hi:I64 id) (hr:OfP l id=r) :
  Calls Tryz.prog 114 #[.agg #[.slice a l.length c],.int .i64 id] w fun e w'=>e=.returned (.tuple #[.int .i64 r.1,.int .i64 r.2.1,.int .i64 r.2.2])∧Below w.heap.size w w':=by
 obtain⟨W0,hW0⟩:∃W0,W0=w.alloc (.cells #[.slice a l.length c] 33):=⟨_,rfl⟩
 have HB0:Hid (Below w.heap.size w W0):=by show Below _ _ _;rw[hW0];exact(Below.refl _ w).alloc (Nat.le_refl _) _
 have HX:Hid (∀V,Below W0.heap.size W0 V→V.cell? ⟨w.heap.size,0,none⟩=some (.slice a l.length c)∧w.heap.size<V.heap.size):=fun V hV=>by
  have hx0:W0.heap[w.heap.size]? = some (.cells #[.slice a l.length c] 33 (0,0)):=by rw[hW0];exact heap_alloc_new w _
  have e0:=(hV.block _ (Array.getElem?_eq_some_iff.1 hx0).1).trans hx0
  exact⟨(cell_of_row _ _ 0 _ _ _ e0).trans rfl,(Array.getElem?_eq_some_iff.1 e0).1⟩
 cases hm:qBu l with
 | false =>
  have HC:Hid (Calls Tryz.prog 23 #[.agg #[.slice a l.length c]] W0 fun e w'=>e=.returned (.int .i64 2)∧Below W0.heap.size W0 w'):=qG9 l a c 2 W0 (hG.below HB0.out) (hA.below HB0.out) hl (by rw[hm];rfl)
  obtain rfl:(0,0,2)=r:=by rw[←hr];unfold OfP;rw[if_neg (by rw[hm];decide)]
  clear hA hG hm hr
  go_enter Tryz.func114,Tryz.ntmps114
  go_wp2_with (go_at_call 23;rw[←hW0];clear hW0;refine HC.out.mono ?_;rintro e w1 ⟨rfl,hb1⟩)
  refine bodyPost_ret (v:=.tuple #[.int .i64 0,.int .i64 0,.int .i64 2]) (by simp[results,Tryz.results114,go_sem]) rfl ⟨rfl,HB0.out.trans (hb1.mono HB0.out.size)⟩
 | true =>
  have HC:Hid (Calls Tryz.prog 23 #[.agg #[.slice a l.length c]] W0 fun e w'=>e=.returned (.int .i64 0)∧Below W0.heap.size W0 w'):=qG9 l a c 0 W0 (hG.below HB0.out) (hA.below HB0.out) hl (by rw[hm];rfl)
  have hr2:ofP l id=r:=by rw[←hr];unfold OfP;rw[if_pos hm]
  have HO:Hid (∀V,Below w.heap.size w V→Calls Tryz.prog 115 #[.agg #[.slice a l.length c],.int .i64 id] V fun e w'=>e=.returned (.tuple #[.int .i64 r.1,.int .i64 r.2.1,.int .i64 r.2.2])∧Below V.heap.size V w'):=fun V hV=>qVr l a c id r V (hA.below hV) hm hl hi hr2
  clear hA hG hm hr hr2 hi
  obtain⟨r0,r1,r2⟩:=r
  go_enter Tryz.func114,Tryz.ntmps114
  go_wp2_with (first|(go_at_call 23;rw[←hW0];clear hW0;refine HC.out.mono ?_;rintro e w1 ⟨rfl,hb1⟩;have HB1:Hid (Below w.heap.size w w1):=HB0.out.trans (hb1.mono HB0.out.size);obtain⟨t0,tz⟩:=HX.out _ hb1;clear hb1)|(go_at_call 115;refine(HO.out _ HB1.out).mono ?_;rintro e w2 ⟨rfl,hb2⟩))
  refine bodyPost_ret (v:=.tuple #[.int .i64 r0,.int .i64 r1,.int .i64 r2]) (by simp[results,Tryz.results114,go_sem]) rfl ⟨rfl,HB1.out.trans (hb2.mono HB1.out.size)⟩
set_option maxHeartbeats 4000000 in
theorem qUm (l:List NodeA) (ad:Option Addr) (cp:Nat) (a b c:Int) (r:Int × Int × Int × Int) (w:World) (hG:GT w) (hA:TabR w l ad cp) (hl:l.length≤3000) (ha:I64 a) (hb:I64 b) (hc:I64 c) (hr:qMh l a b c=r) :
  Calls Tryz.prog 104 #[.agg #[.slice ad l.length cp],.int .i64 a,.int .i64 b,.int .i64 c] w fun e w'=>e=.returned (.tuple #[.int .i64 r.1,.int .i64 r.2.1,.int .i64 r.2.2.1,.int .i64 r.2.2.2])∧Below w.heap.size w w':=by
 obtain⟨W0,hW0⟩:∃W0,W0=w.alloc (.cells #[.slice ad l.length cp] 33):=⟨_,rfl⟩
 have HB0:Hid (Below w.heap.size w W0):=by show Below _ _ _;rw[hW0];exact(Below.refl _ w).alloc (Nat.le_refl _) _
 have HX:Hid (∀V,Below W0.heap.size W0 V→V.cell? ⟨w.heap.size,0,none⟩=some (.slice ad l.length cp)∧w.heap.size<V.heap.size):=fun V hV=>by
  have hx0:W0.heap[w.heap.size]? = some (.cells #[.slice ad l.length cp] 33 (0,0)):=by rw[hW0];exact heap_alloc_new w _
  have e0:=(hV.block _ (Array.getElem?_eq_some_iff.1 hx0).1).trans hx0
  exact⟨(cell_of_row _ _ 0 _ _ _ e0).trans rfl,(Array.getElem?_eq_some_iff.1 e0).1⟩
 obtain⟨p,hp⟩:∃p,OfP l a=p:=⟨_,rfl⟩
 have HO:Hid (Calls Tryz.prog 114 #[.agg #[.slice ad l.length cp],.int .i64 a] W0 fun e w'=>e=.returned (.tuple #[.int .i64 p.1,.int .i64 p.2.1,.int .i64 p.2.2])∧Below W0.heap.size W0 w'):=zB8 l ad cp a p W0 (hG.below HB0.out) (hA.below HB0.out) hl ha hp
 by_cases he:p.2.2=0
 rotate_left
 ·obtain rfl:(0,0,0,p.2.2)=r:=by rw[←hr];unfold qMh;rw[hp,if_neg he]
  obtain⟨p0,p1,p2⟩:=p
  have e0:=qDf he
  simp only at e0
  clear hr he hA hG hp
  go_enter Tryz.func104,Tryz.ntmps104
  go_wp2_with (go_at_call 114;rw[←hW0];clear hW0;refine HO.out.mono ?_;rintro e w1 ⟨rfl,hb1⟩)
  refine bodyPost_ret (v:=.tuple #[.int .i64 0,.int .i64 0,.int .i64 0,.int .i64 p2]) (by simp[results,Tryz.results104,go_sem]) rfl ⟨rfl,HB0.out.trans (hb1.mono HB0.out.size)⟩
 have hm:qBu l=true:=qXw (by rw[hp];exact he)
 obtain⟨q,hq⟩:∃q,ofP l b=q:=⟨_,rfl⟩
 have hp2:=qXv l a
 rw[hp] at hp2
 have hq2:=qR1 l b
 rw[hq] at hq2
 have HQ:Hid (∀V,Below w.heap.size w V→Calls Tryz.prog 115 #[.agg #[.slice ad l.length cp],.int .i64 b] V fun e w'=>e=.returned (.tuple #[.int .i64 q.1,.int .i64 q.2.1,.int .i64 q.2.2])∧Below V.heap.size V w'):=fun V hV=>qVr l ad cp b q V (hA.below hV) hm hl hb hq
 obtain⟨s,hs⟩:∃s,qCk (qHc (c,q.2.2) p.2.1) q.2.1=s:=⟨_,rfl⟩
 have hr2:(if s.2=0 then (p.1,q.1,s.1,0) else (0,0,0,s.2))=r:=by
  rw[←hr]
  unfold qMh qL8
  rw[hp,hq,hs,if_pos he]
 have HT1:Hid (∀(V:World) (B:Nat),Sum V B (c,q.2.2)→Calls Tryz.prog 116 #[.pointer (some ⟨B,0,none⟩),.func (.func 117) #[] #[],.int .i64 p.2.1] V (qF9 V B (qHc (c,q.2.2) p.2.1))):=fun V B h=>qUk B _ _ V h hc hp2
 have HT2:Hid (∀(V:World) (B:Nat),Sum V B (qHc (c,q.2.2) p.2.1)→Calls Tryz.prog 116 #[.pointer (some ⟨B,0,none⟩),.func (.func 118) #[] #[],.int .i64 q.2.1] V (qF9 V B s)):=fun V B h=>by rw[←hs];exact qNw B _ _ V h (qR2 hc) hq2
 generalize qHc (c,q.2.2) p.2.1=s1 at HT1 HT2
 obtain⟨p0,p1,p2⟩:=p
 obtain⟨q0,q1,q2⟩:=q
 obtain⟨s0,se⟩:=s
 obtain rfl:p2=0:=he
 simp only at HO HQ HT1 HT2 hr2
 clear hr hA hG hp hq hs hp2 hq2 hm ha hb hc
 have HSum:Hid (∀V:World,Sum (V.alloc (.cells #[.int .i64 c,.int .i64 q2] 173)) V.heap.size (c,q2)):=fun V=>heap_alloc_new V _
 have HR:Hid ((if se=0 then (p0,q0,s0,0) else (0,0,0,se))=r):=hr2
 clear hr2
 go_enter Tryz.func104,Tryz.ntmps104
 go_wp2_with (first|(go_at_call 116;refine(HT2.out _ _ HS3.out).mono ?_;rintro e w4 ⟨rfl,hs4,hb4⟩)|(go_at_call 114;rw[←hW0];clear hW0;refine HO.out.mono ?_;rintro e w1 ⟨rfl,hb1⟩;have HB1:Hid (Below w.heap.size w w1):=HB0.out.trans (hb1.mono HB0.out.size);obtain⟨t0,tz⟩:=HX.out _ hb1;clear hb1)|(go_at_call 115;refine(HQ.out _ HB1.out).mono ?_;rintro e w2 ⟨rfl,hb2⟩;have HB2:Hid (Below w.heap.size w w2):=HB1.out.trans (hb2.mono HB1.out.size);clear hb2 t0 tz))
 refine(HT1.out _ _ (HSum.out w2)).mono ?_
 rintro e w3 ⟨rfl,hs3,hb3⟩
 have HS3:=Lib.hid hs3
 have HB3:Hid (Below w.heap.size w w3):=HB2.out.trans ((But.below ((Below.refl _ w2).alloc (Nat.le_refl _) _) hb3 (Nat.le_refl _)).mono HB2.out.size)
 have hz3:w2.heap.size≤w3.heap.size:=by have:=hb3.size;simp at this;omega
 clear hs3 hb3
 by_cases hse:se=0
 ·subst hse
  obtain rfl:(p0,q0,s0,0)=r:=HR.out
  go_wp2_with (go_at_call 116;refine(HT2.out _ _ HS3.out).mono ?_;rintro e w4 ⟨rfl,hs4,hb4⟩;have c0:=hs4.c0;have c1:=hs4.c1;have hz4:=hs4.lt;simp only at c0 c1;have HB4:Hid (Below w.heap.size w w4):=HB3.out.trans ((But.below (Below.refl _ w3) hb4 hz3).mono HB2.out.size);clear hs4 hb4)
  go_quiet (fail)
  go_wp2
  refine bodyPost_ret (v:=.tuple #[.int .i64 p0,.int .i64 q0,.int .i64 s0,.int .i64 0]) (by simp[results,Tryz.results104,go_sem]) rfl ⟨rfl,qA1 HB4.out⟩
 ·obtain rfl:(0,0,0,se)=r:=by have h:=HR.out;rw[if_neg hse] at h;exact h
  have e1:=qDf hse
  clear hse
  go_wp2_with (go_at_call 116;refine(HT2.out _ _ HS3.out).mono ?_;rintro e w4 ⟨rfl,hs4,hb4⟩;have c0:=hs4.c0;have c1:=hs4.c1;have hz4:=hs4.lt;simp only at c0 c1;have HB4:Hid (Below w.heap.size w w4):=HB3.out.trans ((But.below (Below.refl _ w3) hb4 hz3).mono HB2.out.size);clear hs4 hb4)
  go_quiet (fail)
  go_wp2
  refine bodyPost_ret (v:=.tuple #[.int .i64 0,.int .i64 0,.int .i64 0,.int .i64 se]) (by simp[results,Tryz.results104,go_sem]) rfl ⟨rfl,qA1 HB4.out⟩
end Go.Proofs.YtfgpimhdjlmapaaGreatDoor.Tm
