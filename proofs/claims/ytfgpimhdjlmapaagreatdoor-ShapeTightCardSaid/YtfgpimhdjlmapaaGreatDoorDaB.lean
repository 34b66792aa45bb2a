/- The document's Find and Put. -/
import Derived.Deep.AppendLies
import Derived.Deep.RegionLaw
import Derived.Laws.CopyOwn
import Derived.Deep.LoopGhost
import Derived.Laws.MakeOwn
import Derived.Laws.EntriesVeiled
import Derived.ScopeJumps
import Derived.WalkMore
import Derived.Test.YtfgpimhdjlmapaaGreatDoorCpT
import Derived.WalkSmall
import Derived.Maps.AppendAt
import Derived.Deep.CutRange
import Derived.Laws.Cover3
import Derived.Laws.Append
import Derived.Maps.Ext
import Derived.Carry
import Derived.Test.YtfgpimhdjlmapaaGreatDoorCoH
import Derived.Test.YtfgpimhdjlmapaaGreatDoorOfJ
import Derived.Test.YtfgpimhdjlmapaaGreatDoorTmD
import Derived.Test.YtfgpimhdjlmapaaGreatDoorTmJ
namespace Go.Proofs.YtfgpimhdjlmapaaGreatDoor.Tm
open Go.RowKit
set_option linter.unusedVariables false
set_option maxRecDepth 100000
theorem zCa {n:Int} (h:qAn n=true):qC6 0 n=n∧qC4 0 n=0:=by
 have h1:=qAc.1 h
 have hk:qD4 0 n=true:=qB5.2 ⟨⟨by decide,by decide⟩,h1,by omega,by omega⟩
 refine⟨?_,?_⟩
 ·unfold qC6;rw[if_pos hk,Int.zero_add]
 ·unfold qC4;rw[if_pos hk]
theorem qVg {n:Int} (h:qAn n=true) (w:World):Calls Tryz.prog 75 #[.int .i64 0,.int .i64 n] w fun e w'=>e=.returned (.tuple #[.int .i64 n,.int .i64 0])∧w=w':=by
 obtain⟨h1,h2⟩:=zCa h
 refine(qHi 0 n w).mono ?_
 rintro e w' ⟨rfl,rfl⟩
 rw[h1,h2];exact⟨rfl,rfl⟩
set_option maxHeartbeats 4000000 in
theorem qSj (l:List NodeA) (a:Option Addr) (c i:Nat) (n:NodeA) (w:World) (hA:TabR w l a c) (hl:l.length≤3000) (hm:qBu l=true) (hn:l[i]? = some n) (hs:n.sort=1) (h10:n.op=10) :
  Calls Tryz.prog 74 #[.agg #[.slice a l.length c],.int .i64 i] w fun e w'=>e=.returned (.tuple #[.int .i64 1,.int .i64 n.num,.int .i64 0])∧Below w.heap.size w w':=by
 obtain⟨W0,hW0⟩:∃W0,W0=w.alloc (.cells #[.slice a l.length c] 33):=⟨_,rfl⟩
 have HB0:Hid (Below w.heap.size w W0):=by show Below _ _ _;rw[hW0];exact(Below.refl _ w).alloc (Nat.le_refl _) _
 have HXR:Hid (∀V,Below W0.heap.size W0 V→V.heap[w.heap.size]? = some (.cells #[.slice a l.length c] 33 (0,0))):=fun V hV=>by
  have hx0:W0.heap[w.heap.size]? = some (.cells #[.slice a l.length c] 33 (0,0)):=by rw[hW0];exact heap_alloc_new w _
  exact(hV.block _ (Array.getElem?_eq_some_iff.1 hx0).1).trans hx0
 have HC:Hid (Calls Tryz.prog 19 #[.agg #[.slice a l.length c]] W0 fun e w'=>e=.returned (.int .i64 0)∧Below W0.heap.size W0 w'):=RCheck_any l a c 0 W0 (hA.below HB0.out) hl (by rw[hm];rfl)
 have hst:=(ok_at (mayT_ok hm).2 hn).1
 have hmy:qAn n.num=true:=by
  unfold standsB at hst
  rw[decide_eq_true_eq] at hst
  obtain⟨⟨_,_,h2⟩,_⟩:=hst
  rw[if_neg (by omega),if_pos (by omega)] at h2
  exact h2.2.2
 have HAd:Hid (∀V,Calls Tryz.prog 75 #[.int .i64 0,.int .i64 n.num] V fun e w'=>e=.returned (.tuple #[.int .i64 n.num,.int .i64 0])∧V=w'):=fun V=>qVg hmy V
 have HA:=Lib.hid hA
 have HN:=Lib.hid hn
 have hcap:=hA.le
 have hil:=(List.getElem?_eq_some_iff.1 hn).1
 have hii:(i:Int)<(l.length:Int):=by omega
 have hi0:(0:Int)≤(i:Int):=by omega
 have hmx:l.length≤9223372036854775807:=by omega
 have di0:decide ((i:Int)<0)=false:=decide_eq_false (by omega)
 have di1:decide ((l.length:Int)≤(i:Int))=false:=decide_eq_false (by omega)
 have di2:decide (l.length≤i)=false:=decide_eq_false (by omega)
 have e1:=ne_f hs
 have e10:=qC9 h10
 have e11:(n.op==11)=false:=qB7 (by omega)
 have HS:=Lib.hid hs
 clear hA hm hn hs hst hmy
 obtain⟨x0,_,xz⟩:=qL9 (HXR.out W0 (Below.refl _ _))
 clear x0 xz
 have HR:Hid (∀V,Below W0.heap.size W0 V→V.cell? ⟨w.heap.size,0,none⟩=some (.slice a l.length c)∧V.frozen? ⟨w.heap.size,0,none⟩=false∧w.heap.size<V.heap.size):=fun V hV=>qL9 (HXR.out V hV)
 have HND:Hid (∀V,Below W0.heap.size W0 V→∃g o:Nat,a=some ⟨g,o,none⟩∧g<V.heap.size∧V.cell? ⟨g,o+i*8,none⟩=some (.int .i8 n.op)∧V.cell? ⟨g,o+i*8+5,none⟩=some (.int .i64 n.sort)∧V.cell? ⟨g,o+i*8+7,none⟩=some (.int .i64 n.num)):=fun V hV=>by
  obtain⟨g,o,h,hg,q0,q1,q2,q3,q4,q5,q6,q7⟩:=(HA.out.below (HB0.out.trans (hV.mono HB0.out.size))).node HN.out
  exact⟨g,o,h,hg,q0,q5,q7⟩
 obtain⟨g,o,rfl,_⟩:=HND.out W0 (Below.refl _ _)
 have HND2:Hid (∀V,Below W0.heap.size W0 V→g<V.heap.size∧V.cell? ⟨g,o+i*8,none⟩=some (.int .i8 n.op)∧V.cell? ⟨g,o+i*8+5,none⟩=some (.int .i64 n.sort)∧V.cell? ⟨g,o+i*8+7,none⟩=some (.int .i64 n.num)):=fun V hV=>by
  obtain⟨g',o',h,r⟩:=HND.out V hV
  cases h;exact r
 clear HND h10
 go_enter Tryz.func74,Tryz.ntmps74
 go_wp2_with (first
  | (go_at_call 19;rw[←hW0];clear hW0;refine HC.out.mono ?_;rintro e w1 ⟨rfl,hb1⟩;have HB1:=Lib.hid hb1;clear hb1;obtain⟨x0,_,xz⟩:=HR.out w1 HB1.out;obtain⟨gz,q0,q5,q7⟩:=HND2.out w1 HB1.out)
  | fail)
 go_loopw [1,7] (fun v i' wr=>v=.int .i64 i∧i'=.int .i64 0∧Hid (Below W0.heap.size W0 wr)) (fun _ _ _=>0)
 case atStart=>exact⟨rfl,rfl,HB1⟩
 case round =>
  obtain⟨rfl,rfl,HW⟩:=hrel
  clear x0 xz gz q0 q5 q7
  obtain⟨x0,_,xz⟩:=HR.out wr HW.out
  obtain⟨gz,q0,q5,q7⟩:=HND2.out wr HW.out
  have HWw:Hid (Below w.heap.size w wr):=HB0.out.trans (HW.out.mono HB0.out.size)
  go_wp2_with (first|(go_at_call 75;refine(HAd.out _).mono ?_;rintro e w2 ⟨rfl,rfl⟩)|fail)
  refine bodyPost_ret (v:=.tuple #[.int .i64 1,.int .i64 n.num,.int .i64 0]) (by simp[results,Tryz.results74,go_sem]) rfl ⟨rfl,HWw.out⟩
set_option maxHeartbeats 4000000 in
theorem qSk (l:List NodeA) (a:Option Addr) (c i b:Nat) (n m:NodeA) (w:World) (hA:TabR w l a c) (hl:l.length≤3000) (hm:qBu l=true) (hn:l[i]? = some n) (hs:n.sort=1) (h11:n.op=11) (hb:n.a0=(b:Int)) (hbn:l[b]? = some m) (hm1:¬m.op=11) (hm0:¬m.op=10) :
  Calls Tryz.prog 74 #[.agg #[.slice a l.length c],.int .i64 i] w fun e w'=>e=.returned (.tuple #[.int .i64 b,.int .i64 n.num,.int .i64 0])∧Below w.heap.size w w':=by
 obtain⟨W0,hW0⟩:∃W0,W0=w.alloc (.cells #[.slice a l.length c] 33):=⟨_,rfl⟩
 have HB0:Hid (Below w.heap.size w W0):=by show Below _ _ _;rw[hW0];exact(Below.refl _ w).alloc (Nat.le_refl _) _
 have HXR:Hid (∀V,Below W0.heap.size W0 V→V.heap[w.heap.size]? = some (.cells #[.slice a l.length c] 33 (0,0))):=fun V hV=>by
  have hx0:W0.heap[w.heap.size]? = some (.cells #[.slice a l.length c] 33 (0,0)):=by rw[hW0];exact heap_alloc_new w _
  exact(hV.block _ (Array.getElem?_eq_some_iff.1 hx0).1).trans hx0
 have HC:Hid (Calls Tryz.prog 19 #[.agg #[.slice a l.length c]] W0 fun e w'=>e=.returned (.int .i64 0)∧Below W0.heap.size W0 w'):=RCheck_any l a c 0 W0 (hA.below HB0.out) hl (by rw[hm];rfl)
 have hst:=(ok_at (mayT_ok hm).2 hn).1
 have hmy:qAn n.num=true:=by
  unfold standsB at hst
  rw[decide_eq_true_eq] at hst
  obtain⟨⟨_,_,h2⟩,_⟩:=hst
  rw[if_neg (by omega),if_pos (by omega)] at h2
  exact h2.2.2
 have HAd:Hid (∀V,Calls Tryz.prog 75 #[.int .i64 0,.int .i64 n.num] V fun e w'=>e=.returned (.tuple #[.int .i64 n.num,.int .i64 0])∧V=w'):=fun V=>qVg hmy V
 have hbi:=qJq hst h11
 have HA:=Lib.hid hA
 have HN:=Lib.hid hn
 have HM:=Lib.hid hbn
 have hcap:=hA.le
 have hil:=(List.getElem?_eq_some_iff.1 hn).1
 have hbl:b<l.length:=(List.getElem?_eq_some_iff.1 hbn).1
 have hbi2:b<i:=by omega
 have hii:(i:Int)<(l.length:Int):=by omega
 have hi0:(0:Int)≤(i:Int):=by omega
 have hbb:(b:Int)<(l.length:Int):=by omega
 have hb0:(0:Int)≤(b:Int):=by omega
 have hmx:l.length≤9223372036854775807:=by omega
 have di0:decide ((i:Int)<0)=false:=decide_eq_false (by omega)
 have di1:decide ((l.length:Int)≤(i:Int))=false:=decide_eq_false (by omega)
 have di2:decide (l.length≤i)=false:=decide_eq_false (by omega)
 have e1:=ne_f hs
 have e11:=qC9 h11
 have e10:(n.op==10)=false:=qB7 (by omega)
 have f11:=qB7 hm1
 have f10:=qB7 hm0
 have HS:=Lib.hid hs
 have HH:=Lib.hid hb
 obtain⟨x0,_,xz⟩:=qL9 (HXR.out W0 (Below.refl _ _))
 clear x0 xz
 have HR:Hid (∀V,Below W0.heap.size W0 V→V.cell? ⟨w.heap.size,0,none⟩=some (.slice a l.length c)∧V.frozen? ⟨w.heap.size,0,none⟩=false∧w.heap.size<V.heap.size):=fun V hV=>qL9 (HXR.out V hV)
 have HND:Hid (∀V,Below W0.heap.size W0 V→∃g o:Nat,a=some ⟨g,o,none⟩∧g<V.heap.size∧V.cell? ⟨g,o+i*8,none⟩=some (.int .i8 n.op)∧V.cell? ⟨g,o+i*8+2,none⟩=some (.int .i64 b)∧V.cell? ⟨g,o+i*8+5,none⟩=some (.int .i64 n.sort)∧V.cell? ⟨g,o+i*8+7,none⟩=some (.int .i64 n.num)∧V.cell? ⟨g,o+b*8,none⟩=some (.int .i8 m.op)):=fun V hV=>by
  obtain⟨g,o,h,hg,q0,q1,q2,q3,q4,q5,q6,q7⟩:=(HA.out.below (HB0.out.trans (hV.mono HB0.out.size))).node HN.out
  obtain⟨g2,o2,h2,_,p0,_⟩:=(HA.out.below (HB0.out.trans (hV.mono HB0.out.size))).node HM.out
  rw[h] at h2
  cases h2
  rw[HH.out] at q2
  exact⟨g,o,h,hg,q0,q2,q5,q7,p0⟩
 clear hA hm hn hs hst hmy hb hbn hbi h11 hm1 hm0
 obtain⟨g,o,rfl,_⟩:=HND.out W0 (Below.refl _ _)
 have HND2:Hid (∀V,Below W0.heap.size W0 V→g<V.heap.size∧V.cell? ⟨g,o+i*8,none⟩=some (.int .i8 n.op)∧V.cell? ⟨g,o+i*8+2,none⟩=some (.int .i64 b)∧V.cell? ⟨g,o+i*8+5,none⟩=some (.int .i64 n.sort)∧V.cell? ⟨g,o+i*8+7,none⟩=some (.int .i64 n.num)∧V.cell? ⟨g,o+b*8,none⟩=some (.int .i8 m.op)):=fun V hV=>by
  obtain⟨g',o',h,r⟩:=HND.out V hV
  cases h;exact r
 clear HND
 go_enter Tryz.func74,Tryz.ntmps74
 go_wp2_with (first
  | (go_at_call 19;rw[←hW0];clear hW0;refine HC.out.mono ?_;rintro e w1 ⟨rfl,hb1⟩;have HB1:=Lib.hid hb1;clear hb1;obtain⟨x0,_,xz⟩:=HR.out w1 HB1.out;obtain⟨gz,q0,q2,q5,q7,p0⟩:=HND2.out w1 HB1.out)
  | fail)
 go_loopw [1,7] (fun v i' wr=>∃(k:Nat) (z:Int),v=.int .i64 k∧i'=.int .i64 z∧Hid ((i=k∧0=z)∨(b=k∧n.num=z))∧Hid (Below W0.heap.size W0 wr)) (fun v _ _=>(intOf v).toNat)
 case atStart=>exact⟨i,0,rfl,rfl,.inl ⟨rfl,rfl⟩,HB1⟩
 case round =>
  obtain⟨k,z,rfl,rfl,HD,HW⟩:=hrel
  rcases HD.out with⟨rfl,rfl⟩|⟨rfl,rfl⟩<;>clear HD
  ·clear x0 xz gz q0 q2 q5 q7 p0
   obtain⟨x0,_,xz⟩:=HR.out wr HW.out
   obtain⟨gz,q0,q2,q5,q7,p0⟩:=HND2.out wr HW.out
   go_wp2_with (first|(go_at_call 75;refine(HAd.out _).mono ?_;rintro e w2 ⟨rfl,rfl⟩)|fail)
   go_roundw
   case rel=>exact⟨b,n.num,rfl,rfl,.inr ⟨rfl,rfl⟩,by first|exact HW|exact HW.out.drew⟩
   case measure=>simp[intOf];omega
  ·clear x0 xz gz q0 q2 q5 q7 p0
   obtain⟨x0,_,xz⟩:=HR.out wr HW.out
   obtain⟨gz,q0,q2,q5,q7,p0⟩:=HND2.out wr HW.out
   have HWw:Hid (Below w.heap.size w wr):=HB0.out.trans (HW.out.mono HB0.out.size)
   go_wp2
   refine bodyPost_ret (v:=.tuple #[.int .i64 b,.int .i64 n.num,.int .i64 0]) (by simp[results,Tryz.results74,go_sem]) rfl ⟨rfl,HWw.out⟩
theorem qJt {s:MkS} (hI:MkI s) (hQ:QO s.l) {i:Int} (hi:PlA s i) (hs:srt s.l i=1) (a:Option Addr) (c:Nat) (w:World) (hA:TabR w s.l a c) :
  Calls Tryz.prog 74 #[.agg #[.slice a s.l.length c],.int .i64 i] w fun e w'=>e=.returned (.tuple #[.int .i64 (qA0 s.l i).1,.int .i64 (qA0 s.l i).2,.int .i64 0])∧Below w.heap.size w w':=by
 obtain⟨k,rfl,hk⟩:=hi.nat
 have hl:=hI.len
 have hg:=nodA_get hk
 have hmem:=qD6 hk
 unfold qA0
 by_cases h10:(qAd s.l k).op=10
 ·rw[if_pos h10]
  exact qSj s.l a c k _ w hA (by omega) hI.may hg hs h10
 rw[if_neg h10]
 by_cases h11:(qAd s.l k).op=11
 ·rw[if_pos h11]
  obtain⟨_,b1,b2⟩:=(hQ _ hmem).1 h11
  have hb:=qJq (hI.stands hk) h11
  obtain⟨b,hbe⟩:∃b:Nat,(qAd s.l k).a0=(b:Int):=⟨(qAd s.l k).a0.toNat,by omega⟩
  rw[hbe] at b1 b2
  have:=qSk s.l a c k b _ _ w hA (by omega) hI.may hg hs h11 hbe (nodA_get (by omega)) b1 b2
  show Calls _ _ _ _ fun e w'=>e=.returned (.tuple #[.int .i64 (qAd s.l k).a0,.int .i64 (qAd s.l k).num,.int .i64 0])∧_
  rw[hbe];exact this
 rw[if_neg h11]
 exact qSg s.l a c k _ w hA (by omega) hI.may hg hs h11 (fun e=>absurd e h10)
theorem qAi {V:World} {B:Nat} {n:NodeA} (h:V.heap[B]? = some (.cells #[.int .i8 n.op,.int .i8 n.len,.int .i64 n.a0,.int .i64 n.a1,.int .i64 n.a2,.int .i64 n.sort,.int .i64 n.fn,.int .i64 n.num] 54 (0,0))):V.cell? ⟨B,0,none⟩=some (.int .i8 n.op)∧V.cell? ⟨B,1,none⟩=some (.int .i8 n.len)∧V.cell? ⟨B,2,none⟩=some (.int .i64 n.a0)∧V.cell? ⟨B,3,none⟩=some (.int .i64 n.a1)∧V.cell? ⟨B,4,none⟩=some (.int .i64 n.a2)∧V.cell? ⟨B,5,none⟩=some (.int .i64 n.sort)∧V.cell? ⟨B,6,none⟩=some (.int .i64 n.fn)∧V.cell? ⟨B,7,none⟩=some (.int .i64 n.num)∧B<V.heap.size :=
 ⟨(cell_of_row _ _ 0 _ _ _ h).trans rfl,(cell_of_row _ _ 1 _ _ _ h).trans rfl,(cell_of_row _ _ 2 _ _ _ h).trans rfl,(cell_of_row _ _ 3 _ _ _ h).trans rfl,(cell_of_row _ _ 4 _ _ _ h).trans rfl,(cell_of_row _ _ 5 _ _ _ h).trans rfl,(cell_of_row _ _ 6 _ _ _ h).trans rfl,(cell_of_row _ _ 7 _ _ _ h).trans rfl,(Array.getElem?_eq_some_iff.1 h).1⟩
theorem qM5 {w W0:World} {t:Value} {n:NodeA} (h:W0=(w.alloc (.cells #[t] 33)).alloc (.cells #[.int .i8 n.op,.int .i8 n.len,.int .i64 n.a0,.int .i64 n.a1,.int .i64 n.a2,.int .i64 n.sort,.int .i64 n.fn,.int .i64 n.num] 54)):Below w.heap.size w W0∧∀V,Below W0.heap.size W0 V→(V.cell? ⟨w.heap.size,0,none⟩=some t∧w.heap.size<V.heap.size)∧V.heap[w.heap.size+1]? = some (.cells #[.int .i8 n.op,.int .i8 n.len,.int .i64 n.a0,.int .i64 n.a1,.int .i64 n.a2,.int .i64 n.sort,.int .i64 n.fn,.int .i64 n.num] 54 (0,0)):=by
 have hB:Below w.heap.size w W0:=by rw[h];exact((Below.refl _ w).alloc (Nat.le_refl _) _).alloc (by simp) _
 have h1:W0.heap[w.heap.size]? = some (.cells #[t] 33 (0,0)):=by rw[h];exact(Below.heap_alloc _ _ _ (by simp)).trans (heap_alloc_new w _)
 have h2:W0.heap[w.heap.size+1]? = some (.cells #[.int .i8 n.op,.int .i8 n.len,.int .i64 n.a0,.int .i64 n.a1,.int .i64 n.a2,.int .i64 n.sort,.int .i64 n.fn,.int .i64 n.num] 54 (0,0)):=by
  have:=heap_alloc_new (w.alloc (.cells #[t] 33)) (.cells #[.int .i8 n.op,.int .i8 n.len,.int .i64 n.a0,.int .i64 n.a1,.int .i64 n.a2,.int .i64 n.sort,.int .i64 n.fn,.int .i64 n.num] 54)
  rw[World.size_alloc] at this
  rw[h];exact this
 refine⟨hB,fun V hV=>?_⟩
 have e1:=(hV.block _ (Array.getElem?_eq_some_iff.1 h1).1).trans h1
 exact⟨⟨(cell_of_row _ _ 0 _ _ _ e1).trans rfl,(Array.getElem?_eq_some_iff.1 e1).1⟩,(hV.block _ (Array.getElem?_eq_some_iff.1 h2).1).trans h2⟩
theorem zAh {s:MkS} (h:MkI s) {k:Nat} {n:NodeA} (hk:s.l[k]? = some n):qD2 s.l n=k:=by
 have hm:=List.mem_of_getElem? hk
 have h1:=qBk hm
 rcases Nat.lt_trichotomy (qD2 s.l n) k with h2|h2|h2
 ·exact absurd h1 ((ok_at (mayT_ok h.may).2 hk).2 _ h2)
 ·exact h2
 ·exact absurd hk ((ok_at (mayT_ok h.may).2 h1).2 _ h2)
set_option maxHeartbeats 4000000 in
theorem qPy {s:MkS} (hI:MkI s) (n:NodeA) (hn:NodeOk n) (a:Option Addr) (c:Nat) (r:Int) (q:Bool) (w:World) (hA:TabR w s.l a c) (hr:(if n∈s.l then (qD2 s.l n:Int) else 0)=r) (hq:decide (n∈s.l)=q) :
  Calls Tryz.prog 79 #[.agg #[.slice a s.l.length c],.agg #[.int .i8 n.op,.int .i8 n.len,.int .i64 n.a0,.int .i64 n.a1,.int .i64 n.a2,.int .i64 n.sort,.int .i64 n.fn,.int .i64 n.num]] w fun e w'=>e=.returned (.tuple #[.int .i64 r,.bool q])∧Below w.heap.size w w':=by
 obtain⟨W0,hW0⟩:∃W0,W0=(w.alloc (.cells #[.slice a s.l.length c] 33)).alloc (.cells #[.int .i8 n.op,.int .i8 n.len,.int .i64 n.a0,.int .i64 n.a1,.int .i64 n.a2,.int .i64 n.sort,.int .i64 n.fn,.int .i64 n.num] 54):=⟨_,rfl⟩
 obtain⟨hB0,hXX⟩:=qM5 hW0
 have HXX:=Lib.hid hXX
 have HB0:=Lib.hid hB0
 have HA:Hid (∀V,Below W0.heap.size W0 V→TabR V s.l a c):=fun V hV=>hA.below (hB0.trans (hV.mono hB0.size))
 have HY:Hid (∀k:Nat,s.l[k]? = some n→r=k∧q=true):=fun k hk=>⟨by rw[←hr,if_pos (List.mem_of_getElem? hk),zAh hI hk],by rw[←hq];exact decide_eq_true (List.mem_of_getElem? hk)⟩
 have HN:Hid (¬n∈s.l→r=0∧q=false):=fun h=>⟨by rw[←hr,if_neg h],by rw[←hq];exact decide_eq_false h⟩
 have HOk:Hid (∀z∈s.l,NodeOk z):=hI.ok
 have hlen:=hI.len
 have hcap:=hA.le
 have hlm:s.l.length≤9223372036854775807:=by omega
 have HNk:=Lib.hid hn
 clear hr hq hA hXX hB0 hn
 go_enter Tryz.func79,Tryz.ntmps79
 go_wp2
 rw[←hW0]
 clear hW0
 go_loopw [6] (fun i wr=>∃k:Nat,k≤s.l.length∧i=.int .i64 k∧Hid (Below W0.heap.size W0 wr)∧Hid (∀j:Nat,j<k→s.l[j]?≠some n)) (fun i _=>s.l.length-(intOf i).toNat)
 case atStart=>exact⟨0,Nat.zero_le _,rfl,Below.refl _ _,fun j hj=>by omega⟩
 case round =>
  obtain⟨k,hkl,rfl,HR,HNO⟩:=hrel
  obtain⟨⟨x0,xz⟩,hnb⟩:=HXX.out wr HR.out
  by_cases hlt:k<s.l.length
  ·obtain⟨z,hz⟩:∃z,s.l[k]? = some z:=⟨_,List.getElem?_eq_getElem hlt⟩
   obtain⟨g,o,rfl,hg,q0,q1,q2,q3,q4,q5,q6,q7⟩:=(HA.out wr HR.out).node hz
   obtain⟨n0,n1,n2,n3,n4,n5,n6,n7,nz⟩:=qAi hnb
   have e0:=qFr z n (HOk.out z (List.mem_of_getElem? hz)) HNk.out
   have f0:=qFa z n (HOk.out z (List.mem_of_getElem? hz)) HNk.out
   have hki:(k:Int)<(s.l.length:Int):=by omega
   have hk0:(0:Int)≤(k:Int):=by omega
   by_cases hzy:z=n
   ·rw[decide_eq_true hzy] at e0 f0
    obtain⟨rfl,rfl⟩:=HY.out k (by rw[hz,hzy])
    have HBw:Hid (Below w.heap.size w wr):=HB0.out.trans (HR.out.mono HB0.out.size)
    clear hzy hz hnb
    go_wp2
    go_quiet (fail)
    go_wp2
    go_ret2
    exact⟨rfl,qA1 HBw.out⟩
   ·rw[decide_eq_false hzy] at e0 f0
    have HNO2:Hid (∀j:Nat,j<k+1→s.l[j]?≠some n):=fun j hj=>by
     by_cases hij:j<k
     ·exact HNO.out j hij
     ·obtain rfl:j=k:=by omega
      rw[hz]
      exact fun e=>hzy (Option.some.inj e)
    clear hzy hz hnb
    go_wp2
    go_quiet (fail)
    go_wp2
    go_roundw
    case rel=>exact⟨k+1,by omega,by go_num,qA1 HR.out,HNO2⟩
    case measure=>simp[intOf];omega
  ·obtain rfl:k=s.l.length:=by omega
   obtain⟨rfl,rfl⟩:=HN.out (fun h=>by
    obtain⟨j,hj⟩:=List.getElem?_of_mem h
    exact HNO.out j (List.getElem?_eq_some_iff.1 hj).1 hj)
   have HBw:Hid (Below w.heap.size w wr):=HB0.out.trans (HR.out.mono HB0.out.size)
   clear hnb
   go_wp2
   go_ret2
   exact⟨rfl,HBw.out⟩
end Go.Proofs.YtfgpimhdjlmapaaGreatDoor.Tm
