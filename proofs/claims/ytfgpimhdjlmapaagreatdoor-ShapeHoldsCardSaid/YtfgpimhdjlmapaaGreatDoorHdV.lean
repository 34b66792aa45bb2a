/- The document's Values: every node's value, or that it overflows. -/
import Derived.Laws.Bits128
import Derived.Test.YtfgpimhdjlmapaaGreatDoorHdR
import Derived.Test.YtfgpimhdjlmapaaGreatDoorTmM
import Derived.Test.YtfgpimhdjlmapaaGreatDoorHdN
import Derived.Deep.AppendLies
namespace Go.Proofs.YtfgpimhdjlmapaaGreatDoor
open Go.RowKit
open Tm (NodeA NodeOk TabR)
set_option linter.unusedVariables false
set_option maxRecDepth 100000
def qBx (n:NodeA) (j:Nat):Int:=if j=0 then n.a0 else if j=1 then n.a1 else n.a2
def qDs (t:List NodeA) (i:Int):Int:=((t[i.toNat]?).map (·.sort)).getD 0
def qAe (t:List NodeA) (n:NodeA):List Int:=(List.range n.len.toNat).map (fun j=>qDs t (qBx n j))
def qLs (x:SigV) (t:List NodeA) (n:NodeA):Int:=if n.op=13 then (if qNl x n.fn (qAe t n)=0 then 0 else 33) else opE n.op (qAe t n)
def qLt (x:SigV) (t:List NodeA) (n:NodeA):Int:=if n.op=13 then qS7 x n.fn (qAe t n) else opV n.op (qAe t n)
theorem info_int:(Tryz.prog.info? 3).map (fun i=>(i.zero,i.size,i.bytes))=some (some (.int .i64 0),1,8):=by kernel_rfl
structure InT (t:List NodeA) (n:NodeA):Prop where
 lo:0≤n.len
 hi:n.len≤3
 arg:∀j:Nat,(j:Int)<n.len→0≤qBx n j∧qBx n j<(t.length:Int)
theorem qTl {V:World} {B:Nat} {n:NodeA} {ty:TypeId} (h:V.heap[B]? = some (.cells #[.int .i8 n.op,.int .i8 n.len,.int .i64 n.a0,.int .i64 n.a1,.int .i64 n.a2,.int .i64 n.sort,.int .i64 n.fn,.int .i64 n.num] ty (0,0))):V.cell? ⟨B,0,none⟩=some (.int .i8 n.op)∧V.cell? ⟨B,1,none⟩=some (.int .i8 n.len)∧V.cell? ⟨B,2,none⟩=some (.int .i64 n.a0)∧V.cell? ⟨B,3,none⟩=some (.int .i64 n.a1)∧V.cell? ⟨B,4,none⟩=some (.int .i64 n.a2)∧V.cell? ⟨B,6,none⟩=some (.int .i64 n.fn)∧B<V.heap.size :=
 ⟨(cell_of_row _ _ 0 _ _ _ h).trans rfl,(cell_of_row _ _ 1 _ _ _ h).trans rfl,(cell_of_row _ _ 2 _ _ _ h).trans rfl,(cell_of_row _ _ 3 _ _ _ h).trans rfl,(cell_of_row _ _ 4 _ _ _ h).trans rfl,(cell_of_row _ _ 6 _ _ _ h).trans rfl,(Array.getElem?_eq_some_iff.1 h).1⟩
theorem qEy {W V V2:World} {o:Obj} {e:TypeId} {size n:Nat} {v:Value} {xs:List Value} (h:Below W.heap.size W V) (hown:V.ownsRow W.heap.size e size v n xs) (hg:(V.alloc o).drew.grownBy V2 v.ownBlock):Below W.heap.size W V2:=by
 have h2:(V.alloc o).drew.heap.size=V.heap.size+1:=by show (V.alloc o).heap.size=_;simp
 have h3:=hg.size
 have h4:=h.size
 exact⟨hg.os.trans h.os,hg.tape.trans h.tape,hg.output.trans h.output,by omega,fun k hk=>(hg.block k (by omega) (fun e'=>by have:=(qBh hown e'.symm).1;omega)).trans ((Below.heap_alloc V o k (by omega)).trans (h.block k hk))⟩
set_option maxHeartbeats 4000000 in
theorem qTm (x:SigV) (t:List NodeA) (ta:Option Addr) (tc:Nat) (n:NodeA) (V E:Int) (w:World) (hX:SigR w x) (hT:TabR w t ta tc) (hn:NodeOk n) (hI:InT t n) (hV:qLt x t n=V) (hE:qLs x t n=E) :
  Calls Tryz.prog 59 #[.agg #[.slice x.sa x.sorts.length x.sc,.slice x.fa x.funs.length x.fc,.slice x.ma x.macs.length x.mc],.agg #[.slice ta t.length tc],.agg #[.int .i8 n.op,.int .i8 n.len,.int .i64 n.a0,.int .i64 n.a1,.int .i64 n.a2,.int .i64 n.sort,.int .i64 n.fn,.int .i64 n.num]] w fun e w'=>e=.returned (.tuple #[.int .i64 V,.int .i64 E])∧Below w.heap.size w w':=by
 obtain⟨W0,hW0⟩:∃W0,W0=((w.alloc (.cells #[.slice x.sa x.sorts.length x.sc,.slice x.fa x.funs.length x.fc,.slice x.ma x.macs.length x.mc] 26)).alloc (.cells #[.slice ta t.length tc] 33)).alloc (.cells #[.int .i8 n.op,.int .i8 n.len,.int .i64 n.a0,.int .i64 n.a1,.int .i64 n.a2,.int .i64 n.sort,.int .i64 n.fn,.int .i64 n.num] 54):=⟨_,rfl⟩
 have hB0:Below w.heap.size w W0:=by rw[hW0];exact(((Below.refl _ w).alloc (Nat.le_refl _) _).alloc (by simp) _).alloc (by simp;omega) _
 have hs0:W0.heap.size=w.heap.size+3:=by rw[hW0];simp
 have HB0:=Lib.hid hB0
 have hX0:W0.heap[w.heap.size]? = some (.cells #[.slice x.sa x.sorts.length x.sc,.slice x.fa x.funs.length x.fc,.slice x.ma x.macs.length x.mc] 26 (0,0)):=by
  rw[hW0]
  exact((Below.heap_alloc _ _ _ (by simp;omega)).trans (Below.heap_alloc _ _ _ (by simp))).trans (heap_alloc_new w _)
 have hT0:W0.heap[w.heap.size+1]? = some (.cells #[.slice ta t.length tc] 33 (0,0)):=by
  have:=heap_alloc_new (w.alloc (.cells #[.slice x.sa x.sorts.length x.sc,.slice x.fa x.funs.length x.fc,.slice x.ma x.macs.length x.mc] 26)) (.cells #[.slice ta t.length tc] 33)
  rw[World.size_alloc] at this
  rw[hW0]
  exact(Below.heap_alloc _ _ _ (by simp)).trans this
 have hN0:W0.heap[w.heap.size+1+1]? = some (.cells #[.int .i8 n.op,.int .i8 n.len,.int .i64 n.a0,.int .i64 n.a1,.int .i64 n.a2,.int .i64 n.sort,.int .i64 n.fn,.int .i64 n.num] 54 (0,0)):=by
  have:=heap_alloc_new ((w.alloc (.cells #[.slice x.sa x.sorts.length x.sc,.slice x.fa x.funs.length x.fc,.slice x.ma x.macs.length x.mc] 26)).alloc (.cells #[.slice ta t.length tc] 33)) (.cells #[.int .i8 n.op,.int .i8 n.len,.int .i64 n.a0,.int .i64 n.a1,.int .i64 n.a2,.int .i64 n.sort,.int .i64 n.fn,.int .i64 n.num] 54)
  rw[World.size_alloc,World.size_alloc] at this
  rw[hW0]
  exact this
 have HK:Hid (∀V,Below W0.heap.size W0 V→V.cell? ⟨w.heap.size,0,none⟩=some (.slice x.sa x.sorts.length x.sc)∧V.cell? ⟨w.heap.size,1,none⟩=some (.slice x.fa x.funs.length x.fc)∧V.cell? ⟨w.heap.size,2,none⟩=some (.slice x.ma x.macs.length x.mc)∧V.cell? ⟨w.heap.size+1,0,none⟩=some (.slice ta t.length tc)∧V.cell? ⟨w.heap.size+1+1,0,none⟩=some (.int .i8 n.op)∧V.cell? ⟨w.heap.size+1+1,1,none⟩=some (.int .i8 n.len)∧V.cell? ⟨w.heap.size+1+1,2,none⟩=some (.int .i64 n.a0)∧V.cell? ⟨w.heap.size+1+1,3,none⟩=some (.int .i64 n.a1)∧V.cell? ⟨w.heap.size+1+1,4,none⟩=some (.int .i64 n.a2)∧V.cell? ⟨w.heap.size+1+1,6,none⟩=some (.int .i64 n.fn)∧w.heap.size+1+1<V.heap.size):=fun V hV=>by
  obtain⟨c0,c1,c2,_⟩:=qAx ((hV.block _ (Array.getElem?_eq_some_iff.1 hX0).1).trans hX0)
  have t0:=(cell_of_row _ _ 0 _ _ _ ((hV.block _ (Array.getElem?_eq_some_iff.1 hT0).1).trans hT0)).trans rfl
  obtain⟨n0,n1,n2,n3,n4,n6,z⟩:=qTl ((hV.block _ (Array.getElem?_eq_some_iff.1 hN0).1).trans hN0)
  exact⟨c0,c1,c2,t0,n0,n1,n2,n3,n4,n6,z⟩
 have HX:=Lib.hid hX
 have HT:=Lib.hid hT
 have HI:=Lib.hid hI
 have HNo:=Lib.hid hn
 have HVv:Hid (qLt x t n=V):=hV
 have HEe:Hid (qLs x t n=E):=hE
 obtain⟨lo,hi,_⟩:=hI
 obtain⟨i0,hi_,hz0,hz1,hz2⟩:=info_parts info_int
 clear hX0 hT0 hN0 hX hT hn hB0 hV hE
 go_enter Tryz.func59,Tryz.ntmps59
 go_wp2_with fail
 rw[←hW0]
 clear hW0
 go_loopw [8,9] (fun s i wr=>∃(k:Nat) (a:Option Addr) (c:Nat),(k:Int)≤n.len∧i=.int .i64 k∧s=.slice a k c∧Hid (Below W0.heap.size W0 wr)∧Hid (wr.ownsRow W0.heap.size 3 1 (.slice a k c) k (((List.range k).map (fun j=>qDs t (qBx n j))).flatMap qFb))) (fun _ i _=>n.len.toNat-(intOf i).toNat)
 case atStart=>exact⟨0,none,0,by omega,rfl,rfl,Below.refl _ _,World.ownsRow_nil _ _ _ _⟩
 case round =>
  obtain⟨k,a,c,hk,rfl,rfl,HB,HO⟩:=hrel
  obtain⟨c0,c1,c2,t0,n0,n1,n2,n3,n4,n6,z0⟩:=HK.out _ HB.out
  by_cases hlt:(k:Int)<n.len
  ·obtain⟨al,ah⟩:=HI.out.arg k hlt
   obtain⟨j,hj⟩:∃j:Nat,qBx n k=(j:Int):=⟨(qBx n k).toNat,by omega⟩
   have hjt:j<t.length:=by omega
   obtain⟨m,hm⟩:∃m,t[j]? = some m:=⟨_,List.getElem?_eq_getElem hjt⟩
   have hsrt:qDs t (qBx n k)=m.sort:=by unfold qDs;rw[hj,Int.toNat_natCast,hm];rfl
   obtain⟨g,o,rfl,hg,_,_,_,_,_,m5,_,_⟩:=(HT.out.below (HB0.out.trans (HB.out.mono HB0.out.size))).node hm
   have hji:(j:Int)<(t.length:Int):=by omega
   have hj0:(0:Int)≤(j:Int):=by omega
   have hown:wr.ownsRow W0.heap.size 3 1 (.slice a k c) k (((List.range k).map (fun j=>qDs t (qBx n j))).flatMap qFb):=HO.out
   have hc:k=0∨k=1∨k=2:=by omega
   have hmo:=(HT.out.ok m (List.mem_of_getElem? hm)).sort
   clear hm
   rcases hc with rfl|rfl|rfl
   ·have ha0:n.a0=(j:Int):=hj
    rw[ha0] at n2
    clear ha0 hj
    try simp only[Nat.cast_ofNat_Int] at hlt
    go_wp2_with fail
    go_region_law (refine step_append_lies _ rfl (.tmp 19) (.tmp 29) 27 rfl W0.heap.size 3 i0 _ 1 8 Tryz.underlying27 hi_ hz0 hz1 hz2 rfl (by decide) (Value.slice a 0 c) 0 (((List.range 0).map (fun j=>qDs t (qBx n j))).flatMap qFb) (by rfl) (hown.alloc _) ⟨wr.heap.size,0,none⟩ 1 1 [.int .i64 m.sort] (by rfl) rfl (World.news_of_block (B:=wr.heap.size) (cs:=#[.int .i64 m.sort]) (t:=3) (fr:=(0,0)) (heap_alloc_new wr _)) (by simp[Value.oneCell']) (by omega) (by simp[maxLen]) (by omega) (by have:=HB.out.size;simp;omega) _ rfl ?_;intro g9 c9 w9 hown9 hgrow9 hat9 hlt9;have HB9:=Lib.hid (qEy HB.out hown hgrow9);have HO9:=Lib.hid hown9;clear hown9 hgrow9 hat9)
    all_goals
     have HO3:Hid (w9.ownsRow W0.heap.size 3 1 (.slice (some ⟨g9,0,none⟩) (0+1) c9) (0+1) (((List.range (0+1)).map (fun j=>qDs t (qBx n j))).flatMap qFb)):=by
      have h:=HO9.out
      rw[←hsrt] at h
      exact h
     go_wp2_with fail
     go_roundw
     case rel=>exact⟨0+1,some ⟨g9,0,none⟩,c9,by omega,by go_num,rfl,by first|exact HB9|exact HB9.out.drew,by first|exact HO3|exact HO3.out.drew⟩
     case measure=>first|(simp[intOf];done)|(simp[intOf];omega)
   ·have ha0:n.a1=(j:Int):=hj
    rw[ha0] at n3
    clear ha0 hj
    try simp only[Nat.cast_ofNat_Int] at hlt
    go_wp2_with fail
    go_region_law (refine step_append_lies _ rfl (.tmp 19) (.tmp 29) 27 rfl W0.heap.size 3 i0 _ 1 8 Tryz.underlying27 hi_ hz0 hz1 hz2 rfl (by decide) (Value.slice a 1 c) 1 (((List.range 1).map (fun j=>qDs t (qBx n j))).flatMap qFb) (by rfl) (hown.alloc _) ⟨wr.heap.size,0,none⟩ 1 1 [.int .i64 m.sort] (by rfl) rfl (World.news_of_block (B:=wr.heap.size) (cs:=#[.int .i64 m.sort]) (t:=3) (fr:=(0,0)) (heap_alloc_new wr _)) (by simp[Value.oneCell']) (by omega) (by simp[maxLen]) (by omega) (by have:=HB.out.size;simp;omega) _ rfl ?_;intro g9 c9 w9 hown9 hgrow9 hat9 hlt9;have HB9:=Lib.hid (qEy HB.out hown hgrow9);have HO9:=Lib.hid hown9;clear hown9 hgrow9 hat9)
    all_goals
     have HO3:Hid (w9.ownsRow W0.heap.size 3 1 (.slice (some ⟨g9,0,none⟩) (1+1) c9) (1+1) (((List.range (1+1)).map (fun j=>qDs t (qBx n j))).flatMap qFb)):=by
      have h:=HO9.out
      rw[←hsrt] at h
      exact h
     go_wp2_with fail
     go_roundw
     case rel=>exact⟨1+1,some ⟨g9,0,none⟩,c9,by omega,by go_num,rfl,by first|exact HB9|exact HB9.out.drew,by first|exact HO3|exact HO3.out.drew⟩
     case measure=>first|(simp[intOf];done)|(simp[intOf];omega)
   ·have ha0:n.a2=(j:Int):=hj
    rw[ha0] at n4
    clear ha0 hj
    try simp only[Nat.cast_ofNat_Int] at hlt
    go_wp2_with fail
    go_region_law (refine step_append_lies _ rfl (.tmp 19) (.tmp 29) 27 rfl W0.heap.size 3 i0 _ 1 8 Tryz.underlying27 hi_ hz0 hz1 hz2 rfl (by decide) (Value.slice a 2 c) 2 (((List.range 2).map (fun j=>qDs t (qBx n j))).flatMap qFb) (by rfl) (hown.alloc _) ⟨wr.heap.size,0,none⟩ 1 1 [.int .i64 m.sort] (by rfl) rfl (World.news_of_block (B:=wr.heap.size) (cs:=#[.int .i64 m.sort]) (t:=3) (fr:=(0,0)) (heap_alloc_new wr _)) (by simp[Value.oneCell']) (by omega) (by simp[maxLen]) (by omega) (by have:=HB.out.size;simp;omega) _ rfl ?_;intro g9 c9 w9 hown9 hgrow9 hat9 hlt9;have HB9:=Lib.hid (qEy HB.out hown hgrow9);have HO9:=Lib.hid hown9;clear hown9 hgrow9 hat9)
    all_goals
     have HO3:Hid (w9.ownsRow W0.heap.size 3 1 (.slice (some ⟨g9,0,none⟩) (2+1) c9) (2+1) (((List.range (2+1)).map (fun j=>qDs t (qBx n j))).flatMap qFb)):=by
      have h:=HO9.out
      rw[←hsrt] at h
      exact h
     go_wp2_with fail
     go_roundw
     case rel=>exact⟨2+1,some ⟨g9,0,none⟩,c9,by omega,by go_num,rfl,by first|exact HB9|exact HB9.out.drew,by first|exact HO3|exact HO3.out.drew⟩
     case measure=>first|(simp[intOf];done)|(simp[intOf];omega)
  ·have hkn:n.len=(k:Int):=by omega
   have hkt:n.len.toNat=k:=by omega
   have hSl:(qAe t n).length=k:=by unfold qAe;rw[List.length_map,List.length_range,hkt]
   have hown:wr.ownsRow W0.heap.size 3 1 (.slice a k c) k ((qAe t n).flatMap qFb):=by
    have h:=HO.out
    unfold qAe
    rw[hkt]
    exact h
   obtain⟨_,_,hat⟩:=qH7 hown
   have HBw:Hid (Below w.heap.size w wr):=HB0.out.trans (HB.out.mono HB0.out.size)
   by_cases h13:n.op=13
   ·have e13:=qAo h13
    by_cases h0:qNl x n.fn (qAe t n)=0
    ·obtain rfl:E=0:=by rw[←HEe.out];unfold qLs;rw[if_pos h13,if_pos h0]
     have hv:qS7 x n.fn (qAe t n)=V:=by rw[←HVv.out];unfold qLt;rw[if_pos h13]
     have h:=qQk x n.fn (qAe t n) a c V 0 wr (HX.out.below HBw.out) HNo.out.fn hat (by omega) hv h0
     rw[hSl] at h
     have HC:=Lib.hid h
     clear h hv h0 h13 hat hown hSl hkt hkn
     go_wp2_with (go_at_call 83;refine HC.out.mono ?_;rintro e w5 ⟨rfl,hb5⟩;have HB5:=Lib.hid hb5;clear hb5)
     go_ret2
     exact⟨rfl,HBw.out.trans (HB5.out.mono HBw.out.size)⟩
    ·obtain rfl:E=33:=by rw[←HEe.out];unfold qLs;rw[if_pos h13,if_neg h0]
     obtain rfl:V=0:=by rw[←HVv.out];unfold qLt qS7;rw[if_pos h13,if_neg h0]
     have h:=qQk x n.fn (qAe t n) a c _ _ wr (HX.out.below HBw.out) HNo.out.fn hat (by omega) rfl rfl
     rw[hSl] at h
     have HC:=Lib.hid h
     have e0:=qAr h0
     generalize qNl x n.fn (qAe t n)=E2 at *
     generalize qS7 x n.fn (qAe t n)=V2 at *
     clear h h0 h13 hat hown hSl hkt hkn
     go_wp2_with (go_at_call 83;refine HC.out.mono ?_;rintro e w5 ⟨rfl,hb5⟩;have HB5:=Lib.hid hb5;clear hb5)
     go_ret2
     exact⟨rfl,HBw.out.trans (HB5.out.mono HBw.out.size)⟩
   ·have e13:=qA9 h13
    have hv:opV n.op (qAe t n)=V:=by rw[←HVv.out];unfold qLt;rw[if_neg h13]
    have he:opE n.op (qAe t n)=E:=by rw[←HEe.out];unfold qLs;rw[if_neg h13]
    have h:=Op_any n.op (qAe t n) a c V E wr hat (by omega) hv he
    rw[hSl] at h
    have HC:=Lib.hid h
    clear h hv he h13 hat hown hSl hkt hkn
    go_wp2_with (go_at_call 32;refine HC.out.mono ?_;rintro e w5 ⟨rfl,hb5⟩;have HB5:=Lib.hid hb5;clear hb5)
    go_ret2
    exact⟨rfl,HBw.out.trans (HB5.out.mono HBw.out.size)⟩
open Tm (NodeA NodeOk TabR qBu)
def qLu (x:SigV) (t:List NodeA) (n:NodeA):Bool:=decide (qLs x t n=0)&&decide (qLt x t n=n.sort)
def qP1 (x:SigV) (t:List NodeA):Int:=if qC1 x.a=true∧qBu t=true then (if t.all (qLu x t)=true then 0 else 33) else 2
theorem stands_in {t:List NodeA} {n:NodeA} {k:Nat} (h:Tm.standsB n k=true) (hk:k≤t.length):InT t n:=by
 unfold Tm.standsB at h
 rw[decide_eq_true_eq] at h
 obtain⟨⟨h0,h1,h2⟩,_,⟨a0,_⟩,⟨a1,_⟩,⟨a2,_⟩⟩:=h
 have hl:0≤n.len∧n.len≤3:=by
  split at h2
  ·exact⟨h2.1,h2.2.1⟩
  ·have h3:n.len=Tm.arityA n.op:=by
    split at h2
    ·exact h2.1
    ·exact h2.1
   rw[h3]
   unfold Tm.arityA
   repeat' split
   all_goals omega
 refine⟨hl.1,hl.2,fun j hj=>?_⟩
 have hc:j=0∨j=1∨j=2:=by omega
 rcases hc with rfl|rfl|rfl
 ·have:=a0 hj
  show 0≤n.a0∧n.a0<_
  omega
 ·have:=a1 hj
  show 0≤n.a1∧n.a1<_
  omega
 ·have:=a2 hj
  show 0≤n.a2∧n.a2<_
  omega
set_option maxRecDepth 300000 in
set_option maxHeartbeats 4000000 in
theorem qOh (x:SigV) (t:List NodeA) (ta:Option Addr) (tc:Nat) (r:Int) (w:World) (hX:SigR w x) (hT:TabR w t ta tc) (htl:t.length≤3000) (hr:qP1 x t=r) :
  Calls Tryz.prog 35 #[.agg #[.slice x.sa x.sorts.length x.sc,.slice x.fa x.funs.length x.fc,.slice x.ma x.macs.length x.mc],.agg #[.slice ta t.length tc]] w fun e w'=>e=.returned (.int .i64 r)∧Below w.heap.size w w':=by
 obtain⟨W0,hW0⟩:∃W0,W0=(w.alloc (.cells #[.slice x.sa x.sorts.length x.sc,.slice x.fa x.funs.length x.fc,.slice x.ma x.macs.length x.mc] 26)).alloc (.cells #[.slice ta t.length tc] 33):=⟨_,rfl⟩
 have hB0:Below w.heap.size w W0:=by rw[hW0];exact((Below.refl _ w).alloc (Nat.le_refl _) _).alloc (by simp) _
 have HB0:=Lib.hid hB0
 have hX0:W0.heap[w.heap.size]? = some (.cells #[.slice x.sa x.sorts.length x.sc,.slice x.fa x.funs.length x.fc,.slice x.ma x.macs.length x.mc] 26 (0,0)):=by rw[hW0];exact(Below.heap_alloc _ _ _ (by simp)).trans (heap_alloc_new w _)
 have hT0:W0.heap[w.heap.size+1]? = some (.cells #[.slice ta t.length tc] 33 (0,0)):=by
  have:=heap_alloc_new (w.alloc (.cells #[.slice x.sa x.sorts.length x.sc,.slice x.fa x.funs.length x.fc,.slice x.ma x.macs.length x.mc] 26)) (.cells #[.slice ta t.length tc] 33)
  rw[World.size_alloc] at this
  rw[hW0];exact this
 have HK:Hid (∀V,Below W0.heap.size W0 V→V.cell? ⟨w.heap.size,0,none⟩=some (.slice x.sa x.sorts.length x.sc)∧V.cell? ⟨w.heap.size,1,none⟩=some (.slice x.fa x.funs.length x.fc)∧V.cell? ⟨w.heap.size,2,none⟩=some (.slice x.ma x.macs.length x.mc)∧V.cell? ⟨w.heap.size+1,0,none⟩=some (.slice ta t.length tc)∧w.heap.size+1<V.heap.size):=fun V hV=>by
  obtain⟨c0,c1,c2,_⟩:=qAx ((hV.block _ (Array.getElem?_eq_some_iff.1 hX0).1).trans hX0)
  have h:=(hV.block _ (Array.getElem?_eq_some_iff.1 hT0).1).trans hT0
  exact⟨c0,c1,c2,(cell_of_row _ _ 0 _ _ _ h).trans rfl,(Array.getElem?_eq_some_iff.1 h).1⟩
 have HX:=Lib.hid hX
 have HT:=Lib.hid hT
 have HCx:Hid (∀q,qC1 x.a=q→∀V,Below W0.heap.size W0 V→Calls Tryz.prog 56 #[.agg #[.slice x.sa x.sorts.length x.sc,.slice x.fa x.funs.length x.fc,.slice x.ma x.macs.length x.mc]] V fun e w'=>e=.returned (.int .i64 (if q=true then 0 else 2))∧Below W0.heap.size W0 w'):=fun q hq V hV=>(qDw x q V (hX.below (hB0.trans (hV.mono hB0.size))) hq).mono fun e w' ⟨h1,h2⟩=>⟨h1,hV.trans (h2.mono hV.size)⟩
 have HCt:Hid (∀q,qBu t=q→∀V,Below W0.heap.size W0 V→Calls Tryz.prog 19 #[.agg #[.slice ta t.length tc]] V fun e w'=>e=.returned (.int .i64 (if q=true then 0 else 2))∧Below W0.heap.size W0 w'):=fun q hq V hV=>by
  have h:=(Tm.RCheck_any t ta tc _ V (hT.below (hB0.trans (hV.mono hB0.size))) htl rfl).mono fun e w' ⟨h1,h2⟩=>(⟨h1,hV.trans (h2.mono hV.size)⟩:e=Ending.returned (.int .i64 (Tm.errB2 (qBu t)))∧Below W0.heap.size W0 w')
  rw[hq] at h
  cases q<;>exact h
 obtain⟨c0,c1,c2,t0,z0⟩:=HK.out _ (Below.refl _ _)
 clear hX0 hT0 hX hT hB0
 cases hq:qC1 x.a with
 | false =>
  obtain rfl:r=2:=by rw[←hr];unfold qP1;rw[if_neg (fun h=>by rw[hq] at h;cases h.1)]
  have HC:=Lib.hid (HCx.out _ hq)
  clear hr hq
  go_enter Tryz.func35,Tryz.ntmps35
  go_wp2_with (go_at_call 56;rw[←hW0];clear hW0;refine(HC.out _ (Below.refl _ _)).mono ?_;rintro e w3 ⟨rfl,hb1⟩;have HB1:=Lib.hid hb1;clear hb1 c0 c1 c2 t0 z0;obtain⟨c0,c1,c2,t0,z0⟩:=HK.out _ HB1.out;simp only[reduceIte,Bool.false_eq_true])
  go_ret
  exact⟨rfl,HB0.out.trans (HB1.out.mono HB0.out.size)⟩
 | true =>
 have HC:=Lib.hid (HCx.out _ hq)
 cases hm:qBu t with
 | false =>
  obtain rfl:r=2:=by rw[←hr];unfold qP1;rw[if_neg (fun h=>by rw[hm] at h;cases h.2)]
  have HC2:=Lib.hid (HCt.out _ hm)
  clear hr hq hm
  go_enter Tryz.func35,Tryz.ntmps35
  go_wp2_with (first|(go_at_call 56;rw[←hW0];clear hW0;refine(HC.out _ (Below.refl _ _)).mono ?_;rintro e w3 ⟨rfl,hb1⟩;have HB1:=Lib.hid hb1;clear hb1 c0 c1 c2 t0 z0;obtain⟨c0,c1,c2,t0,z0⟩:=HK.out _ HB1.out;simp only[reduceIte])|(go_at_call 19;refine(HC2.out _ HB1.out).mono ?_;rintro e w4 ⟨rfl,hb2⟩;have HB2:=Lib.hid hb2;clear hb2 c0 c1 c2 t0 z0;obtain⟨c0,c1,c2,t0,z0⟩:=HK.out _ HB2.out;simp only[reduceIte,Bool.false_eq_true]))
  go_ret
  exact⟨rfl,HB0.out.trans (HB2.out.mono HB0.out.size)⟩
 | true =>
 have HC2:=Lib.hid (HCt.out _ hm)
 have hE:(if t.all (qLu x t)=true then (0:Int) else 33)=r:=by rw[←hr];unfold qP1;exact(if_pos ⟨hq,hm⟩).symm
 have HNo:Hid (∀(j:Nat) (n:NodeA),t[j]? = some n→qLu x t n=false→r=33):=fun j n hn h=>by rw[←hE,qJb hn h];rfl
 have HYes:Hid ((∀(j:Nat) (n:NodeA),t[j]? = some n→qLu x t n=true)→r=0):=fun h=>by rw[←hE,qK4 h];rfl
 have HOk:=Lib.hid (Tm.mayT_ok hm).2
 clear hr hE hq hm
 go_enter Tryz.func35,Tryz.ntmps35
 go_wp2_with (first|(go_at_call 56;rw[←hW0];clear hW0;refine(HC.out _ (Below.refl _ _)).mono ?_;rintro e w3 ⟨rfl,hb1⟩;have HB1:=Lib.hid hb1;clear hb1 c0 c1 c2 t0 z0;obtain⟨c0,c1,c2,t0,z0⟩:=HK.out _ HB1.out;simp only[reduceIte])|(go_at_call 19;refine(HC2.out _ HB1.out).mono ?_;rintro e w4 ⟨rfl,hb2⟩;have HB2:=Lib.hid hb2;clear hb2 c0 c1 c2 t0 z0;obtain⟨c0,c1,c2,t0,z0⟩:=HK.out _ HB2.out;simp only[reduceIte]))
 clear c0 c1 c2 t0 z0
 go_loopw [5] (fun i wr=>∃k:Nat,k≤t.length∧i=.int .i64 k∧Hid (∀(j:Nat) (n:NodeA),j<k→t[j]? = some n→qLu x t n=true)∧Hid (Below W0.heap.size W0 wr)) (fun i _=>t.length-(intOf i).toNat)
 case atStart=>exact⟨0,Nat.zero_le _,rfl,fun j _ hj=>absurd hj (Nat.not_lt_zero _),HB2⟩
 case round =>
  obtain⟨k,hk,rfl,HP,HB⟩:=hrel
  obtain⟨c0,c1,c2,t0,z0⟩:=HK.out _ HB.out
  have HBw:Hid (Below w.heap.size w wr):=HB0.out.trans (HB.out.mono HB0.out.size)
  by_cases hlt:k<t.length
  rotate_left
  ·obtain rfl:k=t.length:=by omega
   obtain rfl:r=0:=HYes.out (fun j n hj=>HP.out j n (List.getElem?_eq_some_iff.1 hj).1 hj)
   go_wp2
   go_ret
   exact⟨rfl,HBw.out⟩
  obtain⟨n,hn⟩:∃n,t[k]? = some n:=⟨_,List.getElem?_eq_getElem hlt⟩
  obtain⟨g,o,rfl,hg,m0,m1,m2,m3,m4,m5,m6,m7⟩:=(HT.out.below HBw.out).node hn
  have HMk:Hid (∀V,Below wr.heap.size wr V→V.cell? ⟨g,o+k*8+5,none⟩=some (.int .i64 n.sort)∧g<V.heap.size):=fun V hV=>⟨(hV.cell (p:=⟨g,o+k*8+5,none⟩) hg).trans m5,Nat.lt_of_lt_of_le hg hV.size⟩
  have HSN:Hid (∀V,Below wr.heap.size wr V→V.cell? ⟨w.heap.size,0,none⟩=some (.slice x.sa x.sorts.length x.sc)∧V.cell? ⟨w.heap.size,1,none⟩=some (.slice x.fa x.funs.length x.fc)∧V.cell? ⟨w.heap.size,2,none⟩=some (.slice x.ma x.macs.length x.mc)∧V.cell? ⟨w.heap.size+1,0,none⟩=some (.slice (some ⟨g,o,none⟩) t.length tc)∧V.cell? ⟨g,o+k*8,none⟩=some (.int .i8 n.op)∧V.cell? ⟨g,o+k*8+1,none⟩=some (.int .i8 n.len)∧V.cell? ⟨g,o+k*8+2,none⟩=some (.int .i64 n.a0)∧V.cell? ⟨g,o+k*8+3,none⟩=some (.int .i64 n.a1)∧V.cell? ⟨g,o+k*8+4,none⟩=some (.int .i64 n.a2)∧V.cell? ⟨g,o+k*8+5,none⟩=some (.int .i64 n.sort)∧V.cell? ⟨g,o+k*8+6,none⟩=some (.int .i64 n.fn)∧V.cell? ⟨g,o+k*8+7,none⟩=some (.int .i64 n.num)):=fun V hV=>by
   obtain⟨c0,c1,c2,t0,_⟩:=HK.out _ (HB.out.trans (hV.mono HB.out.size))
   exact⟨c0,c1,c2,t0,(hV.cell (p:=⟨g,o+k*8,none⟩) hg).trans m0,(hV.cell (p:=⟨g,o+k*8+1,none⟩) hg).trans m1,(hV.cell (p:=⟨g,o+k*8+2,none⟩) hg).trans m2,(hV.cell (p:=⟨g,o+k*8+3,none⟩) hg).trans m3,(hV.cell (p:=⟨g,o+k*8+4,none⟩) hg).trans m4,(hV.cell (p:=⟨g,o+k*8+5,none⟩) hg).trans m5,(hV.cell (p:=⟨g,o+k*8+6,none⟩) hg).trans m6,(hV.cell (p:=⟨g,o+k*8+7,none⟩) hg).trans m7⟩
  have hki:(k:Int)<(t.length:Int):=by omega
  have hk0:(0:Int)≤(k:Int):=by omega
  have hno:=HT.out.ok n (List.mem_of_getElem? hn)
  have hin:InT t n:=stands_in (Tm.ok_at HOk.out hn).1 (by omega)
  have HRu:Hid (∀V E,qLt x t n=V→qLs x t n=E→∀U,Below wr.heap.size wr U→Calls Tryz.prog 59 #[.agg #[.slice x.sa x.sorts.length x.sc,.slice x.fa x.funs.length x.fc,.slice x.ma x.macs.length x.mc],.agg #[.slice (some ⟨g,o,none⟩) t.length tc],.agg #[.int .i8 n.op,.int .i8 n.len,.int .i64 n.a0,.int .i64 n.a1,.int .i64 n.a2,.int .i64 n.sort,.int .i64 n.fn,.int .i64 n.num]] U fun e w'=>e=.returned (.tuple #[.int .i64 V,.int .i64 E])∧Below wr.heap.size wr w'):=fun V E hv he U hU =>
   (qTm x t (some ⟨g,o,none⟩) tc n V E U (HX.out.below (HBw.out.trans (hU.mono HBw.out.size))) (HT.out.below (HBw.out.trans (hU.mono HBw.out.size))) hno hin hv he).mono fun e w' ⟨h1,h2⟩=>⟨h1,hU.trans (h2.mono hU.size)⟩
  have hrow:(decide (qLs x t n=0)&&decide (qLt x t n=n.sort))=qLu x t n:=rfl
  have HNo2:Hid (qLu x t n=false→r=33):=HNo.out k n hn
  have HP2:Hid (qLu x t n=true→∀(j:Nat) (z:NodeA),j<k+1→t[j]? = some z→qLu x t z=true):=fun h j z hj hz=>by
   by_cases hjk:j<k
   ·exact HP.out j z hjk hz
   ·obtain rfl:j=k:=by omega
    obtain rfl:n=z:=by rw[hn] at hz;exact Option.some.inj hz
    exact h
  have hso:=hno.sort
  clear hn hno hin
  by_cases h0:qLs x t n=0
  rotate_left
  ·obtain rfl:=HNo2.out (by rw[←hrow,decide_eq_false h0];rfl)
   have HC3:=Lib.hid (HRu.out _ _ rfl rfl)
   have e0:=qAr h0
   generalize qLs x t n=E at *
   generalize qLt x t n=V at *
   clear hrow h0
   go_wp2_with fail
   refine wp_region_held_drew (S:=fun V=>V.cell? ⟨w.heap.size,0,none⟩=some (.slice x.sa x.sorts.length x.sc)∧V.cell? ⟨w.heap.size,1,none⟩=some (.slice x.fa x.funs.length x.fc)∧V.cell? ⟨w.heap.size,2,none⟩=some (.slice x.ma x.macs.length x.mc)∧V.cell? ⟨w.heap.size+1,0,none⟩=some (.slice (some ⟨g,o,none⟩) t.length tc)∧V.cell? ⟨g,o+k*8,none⟩=some (.int .i8 n.op)∧V.cell? ⟨g,o+k*8+1,none⟩=some (.int .i8 n.len)∧V.cell? ⟨g,o+k*8+2,none⟩=some (.int .i64 n.a0)∧V.cell? ⟨g,o+k*8+3,none⟩=some (.int .i64 n.a1)∧V.cell? ⟨g,o+k*8+4,none⟩=some (.int .i64 n.a2)∧V.cell? ⟨g,o+k*8+5,none⟩=some (.int .i64 n.sort)∧V.cell? ⟨g,o+k*8+6,none⟩=some (.int .i64 n.fn)∧V.cell? ⟨g,o+k*8+7,none⟩=some (.int .i64 n.num)) (by kernel_rfl) (HSN.out _ (Below.refl _ wr).drew) (fun hHeld=>?_)
   refine tkY 0 (.agg #[.slice x.sa x.sorts.length x.sc,.slice x.fa x.funs.length x.fc,.slice x.ma x.macs.length x.mc]) ?_;try simp only[k4]
   refine tkY 1 (.agg #[.slice (some ⟨g,o,none⟩) t.length tc]) ?_;try simp only[k4]
   refine tkY 2 (.pointer (some ⟨w.heap.size+1,0,none⟩)) ?_;try simp only[k4]
   refine tkY 3 (.slice (some ⟨g,o,none⟩) t.length tc) ?_;try simp only[k4]
   refine tkY 4 (.int .i64 k) ?_;try simp only[k4]
   refine tkY 5 (.pointer (some ⟨g,o+k*8,none⟩)) ?_;try simp only[k4]
   refine tkY 6 (.agg #[.int .i8 n.op,.int .i8 n.len,.int .i64 n.a0,.int .i64 n.a1,.int .i64 n.a2,.int .i64 n.sort,.int .i64 n.fn,.int .i64 n.num]) ?_;try simp only[k4]
   refine wpAnyH_ready (rs:=[7]) (by kernel_rfl) (by simp) ?_
   refine AllReadyH.cons (o:={ dst:=some 31,op:=Op.call { callee:=Callee.value (Operand.func 59),args:=#[Operand.tmp 24,Operand.tmp 25,Operand.tmp 30],argTypes:=#[26,33,54] },type:=93,pos := "ref.go:126", after:=#[{ on:=0,ground:=Ground.data },{ on:=1,ground:=Ground.data },{ on:=6,ground:=Ground.data }],guard:=none }) rfl (fun K hK=>?_) AllReadyH.nil
   go_simp
   go_at_call 59
   refine(HC3.out _ (Below.refl _ wr).drew).mono ?_
   rintro e w5 ⟨rfl,hb5⟩
   have HB5:=Lib.hid hb5
   clear hb5
   go_wp2_with fail
   refine hK.out _ _ ?_ (fun hHeld=>?_)
   ·exact HSN.out _ HB5.out
   clear hK K
   try simp only[Act.put,List.setIfInBounds_toArray,List.set_cons_zero,List.set_cons_succ]
   refine tkY 8 (.tuple #[.int .i64 (V),.int .i64 (E)]) ?_;try simp only[k4]
   refine tkY 9 (.int .i64 (V)) ?_;try simp only[k4]
   refine tkY 10 (.int .i64 (E)) ?_;try simp only[k4]
   refine tkY 11 (.int .i64 (V)) ?_;try simp only[k4]
   refine tkY 12 (.int .i64 (E)) ?_;try simp only[k4]
   refine wpAnyH_done (by kernel_rfl) ?_ _
   clear c0 c1 c2 t0 z0 m0 m1 m2 m3 m4 m5 m6 m7
   obtain⟨c0,c1,c2,t0,z0⟩:=HK.out _ (HB.out.trans (HB5.out.mono HB.out.size))
   obtain⟨m5,z1⟩:=HMk.out _ HB5.out
   go_wp2_with fail
   go_ret
   exact⟨rfl,by first|exact HBw.out.trans (HB5.out.mono HBw.out.size)|exact(HBw.out.trans (HB5.out.mono HBw.out.size)).drew⟩
  by_cases h1:qLt x t n=n.sort
  rotate_left
  ·obtain rfl:=HNo2.out (by rw[←hrow,decide_eq_false h1];simp)
   have HC3:=Lib.hid (HRu.out _ _ rfl h0)
   have e1:=qAr h1
   generalize qLt x t n=V at *
   clear hrow h0 h1
   go_wp2_with fail
   refine wp_region_held_drew (S:=fun V=>V.cell? ⟨w.heap.size,0,none⟩=some (.slice x.sa x.sorts.length x.sc)∧V.cell? ⟨w.heap.size,1,none⟩=some (.slice x.fa x.funs.length x.fc)∧V.cell? ⟨w.heap.size,2,none⟩=some (.slice x.ma x.macs.length x.mc)∧V.cell? ⟨w.heap.size+1,0,none⟩=some (.slice (some ⟨g,o,none⟩) t.length tc)∧V.cell? ⟨g,o+k*8,none⟩=some (.int .i8 n.op)∧V.cell? ⟨g,o+k*8+1,none⟩=some (.int .i8 n.len)∧V.cell? ⟨g,o+k*8+2,none⟩=some (.int .i64 n.a0)∧V.cell? ⟨g,o+k*8+3,none⟩=some (.int .i64 n.a1)∧V.cell? ⟨g,o+k*8+4,none⟩=some (.int .i64 n.a2)∧V.cell? ⟨g,o+k*8+5,none⟩=some (.int .i64 n.sort)∧V.cell? ⟨g,o+k*8+6,none⟩=some (.int .i64 n.fn)∧V.cell? ⟨g,o+k*8+7,none⟩=some (.int .i64 n.num)) (by kernel_rfl) (HSN.out _ (Below.refl _ wr).drew) (fun hHeld=>?_)
   refine tkY 0 (.agg #[.slice x.sa x.sorts.length x.sc,.slice x.fa x.funs.length x.fc,.slice x.ma x.macs.length x.mc]) ?_;try simp only[k4]
   refine tkY 1 (.agg #[.slice (some ⟨g,o,none⟩) t.length tc]) ?_;try simp only[k4]
   refine tkY 2 (.pointer (some ⟨w.heap.size+1,0,none⟩)) ?_;try simp only[k4]
   refine tkY 3 (.slice (some ⟨g,o,none⟩) t.length tc) ?_;try simp only[k4]
   refine tkY 4 (.int .i64 k) ?_;try simp only[k4]
   refine tkY 5 (.pointer (some ⟨g,o+k*8,none⟩)) ?_;try simp only[k4]
   refine tkY 6 (.agg #[.int .i8 n.op,.int .i8 n.len,.int .i64 n.a0,.int .i64 n.a1,.int .i64 n.a2,.int .i64 n.sort,.int .i64 n.fn,.int .i64 n.num]) ?_;try simp only[k4]
   refine wpAnyH_ready (rs:=[7]) (by kernel_rfl) (by simp) ?_
   refine AllReadyH.cons (o:={ dst:=some 31,op:=Op.call { callee:=Callee.value (Operand.func 59),args:=#[Operand.tmp 24,Operand.tmp 25,Operand.tmp 30],argTypes:=#[26,33,54] },type:=93,pos := "ref.go:126", after:=#[{ on:=0,ground:=Ground.data },{ on:=1,ground:=Ground.data },{ on:=6,ground:=Ground.data }],guard:=none }) rfl (fun K hK=>?_) AllReadyH.nil
   go_simp
   go_at_call 59
   refine(HC3.out _ (Below.refl _ wr).drew).mono ?_
   rintro e w5 ⟨rfl,hb5⟩
   have HB5:=Lib.hid hb5
   clear hb5
   go_wp2_with fail
   refine hK.out _ _ ?_ (fun hHeld=>?_)
   ·exact HSN.out _ HB5.out
   clear hK K
   try simp only[Act.put,List.setIfInBounds_toArray,List.set_cons_zero,List.set_cons_succ]
   refine tkY 8 (.tuple #[.int .i64 (V),.int .i64 (0)]) ?_;try simp only[k4]
   refine tkY 9 (.int .i64 (V)) ?_;try simp only[k4]
   refine tkY 10 (.int .i64 (0)) ?_;try simp only[k4]
   refine tkY 11 (.int .i64 (V)) ?_;try simp only[k4]
   refine tkY 12 (.int .i64 (0)) ?_;try simp only[k4]
   refine wpAnyH_done (by kernel_rfl) ?_ _
   clear c0 c1 c2 t0 z0 m0 m1 m2 m3 m4 m5 m6 m7
   obtain⟨c0,c1,c2,t0,z0⟩:=HK.out _ (HB.out.trans (HB5.out.mono HB.out.size))
   obtain⟨m5,z1⟩:=HMk.out _ HB5.out
   go_wp2_with fail
   go_ret
   exact⟨rfl,by first|exact HBw.out.trans (HB5.out.mono HBw.out.size)|exact(HBw.out.trans (HB5.out.mono HBw.out.size)).drew⟩
  have HP3:=Lib.hid (HP2.out (by rw[←hrow,decide_eq_true h0,decide_eq_true h1];rfl))
  have HC3:=Lib.hid (HRu.out _ _ h1 h0)
  clear hrow h0 h1
  go_wp2_with fail
  refine wp_region_held_drew (S:=fun V=>V.cell? ⟨w.heap.size,0,none⟩=some (.slice x.sa x.sorts.length x.sc)∧V.cell? ⟨w.heap.size,1,none⟩=some (.slice x.fa x.funs.length x.fc)∧V.cell? ⟨w.heap.size,2,none⟩=some (.slice x.ma x.macs.length x.mc)∧V.cell? ⟨w.heap.size+1,0,none⟩=some (.slice (some ⟨g,o,none⟩) t.length tc)∧V.cell? ⟨g,o+k*8,none⟩=some (.int .i8 n.op)∧V.cell? ⟨g,o+k*8+1,none⟩=some (.int .i8 n.len)∧V.cell? ⟨g,o+k*8+2,none⟩=some (.int .i64 n.a0)∧V.cell? ⟨g,o+k*8+3,none⟩=some (.int .i64 n.a1)∧V.cell? ⟨g,o+k*8+4,none⟩=some (.int .i64 n.a2)∧V.cell? ⟨g,o+k*8+5,none⟩=some (.int .i64 n.sort)∧V.cell? ⟨g,o+k*8+6,none⟩=some (.int .i64 n.fn)∧V.cell? ⟨g,o+k*8+7,none⟩=some (.int .i64 n.num)) (by kernel_rfl) (HSN.out _ (Below.refl _ wr).drew) (fun hHeld=>?_)
  refine tkY 0 (.agg #[.slice x.sa x.sorts.length x.sc,.slice x.fa x.funs.length x.fc,.slice x.ma x.macs.length x.mc]) ?_;try simp only[k4]
  refine tkY 1 (.agg #[.slice (some ⟨g,o,none⟩) t.length tc]) ?_;try simp only[k4]
  refine tkY 2 (.pointer (some ⟨w.heap.size+1,0,none⟩)) ?_;try simp only[k4]
  refine tkY 3 (.slice (some ⟨g,o,none⟩) t.length tc) ?_;try simp only[k4]
  refine tkY 4 (.int .i64 k) ?_;try simp only[k4]
  refine tkY 5 (.pointer (some ⟨g,o+k*8,none⟩)) ?_;try simp only[k4]
  refine tkY 6 (.agg #[.int .i8 n.op,.int .i8 n.len,.int .i64 n.a0,.int .i64 n.a1,.int .i64 n.a2,.int .i64 n.sort,.int .i64 n.fn,.int .i64 n.num]) ?_;try simp only[k4]
  refine wpAnyH_ready (rs:=[7]) (by kernel_rfl) (by simp) ?_
  refine AllReadyH.cons (o:={ dst:=some 31,op:=Op.call { callee:=Callee.value (Operand.func 59),args:=#[Operand.tmp 24,Operand.tmp 25,Operand.tmp 30],argTypes:=#[26,33,54] },type:=93,pos := "ref.go:126", after:=#[{ on:=0,ground:=Ground.data },{ on:=1,ground:=Ground.data },{ on:=6,ground:=Ground.data }],guard:=none }) rfl (fun K hK=>?_) AllReadyH.nil
  go_simp
  go_at_call 59
  refine(HC3.out _ (Below.refl _ wr).drew).mono ?_
  rintro e w5 ⟨rfl,hb5⟩
  have HB5:=Lib.hid hb5
  clear hb5
  go_wp2_with fail
  refine hK.out _ _ ?_ (fun hHeld=>?_)
  ·exact HSN.out _ HB5.out
  clear hK K
  try simp only[Act.put,List.setIfInBounds_toArray,List.set_cons_zero,List.set_cons_succ]
  refine tkY 8 (.tuple #[.int .i64 (n.sort),.int .i64 (0)]) ?_;try simp only[k4]
  refine tkY 9 (.int .i64 (n.sort)) ?_;try simp only[k4]
  refine tkY 10 (.int .i64 (0)) ?_;try simp only[k4]
  refine tkY 11 (.int .i64 (n.sort)) ?_;try simp only[k4]
  refine tkY 12 (.int .i64 (0)) ?_;try simp only[k4]
  refine wpAnyH_done (by kernel_rfl) ?_ _
  clear c0 c1 c2 t0 z0 m0 m1 m2 m3 m4 m5 m6 m7
  obtain⟨c0,c1,c2,t0,z0⟩:=HK.out _ (HB.out.trans (HB5.out.mono HB.out.size))
  obtain⟨m5,z1⟩:=HMk.out _ HB5.out
  go_wp2_with fail
  go_roundw
  case rel=>exact⟨k+1,by omega,by go_num,HP3,by first|exact HB.out.trans (HB5.out.mono HB.out.size)|exact(HB.out.trans (HB5.out.mono HB.out.size)).drew⟩
  case measure=>simp[intOf];omega
def qIs (q:Bool):Int:=if q=true then 1 else 0
def ndV (x:SigV) (y:WorV) (n:NodeA) (v:List Int):Int × Bool :=
 if n.op=0 then (1,true) else if n.op=1 then (wrap64 (1-v.getD 0 0),true) else if n.op=2 then (wrap64 (v.getD 0 0*v.getD 1 0),true)
 else if n.op=3 then (max (v.getD 0 0) (v.getD 1 0),true) else if n.op=4 then (qIs (!decide (v.getD 0 0=v.getD 1 0)),true) else if n.op=5 then (qIs (decide (v.getD 0 0≤v.getD 1 0)),true)
 else if n.op=6 then (qIs (decide (v.getD 0 0=v.getD 1 0)),true) else if n.op=7 then (if v.getD 0 0=1 then v.getD 1 0 else v.getD 2 0,true) else if n.op=8 then (qIs (decide (v.getD 0 0≤v.getD 1 0)),true)
 else if n.op=9 then (qIs (decide (v.getD 0 0<v.getD 1 0)),true) else if n.op=10 then (n.num,true)
 else if n.op=11 then (if 2305843009213693953<wrap64 (wrap64 ((v.getD 0 0).tdiv 2)+wrap64 (n.num.tdiv 2))∨wrap64 (wrap64 ((v.getD 0 0).tdiv 2)+wrap64 (n.num.tdiv 2)) < -2305843009213693953 then (0,false) else (wrap64 (v.getD 0 0+n.num),qAn (wrap64 (v.getD 0 0+n.num))))
 else if n.op=12 then (qIs (atM (v.getD 0 0) (v.getD 1 0) n.num),true) else (qD8 x y n.fn v,true)
set_option maxHeartbeats 4000000 in
theorem qQl (x:SigV) (y:WorV) (n:NodeA) (v:List Int) (va:Option Addr) (vc:Nat) (X:Int) (q:Bool) (w:World) (hX:SigR w x) (hY:WorR w y) (hn:NodeOk n) (hv:At w w.heap.size (v.flatMap qFb) va) (hvo:∀a∈v,I64 a) (hl3:v.length≤3) (hop:0≤n.op∧n.op<14) (hlen:n.op=13∨(v.length:Int)=Tm.arityA n.op) (hr:ndV x y n v=(X,q)) :
  Calls Tryz.prog 36 #[.agg #[.slice x.sa x.sorts.length x.sc,.slice x.fa x.funs.length x.fc,.slice x.ma x.macs.length x.mc],.agg #[.slice y.sa y.sizes.length y.sc,.slice y.fa y.funs.length y.fc],.agg #[.int .i8 n.op,.int .i8 n.len,.int .i64 n.a0,.int .i64 n.a1,.int .i64 n.a2,.int .i64 n.sort,.int .i64 n.fn,.int .i64 n.num],.slice va v.length vc] w fun e w'=>e=.returned (.tuple #[.int .i64 X,.bool q])∧Below w.heap.size w w':=by
 obtain⟨W0,hW0⟩:∃W0,W0=((w.alloc (.cells #[.slice x.sa x.sorts.length x.sc,.slice x.fa x.funs.length x.fc,.slice x.ma x.macs.length x.mc] 26)).alloc (.cells #[.slice y.sa y.sizes.length y.sc,.slice y.fa y.funs.length y.fc] 30)).alloc (.cells #[.int .i8 n.op,.int .i8 n.len,.int .i64 n.a0,.int .i64 n.a1,.int .i64 n.a2,.int .i64 n.sort,.int .i64 n.fn,.int .i64 n.num] 54):=⟨_,rfl⟩
 have hB0:Below w.heap.size w W0:=by rw[hW0];exact(((Below.refl _ w).alloc (Nat.le_refl _) _).alloc (by simp) _).alloc (by simp;omega) _
 have HB0:=Lib.hid hB0
 have HC:=Lib.hid hY
 have HV:=Lib.hid (hv.below hB0)
 have HVw:=Lib.hid hv
 have hn0:W0.heap[w.heap.size+1+1]? = some (.cells #[.int .i8 n.op,.int .i8 n.len,.int .i64 n.a0,.int .i64 n.a1,.int .i64 n.a2,.int .i64 n.sort,.int .i64 n.fn,.int .i64 n.num] 54 (0,0)):=by
  have:=heap_alloc_new ((w.alloc (.cells #[.slice x.sa x.sorts.length x.sc,.slice x.fa x.funs.length x.fc,.slice x.ma x.macs.length x.mc] 26)).alloc (.cells #[.slice y.sa y.sizes.length y.sc,.slice y.fa y.funs.length y.fc] 30)) (.cells #[.int .i8 n.op,.int .i8 n.len,.int .i64 n.a0,.int .i64 n.a1,.int .i64 n.a2,.int .i64 n.sort,.int .i64 n.fn,.int .i64 n.num] 54)
  rw[World.size_alloc,World.size_alloc] at this
  rw[hW0];exact this
 have n7:W0.cell? ⟨w.heap.size+1+1,7,none⟩=some (.int .i64 n.num):=(cell_of_row _ _ 7 _ _ _ hn0).trans rfl
 have HN7:Hid (∀V,Below W0.heap.size W0 V→V.cell? ⟨w.heap.size+1+1,7,none⟩=some (.int .i64 n.num)):=fun V hV=>(hV.cell (p:=⟨w.heap.size+1+1,7,none⟩) (Array.getElem?_eq_some_iff.1 hn0).1).trans n7
 have HVo:=Lib.hid hvo
 have HNn:=Lib.hid hn.num
 have HNf:=Lib.hid hn.fn
 have HAp:Hid (∀U,Below W0.heap.size W0 U→∀V E,qD8 x y n.fn v=V→qK5 x y n.fn v=E→Calls Tryz.prog 63 #[.agg #[.slice x.sa x.sorts.length x.sc,.slice x.fa x.funs.length x.fc,.slice x.ma x.macs.length x.mc],.agg #[.slice y.sa y.sizes.length y.sc,.slice y.fa y.funs.length y.fc],.int .i64 n.fn,.slice va v.length vc] U fun e w'=>e=.returned (.tuple #[.int .i64 V,.int .i64 E])∧Below W0.heap.size W0 w'):=fun U hU V E h1 h2=>by
  have hB:=hB0.trans (hU.mono hB0.size)
  have h:=(qOf x y n.fn v va vc U (hX.below hB) (hY.below hB) hn.fn ((hv.below hB).more hB.size) hvo (by simp only[maxLen];omega)).mono fun e w' ⟨h1,h2⟩=>(⟨h1,hU.trans (h2.mono hU.size)⟩:e=Ending.returned (.tuple #[.int .i64 (qD8 x y n.fn v),.int .i64 (qK5 x y n.fn v)])∧Below W0.heap.size W0 w')
  rw[h1,h2] at h
  exact h
 obtain⟨op,len,a0,a1,a2,sort,fn,num⟩:=n
 simp only at hop hlen HAp HNn HNf hW0 n7 HN7
 have hc:op=0∨op=1∨op=2∨op=3∨op=4∨op=5∨op=6∨op=7∨op=8∨op=9∨op=10∨op=11∨op=12∨op=13:=by omega
 have hgB:=HB0.out.size
 clear hX hY hv hvo hn hn0 hB0 hop HC
 rcases hc with rfl|rfl|rfl|rfl|rfl|rfl|rfl|rfl|rfl|rfl|rfl|rfl|rfl|rfl
 ·have hln:(v.length:Int)=0:=by rcases hlen with h|h<;>first|exact h|cases h
  have hr2:((1,true):Int × Bool)=(X,q):=hr
  obtain⟨rfl,rfl⟩:=Prod.mk.inj hr2
  clear hr hr2
  go_enter Tryz.func36,Tryz.ntmps36
  go_wp2
  rw[←hW0]
  go_ret2
  exact⟨rfl,HB0.out⟩
 ·have hln:(v.length:Int)=1:=by rcases hlen with h|h<;>first|exact h|cases h
  obtain⟨g,o,hva,hg,hcell⟩:=HV.out (by rw[len_flat qA2];omega)
  obtain⟨a,ha⟩:∃a,v[0]? = some a:=⟨_,List.getElem?_eq_getElem (by omega)⟩
  have ga:v.getD 0 0=a:=by rw[List.getD_eq_getElem?_getD,ha];rfl
  have na:=hcell _ _ ((get_flat qA2 v 0 0 a ha (by omega)).trans rfl)
  have ia:=HVo.out a (List.mem_of_getElem? ha)
  have da:(0:Int)<(v.length:Int):=by omega
  obtain⟨g2,o2,hva2,_,hcell2⟩:=HVw.out (by rw[len_flat qA2];omega)
  obtain⟨rfl,rfl⟩:g2=g∧o2=o:=by rw[hva] at hva2;cases hva2;exact⟨rfl,rfl⟩
  have ma:=hcell2 _ _ ((get_flat qA2 v 0 0 a ha (by omega)).trans rfl)
  clear hva2 hcell2
  have hg1:g2<w.heap.size+1:=by omega
  have hg2:g2<w.heap.size+1+1:=by omega
  have hg3:¬g2=w.heap.size:=by omega
  have hg4:¬g2=w.heap.size+1:=by omega
  have hg5:¬g2=w.heap.size+1+1:=by omega
  simp only[Nat.add_zero,Nat.mul_one] at na ma
  subst hva
  clear hcell ha hlen
  have hr2:((wrap64 (1-v.getD 0 0),true):Int × Bool)=(X,q):=hr
  rw[ga] at hr2
  obtain⟨rfl,rfl⟩:=Prod.mk.inj hr2
  clear hr hr2
  go_enter Tryz.func36,Tryz.ntmps36
  go_wp2
  rw[←hW0]
  go_ret2
  exact⟨rfl,HB0.out⟩
 ·have hln:(v.length:Int)=2:=by rcases hlen with h|h<;>first|exact h|cases h
  obtain⟨g,o,hva,hg,hcell⟩:=HV.out (by rw[len_flat qA2];omega)
  obtain⟨a,ha⟩:∃a,v[0]? = some a:=⟨_,List.getElem?_eq_getElem (by omega)⟩
  have ga:v.getD 0 0=a:=by rw[List.getD_eq_getElem?_getD,ha];rfl
  have na:=hcell _ _ ((get_flat qA2 v 0 0 a ha (by omega)).trans rfl)
  have ia:=HVo.out a (List.mem_of_getElem? ha)
  have da:(0:Int)<(v.length:Int):=by omega
  obtain⟨b,hb⟩:∃b,v[1]? = some b:=⟨_,List.getElem?_eq_getElem (by omega)⟩
  have gb:v.getD 1 0=b:=by rw[List.getD_eq_getElem?_getD,hb];rfl
  have nb:=hcell _ _ ((get_flat qA2 v 1 0 b hb (by omega)).trans rfl)
  have ib:=HVo.out b (List.mem_of_getElem? hb)
  have db:(1:Int)<(v.length:Int):=by omega
  obtain⟨g2,o2,hva2,_,hcell2⟩:=HVw.out (by rw[len_flat qA2];omega)
  obtain⟨rfl,rfl⟩:g2=g∧o2=o:=by rw[hva] at hva2;cases hva2;exact⟨rfl,rfl⟩
  have ma:=hcell2 _ _ ((get_flat qA2 v 0 0 a ha (by omega)).trans rfl)
  have mb:=hcell2 _ _ ((get_flat qA2 v 1 0 b hb (by omega)).trans rfl)
  clear hva2 hcell2
  have hg1:g2<w.heap.size+1:=by omega
  have hg2:g2<w.heap.size+1+1:=by omega
  have hg3:¬g2=w.heap.size:=by omega
  have hg4:¬g2=w.heap.size+1:=by omega
  have hg5:¬g2=w.heap.size+1+1:=by omega
  simp only[Nat.add_zero,Nat.mul_one] at na ma nb mb
  subst hva
  clear hcell ha hb hlen
  have hr2:((wrap64 (v.getD 0 0*v.getD 1 0),true):Int × Bool)=(X,q):=hr
  rw[ga,gb] at hr2
  obtain⟨rfl,rfl⟩:=Prod.mk.inj hr2
  clear hr hr2
  go_enter Tryz.func36,Tryz.ntmps36
  go_wp2_with fail
  rw[←hW0]
  clear hW0
  go_quiet (fail)
  go_wp2_with fail
  go_ret2
  exact⟨rfl,qAh HB0.out⟩
 ·have hln:(v.length:Int)=2:=by rcases hlen with h|h<;>first|exact h|cases h
  obtain⟨g,o,hva,hg,hcell⟩:=HV.out (by rw[len_flat qA2];omega)
  obtain⟨a,ha⟩:∃a,v[0]? = some a:=⟨_,List.getElem?_eq_getElem (by omega)⟩
  have ga:v.getD 0 0=a:=by rw[List.getD_eq_getElem?_getD,ha];rfl
  have na:=hcell _ _ ((get_flat qA2 v 0 0 a ha (by omega)).trans rfl)
  have ia:=HVo.out a (List.mem_of_getElem? ha)
  have da:(0:Int)<(v.length:Int):=by omega
  obtain⟨b,hb⟩:∃b,v[1]? = some b:=⟨_,List.getElem?_eq_getElem (by omega)⟩
  have gb:v.getD 1 0=b:=by rw[List.getD_eq_getElem?_getD,hb];rfl
  have nb:=hcell _ _ ((get_flat qA2 v 1 0 b hb (by omega)).trans rfl)
  have ib:=HVo.out b (List.mem_of_getElem? hb)
  have db:(1:Int)<(v.length:Int):=by omega
  obtain⟨g2,o2,hva2,_,hcell2⟩:=HVw.out (by rw[len_flat qA2];omega)
  obtain⟨rfl,rfl⟩:g2=g∧o2=o:=by rw[hva] at hva2;cases hva2;exact⟨rfl,rfl⟩
  have ma:=hcell2 _ _ ((get_flat qA2 v 0 0 a ha (by omega)).trans rfl)
  have mb:=hcell2 _ _ ((get_flat qA2 v 1 0 b hb (by omega)).trans rfl)
  clear hva2 hcell2
  have hg1:g2<w.heap.size+1:=by omega
  have hg2:g2<w.heap.size+1+1:=by omega
  have hg3:¬g2=w.heap.size:=by omega
  have hg4:¬g2=w.heap.size+1:=by omega
  have hg5:¬g2=w.heap.size+1+1:=by omega
  simp only[Nat.add_zero,Nat.mul_one] at na ma nb mb
  subst hva
  clear hcell ha hb hlen
  have hr2:((max (v.getD 0 0) (v.getD 1 0),true):Int × Bool)=(X,q):=hr
  rw[ga,gb] at hr2
  obtain⟨rfl,rfl⟩:=Prod.mk.inj hr2
  clear hr hr2
  go_enter Tryz.func36,Tryz.ntmps36
  go_wp2_with fail
  rw[←hW0]
  clear hW0
  go_quiet (fail)
  go_wp2_with fail
  all_goals
   first|rw[Int.max_eq_right (by omega:a≤b)]|rw[Int.max_eq_left (by omega:b≤a)]
   go_ret2
   exact⟨rfl,qAh HB0.out⟩
 ·have hln:(v.length:Int)=2:=by rcases hlen with h|h<;>first|exact h|cases h
  obtain⟨g,o,hva,hg,hcell⟩:=HV.out (by rw[len_flat qA2];omega)
  obtain⟨a,ha⟩:∃a,v[0]? = some a:=⟨_,List.getElem?_eq_getElem (by omega)⟩
  have ga:v.getD 0 0=a:=by rw[List.getD_eq_getElem?_getD,ha];rfl
  have na:=hcell _ _ ((get_flat qA2 v 0 0 a ha (by omega)).trans rfl)
  have ia:=HVo.out a (List.mem_of_getElem? ha)
  have da:(0:Int)<(v.length:Int):=by omega
  obtain⟨b,hb⟩:∃b,v[1]? = some b:=⟨_,List.getElem?_eq_getElem (by omega)⟩
  have gb:v.getD 1 0=b:=by rw[List.getD_eq_getElem?_getD,hb];rfl
  have nb:=hcell _ _ ((get_flat qA2 v 1 0 b hb (by omega)).trans rfl)
  have ib:=HVo.out b (List.mem_of_getElem? hb)
  have db:(1:Int)<(v.length:Int):=by omega
  obtain⟨g2,o2,hva2,_,hcell2⟩:=HVw.out (by rw[len_flat qA2];omega)
  obtain⟨rfl,rfl⟩:g2=g∧o2=o:=by rw[hva] at hva2;cases hva2;exact⟨rfl,rfl⟩
  have ma:=hcell2 _ _ ((get_flat qA2 v 0 0 a ha (by omega)).trans rfl)
  have mb:=hcell2 _ _ ((get_flat qA2 v 1 0 b hb (by omega)).trans rfl)
  clear hva2 hcell2
  have hg1:g2<w.heap.size+1:=by omega
  have hg2:g2<w.heap.size+1+1:=by omega
  have hg3:¬g2=w.heap.size:=by omega
  have hg4:¬g2=w.heap.size+1:=by omega
  have hg5:¬g2=w.heap.size+1+1:=by omega
  simp only[Nat.add_zero,Nat.mul_one] at na ma nb mb
  subst hva
  clear hcell ha hb hlen
  have hr2:((qIs (!decide (v.getD 0 0=v.getD 1 0)),true):Int × Bool)=(X,q):=hr
  rw[ga,gb] at hr2
  obtain⟨rfl,rfl⟩:=Prod.mk.inj hr2
  clear hr hr2
  by_cases hab:a=b
  ·have e1:=qB3 hab
   rw[decide_eq_true hab]
   clear hab
   go_enter Tryz.func36,Tryz.ntmps36
   go_wp2_with fail
   rw[←hW0]
   clear hW0
   go_region_with (go_at_call 60;refine(qCj _ _).mono ?_;rintro e w1 ⟨rfl,rfl⟩)
   all_goals
    go_wp2_with fail
    go_ret2
    exact⟨rfl,by first|exact HB0.out|exact HB0.out.drew⟩
  ·have e1:=qAr hab
   rw[decide_eq_false hab]
   clear hab
   go_enter Tryz.func36,Tryz.ntmps36
   go_wp2_with fail
   rw[←hW0]
   clear hW0
   go_region_with (go_at_call 60;refine(qCj _ _).mono ?_;rintro e w1 ⟨rfl,rfl⟩)
   all_goals
    go_wp2_with fail
    go_ret2
    exact⟨rfl,by first|exact HB0.out|exact HB0.out.drew⟩
 ·have hln:(v.length:Int)=2:=by rcases hlen with h|h<;>first|exact h|cases h
  obtain⟨g,o,hva,hg,hcell⟩:=HV.out (by rw[len_flat qA2];omega)
  obtain⟨a,ha⟩:∃a,v[0]? = some a:=⟨_,List.getElem?_eq_getElem (by omega)⟩
  have ga:v.getD 0 0=a:=by rw[List.getD_eq_getElem?_getD,ha];rfl
  have na:=hcell _ _ ((get_flat qA2 v 0 0 a ha (by omega)).trans rfl)
  have ia:=HVo.out a (List.mem_of_getElem? ha)
  have da:(0:Int)<(v.length:Int):=by omega
  obtain⟨b,hb⟩:∃b,v[1]? = some b:=⟨_,List.getElem?_eq_getElem (by omega)⟩
  have gb:v.getD 1 0=b:=by rw[List.getD_eq_getElem?_getD,hb];rfl
  have nb:=hcell _ _ ((get_flat qA2 v 1 0 b hb (by omega)).trans rfl)
  have ib:=HVo.out b (List.mem_of_getElem? hb)
  have db:(1:Int)<(v.length:Int):=by omega
  obtain⟨g2,o2,hva2,_,hcell2⟩:=HVw.out (by rw[len_flat qA2];omega)
  obtain⟨rfl,rfl⟩:g2=g∧o2=o:=by rw[hva] at hva2;cases hva2;exact⟨rfl,rfl⟩
  have ma:=hcell2 _ _ ((get_flat qA2 v 0 0 a ha (by omega)).trans rfl)
  have mb:=hcell2 _ _ ((get_flat qA2 v 1 0 b hb (by omega)).trans rfl)
  clear hva2 hcell2
  have hg1:g2<w.heap.size+1:=by omega
  have hg2:g2<w.heap.size+1+1:=by omega
  have hg3:¬g2=w.heap.size:=by omega
  have hg4:¬g2=w.heap.size+1:=by omega
  have hg5:¬g2=w.heap.size+1+1:=by omega
  simp only[Nat.add_zero,Nat.mul_one] at na ma nb mb
  subst hva
  clear hcell ha hb hlen
  have hr2:((qIs (decide (v.getD 0 0≤v.getD 1 0)),true):Int × Bool)=(X,q):=hr
  rw[ga,gb] at hr2
  obtain⟨rfl,rfl⟩:=Prod.mk.inj hr2
  clear hr hr2
  by_cases hab:a≤b
  ·have e1:=decide_eq_true hab
   rw[decide_eq_true hab]
   clear hab
   go_enter Tryz.func36,Tryz.ntmps36
   go_wp2_with fail
   rw[←hW0]
   clear hW0
   go_region_with (go_at_call 60;refine(qCj _ _).mono ?_;rintro e w1 ⟨rfl,rfl⟩)
   all_goals
    go_wp2_with fail
    go_ret2
    exact⟨rfl,by first|exact HB0.out|exact HB0.out.drew⟩
  ·have e1:=decide_eq_false hab
   rw[decide_eq_false hab]
   clear hab
   go_enter Tryz.func36,Tryz.ntmps36
   go_wp2_with fail
   rw[←hW0]
   clear hW0
   go_region_with (go_at_call 60;refine(qCj _ _).mono ?_;rintro e w1 ⟨rfl,rfl⟩)
   all_goals
    go_wp2_with fail
    go_ret2
    exact⟨rfl,by first|exact HB0.out|exact HB0.out.drew⟩
 ·have hln:(v.length:Int)=2:=by rcases hlen with h|h<;>first|exact h|cases h
  obtain⟨g,o,hva,hg,hcell⟩:=HV.out (by rw[len_flat qA2];omega)
  obtain⟨a,ha⟩:∃a,v[0]? = some a:=⟨_,List.getElem?_eq_getElem (by omega)⟩
  have ga:v.getD 0 0=a:=by rw[List.getD_eq_getElem?_getD,ha];rfl
  have na:=hcell _ _ ((get_flat qA2 v 0 0 a ha (by omega)).trans rfl)
  have ia:=HVo.out a (List.mem_of_getElem? ha)
  have da:(0:Int)<(v.length:Int):=by omega
  obtain⟨b,hb⟩:∃b,v[1]? = some b:=⟨_,List.getElem?_eq_getElem (by omega)⟩
  have gb:v.getD 1 0=b:=by rw[List.getD_eq_getElem?_getD,hb];rfl
  have nb:=hcell _ _ ((get_flat qA2 v 1 0 b hb (by omega)).trans rfl)
  have ib:=HVo.out b (List.mem_of_getElem? hb)
  have db:(1:Int)<(v.length:Int):=by omega
  obtain⟨g2,o2,hva2,_,hcell2⟩:=HVw.out (by rw[len_flat qA2];omega)
  obtain⟨rfl,rfl⟩:g2=g∧o2=o:=by rw[hva] at hva2;cases hva2;exact⟨rfl,rfl⟩
  have ma:=hcell2 _ _ ((get_flat qA2 v 0 0 a ha (by omega)).trans rfl)
  have mb:=hcell2 _ _ ((get_flat qA2 v 1 0 b hb (by omega)).trans rfl)
  clear hva2 hcell2
  have hg1:g2<w.heap.size+1:=by omega
  have hg2:g2<w.heap.size+1+1:=by omega
  have hg3:¬g2=w.heap.size:=by omega
  have hg4:¬g2=w.heap.size+1:=by omega
  have hg5:¬g2=w.heap.size+1+1:=by omega
  simp only[Nat.add_zero,Nat.mul_one] at na ma nb mb
  subst hva
  clear hcell ha hb hlen
  have hr2:((qIs (decide (v.getD 0 0=v.getD 1 0)),true):Int × Bool)=(X,q):=hr
  rw[ga,gb] at hr2
  obtain⟨rfl,rfl⟩:=Prod.mk.inj hr2
  clear hr hr2
  by_cases hab:a=b
  ·have e1:=qAo hab
   rw[decide_eq_true hab]
   clear hab
   go_enter Tryz.func36,Tryz.ntmps36
   go_wp2_with fail
   rw[←hW0]
   clear hW0
   go_region_with (go_at_call 60;refine(qCj _ _).mono ?_;rintro e w1 ⟨rfl,rfl⟩)
   all_goals
    go_wp2_with fail
    go_ret2
    exact⟨rfl,by first|exact HB0.out|exact HB0.out.drew⟩
  ·have e1:=qA9 hab
   rw[decide_eq_false hab]
   clear hab
   go_enter Tryz.func36,Tryz.ntmps36
   go_wp2_with fail
   rw[←hW0]
   clear hW0
   go_region_with (go_at_call 60;refine(qCj _ _).mono ?_;rintro e w1 ⟨rfl,rfl⟩)
   all_goals
    go_wp2_with fail
    go_ret2
    exact⟨rfl,by first|exact HB0.out|exact HB0.out.drew⟩
 ·have hln:(v.length:Int)=3:=by rcases hlen with h|h<;>first|exact h|cases h
  obtain⟨g,o,hva,hg,hcell⟩:=HV.out (by rw[len_flat qA2];omega)
  obtain⟨a,ha⟩:∃a,v[0]? = some a:=⟨_,List.getElem?_eq_getElem (by omega)⟩
  have ga:v.getD 0 0=a:=by rw[List.getD_eq_getElem?_getD,ha];rfl
  have na:=hcell _ _ ((get_flat qA2 v 0 0 a ha (by omega)).trans rfl)
  have ia:=HVo.out a (List.mem_of_getElem? ha)
  have da:(0:Int)<(v.length:Int):=by omega
  obtain⟨b,hb⟩:∃b,v[1]? = some b:=⟨_,List.getElem?_eq_getElem (by omega)⟩
  have gb:v.getD 1 0=b:=by rw[List.getD_eq_getElem?_getD,hb];rfl
  have nb:=hcell _ _ ((get_flat qA2 v 1 0 b hb (by omega)).trans rfl)
  have ib:=HVo.out b (List.mem_of_getElem? hb)
  have db:(1:Int)<(v.length:Int):=by omega
  obtain⟨c,hc⟩:∃c,v[2]? = some c:=⟨_,List.getElem?_eq_getElem (by omega)⟩
  have gc:v.getD 2 0=c:=by rw[List.getD_eq_getElem?_getD,hc];rfl
  have nc:=hcell _ _ ((get_flat qA2 v 2 0 c hc (by omega)).trans rfl)
  have ic:=HVo.out c (List.mem_of_getElem? hc)
  have dc:(2:Int)<(v.length:Int):=by omega
  obtain⟨g2,o2,hva2,_,hcell2⟩:=HVw.out (by rw[len_flat qA2];omega)
  obtain⟨rfl,rfl⟩:g2=g∧o2=o:=by rw[hva] at hva2;cases hva2;exact⟨rfl,rfl⟩
  have ma:=hcell2 _ _ ((get_flat qA2 v 0 0 a ha (by omega)).trans rfl)
  have mb:=hcell2 _ _ ((get_flat qA2 v 1 0 b hb (by omega)).trans rfl)
  have mc:=hcell2 _ _ ((get_flat qA2 v 2 0 c hc (by omega)).trans rfl)
  clear hva2 hcell2
  have hg1:g2<w.heap.size+1:=by omega
  have hg2:g2<w.heap.size+1+1:=by omega
  have hg3:¬g2=w.heap.size:=by omega
  have hg4:¬g2=w.heap.size+1:=by omega
  have hg5:¬g2=w.heap.size+1+1:=by omega
  simp only[Nat.add_zero,Nat.mul_one] at na ma nb mb nc mc
  subst hva
  clear hcell ha hb hc hlen
  have hr2:((if v.getD 0 0=1 then v.getD 1 0 else v.getD 2 0,true):Int × Bool)=(X,q):=hr
  rw[ga,gb,gc] at hr2
  obtain⟨rfl,rfl⟩:=Prod.mk.inj hr2
  clear hr hr2
  by_cases h1:a=1
  ·have e1:=qAo h1
   rw[if_pos h1]
   clear h1
   go_enter Tryz.func36,Tryz.ntmps36
   go_wp2
   rw[←hW0]
   go_ret2
   exact⟨rfl,HB0.out⟩
  ·have e1:=qA9 h1
   rw[if_neg h1]
   clear h1
   go_enter Tryz.func36,Tryz.ntmps36
   go_wp2
   rw[←hW0]
   go_ret2
   exact⟨rfl,HB0.out⟩
 ·have hln:(v.length:Int)=2:=by rcases hlen with h|h<;>first|exact h|cases h
  obtain⟨g,o,hva,hg,hcell⟩:=HV.out (by rw[len_flat qA2];omega)
  obtain⟨a,ha⟩:∃a,v[0]? = some a:=⟨_,List.getElem?_eq_getElem (by omega)⟩
  have ga:v.getD 0 0=a:=by rw[List.getD_eq_getElem?_getD,ha];rfl
  have na:=hcell _ _ ((get_flat qA2 v 0 0 a ha (by omega)).trans rfl)
  have ia:=HVo.out a (List.mem_of_getElem? ha)
  have da:(0:Int)<(v.length:Int):=by omega
  obtain⟨b,hb⟩:∃b,v[1]? = some b:=⟨_,List.getElem?_eq_getElem (by omega)⟩
  have gb:v.getD 1 0=b:=by rw[List.getD_eq_getElem?_getD,hb];rfl
  have nb:=hcell _ _ ((get_flat qA2 v 1 0 b hb (by omega)).trans rfl)
  have ib:=HVo.out b (List.mem_of_getElem? hb)
  have db:(1:Int)<(v.length:Int):=by omega
  obtain⟨g2,o2,hva2,_,hcell2⟩:=HVw.out (by rw[len_flat qA2];omega)
  obtain⟨rfl,rfl⟩:g2=g∧o2=o:=by rw[hva] at hva2;cases hva2;exact⟨rfl,rfl⟩
  have ma:=hcell2 _ _ ((get_flat qA2 v 0 0 a ha (by omega)).trans rfl)
  have mb:=hcell2 _ _ ((get_flat qA2 v 1 0 b hb (by omega)).trans rfl)
  clear hva2 hcell2
  have hg1:g2<w.heap.size+1:=by omega
  have hg2:g2<w.heap.size+1+1:=by omega
  have hg3:¬g2=w.heap.size:=by omega
  have hg4:¬g2=w.heap.size+1:=by omega
  have hg5:¬g2=w.heap.size+1+1:=by omega
  simp only[Nat.add_zero,Nat.mul_one] at na ma nb mb
  subst hva
  clear hcell ha hb hlen
  have hr2:((qIs (decide (v.getD 0 0≤v.getD 1 0)),true):Int × Bool)=(X,q):=hr
  rw[ga,gb] at hr2
  obtain⟨rfl,rfl⟩:=Prod.mk.inj hr2
  clear hr hr2
  by_cases hab:a≤b
  ·have e1:=decide_eq_true hab
   rw[decide_eq_true hab]
   clear hab
   go_enter Tryz.func36,Tryz.ntmps36
   go_wp2_with fail
   rw[←hW0]
   clear hW0
   go_region_with (go_at_call 60;refine(qCj _ _).mono ?_;rintro e w1 ⟨rfl,rfl⟩)
   all_goals
    go_wp2_with fail
    go_ret2
    exact⟨rfl,by first|exact HB0.out|exact HB0.out.drew⟩
  ·have e1:=decide_eq_false hab
   rw[decide_eq_false hab]
   clear hab
   go_enter Tryz.func36,Tryz.ntmps36
   go_wp2_with fail
   rw[←hW0]
   clear hW0
   go_region_with (go_at_call 60;refine(qCj _ _).mono ?_;rintro e w1 ⟨rfl,rfl⟩)
   all_goals
    go_wp2_with fail
    go_ret2
    exact⟨rfl,by first|exact HB0.out|exact HB0.out.drew⟩
 ·have hln:(v.length:Int)=2:=by rcases hlen with h|h<;>first|exact h|cases h
  obtain⟨g,o,hva,hg,hcell⟩:=HV.out (by rw[len_flat qA2];omega)
  obtain⟨a,ha⟩:∃a,v[0]? = some a:=⟨_,List.getElem?_eq_getElem (by omega)⟩
  have ga:v.getD 0 0=a:=by rw[List.getD_eq_getElem?_getD,ha];rfl
  have na:=hcell _ _ ((get_flat qA2 v 0 0 a ha (by omega)).trans rfl)
  have ia:=HVo.out a (List.mem_of_getElem? ha)
  have da:(0:Int)<(v.length:Int):=by omega
  obtain⟨b,hb⟩:∃b,v[1]? = some b:=⟨_,List.getElem?_eq_getElem (by omega)⟩
  have gb:v.getD 1 0=b:=by rw[List.getD_eq_getElem?_getD,hb];rfl
  have nb:=hcell _ _ ((get_flat qA2 v 1 0 b hb (by omega)).trans rfl)
  have ib:=HVo.out b (List.mem_of_getElem? hb)
  have db:(1:Int)<(v.length:Int):=by omega
  obtain⟨g2,o2,hva2,_,hcell2⟩:=HVw.out (by rw[len_flat qA2];omega)
  obtain⟨rfl,rfl⟩:g2=g∧o2=o:=by rw[hva] at hva2;cases hva2;exact⟨rfl,rfl⟩
  have ma:=hcell2 _ _ ((get_flat qA2 v 0 0 a ha (by omega)).trans rfl)
  have mb:=hcell2 _ _ ((get_flat qA2 v 1 0 b hb (by omega)).trans rfl)
  clear hva2 hcell2
  have hg1:g2<w.heap.size+1:=by omega
  have hg2:g2<w.heap.size+1+1:=by omega
  have hg3:¬g2=w.heap.size:=by omega
  have hg4:¬g2=w.heap.size+1:=by omega
  have hg5:¬g2=w.heap.size+1+1:=by omega
  simp only[Nat.add_zero,Nat.mul_one] at na ma nb mb
  subst hva
  clear hcell ha hb hlen
  have hr2:((qIs (decide (v.getD 0 0<v.getD 1 0)),true):Int × Bool)=(X,q):=hr
  rw[ga,gb] at hr2
  obtain⟨rfl,rfl⟩:=Prod.mk.inj hr2
  clear hr hr2
  by_cases hab:a<b
  ·have e1:=decide_eq_true hab
   rw[decide_eq_true hab]
   clear hab
   go_enter Tryz.func36,Tryz.ntmps36
   go_wp2_with fail
   rw[←hW0]
   clear hW0
   go_region_with (go_at_call 60;refine(qCj _ _).mono ?_;rintro e w1 ⟨rfl,rfl⟩)
   all_goals
    go_wp2_with fail
    go_ret2
    exact⟨rfl,by first|exact HB0.out|exact HB0.out.drew⟩
  ·have e1:=decide_eq_false hab
   rw[decide_eq_false hab]
   clear hab
   go_enter Tryz.func36,Tryz.ntmps36
   go_wp2_with fail
   rw[←hW0]
   clear hW0
   go_region_with (go_at_call 60;refine(qCj _ _).mono ?_;rintro e w1 ⟨rfl,rfl⟩)
   all_goals
    go_wp2_with fail
    go_ret2
    exact⟨rfl,by first|exact HB0.out|exact HB0.out.drew⟩
 ·have hln:(v.length:Int)=0:=by rcases hlen with h|h<;>first|exact h|cases h
  have hr2:((num,true):Int × Bool)=(X,q):=hr
  obtain⟨rfl,rfl⟩:=Prod.mk.inj hr2
  clear hr hr2
  go_enter Tryz.func36,Tryz.ntmps36
  go_wp2
  rw[←hW0]
  go_ret2
  exact⟨rfl,HB0.out⟩
 ·have hln:(v.length:Int)=1:=by rcases hlen with h|h<;>first|exact h|cases h
  obtain⟨g,o,hva,hg,hcell⟩:=HV.out (by rw[len_flat qA2];omega)
  obtain⟨a,ha⟩:∃a,v[0]? = some a:=⟨_,List.getElem?_eq_getElem (by omega)⟩
  have ga:v.getD 0 0=a:=by rw[List.getD_eq_getElem?_getD,ha];rfl
  have na:=hcell _ _ ((get_flat qA2 v 0 0 a ha (by omega)).trans rfl)
  have ia:=HVo.out a (List.mem_of_getElem? ha)
  have da:(0:Int)<(v.length:Int):=by omega
  obtain⟨g2,o2,hva2,_,hcell2⟩:=HVw.out (by rw[len_flat qA2];omega)
  obtain⟨rfl,rfl⟩:g2=g∧o2=o:=by rw[hva] at hva2;cases hva2;exact⟨rfl,rfl⟩
  have ma:=hcell2 _ _ ((get_flat qA2 v 0 0 a ha (by omega)).trans rfl)
  clear hva2 hcell2
  have hg1:g2<w.heap.size+1:=by omega
  have hg2:g2<w.heap.size+1+1:=by omega
  have hg3:¬g2=w.heap.size:=by omega
  have hg4:¬g2=w.heap.size+1:=by omega
  have hg5:¬g2=w.heap.size+1+1:=by omega
  simp only[Nat.add_zero,Nat.mul_one] at na ma
  subst hva
  clear hcell ha hlen
  have hr2:((if 2305843009213693953<wrap64 (wrap64 ((v.getD 0 0).tdiv 2)+wrap64 (num.tdiv 2))∨wrap64 (wrap64 ((v.getD 0 0).tdiv 2)+wrap64 (num.tdiv 2)) < -2305843009213693953 then (0,false) else (wrap64 (v.getD 0 0+num),qAn (wrap64 (v.getD 0 0+num)))):Int × Bool)=(X,q):=hr
  rw[ga] at hr2
  by_cases hb:(2305843009213693953<wrap64 (wrap64 (a.tdiv 2)+wrap64 (num.tdiv 2))∨wrap64 (wrap64 (a.tdiv 2)+wrap64 (num.tdiv 2)) < -2305843009213693953)
  ·rw[if_pos hb] at hr2
   obtain⟨rfl,rfl⟩:=Prod.mk.inj hr2
   clear hr hr2
   go_enter Tryz.func36,Tryz.ntmps36
   go_wp2_with fail
   rw[←hW0]
   clear hW0
   go_quiet (fail)
   go_wp2_with fail
   all_goals first|(exfalso;omega)|(go_ret2;exact⟨rfl,qAh HB0.out⟩)
  ·rw[if_neg hb] at hr2
   obtain⟨rfl,rfl⟩:=Prod.mk.inj hr2
   clear hr hr2
   go_enter Tryz.func36,Tryz.ntmps36
   go_wp2_with fail
   rw[←hW0]
   clear hW0
   go_quiet (fail)
   go_wp2_with fail
   all_goals first|(exfalso;omega)|skip
   have hDn:Hid ((W0.drewN nq).drew.cell? ⟨g2,o2,none⟩=some (.int .i64 a)∧(W0.drewN nq).drew.cell? ⟨w.heap.size+1+1,7,none⟩=some (.int .i64 num)):=⟨na,n7⟩
   clear na ma n7 hb
   refine wp_region_held_drew (S:=fun V=>V.cell? ⟨g2,o2,none⟩=some (.int .i64 a)∧V.cell? ⟨w.heap.size+1+1,7,none⟩=some (.int .i64 num)) (by kernel_rfl) (hDn.out) (fun hHeld=>?_)
   refine tkY 0 (.slice (some ⟨g2,o2,none⟩) v.length vc) ?_;try simp only[k4]
   refine tkY 1 (.pointer (some ⟨g2,o2,none⟩)) ?_;try simp only[k4]
   refine tkY 2 (.int .i64 a) ?_;try simp only[k4]
   refine tkY 3 (.pointer (some ⟨w.heap.size+1+1,7,none⟩)) ?_;try simp only[k4]
   refine tkY 4 (.int .i64 num) ?_;try simp only[k4]
   refine tkW 5 (.int .i64 (wrap64 (a+num))) ?_ ?_
   ·(intro w hSw;(try dsimp only at hSw);go_simp;rw[IntKind.wrap_i64];unfold wrap64;omega);try simp only[k4]
   refine tkY 6 (.slice (some ⟨g2,o2,none⟩) v.length vc) ?_;try simp only[k4]
   refine tkY 7 (.pointer (some ⟨g2,o2,none⟩)) ?_;try simp only[k4]
   refine tkY 8 (.int .i64 a) ?_;try simp only[k4]
   refine tkY 9 (.pointer (some ⟨w.heap.size+1+1,7,none⟩)) ?_;try simp only[k4]
   refine tkY 10 (.int .i64 num) ?_;try simp only[k4]
   refine tkW 11 (.int .i64 (wrap64 (a+num))) ?_ ?_
   ·(intro w hSw;(try dsimp only at hSw);go_simp;rw[IntKind.wrap_i64];unfold wrap64;omega);try simp only[k4]
   refine wpAnyH_ready (rs:=[12]) (by kernel_rfl) (by simp) ?_
   refine AllReadyH.cons (o:={ dst:=some 147,op:=Op.call { callee:=Callee.value (Operand.func 62),args:=#[Operand.tmp 146],argTypes:=#[3] },type:=4,pos := "ref.go:69", after:=#[{ on:=11,ground:=Ground.data }],guard:=none }) rfl (fun K hK=>?_) AllReadyH.nil
   go_simp
   go_at_call 62
   refine(qL3 _ _ (qF1 _)).mono ?_
   rintro e w1 ⟨rfl,rfl⟩
   go_wp2_with fail
   refine hK.out _ _ ?_ (fun hHeld=>?_)
   ·exact hDn.out
   clear hK K
   try simp only[Act.put,List.setIfInBounds_toArray,List.set_cons_zero,List.set_cons_succ]
   refine tkY 13 (.int .i64 (wrap64 (a+num))) ?_;try simp only[k4]
   refine tkY 14 (.bool (qAn (wrap64 (a+num)))) ?_;try simp only[k4]
   refine wpAnyH_done (by kernel_rfl) ?_ _
   go_wp2_with fail
   go_ret2
   exact⟨rfl,qAh HB0.out⟩
 ·have hln:(v.length:Int)=2:=by rcases hlen with h|h<;>first|exact h|cases h
  obtain⟨g,o,hva,hg,hcell⟩:=HV.out (by rw[len_flat qA2];omega)
  obtain⟨a,ha⟩:∃a,v[0]? = some a:=⟨_,List.getElem?_eq_getElem (by omega)⟩
  have ga:v.getD 0 0=a:=by rw[List.getD_eq_getElem?_getD,ha];rfl
  have na:=hcell _ _ ((get_flat qA2 v 0 0 a ha (by omega)).trans rfl)
  have ia:=HVo.out a (List.mem_of_getElem? ha)
  have da:(0:Int)<(v.length:Int):=by omega
  obtain⟨b,hb⟩:∃b,v[1]? = some b:=⟨_,List.getElem?_eq_getElem (by omega)⟩
  have gb:v.getD 1 0=b:=by rw[List.getD_eq_getElem?_getD,hb];rfl
  have nb:=hcell _ _ ((get_flat qA2 v 1 0 b hb (by omega)).trans rfl)
  have ib:=HVo.out b (List.mem_of_getElem? hb)
  have db:(1:Int)<(v.length:Int):=by omega
  obtain⟨g2,o2,hva2,_,hcell2⟩:=HVw.out (by rw[len_flat qA2];omega)
  obtain⟨rfl,rfl⟩:g2=g∧o2=o:=by rw[hva] at hva2;cases hva2;exact⟨rfl,rfl⟩
  have ma:=hcell2 _ _ ((get_flat qA2 v 0 0 a ha (by omega)).trans rfl)
  have mb:=hcell2 _ _ ((get_flat qA2 v 1 0 b hb (by omega)).trans rfl)
  clear hva2 hcell2
  have hg1:g2<w.heap.size+1:=by omega
  have hg2:g2<w.heap.size+1+1:=by omega
  have hg3:¬g2=w.heap.size:=by omega
  have hg4:¬g2=w.heap.size+1:=by omega
  have hg5:¬g2=w.heap.size+1+1:=by omega
  simp only[Nat.add_zero,Nat.mul_one] at na ma nb mb
  subst hva
  clear hcell ha hb hlen
  have hr2:((qIs (atM (v.getD 0 0) (v.getD 1 0) num),true):Int × Bool)=(X,q):=hr
  rw[ga,gb] at hr2
  obtain⟨rfl,rfl⟩:=Prod.mk.inj hr2
  clear hr hr2
  cases hat:atM a b num
  ·go_enter Tryz.func36,Tryz.ntmps36
   go_wp2_with fail
   rw[←hW0]
   clear hW0
   go_region_with (first|(go_at_call 61;refine(qI6 a b num _ _ ia ib HNn.out hat).mono ?_;rintro e w1 ⟨rfl,rfl⟩)|(go_at_call 60;refine(qCj _ _).mono ?_;rintro e w1 ⟨rfl,rfl⟩))
   all_goals
    go_wp2_with fail
    go_ret2
    exact⟨rfl,by first|exact HB0.out|exact HB0.out.drew⟩
  ·go_enter Tryz.func36,Tryz.ntmps36
   go_wp2_with fail
   rw[←hW0]
   clear hW0
   go_region_with (first|(go_at_call 61;refine(qI6 a b num _ _ ia ib HNn.out hat).mono ?_;rintro e w1 ⟨rfl,rfl⟩)|(go_at_call 60;refine(qCj _ _).mono ?_;rintro e w1 ⟨rfl,rfl⟩))
   all_goals
    go_wp2_with fail
    go_ret2
    exact⟨rfl,by first|exact HB0.out|exact HB0.out.drew⟩
 ·obtain⟨Ea,hEa⟩:∃E,qK5 x y fn v=E:=⟨_,rfl⟩
  obtain⟨Va,hVa⟩:∃V,qD8 x y fn v=V:=⟨_,rfl⟩
  have hr2:(qD8 x y fn v,true)=(X,q):=hr
  rw[hVa] at hr2
  obtain⟨rfl,rfl⟩:=Prod.mk.inj hr2
  have HAx:Hid (∀U,Below W0.heap.size W0 U→Calls Tryz.prog 63 #[.agg #[.slice x.sa x.sorts.length x.sc,.slice x.fa x.funs.length x.fc,.slice x.ma x.macs.length x.mc],.agg #[.slice y.sa y.sizes.length y.sc,.slice y.fa y.funs.length y.fc],.int .i64 fn,.slice va v.length vc] U fun e w'=>e=.returned (.tuple #[.int .i64 Va,.int .i64 Ea])∧Below W0.heap.size W0 w'):=fun U hU=>HAp.out U hU _ _ hVa hEa
  clear hr hr2 hVa hEa
  go_enter Tryz.func36,Tryz.ntmps36
  go_wp2_with (go_at_call 63;rw[←hW0];clear hW0;refine(HAx.out _ (Below.refl _ _)).mono ?_;rintro e w5 ⟨rfl,hb5⟩;have HB5:=Lib.hid hb5;clear hb5)
  go_ret2
  exact⟨rfl,HB0.out.trans (HB5.out.mono HB0.out.size)⟩
def atV (L:List (Int × Bool)) (i:Int):Int × Bool:=(L[i.toNat]?).getD (0,false)
def qBe (L:List (Int × Bool)) (n:NodeA) (k:Nat):List Int:=(List.range k).map (fun j=>(atV L (qBx n j)).1)
def qG4 (L:List (Int × Bool)) (n:NodeA):Nat→Bool
 | 0=>false
 | k+1=>qG4 L n k || (atV L (qBx n k)).2
def qCb (x:SigV) (y:WorV) (L:List (Int × Bool)) (n:NodeA):Int × Bool :=
 if qG4 L n n.len.toNat=true then (0,true) else if (ndV x y n (qBe L n n.len.toNat)).2=true then ((ndV x y n (qBe L n n.len.toNat)).1,false) else (0,true)
def evK (x:SigV) (y:WorV) (t:List NodeA):Nat→List (Int × Bool)
 | 0=>[]
 | k+1=>evK x y t k++[qCb x y (evK x y t k) (t.getD k Tm.trueN)]
theorem qEj (x:SigV) (y:WorV) (t:List NodeA):∀k,(evK x y t k).length=k
 | 0=>rfl
 | k+1=>by unfold evK;rw[List.length_append,qEj x y t k];rfl
theorem qK9 (x:SigV) (y:WorV) (t:List NodeA):∀ {k j:Nat},j<k→(evK x y t k)[j]? = some (qCb x y (evK x y t j) (t.getD j Tm.trueN))
 | 0,j,h=>absurd h (Nat.not_lt_zero _)
 | k+1,j,h=>by
  show (evK x y t k++[qCb x y (evK x y t k) (t.getD k Tm.trueN)])[j]? = _
  by_cases hj:j<k
  ·rw[List.getElem?_append_left (by rw[qEj];exact hj)];exact qK9 x y t hj
  ·obtain rfl:j=k:=by omega
   rw[List.getElem?_append_right (by rw[qEj];exact Nat.le_refl _),qEj,Nat.sub_self];rfl
theorem qC0 {n:NodeA} {k:Nat} (h:Tm.standsB n k=true):0≤n.len∧n.len≤3∧0≤n.op∧n.op<14∧(n.op=13∨n.len=Tm.arityA n.op):=by
 have hi:=stands_in (t:=List.replicate k n) h (by rw[List.length_replicate];exact Nat.le_refl _)
 unfold Tm.standsB at h
 rw[decide_eq_true_eq] at h
 obtain⟨⟨h0,h1,h2⟩,_⟩:=h
 refine⟨hi.lo,hi.hi,h0,h1,?_⟩
 split at h2
 ·exact .inl ‹_›
 ·split at h2
  ·exact .inr h2.1
  ·exact .inr h2.1
theorem qGv {n:NodeA} {k:Nat} (h:Tm.standsB n k=true) (j:Nat) (hj:(j:Int)<n.len):0≤qBx n j∧qBx n j<(k:Int):=by
 have hi:=(stands_in (t:=List.replicate k n) h (by rw[List.length_replicate];exact Nat.le_refl _)).arg j hj
 rw[List.length_replicate] at hi
 exact hi
theorem qQm {L:List (Int × Bool)} {i:Nat} (h:i<L.length):L[i]? = some (atV L i):=by
 unfold atV
 rw[Int.toNat_natCast,List.getElem?_eq_getElem h];rfl
theorem qNm {w:World} {B n:Nat} {E:TypeId} {a:Option Addr} {c:Nat} {f:(Int × Bool)→List Value} {L:List (Int × Bool)} (h:w.ownsRow B E 1 (.slice a n c) n (L.flatMap f)) (hf:∀p,(f p).length=1) {i:Nat} {p:Int × Bool} (hp:L[i]? = some p) {u:Value} (hu:f p=[u]) :
  ∃g o:Nat,a=some ⟨g,o,none⟩∧∀V,Below w.heap.size w V→g<V.heap.size∧V.cell? ⟨g,o+i,none⟩=some u:=by
 obtain⟨_,_,hat⟩:=qH7 h
 obtain⟨g,o,e,hg,hc⟩:=hat (by rw[len_flat hf];have:=(List.getElem?_eq_some_iff.1 hp).1;omega)
 refine⟨g,o,e,fun V hV=>⟨Nat.lt_of_lt_of_le hg hV.size,(hV.cell (p:=⟨g,o+i,none⟩) hg).trans ?_⟩⟩
 have h1:=get_flat hf L i 0 p hp (by omega)
 rw[hu,Nat.mul_one,Nat.add_zero] at h1
 exact hc i u (h1.trans rfl)
def qP2 (p:Int × Bool):List Value:=[.int .i64 p.1]
def qP3 (p:Int × Bool):List Value:=[.bool p.2]
theorem qTn (p:Int × Bool):(qP2 p).length=1:=rfl
theorem qTo (p:Int × Bool):(qP3 p).length=1:=rfl
theorem qMd {x:SigV} {y:WorV} {t:List NodeA} {k:Nat} {n:NodeA} {X:Int} {b:Bool} (hn:qCb x y (evK x y t k) n=qCb x y (evK x y t k) (t.getD k Tm.trueN)) (h:qCb x y (evK x y t k) n=(X,b)):(evK x y t (k+1)).flatMap qP2=(evK x y t k).flatMap qP2++[.int .i64 X]∧(evK x y t (k+1)).flatMap qP3=(evK x y t k).flatMap qP3++[.bool b]∧∀q,(q∈evK x y t k→I64 q.1)→I64 X→q∈evK x y t (k+1)→I64 q.1:=by
 have e:evK x y t (k+1)=evK x y t k++[(X,b)]:=by show _++[_]=_;rw[←hn,h]
 rw[e,List.flatMap_append,List.flatMap_append]
 refine⟨rfl,rfl,fun q h1 h2 hq=>?_⟩
 rcases List.mem_append.1 hq with h3|h3
 ·exact h1 h3
 ·rw[List.mem_singleton.1 h3];exact h2
def qOi (x:SigV) (y:WorV) (t:List NodeA):Int:=if qBu t=true∧qHb x y=true then (if qP1 x t=0 then 0 else 33) else 2
theorem qXj {a b:Int} (ha:I64 a) (hb:I64 b):I64 (max a b):=by rcases Int.le_total a b with h|h<;>simp[Int.max_eq_right,Int.max_eq_left,h,ha,hb]
theorem qEz (q:Bool):I64 (qIs q):=by cases q<;>exact⟨by decide,by decide⟩
theorem qHn {l:List Int} (h:∀a∈l,I64 a) (j:Nat):I64 (l.getD j 0):=by
 rw[List.getD_eq_getElem?_getD]
 cases e:l[j]? with
 | none=>exact⟨by decide,by decide⟩
 | some a=>exact h a (List.mem_of_getElem? e)
theorem qOj {w:World} {x:SigV} {y:WorV} (hY:WorR w y) (f:Int) (l:List Int):I64 (qD8 x y f l):=by
 unfold qD8
 split
 ·have hf:(∀r∈(fvA y f).rows,qHe r)∧I64 (fvA y f).els:=by
   unfold fvA
   cases e:y.funs[f.toNat]? with
   | none=>exact⟨fun r hr=>by simp[zD8] at hr,⟨by decide,by decide⟩⟩
   | some u=>exact⟨(hY.fok u (List.mem_of_getElem? e)).rok,(hY.fok u (List.mem_of_getElem? e)).els⟩
  unfold rowV
  cases e:(fvA y f).rows.find? (fun s=>qE4 s ⟨l.getD 0 0,l.getD 1 0,l.getD 2 0,0⟩) with
  | none=>exact hf.2
  | some r=>exact(hf.1 r (List.mem_of_find?_eq_some e)).v
 ·exact⟨by decide,by decide⟩
theorem qC5 {c:Prop} [Decidable c] {a b:Int × Bool} (h1:I64 a.1) (h2:I64 b.1):I64 (if c then a else b).1:=by
 by_cases h:c
 ·rw[if_pos h];exact h1
 ·rw[if_neg h];exact h2
theorem qXk {c:Prop} [Decidable c] {a b:Int} (h1:I64 a) (h2:I64 b):I64 (if c then a else b):=by
 by_cases h:c
 ·rw[if_pos h];exact h1
 ·rw[if_neg h];exact h2
theorem qXl {w:World} {x:SigV} {y:WorV} (hY:WorR w y) {n:NodeA} (hn:NodeOk n) {v:List Int} (hv:∀a∈v,I64 a):I64 (ndV x y n v).1 :=
 qC5 ⟨by decide,by decide⟩ (qC5 (qF1 _) (qC5 (qF1 _) (qC5 (qXj (qHn hv 0) (qHn hv 1)) (qC5 (qEz _) (qC5 (qEz _) (qC5 (qEz _) (qC5 (qXk (qHn hv 1) (qHn hv 2)) (qC5 (qEz _) (qC5 (qEz _) (qC5 hn.num (qC5 (qC5 ⟨by decide,by decide⟩ (qF1 _)) (qC5 (qEz _) (qOj hY _ _)))))))))))))
theorem qQn {w:World} {x:SigV} {y:WorV} (hY:WorR w y) {L:List (Int × Bool)} (hL:∀p∈L,I64 p.1) {n:NodeA} (hn:NodeOk n):I64 (qCb x y L n).1:=by
 have hz:I64 0:=⟨by decide,by decide⟩
 have ha:∀a∈qBe L n n.len.toNat,I64 a:=fun a h=>by
  unfold qBe at h
  obtain⟨j,_,rfl⟩:=List.mem_map.1 h
  unfold atV
  cases e:L[(qBx n j).toNat]? with
  | none=>exact hz
  | some p=>exact hL p (List.mem_of_getElem? e)
 unfold qCb
 repeat' split
 all_goals first|exact hz|exact qXl hY hn ha
def qG5 (w:World) (x:SigV) (y:WorV) (t:List NodeA) (e:Ending) (w':World):Prop :=
 Below w.heap.size w w'∧((¬qOi x y t=0∧e=.returned (.tuple #[.slice none 0 0,.slice none 0 0,.int .i64 (qOi x y t)])) ∨
  (qOi x y t=0∧∃la lc oa oc,e=.returned (.tuple #[.slice la t.length lc,.slice oa t.length oc,.int .i64 0])∧At w' w'.heap.size ((evK x y t t.length).flatMap qP2) la∧At w' w'.heap.size ((evK x y t t.length).flatMap qP3) oa))
theorem qJc {V V2:World} {o:Obj} {B B':Nat} {E E':TypeId} {s s' n n':Nat} {v v':Value} {L L':List Value} (h:V.ownsRow B E s v n L) (h':V.ownsRow B' E' s' v' n' L') (hne:E≠E') (hg:(V.alloc o).grownBy V2 v'.ownBlock):V2.ownsRow B E s v n L :=
 qFm h (fun k hk=>(hg.block k (by have:=(qBh h hk).2;simp;omega) (fun e=>qCy h h' hne hk e.symm)).trans (Below.heap_alloc V o k (qBh h hk).2))
theorem qB0 {W V V2:World} {o:Obj} {B:Nat} {e:TypeId} {size n:Nat} {v:Value} {xs:List Value} (hB:W.heap.size≤B) (h:Below W.heap.size W V) (hown:V.ownsRow B e size v n xs) (hg:(V.alloc o).grownBy V2 v.ownBlock):Below W.heap.size W V2:=by
 have h3:=hg.size
 have h4:=h.size
 have h2:(V.alloc o).heap.size=V.heap.size+1:=by simp
 exact⟨hg.os.trans h.os,hg.tape.trans h.tape,hg.output.trans h.output,by omega,fun k hk=>(hg.block k (by omega) (fun e'=>by have:=(qBh hown e'.symm).1;omega)).trans ((Below.heap_alloc V o k (by omega)).trans (h.block k hk))⟩
theorem qQo:(Tryz.prog.info? 4).map (fun i=>(i.zero,i.size,i.bytes))=some (some (.bool false),1,1):=by kernel_rfl
theorem qOk:(3:TypeId)≠4:=by decide
theorem qDm {L:List (Int × Bool)} {n:NodeA} (k:Nat):(qBe L n (k+1)).flatMap qFb=(qBe L n k).flatMap qFb++[.int .i64 (atV L (qBx n k)).1]:=by
 unfold qBe
 rw[List.range_succ,List.map_append,List.flatMap_append];rfl
set_option maxRecDepth 300000 in
set_option maxHeartbeats 4000000 in
theorem qMe (x:SigV) (y:WorV) (t:List NodeA) (ta:Option Addr) (tc:Nat) (w:World) (hX:SigR w x) (hY:WorR w y) (hT:TabR w t ta tc) (htl:t.length≤3000) :
  Calls Tryz.prog 22 #[.agg #[.slice x.sa x.sorts.length x.sc,.slice x.fa x.funs.length x.fc,.slice x.ma x.macs.length x.mc],.agg #[.slice y.sa y.sizes.length y.sc,.slice y.fa y.funs.length y.fc],.agg #[.slice ta t.length tc]] w fun e w'=>qG5 w x y t e w':=by
 obtain⟨W0,hW0⟩:∃W0,W0=((w.alloc (.cells #[.slice x.sa x.sorts.length x.sc,.slice x.fa x.funs.length x.fc,.slice x.ma x.macs.length x.mc] 26)).alloc (.cells #[.slice y.sa y.sizes.length y.sc,.slice y.fa y.funs.length y.fc] 30)).alloc (.cells #[.slice ta t.length tc] 33):=⟨_,rfl⟩
 have hB0:Below w.heap.size w W0:=by rw[hW0];exact(((Below.refl _ w).alloc (Nat.le_refl _) _).alloc (by simp) _).alloc (by simp;omega) _
 have HB0:=Lib.hid hB0
 have hX0:W0.heap[w.heap.size]? = some (.cells #[.slice x.sa x.sorts.length x.sc,.slice x.fa x.funs.length x.fc,.slice x.ma x.macs.length x.mc] 26 (0,0)):=by
  rw[hW0]
  exact((Below.heap_alloc _ _ _ (by simp;omega)).trans (Below.heap_alloc _ _ _ (by simp))).trans (heap_alloc_new w _)
 have hY0:W0.heap[w.heap.size+1]? = some (.cells #[.slice y.sa y.sizes.length y.sc,.slice y.fa y.funs.length y.fc] 30 (0,0)):=by
  have:=heap_alloc_new (w.alloc (.cells #[.slice x.sa x.sorts.length x.sc,.slice x.fa x.funs.length x.fc,.slice x.ma x.macs.length x.mc] 26)) (.cells #[.slice y.sa y.sizes.length y.sc,.slice y.fa y.funs.length y.fc] 30)
  rw[World.size_alloc] at this
  rw[hW0]
  exact(Below.heap_alloc _ _ _ (by simp)).trans this
 have hT0:W0.heap[w.heap.size+1+1]? = some (.cells #[.slice ta t.length tc] 33 (0,0)):=by
  have:=heap_alloc_new ((w.alloc (.cells #[.slice x.sa x.sorts.length x.sc,.slice x.fa x.funs.length x.fc,.slice x.ma x.macs.length x.mc] 26)).alloc (.cells #[.slice y.sa y.sizes.length y.sc,.slice y.fa y.funs.length y.fc] 30)) (.cells #[.slice ta t.length tc] 33)
  rw[World.size_alloc,World.size_alloc] at this
  rw[hW0]
  exact this
 have HK:Hid (∀V,Below W0.heap.size W0 V→V.cell? ⟨w.heap.size,0,none⟩=some (.slice x.sa x.sorts.length x.sc)∧V.cell? ⟨w.heap.size,1,none⟩=some (.slice x.fa x.funs.length x.fc)∧V.cell? ⟨w.heap.size,2,none⟩=some (.slice x.ma x.macs.length x.mc)∧V.cell? ⟨w.heap.size+1,0,none⟩=some (.slice y.sa y.sizes.length y.sc)∧V.cell? ⟨w.heap.size+1,1,none⟩=some (.slice y.fa y.funs.length y.fc)∧V.cell? ⟨w.heap.size+1+1,0,none⟩=some (.slice ta t.length tc)∧w.heap.size+1+1<V.heap.size):=fun V hV=>by
  obtain⟨c0,c1,c2,_⟩:=qAx ((hV.block _ (Array.getElem?_eq_some_iff.1 hX0).1).trans hX0)
  obtain⟨y0,y1,_⟩:=qBy ((hV.block _ (Array.getElem?_eq_some_iff.1 hY0).1).trans hY0)
  have h:=(hV.block _ (Array.getElem?_eq_some_iff.1 hT0).1).trans hT0
  exact⟨c0,c1,c2,y0,y1,(cell_of_row _ _ 0 _ _ _ h).trans rfl,(Array.getElem?_eq_some_iff.1 h).1⟩
 have HX:=Lib.hid hX
 have HY:=Lib.hid hY
 have HT:=Lib.hid hT
 have HCt:Hid (∀q,qBu t=q→∀V,Below W0.heap.size W0 V→Calls Tryz.prog 19 #[.agg #[.slice ta t.length tc]] V fun e w'=>e=.returned (.int .i64 (if q=true then 0 else 2))∧Below W0.heap.size W0 w'):=fun q hq V hV=>by
  subst hq
  exact(Tm.RCheck_any t ta tc _ V (hT.below (hB0.trans (hV.mono hB0.size))) htl rfl).mono fun e w' ⟨h1,h2⟩=>⟨h1,hV.trans (h2.mono hV.size)⟩
 have HCm:Hid (∀q,qHb x y=q→∀V,Below W0.heap.size W0 V→Calls Tryz.prog 34 #[.agg #[.slice x.sa x.sorts.length x.sc,.slice x.fa x.funs.length x.fc,.slice x.ma x.macs.length x.mc],.agg #[.slice y.sa y.sizes.length y.sc,.slice y.fa y.funs.length y.fc]] V fun e w'=>e=.returned (.bool q)∧Below W0.heap.size W0 w'):=fun q hq V hV =>
  (qNj x y q V (hX.below (hB0.trans (hV.mono hB0.size))) (hY.below (hB0.trans (hV.mono hB0.size))) hq).mono fun e w' ⟨h1,h2⟩=>⟨h1,hV.trans (h2.mono hV.size)⟩
 have HCb:Hid (∀q,qP1 x t=q→∀V,Below W0.heap.size W0 V→Calls Tryz.prog 35 #[.agg #[.slice x.sa x.sorts.length x.sc,.slice x.fa x.funs.length x.fc,.slice x.ma x.macs.length x.mc],.agg #[.slice ta t.length tc]] V fun e w'=>e=.returned (.int .i64 q)∧Below W0.heap.size W0 w'):=fun q hq V hV =>
  (qOh x t ta tc q V (hX.below (hB0.trans (hV.mono hB0.size))) (hT.below (hB0.trans (hV.mono hB0.size))) htl hq).mono fun e w' ⟨h1,h2⟩=>⟨h1,hV.trans (h2.mono hV.size)⟩
 clear hX0 hY0 hT0 hX hY hT hB0
 obtain⟨c0,c1,c2,y0,y1,t0,z0⟩:=HK.out _ (Below.refl _ W0)
 have HE2:Hid (¬(qBu t=true∧qHb x y=true)→∀w',Below w.heap.size w w'→qG5 w x y t (.returned (.tuple #[.slice none 0 0,.slice none 0 0,.int .i64 2])) w'):=fun h w' hb=>by
  have e:qOi x y t=2:=if_neg h
  exact⟨hb,.inl ⟨by rw[e];decide,by rw[e]⟩⟩
 cases hm:qBu t with
 | false =>
  have HCq:=Lib.hid (HCt.out _ hm)
  have HF:=Lib.hid (HE2.out (by rw[hm];simp))
  clear hm
  go_enter Tryz.func22,Tryz.ntmps22
  go_wp2_with (go_at_call 19;rw[←hW0];clear hW0;refine(HCq.out _ (Below.refl _ _)).mono ?_;rintro e w3 ⟨rfl,hb1⟩;have HB1:=Lib.hid hb1;clear hb1 c0 c1 c2 y0 y1 t0 z0;obtain⟨c0,c1,c2,y0,y1,t0,z0⟩:=HK.out _ HB1.out;simp only[Bool.false_eq_true,reduceIte])
  refine bodyPost_ret (v:=.tuple #[.slice none 0 0,.slice none 0 0,.int .i64 2]) (by simp[results,Tryz.results22,go_sem]) rfl (HF.out _ (HB0.out.trans (HB1.out.mono HB0.out.size)))
 | true =>
 have HCq:=Lib.hid (HCt.out _ hm)
 cases hq:qHb x y with
 | false =>
  have HCr:=Lib.hid (HCm.out _ hq)
  have HF:=Lib.hid (HE2.out (by rw[hq];simp))
  clear hm hq
  go_enter Tryz.func22,Tryz.ntmps22
  go_wp2_with (first|(go_at_call 19;rw[←hW0];clear hW0;refine(HCq.out _ (Below.refl _ _)).mono ?_;rintro e w3 ⟨rfl,hb1⟩;have HB1:=Lib.hid hb1;clear hb1 c0 c1 c2 y0 y1 t0 z0;obtain⟨c0,c1,c2,y0,y1,t0,z0⟩:=HK.out _ HB1.out;simp only[reduceIte])|(go_at_call 34;refine(HCr.out _ HB1.out).mono ?_;rintro e w4 ⟨rfl,hb2⟩;have HB2:=Lib.hid hb2;clear hb2 c0 c1 c2 y0 y1 t0 z0;obtain⟨c0,c1,c2,y0,y1,t0,z0⟩:=HK.out _ HB2.out))
  refine bodyPost_ret (v:=.tuple #[.slice none 0 0,.slice none 0 0,.int .i64 2]) (by simp[results,Tryz.results22,go_sem]) rfl (HF.out _ (HB0.out.trans (HB2.out.mono HB0.out.size)))
 | true =>
 have HCr:=Lib.hid (HCm.out _ hq)
 have hE:qOi x y t=(if qP1 x t=0 then 0 else 33):=if_pos ⟨hm,hq⟩
 by_cases hz:qP1 x t=0
 rotate_left
 ·have HF:Hid (∀w',Below w.heap.size w w'→qG5 w x y t (.returned (.tuple #[.slice none 0 0,.slice none 0 0,.int .i64 33])) w'):=fun w' hb=>by
   have e:qOi x y t=33:=hE.trans (if_neg hz)
   exact⟨hb,.inl ⟨by rw[e];decide,by rw[e]⟩⟩
  have HCs:=Lib.hid (HCb.out _ rfl)
  have ez:=qAr hz
  generalize qP1 x t=E at *
  clear hm hq hE hz
  go_enter Tryz.func22,Tryz.ntmps22
  go_wp2_with (first|(go_at_call 19;rw[←hW0];clear hW0;refine(HCq.out _ (Below.refl _ _)).mono ?_;rintro e w3 ⟨rfl,hb1⟩;have HB1:=Lib.hid hb1;clear hb1 c0 c1 c2 y0 y1 t0 z0;obtain⟨c0,c1,c2,y0,y1,t0,z0⟩:=HK.out _ HB1.out;simp only[reduceIte])|(go_at_call 34;refine(HCr.out _ HB1.out).mono ?_;rintro e w4 ⟨rfl,hb2⟩;have HB2:=Lib.hid hb2;clear hb2 c0 c1 c2 y0 y1 t0 z0;obtain⟨c0,c1,c2,y0,y1,t0,z0⟩:=HK.out _ HB2.out)|(go_at_call 35;refine(HCs.out _ HB2.out).mono ?_;rintro e w5 ⟨rfl,hb3⟩;have HB3:=Lib.hid hb3;clear hb3 c0 c1 c2 y0 y1 t0 z0;obtain⟨c0,c1,c2,y0,y1,t0,z0⟩:=HK.out _ HB3.out))
  refine bodyPost_ret (v:=.tuple #[.slice none 0 0,.slice none 0 0,.int .i64 33]) (by simp[results,Tryz.results22,go_sem]) rfl (HF.out _ (HB0.out.trans (HB3.out.mono HB0.out.size)))
 have HF:Hid (∀w' la lc oa oc,Below w.heap.size w w'→At w' w'.heap.size ((evK x y t t.length).flatMap qP2) la→At w' w'.heap.size ((evK x y t t.length).flatMap qP3) oa→qG5 w x y t (.returned (.tuple #[.slice la t.length lc,.slice oa t.length oc,.int .i64 0])) w'):=fun w' la lc oa oc hb h1 h2 =>
  ⟨hb,.inr ⟨hE.trans (if_pos hz),la,lc,oa,oc,rfl,h1,h2⟩⟩
 have HCs:=Lib.hid (HCb.out _ hz)
 have HOk:=Lib.hid (Tm.mayT_ok hm).2
 obtain⟨i0,hi_,hz0,hz1,hz2⟩:=info_parts info_int
 obtain⟨b0,hbi_,hbz0,hbz1,hbz2⟩:=info_parts qQo
 clear hm hq hE hz
 go_enter Tryz.func22,Tryz.ntmps22
 go_wp2_with (first|(go_at_call 19;rw[←hW0];clear hW0;refine(HCq.out _ (Below.refl _ _)).mono ?_;rintro e w3 ⟨rfl,hb1⟩;have HB1:=Lib.hid hb1;clear hb1 c0 c1 c2 y0 y1 t0 z0;obtain⟨c0,c1,c2,y0,y1,t0,z0⟩:=HK.out _ HB1.out;simp only[reduceIte])|(go_at_call 34;refine(HCr.out _ HB1.out).mono ?_;rintro e w4 ⟨rfl,hb2⟩;have HB2:=Lib.hid hb2;clear hb2 c0 c1 c2 y0 y1 t0 z0;obtain⟨c0,c1,c2,y0,y1,t0,z0⟩:=HK.out _ HB2.out)|(go_at_call 35;refine(HCs.out _ HB2.out).mono ?_;rintro e w5 ⟨rfl,hb3⟩;have HB3:=Lib.hid hb3;clear hb3 c0 c1 c2 y0 y1 t0 z0))
 clear HCq HCr HCs HCt HCm HCb HE2
 go_loopw [9,10,11] (fun l o i wr=>∃(k:Nat) (la:Option Addr) (lc:Nat) (oa:Option Addr) (oc:Nat),k≤t.length∧i=.int .i64 k∧l=.slice la k lc∧o=.slice oa k oc∧Hid (Below W0.heap.size W0 wr)∧Hid (∀p∈evK x y t k,I64 p.1)∧Hid (wr.ownsRow W0.heap.size 3 1 (.slice la k lc) k ((evK x y t k).flatMap qP2))∧Hid (wr.ownsRow W0.heap.size 4 1 (.slice oa k oc) k ((evK x y t k).flatMap qP3))) (fun _ _ i _=>t.length-(intOf i).toNat)
 case atStart=>exact⟨0,none,0,none,0,Nat.zero_le _,rfl,rfl,rfl,HB3,fun p hp=>by simp[evK] at hp,World.ownsRow_nil _ _ _ _,World.ownsRow_nil _ _ _ _⟩
 case round =>
  obtain⟨wo,hwo⟩:∃wo,wo=wr:=⟨_,rfl⟩
  subst hwo
  obtain⟨k,la,lc,oa,oc,hk,rfl,rfl,rfl,HB,HI,HL,HO⟩:=hrel
  obtain⟨c0,c1,c2,y0,y1,t0,z0⟩:=HK.out _ HB.out
  have HBw:Hid (Below w.heap.size w wo):=HB0.out.trans (HB.out.mono HB0.out.size)
  by_cases hlt:k<t.length
  rotate_left
  ·obtain rfl:k=t.length:=by omega
   obtain⟨_,_,hla⟩:=qH7 HL.out
   obtain⟨_,_,hoa⟩:=qH7 HO.out
   have HFx:=Lib.hid (HF.out wo la lc oa oc HBw.out hla hoa)
   clear hla hoa
   go_wp2
   refine bodyPost_ret (v:=.tuple #[.slice la t.length lc,.slice oa t.length oc,.int .i64 0]) (by simp[results,Tryz.results22,go_sem]) rfl HFx.out
  obtain⟨n,hn⟩:∃n,t[k]? = some n:=⟨_,List.getElem?_eq_getElem hlt⟩
  obtain⟨g,o,rfl,hg,m0,m1,m2,m3,m4,m5,m6,m7⟩:=(HT.out.below HBw.out).node hn
  have hki:(k:Int)<(t.length:Int):=by omega
  have hk0:(0:Int)≤(k:Int):=by omega
  have hno:=HT.out.ok n (List.mem_of_getElem? hn)
  have hst:=(Tm.ok_at HOk.out hn).1
  have HIn:Hid (∀j:Nat,(j:Int)<n.len→0≤qBx n j∧qBx n j<(k:Int)):=fun j hj=>qGv hst j hj
  obtain⟨nl,nh,no1,no2,nar⟩:=qC0 hst
  have HNx:=Lib.hid (And.intro no1 (And.intro no2 nar))
  have HSt:Hid (qCb x y (evK x y t k) n=qCb x y (evK x y t k) (t.getD k Tm.trueN)):=by rw[List.getD_eq_getElem?_getD,hn];rfl
  have HSo:=Lib.hid (qQn (x:=x) HY.out HI.out hno)
  have HNo:=Lib.hid hno
  clear hn hst hno no1 no2 nar
  obtain⟨W1,hW1⟩:∃W1,W1=wo.alloc (.cells #[.int .i8 n.op,.int .i8 n.len,.int .i64 n.a0,.int .i64 n.a1,.int .i64 n.a2,.int .i64 n.sort,.int .i64 n.fn,.int .i64 n.num] 54):=⟨_,rfl⟩
  have hb1:Below wo.heap.size wo W1:=by rw[hW1];exact(Below.refl _ wo).alloc (Nat.le_refl _) _
  have hn1:W1.heap[wo.heap.size]? = some (.cells #[.int .i8 n.op,.int .i8 n.len,.int .i64 n.a0,.int .i64 n.a1,.int .i64 n.a2,.int .i64 n.sort,.int .i64 n.fn,.int .i64 n.num] 54 (0,0)):=by rw[hW1];exact heap_alloc_new wo _
  have HK1:Hid (∀V,Below W1.heap.size W1 V→V.cell? ⟨wo.heap.size,0,none⟩=some (.int .i8 n.op)∧V.cell? ⟨wo.heap.size,1,none⟩=some (.int .i8 n.len)∧V.cell? ⟨wo.heap.size,2,none⟩=some (.int .i64 n.a0)∧V.cell? ⟨wo.heap.size,3,none⟩=some (.int .i64 n.a1)∧V.cell? ⟨wo.heap.size,4,none⟩=some (.int .i64 n.a2)∧V.cell? ⟨wo.heap.size,5,none⟩=some (.int .i64 n.sort)∧V.cell? ⟨wo.heap.size,6,none⟩=some (.int .i64 n.fn)∧V.cell? ⟨wo.heap.size,7,none⟩=some (.int .i64 n.num)∧wo.heap.size<V.heap.size):=fun V hV=>by
   have h:=(hV.block _ (Array.getElem?_eq_some_iff.1 hn1).1).trans hn1
   exact⟨(cell_of_row _ _ 0 _ _ _ h).trans rfl,(cell_of_row _ _ 1 _ _ _ h).trans rfl,(cell_of_row _ _ 2 _ _ _ h).trans rfl,(cell_of_row _ _ 3 _ _ _ h).trans rfl,(cell_of_row _ _ 4 _ _ _ h).trans rfl,(cell_of_row _ _ 5 _ _ _ h).trans rfl,(cell_of_row _ _ 6 _ _ _ h).trans rfl,(cell_of_row _ _ 7 _ _ _ h).trans rfl,(Array.getElem?_eq_some_iff.1 h).1⟩
  have HB1':=Lib.hid hb1
  have HBr:Hid (∀V,Below W1.heap.size W1 V→Below wo.heap.size wo V):=fun V hV=>hb1.trans (hV.mono hb1.size)
  have HLa:Hid (∀i:Nat,i<k→∃gl ol:Nat,la=some ⟨gl,ol,none⟩∧Hid (∀V,Below W1.heap.size W1 V→gl<V.heap.size∧V.cell? ⟨gl,ol+i,none⟩=some (.int .i64 (atV (evK x y t k) i).1))):=fun i hi=>by
   obtain⟨gl,ol,e,h⟩:=qNm (f:=qP2) HL.out qTn (i:=i) (p:=atV (evK x y t k) i) (qQm (by rw[qEj];exact hi)) rfl
   exact⟨gl,ol,e,fun V hV=>h V (HBr.out V hV)⟩
  have HOa:Hid (∀i:Nat,i<k→∃gl ol:Nat,oa=some ⟨gl,ol,none⟩∧Hid (∀V,Below W1.heap.size W1 V→gl<V.heap.size∧V.cell? ⟨gl,ol+i,none⟩=some (.bool (atV (evK x y t k) i).2))):=fun i hi=>by
   obtain⟨gl,ol,e,h⟩:=qNm (f:=qP3) HO.out qTo (i:=i) (p:=atV (evK x y t k) i) (qQm (by rw[qEj];exact hi)) rfl
   exact⟨gl,ol,e,fun V hV=>h V (HBr.out V hV)⟩
  clear hn1 hb1
  go_wp2_with fail
  rw[←hW1]
  clear hW1 c0 c1 c2 y0 y1 t0 m0 m1 m2 m3 m4 m5 m6 m7
  go_loopw [13,14,15] (fun v bd i V=>∃(j:Nat) (va:Option Addr) (vc:Nat),(j:Int)≤n.len∧i=.int .i64 j∧bd=.bool (qG4 (evK x y t k) n j)∧v=.slice va j vc∧Hid (Below W1.heap.size W1 V)∧Hid (V.ownsRow W1.heap.size 3 1 (.slice va j vc) j ((qBe (evK x y t k) n j).flatMap qFb))) (fun _ _ i _=>n.len.toNat-(intOf i).toNat)
  case atStart=>exact⟨0,none,0,nl,rfl,rfl,rfl,Below.refl _ _,World.ownsRow_nil _ _ _ _⟩
  case round =>
   obtain⟨j,va,vc,hj,rfl,rfl,rfl,HV,HR⟩:=hrel
   obtain⟨n0,n1,n2,n3,n4,n5,n6,n7,zn⟩:=HK1.out _ HV.out
   by_cases hjl:(j:Int)<n.len
   ·obtain⟨al,ah⟩:=HIn.out j hjl
    obtain⟨i,hi⟩:∃i:Nat,qBx n j=(i:Int):=⟨(qBx n j).toNat,by omega⟩
    have hik:i<k:=by omega
    obtain⟨gl,ol,rfl,HGl⟩:=HLa.out i hik
    obtain⟨go,oo,rfl,HGo⟩:=HOa.out i hik
    obtain⟨hgl,hvl⟩:=HGl.out _ HV.out
    obtain⟨hgo,hvo⟩:=HGo.out _ HV.out
    have hii:(i:Int)<(k:Int):=by omega
    have hi0:(0:Int)≤(i:Int):=by omega
    have HAi:Hid (qBx n j=(i:Int)):=hi
    have hrow:wr.ownsRow W1.heap.size 3 1 (.slice va j vc) j ((qBe (evK x y t k) n j).flatMap qFb):=HR.out
    have hc:j=0∨j=1∨j=2:=by omega
    rcases hc with rfl|rfl|rfl
    ·have ha0:n.a0=(i:Int):=hi
     have HA0:=Lib.hid ha0
     rw[ha0] at n2
     clear ha0 hi
     try simp only[Nat.cast_ofNat_Int] at hjl
     cases hbad:qG4 (evK x y t k) n 0 with
     | true =>
      have HBn:Hid (true=qG4 (evK x y t k) n (0+1)):=by show _=(qG4 _ _ _ || _);rw[hbad];rfl
      clear hbad
      go_wp2_with (at_builtin;refine wpList_append_lies _ rfl _ _ 27 rfl W1.heap.size 3 i0 _ 1 8 Tryz.underlying27 hi_ hz0 hz1 hz2 rfl (by decide) (Value.slice va 0 vc) 0 ((qBe (evK x y t k) n 0).flatMap qFb) (by rfl) (hrow.alloc _) ⟨wr.heap.size,0,none⟩ 1 1 [.int .i64 (atV (evK x y t k) i).1] (by rfl) rfl (World.news_of_block (B:=wr.heap.size) (cs:=#[.int .i64 (atV (evK x y t k) i).1]) (t:=3) (fr:=(0,0)) (heap_alloc_new wr _)) (by simp[Value.oneCell']) (by omega) (by simp only[maxLen];omega) (by omega) (by have:=HV.out.size;simp;omega) _ rfl ?_;intro g9 c9 w9 hown9 hgrow9 hat9 hlt9;have HB9:=Lib.hid (qB0 (Nat.le_refl _) HV.out hrow hgrow9);have HO9:=Lib.hid hown9;clear hown9 hgrow9 hat9 n0 n1 n2 n3 n4 n5 n6 n7 zn hvl hgl hvo hgo;obtain⟨n0,n1,n2,n3,n4,n5,n6,n7,zn⟩:=HK1.out _ HB9.out;obtain⟨hgo,hvo⟩:=HGo.out _ HB9.out;rw[HA0.out] at n2)
      go_roundw
      case rel=>exact⟨0+1,some ⟨g9,0,none⟩,c9,by omega,by go_num,by rw[←HBn.out],rfl,HB9,by rw[qDm,HAi.out];exact HO9.out⟩
      case measure=>first|(simp[intOf];done)|(simp[intOf];omega)
     | false =>
      have HBn:Hid ((atV (evK x y t k) i).2=qG4 (evK x y t k) n (0+1)):=by show _=(qG4 _ _ _ || (atV _ (qBx n 0)).2);rw[hbad,HAi.out];rfl
      clear hbad
      go_wp2_with (at_builtin;refine wpList_append_lies _ rfl _ _ 27 rfl W1.heap.size 3 i0 _ 1 8 Tryz.underlying27 hi_ hz0 hz1 hz2 rfl (by decide) (Value.slice va 0 vc) 0 ((qBe (evK x y t k) n 0).flatMap qFb) (by rfl) (hrow.alloc _) ⟨wr.heap.size,0,none⟩ 1 1 [.int .i64 (atV (evK x y t k) i).1] (by rfl) rfl (World.news_of_block (B:=wr.heap.size) (cs:=#[.int .i64 (atV (evK x y t k) i).1]) (t:=3) (fr:=(0,0)) (heap_alloc_new wr _)) (by simp[Value.oneCell']) (by omega) (by simp only[maxLen];omega) (by omega) (by have:=HV.out.size;simp;omega) _ rfl ?_;intro g9 c9 w9 hown9 hgrow9 hat9 hlt9;have HB9:=Lib.hid (qB0 (Nat.le_refl _) HV.out hrow hgrow9);have HO9:=Lib.hid hown9;clear hown9 hgrow9 hat9 n0 n1 n2 n3 n4 n5 n6 n7 zn hvl hgl hvo hgo;obtain⟨n0,n1,n2,n3,n4,n5,n6,n7,zn⟩:=HK1.out _ HB9.out;obtain⟨hgo,hvo⟩:=HGo.out _ HB9.out;rw[HA0.out] at n2)
      go_roundw
      case rel=>exact⟨0+1,some ⟨g9,0,none⟩,c9,by omega,by go_num,by rw[←HBn.out],rfl,HB9,by rw[qDm,HAi.out];exact HO9.out⟩
      case measure=>first|(simp[intOf];done)|(simp[intOf];omega)
    ·have ha0:n.a1=(i:Int):=hi
     have HA0:=Lib.hid ha0
     rw[ha0] at n3
     clear ha0 hi
     try simp only[Nat.cast_ofNat_Int] at hjl
     cases hbad:qG4 (evK x y t k) n 1 with
     | true =>
      have HBn:Hid (true=qG4 (evK x y t k) n (1+1)):=by show _=(qG4 _ _ _ || _);rw[hbad];rfl
      clear hbad
      go_wp2_with (at_builtin;refine wpList_append_lies _ rfl _ _ 27 rfl W1.heap.size 3 i0 _ 1 8 Tryz.underlying27 hi_ hz0 hz1 hz2 rfl (by decide) (Value.slice va 1 vc) 1 ((qBe (evK x y t k) n 1).flatMap qFb) (by rfl) (hrow.alloc _) ⟨wr.heap.size,0,none⟩ 1 1 [.int .i64 (atV (evK x y t k) i).1] (by rfl) rfl (World.news_of_block (B:=wr.heap.size) (cs:=#[.int .i64 (atV (evK x y t k) i).1]) (t:=3) (fr:=(0,0)) (heap_alloc_new wr _)) (by simp[Value.oneCell']) (by omega) (by simp only[maxLen];omega) (by omega) (by have:=HV.out.size;simp;omega) _ rfl ?_;intro g9 c9 w9 hown9 hgrow9 hat9 hlt9;have HB9:=Lib.hid (qB0 (Nat.le_refl _) HV.out hrow hgrow9);have HO9:=Lib.hid hown9;clear hown9 hgrow9 hat9 n0 n1 n2 n3 n4 n5 n6 n7 zn hvl hgl hvo hgo;obtain⟨n0,n1,n2,n3,n4,n5,n6,n7,zn⟩:=HK1.out _ HB9.out;obtain⟨hgo,hvo⟩:=HGo.out _ HB9.out;rw[HA0.out] at n3)
      go_roundw
      case rel=>exact⟨1+1,some ⟨g9,0,none⟩,c9,by omega,by go_num,by rw[←HBn.out],rfl,HB9,by rw[qDm,HAi.out];exact HO9.out⟩
      case measure=>first|(simp[intOf];done)|(simp[intOf];omega)
     | false =>
      have HBn:Hid ((atV (evK x y t k) i).2=qG4 (evK x y t k) n (1+1)):=by show _=(qG4 _ _ _ || (atV _ (qBx n 1)).2);rw[hbad,HAi.out];rfl
      clear hbad
      go_wp2_with (at_builtin;refine wpList_append_lies _ rfl _ _ 27 rfl W1.heap.size 3 i0 _ 1 8 Tryz.underlying27 hi_ hz0 hz1 hz2 rfl (by decide) (Value.slice va 1 vc) 1 ((qBe (evK x y t k) n 1).flatMap qFb) (by rfl) (hrow.alloc _) ⟨wr.heap.size,0,none⟩ 1 1 [.int .i64 (atV (evK x y t k) i).1] (by rfl) rfl (World.news_of_block (B:=wr.heap.size) (cs:=#[.int .i64 (atV (evK x y t k) i).1]) (t:=3) (fr:=(0,0)) (heap_alloc_new wr _)) (by simp[Value.oneCell']) (by omega) (by simp only[maxLen];omega) (by omega) (by have:=HV.out.size;simp;omega) _ rfl ?_;intro g9 c9 w9 hown9 hgrow9 hat9 hlt9;have HB9:=Lib.hid (qB0 (Nat.le_refl _) HV.out hrow hgrow9);have HO9:=Lib.hid hown9;clear hown9 hgrow9 hat9 n0 n1 n2 n3 n4 n5 n6 n7 zn hvl hgl hvo hgo;obtain⟨n0,n1,n2,n3,n4,n5,n6,n7,zn⟩:=HK1.out _ HB9.out;obtain⟨hgo,hvo⟩:=HGo.out _ HB9.out;rw[HA0.out] at n3)
      go_roundw
      case rel=>exact⟨1+1,some ⟨g9,0,none⟩,c9,by omega,by go_num,by rw[←HBn.out],rfl,HB9,by rw[qDm,HAi.out];exact HO9.out⟩
      case measure=>first|(simp[intOf];done)|(simp[intOf];omega)
    ·have ha0:n.a2=(i:Int):=hi
     have HA0:=Lib.hid ha0
     rw[ha0] at n4
     clear ha0 hi
     try simp only[Nat.cast_ofNat_Int] at hjl
     cases hbad:qG4 (evK x y t k) n 2 with
     | true =>
      have HBn:Hid (true=qG4 (evK x y t k) n (2+1)):=by show _=(qG4 _ _ _ || _);rw[hbad];rfl
      clear hbad
      go_wp2_with (at_builtin;refine wpList_append_lies _ rfl _ _ 27 rfl W1.heap.size 3 i0 _ 1 8 Tryz.underlying27 hi_ hz0 hz1 hz2 rfl (by decide) (Value.slice va 2 vc) 2 ((qBe (evK x y t k) n 2).flatMap qFb) (by rfl) (hrow.alloc _) ⟨wr.heap.size,0,none⟩ 1 1 [.int .i64 (atV (evK x y t k) i).1] (by rfl) rfl (World.news_of_block (B:=wr.heap.size) (cs:=#[.int .i64 (atV (evK x y t k) i).1]) (t:=3) (fr:=(0,0)) (heap_alloc_new wr _)) (by simp[Value.oneCell']) (by omega) (by simp only[maxLen];omega) (by omega) (by have:=HV.out.size;simp;omega) _ rfl ?_;intro g9 c9 w9 hown9 hgrow9 hat9 hlt9;have HB9:=Lib.hid (qB0 (Nat.le_refl _) HV.out hrow hgrow9);have HO9:=Lib.hid hown9;clear hown9 hgrow9 hat9 n0 n1 n2 n3 n4 n5 n6 n7 zn hvl hgl hvo hgo;obtain⟨n0,n1,n2,n3,n4,n5,n6,n7,zn⟩:=HK1.out _ HB9.out;obtain⟨hgo,hvo⟩:=HGo.out _ HB9.out;rw[HA0.out] at n4)
      go_roundw
      case rel=>exact⟨2+1,some ⟨g9,0,none⟩,c9,by omega,by go_num,by rw[←HBn.out],rfl,HB9,by rw[qDm,HAi.out];exact HO9.out⟩
      case measure=>first|(simp[intOf];done)|(simp[intOf];omega)
     | false =>
      have HBn:Hid ((atV (evK x y t k) i).2=qG4 (evK x y t k) n (2+1)):=by show _=(qG4 _ _ _ || (atV _ (qBx n 2)).2);rw[hbad,HAi.out];rfl
      clear hbad
      go_wp2_with (at_builtin;refine wpList_append_lies _ rfl _ _ 27 rfl W1.heap.size 3 i0 _ 1 8 Tryz.underlying27 hi_ hz0 hz1 hz2 rfl (by decide) (Value.slice va 2 vc) 2 ((qBe (evK x y t k) n 2).flatMap qFb) (by rfl) (hrow.alloc _) ⟨wr.heap.size,0,none⟩ 1 1 [.int .i64 (atV (evK x y t k) i).1] (by rfl) rfl (World.news_of_block (B:=wr.heap.size) (cs:=#[.int .i64 (atV (evK x y t k) i).1]) (t:=3) (fr:=(0,0)) (heap_alloc_new wr _)) (by simp[Value.oneCell']) (by omega) (by simp only[maxLen];omega) (by omega) (by have:=HV.out.size;simp;omega) _ rfl ?_;intro g9 c9 w9 hown9 hgrow9 hat9 hlt9;have HB9:=Lib.hid (qB0 (Nat.le_refl _) HV.out hrow hgrow9);have HO9:=Lib.hid hown9;clear hown9 hgrow9 hat9 n0 n1 n2 n3 n4 n5 n6 n7 zn hvl hgl hvo hgo;obtain⟨n0,n1,n2,n3,n4,n5,n6,n7,zn⟩:=HK1.out _ HB9.out;obtain⟨hgo,hvo⟩:=HGo.out _ HB9.out;rw[HA0.out] at n4)
      go_roundw
      case rel=>exact⟨2+1,some ⟨g9,0,none⟩,c9,by omega,by go_num,by rw[←HBn.out],rfl,HB9,by rw[qDm,HAi.out];exact HO9.out⟩
      case measure=>first|(simp[intOf];done)|(simp[intOf];omega)
   ·have hnj:n.len=(j:Int):=by omega
    have hnk:n.len.toNat=j:=by omega
    have hSl:(qBe (evK x y t k) n j).length=j:=by unfold qBe;rw[List.length_map,List.length_range]
    have HBv:=Lib.hid (HBr.out _ HV.out)
    have HBt:Hid (∀U,Below wr.heap.size wr U→Below wo.heap.size wo U):=fun U hU=>HBv.out.trans (hU.mono HBv.out.size)
    obtain⟨c0,c1,c2,y0,y1,t0,z0⟩:=HK.out _ (HB.out.trans (HBv.out.mono HB.out.size))
    cases hbad:qG4 (evK x y t k) n j with
    | true =>
     have HS9:Hid (qCb x y (evK x y t k) n=(0,true)):=by show qCb _ _ _ _=_;unfold qCb;rw[hnk,hbad];rfl
     clear hbad hnk hnj hSl
     have hl9:=Tm.own_heap HL.out (fun k _ hk=>(HBv.out).block k hk)
     have ho9:=Tm.own_heap HO.out (fun k _ hk=>(HBv.out).block k hk)
     have HBV:Hid (Below W0.heap.size W0 wr):=HB.out.trans ((HBv.out).mono HB.out.size)
     have hzV:W0.heap.size≤wr.heap.size:=HBV.out.size
     go_wp2_with (first|(at_builtin;refine wpList_append_lies _ rfl _ _ 27 rfl W0.heap.size 3 i0 _ 1 8 Tryz.underlying27 hi_ hz0 hz1 hz2 rfl (by decide) (Value.slice la k lc) k ((evK x y t k).flatMap qP2) (by rfl) (hl9.alloc _) ⟨wr.heap.size,0,none⟩ 1 1 [.int .i64 0] (by rfl) rfl (World.news_of_block (B:=wr.heap.size) (cs:=#[.int .i64 0]) (t:=3) (fr:=(0,0)) (heap_alloc_new wr _)) (by simp[Value.oneCell']) (by omega) (by simp only[maxLen];omega) (by omega) (by simp;omega) _ rfl ?_;intro g8 c8 w8 hown8 hgrow8 hat8 hlt8;have HB8:=Lib.hid (qB0 (Nat.le_refl _) HBV.out hl9 hgrow8);have ho8:=qJc ho9 hl9 qOk.symm hgrow8;clear hgrow8 hat8 hl9 ho9)|(at_builtin;refine wpList_append_lies _ rfl _ _ 74 rfl W0.heap.size 4 b0 _ 1 1 Tryz.underlying74 hbi_ hbz0 hbz1 hbz2 rfl (by decide) (Value.slice oa k oc) k ((evK x y t k).flatMap qP3) (by rfl) (ho8.alloc _) ⟨w8.heap.size,0,none⟩ 1 1 [.bool true] (by rfl) rfl (World.news_of_block (B:=w8.heap.size) (cs:=#[.bool true]) (t:=4) (fr:=(0,0)) (heap_alloc_new w8 _)) (by simp[Value.oneCell']) (by omega) (by simp only[maxLen];omega) (by omega) (by have:=HB8.out.size;simp;omega) _ rfl ?_;intro g9 c9 w9 hown9 hgrow9 hat9 hlt9;have HB9:=Lib.hid (qB0 (Nat.le_refl _) HB8.out ho8 hgrow9);have HL9:=Lib.hid (qJc hown8 ho8 qOk hgrow9);have HO9:=Lib.hid hown9;clear hgrow9 hat9 hown8 hown9 ho8))
     go_roundw
     case rel =>
      obtain⟨e1,e2,e3⟩:=qMd HSt.out HS9.out
      exact⟨k+1,some ⟨g8,0,none⟩,c8,some ⟨g9,0,none⟩,c9,by omega,by go_num,rfl,rfl,HB9,fun q hq=>e3 q (HI.out q) (by have h:=HSo.out;rw[HS9.out] at h;exact h) hq,by rw[e1];exact HL9.out,by rw[e2];exact HO9.out⟩
     case measure=>simp[intOf];omega
    | false =>
     obtain⟨X,q,hr⟩:∃X q,ndV x y n (qBe (evK x y t k) n j)=(X,q):=⟨_,_,rfl⟩
     obtain⟨_,_,hat⟩:=qH7 HR.out
     have hvo:∀a∈qBe (evK x y t k) n j,I64 a:=fun a ha=>by
      unfold qBe at ha
      obtain⟨b,_,rfl⟩:=List.mem_map.1 ha
      unfold atV
      cases e:(evK x y t k)[(qBx n b).toNat]? with
      | none=>exact⟨by decide,by decide⟩
      | some p=>exact HI.out p (List.mem_of_getElem? e)
     have h:=qQl x y n (qBe (evK x y t k) n j) va vc X q wr (HX.out.below (HBw.out.trans (HBv.out.mono HBw.out.size))) (HY.out.below (HBw.out.trans (HBv.out.mono HBw.out.size))) HNo.out hat hvo (by omega) ⟨HNx.out.1,HNx.out.2.1⟩ (by rw[hSl];have:=HNx.out.2.2;omega) hr
     rw[hSl] at h
     have HC:=Lib.hid h
     clear h hat hvo
     cases q with
     | true =>
      have HS9:Hid (qCb x y (evK x y t k) n=(X,false)):=by show qCb _ _ _ _=_;unfold qCb;rw[hnk,hbad,hr];rfl
      clear hbad hnk hnj hSl hr
      go_wp2_with (first|(go_at_call 36;refine HC.out.mono ?_;rintro e w7 ⟨rfl,hb7⟩;have HB7:=Lib.hid (HBt.out _ hb7);clear hb7 c0 c1 c2 y0 y1 t0 z0 n0 n1 n2 n3 n4 n5 n6 n7 zn;have hl9:=Tm.own_heap HL.out (fun k _ hk=>(HB7.out).block k hk);have ho9:=Tm.own_heap HO.out (fun k _ hk=>(HB7.out).block k hk);have HBV:Hid (Below W0.heap.size W0 w7):=HB.out.trans ((HB7.out).mono HB.out.size);have hzV:W0.heap.size≤w7.heap.size:=HBV.out.size)|(at_builtin;refine wpList_append_lies _ rfl _ _ 27 rfl W0.heap.size 3 i0 _ 1 8 Tryz.underlying27 hi_ hz0 hz1 hz2 rfl (by decide) (Value.slice la k lc) k ((evK x y t k).flatMap qP2) (by rfl) (hl9.alloc _) ⟨w7.heap.size,0,none⟩ 1 1 [.int .i64 X] (by rfl) rfl (World.news_of_block (B:=w7.heap.size) (cs:=#[.int .i64 X]) (t:=3) (fr:=(0,0)) (heap_alloc_new w7 _)) (by simp[Value.oneCell']) (by omega) (by simp only[maxLen];omega) (by omega) (by simp;omega) _ rfl ?_;intro g8 c8 w8 hown8 hgrow8 hat8 hlt8;have HB8:=Lib.hid (qB0 (Nat.le_refl _) HBV.out hl9 hgrow8);have ho8:=qJc ho9 hl9 qOk.symm hgrow8;clear hgrow8 hat8 hl9 ho9)|(at_builtin;refine wpList_append_lies _ rfl _ _ 74 rfl W0.heap.size 4 b0 _ 1 1 Tryz.underlying74 hbi_ hbz0 hbz1 hbz2 rfl (by decide) (Value.slice oa k oc) k ((evK x y t k).flatMap qP3) (by rfl) (ho8.alloc _) ⟨w8.heap.size,0,none⟩ 1 1 [.bool false] (by rfl) rfl (World.news_of_block (B:=w8.heap.size) (cs:=#[.bool false]) (t:=4) (fr:=(0,0)) (heap_alloc_new w8 _)) (by simp[Value.oneCell']) (by omega) (by simp only[maxLen];omega) (by omega) (by have:=HB8.out.size;simp;omega) _ rfl ?_;intro g9 c9 w9 hown9 hgrow9 hat9 hlt9;have HB9:=Lib.hid (qB0 (Nat.le_refl _) HB8.out ho8 hgrow9);have HL9:=Lib.hid (qJc hown8 ho8 qOk hgrow9);have HO9:=Lib.hid hown9;clear hgrow9 hat9 hown8 hown9 ho8))
      go_roundw
      case rel =>
       obtain⟨e1,e2,e3⟩:=qMd HSt.out HS9.out
       exact⟨k+1,some ⟨g8,0,none⟩,c8,some ⟨g9,0,none⟩,c9,by omega,by go_num,rfl,rfl,HB9,fun q hq=>e3 q (HI.out q) (by have h:=HSo.out;rw[HS9.out] at h;exact h) hq,by rw[e1];exact HL9.out,by rw[e2];exact HO9.out⟩
      case measure=>simp[intOf];omega
     | false =>
      have HS9:Hid (qCb x y (evK x y t k) n=(0,true)):=by show qCb _ _ _ _=_;unfold qCb;rw[hnk,hbad,hr];rfl
      clear hbad hnk hnj hSl hr
      go_wp2_with (first|(go_at_call 36;refine HC.out.mono ?_;rintro e w7 ⟨rfl,hb7⟩;have HB7:=Lib.hid (HBt.out _ hb7);clear hb7 c0 c1 c2 y0 y1 t0 z0 n0 n1 n2 n3 n4 n5 n6 n7 zn;have hl9:=Tm.own_heap HL.out (fun k _ hk=>(HB7.out).block k hk);have ho9:=Tm.own_heap HO.out (fun k _ hk=>(HB7.out).block k hk);have HBV:Hid (Below W0.heap.size W0 w7):=HB.out.trans ((HB7.out).mono HB.out.size);have hzV:W0.heap.size≤w7.heap.size:=HBV.out.size)|(at_builtin;refine wpList_append_lies _ rfl _ _ 27 rfl W0.heap.size 3 i0 _ 1 8 Tryz.underlying27 hi_ hz0 hz1 hz2 rfl (by decide) (Value.slice la k lc) k ((evK x y t k).flatMap qP2) (by rfl) (hl9.alloc _) ⟨w7.heap.size,0,none⟩ 1 1 [.int .i64 0] (by rfl) rfl (World.news_of_block (B:=w7.heap.size) (cs:=#[.int .i64 0]) (t:=3) (fr:=(0,0)) (heap_alloc_new w7 _)) (by simp[Value.oneCell']) (by omega) (by simp only[maxLen];omega) (by omega) (by simp;omega) _ rfl ?_;intro g8 c8 w8 hown8 hgrow8 hat8 hlt8;have HB8:=Lib.hid (qB0 (Nat.le_refl _) HBV.out hl9 hgrow8);have ho8:=qJc ho9 hl9 qOk.symm hgrow8;clear hgrow8 hat8 hl9 ho9)|(at_builtin;refine wpList_append_lies _ rfl _ _ 74 rfl W0.heap.size 4 b0 _ 1 1 Tryz.underlying74 hbi_ hbz0 hbz1 hbz2 rfl (by decide) (Value.slice oa k oc) k ((evK x y t k).flatMap qP3) (by rfl) (ho8.alloc _) ⟨w8.heap.size,0,none⟩ 1 1 [.bool true] (by rfl) rfl (World.news_of_block (B:=w8.heap.size) (cs:=#[.bool true]) (t:=4) (fr:=(0,0)) (heap_alloc_new w8 _)) (by simp[Value.oneCell']) (by omega) (by simp only[maxLen];omega) (by omega) (by have:=HB8.out.size;simp;omega) _ rfl ?_;intro g9 c9 w9 hown9 hgrow9 hat9 hlt9;have HB9:=Lib.hid (qB0 (Nat.le_refl _) HB8.out ho8 hgrow9);have HL9:=Lib.hid (qJc hown8 ho8 qOk hgrow9);have HO9:=Lib.hid hown9;clear hgrow9 hat9 hown8 hown9 ho8))
      go_roundw
      case rel =>
       obtain⟨e1,e2,e3⟩:=qMd HSt.out HS9.out
       exact⟨k+1,some ⟨g8,0,none⟩,c8,some ⟨g9,0,none⟩,c9,by omega,by go_num,rfl,rfl,HB9,fun q hq=>e3 q (HI.out q) (by have h:=HSo.out;rw[HS9.out] at h;exact h) hq,by rw[e1];exact HL9.out,by rw[e2];exact HO9.out⟩
      case measure=>simp[intOf];omega
end Go.Proofs.YtfgpimhdjlmapaaGreatDoor
