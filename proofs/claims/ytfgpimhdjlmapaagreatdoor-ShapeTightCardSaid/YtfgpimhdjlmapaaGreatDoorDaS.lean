/- The document's walk. -/
import Derived.Laws.CopyOwn
import Derived.Deep.LoopGhost
import Derived.Laws.MakeOwn
import Derived.Laws.EntriesVeiled
import Derived.Test.YtfgpimhdjlmapaaGreatDoorCmC
import Derived.Test.YtfgpimhdjlmapaaGreatDoorCpT
import Derived.Test.YtfgpimhdjlmapaaGreatDoorDaI
import Derived.Deep.RegionHeldLaw
import Derived.Laws.Bits128
import Derived.Test.YtfgpimhdjlmapaaGreatDoorCoH
import Derived.Test.YtfgpimhdjlmapaaGreatDoorDaD
import Derived.Deep.RegionHeld3
namespace Go.Proofs.YtfgpimhdjlmapaaGreatDoor.Tm
open Go.RowKit
set_option linter.unusedVariables false
set_option maxRecDepth 100000
def qS5 (l:List NodeA) (n:NodeA):Bool:=decide (n.op=13) || (decide (opE n.op (qAe l n)=0)&&decide (opV n.op (qAe l n)=n.sort))
def fitB (l:List NodeA):Bool:=l.all (qS5 l)
theorem zAl {l:List NodeA} {n:NodeA} {k:Nat} (hst:standsB n k=true) (h:qS5 l n=true):WsN l n:=by
 by_cases h13:n.op=13
 ·exact⟨fun e=>by omega,fun e=>by omega,fun e=>by omega,fun e=>by omega,fun e=>by omega,fun e=>by omega,fun e=>by omega,fun e=>by omega⟩
 unfold qS5 at h
 rw[decide_eq_false h13,Bool.false_or] at h
 refine qV3 (x:=⟨[],none,0,[],none,0,[],none,0⟩) hst ?_
 unfold qLu qLs qLt
 rw[if_neg h13,if_neg h13]
 exact h
theorem qQ3 {l:List NodeA} {n:NodeA} (hn:n∈l) (h:qS5 l n=false):fitB l=false:=by
 unfold fitB
 rw[Bool.eq_false_iff]
 intro h2
 have:=List.all_eq_true.1 h2 n hn
 rw[h] at this
 cases this
theorem qM9 {l:List NodeA} {n:NodeA} {k:Nat} (hk:(k:Int)<n.len):(qAe l n).take (k+1)=(qAe l n).take k++[(qAd l (qBc n k)).sort]:=by
 rw[List.take_add_one]
 congr 1
 unfold qAe
 rw[List.getElem?_map,List.getElem?_range (by omega)]
 show [qDs l (qBx n k)]=_
 rw[qCo,qPb];rfl
set_option maxHeartbeats 16000000 in
theorem qT0 (l:List NodeA) (hmay:qBu l=true) (hok:∀n∈l,NodeOk n) (hlen:l.length≤3000) (a:Option Addr) (c:Nat) (w:World) (hA:TabR w l a c) :
  Calls Tryz.prog 20 #[.agg #[.slice a l.length c]] w fun e w'=>e=.returned (.bool (fitB l))∧Below w.heap.size w w':=by
 obtain⟨W0,hW0⟩:∃W0,W0=w.alloc (.cells #[.slice a l.length c] 33):=⟨_,rfl⟩
 have hB0:Below w.heap.size w W0:=by rw[hW0];exact(Below.refl _ w).alloc (Nat.le_refl _) _
 have h0:W0.heap[w.heap.size]? = some (.cells #[.slice a l.length c] 33 (0,0)):=by rw[hW0];exact heap_alloc_new w _
 have HX:Hid (∀V,Below W0.heap.size W0 V→V.cell? ⟨w.heap.size,0,none⟩=some (.slice a l.length c)∧w.heap.size<V.heap.size):=fun V hV=>by
  have h:=(hV.block _ (Array.getElem?_eq_some_iff.1 h0).1).trans h0
  exact⟨(qA6 h).1,(qA6 h).2.2⟩
 have HA:Hid (∀V,Below W0.heap.size W0 V→TabR V l a c):=fun V hV=>hA.below (hB0.trans (hV.mono hB0.size))
 have HB0:=Lib.hid hB0
 have HMay:=Lib.hid hmay
 have HOk:=Lib.hid hok
 have hlm:l.length≤9223372036854775807:=by omega
 obtain⟨i0,hi_,hz0,hz1,hz2⟩:=info_parts info_int
 clear hA hB0 h0 hmay hok
 go_enter Tryz.func20,Tryz.ntmps20
 go_wp2_with fail
 rw[←hW0]
 clear hW0
 go_loopw [3] (fun i wr=>∃k:Nat,k≤l.length∧i=.int .i64 k∧Hid (Below W0.heap.size W0 wr)∧Hid (∀(j:Nat) (n:NodeA),j<k→l[j]? = some n→qS5 l n=true)) (fun i _=>l.length-(intOf i).toNat)
 case atStart=>exact⟨0,Nat.zero_le _,rfl,Below.refl _ _,fun j n hj=>by omega⟩
 case round =>
  rename World=>U
  obtain⟨k,hkl,rfl,HV,HN⟩:=hrel
  obtain⟨x0,xz⟩:=HX.out U HV.out
  by_cases hlt:k<l.length
  ·obtain⟨n,hn⟩:∃n,l[k]? = some n:=⟨_,List.getElem?_eq_getElem hlt⟩
   have hst:=(ok_at (mayT_ok HMay.out).2 hn).1
   have hnk:=HOk.out n (List.mem_of_getElem? hn)
   have hIn:=stands_in (mayT_ok HMay.out).2 hn
   obtain⟨op,len,a0,a1,a2,so,fn,nu⟩:=n
   have hlo:0≤len:=hIn.lo
   have hhi:len≤3:=hIn.hi
   obtain⟨m,rfl⟩:∃m:Nat,len=m:=⟨len.toNat,by omega⟩
   obtain⟨g,o,rfl,hg,q0,q1,q2,q3,q4,q5,q6,q7⟩:=(HA.out U HV.out).node hn
   have hki:(k:Int)<(l.length:Int):=by omega
   have hk0:(0:Int)≤(k:Int):=by omega
   obtain⟨W1,hW1⟩:∃W1,W1=U.alloc (.cells #[.int .i8 op,.int .i8 m,.int .i64 a0,.int .i64 a1,.int .i64 a2,.int .i64 so,.int .i64 fn,.int .i64 nu] 54):=⟨_,rfl⟩
   have hB1:Below W0.heap.size W0 W1:=by rw[hW1];exact HV.out.alloc HV.out.size _
   have hn1:W1.heap[U.heap.size]? = some (.cells #[.int .i8 op,.int .i8 m,.int .i64 a0,.int .i64 a1,.int .i64 a2,.int .i64 so,.int .i64 fn,.int .i64 nu] 54 (0,0)):=by rw[hW1];exact heap_alloc_new U _
   have hs1:W1.heap.size=U.heap.size+1:=by rw[hW1];simp
   obtain⟨nd,hnd⟩:∃nd:NodeA,nd=⟨op,m,a0,a1,a2,so,fn,nu⟩:=⟨_,rfl⟩
   have HB1:=Lib.hid hB1
   have HS1:=Lib.hid hs1
   by_cases h13:op=13
   ·have e13:=qC9 h13
    have HN2:Hid (∀(j:Nat) (n:NodeA),j<k+1→l[j]? = some n→qS5 l n=true):=fun j n hj hjn=>by
     by_cases hij:j<k
     ·exact HN.out j n hij hjn
     ·obtain rfl:j=k:=by omega
      rw[hn] at hjn
      obtain rfl:=Option.some.inj hjn
      unfold qS5
      rw[decide_eq_true (show _=_ from h13),Bool.true_or]
    clear hn hst hnk hIn hlo hhi hB1 hn1 hs1 hnd h13
    go_wp2_with fail
    rw[←hW1]
    go_roundw
    case rel=>exact⟨k+1,by omega,by go_num,HB1,HN2⟩
    case measure=>simp[intOf];omega
   have e13:=qB7 h13
   have HNb:Hid (∀V,Below W1.heap.size W1 V→V.heap[U.heap.size]? = some (.cells #[.int .i8 op,.int .i8 m,.int .i64 a0,.int .i64 a1,.int .i64 a2,.int .i64 so,.int .i64 fn,.int .i64 nu] 54 (0,0))):=fun V hV=>(hV.block _ (Array.getElem?_eq_some_iff.1 hn1).1).trans hn1
   have HSt:=Lib.hid hst
   have HIn:=Lib.hid hIn
   have HGn:=Lib.hid hn
   have HNd:=Lib.hid hnd
   have hm3:m≤3:=by omega
   rw[←hnd] at HSt HIn HGn
   have H13:Hid (¬nd.op=13):=by show ¬_;rw[hnd];exact h13
   clear hn hst hnk hIn hlo hhi hB1 hn1 hs1 hnd h13
   go_wp2_with fail
   rw[←hW1]
   go_loopw [5,6] (fun v i V=>∃(j:Nat) (sa:Option Addr) (sc:Nat),j≤m∧i=.int .i64 j∧v=.slice sa j sc∧Hid (Below W1.heap.size W1 V)∧Hid (V.ownsRow W1.heap.size 3 1 (.slice sa j sc) j (((qAe l nd).take j).map (Value.int .i64)))) (fun _ i _=>m-(intOf i).toNat)
   case atStart=>exact⟨0,none,0,Nat.zero_le _,rfl,rfl,Below.refl _ _,World.ownsRow_nil _ _ _ _⟩
   case round =>
    clear x0 xz q0 q1 q2 q3 q4 q5 q6 q7 hg
    obtain⟨j,sa,sc,hjm,rfl,rfl,HV2,HR2⟩:=hrel
    have HVj:Hid (Below W0.heap.size W0 wr):=HB1.out.trans (HV2.out.mono HB1.out.size)
    obtain⟨x0,xz⟩:=HX.out _ HVj.out
    have hbx:=HNb.out _ HV2.out
    rw[show (Obj.cells #[.int .i8 op,.int .i8 m,.int .i64 a0,.int .i64 a1,.int .i64 a2,.int .i64 so,.int .i64 fn,.int .i64 nu] 54 (0,0))=Obj.cells #[.int .i8 nd.op,.int .i8 nd.len,.int .i64 nd.a0,.int .i64 nd.a1,.int .i64 nd.a2,.int .i64 nd.sort,.int .i64 nd.fn,.int .i64 nd.num] 54 (0,0) by rw[HNd.out]] at hbx
    obtain⟨n0,n1,n2,n3,n4,n5,n6,n7,nz⟩:=qAi hbx
    have hom:nd.op=op:=by rw[HNd.out]
    have hlm2:nd.len=(m:Int):=by rw[HNd.out]
    have hso:nd.sort=so:=by rw[HNd.out]
    by_cases hjl:j<m
    ·obtain⟨al,ah⟩:=HIn.out.arg j (by rw[hlm2];omega)
     obtain⟨t,ht⟩:∃t:Nat,qBc nd j=(t:Int):=⟨(qBc nd j).toNat,by omega⟩
     have htl:t<l.length:=by omega
     obtain⟨y,hy⟩:∃y,qAd l (t:Int)=y:=⟨_,rfl⟩
     have hgy:=nodA_get htl
     rw[hy] at hgy
     have qa:wr.cell? ⟨U.heap.size,2+j,none⟩=some (.int .i64 t):=(qEr hbx j (by omega)).trans (by rw[ht])
     obtain⟨g',o',ee,hgl,-,-,-,-,-,y5,-,-⟩:=(HA.out _ HVj.out).node hgy
     cases ee
     have hji:(j:Int)<(m:Int):=by omega
     have hj3:(j:Int)<3:=by omega
     have hj0:(0:Int)≤(j:Int):=by omega
     have hti:(t:Int)<(l.length:Int):=by omega
     have ht0:(0:Int)≤(t:Int):=by omega
     have hrow:wr.ownsRow W1.heap.size 3 1 (.slice sa j sc) j (((qAe l nd).take j).map (Value.int .i64)):=HR2.out
     have HE:Hid ((((qAe l nd).take (j+1)).map (Value.int .i64))=((qAe l nd).take j).map (Value.int .i64)++[.int .i64 y.sort]):=by
      show _=_
      rw[qM9 (by rw[hlm2];omega),ht,hy,List.map_append];rfl
     have HW1s:Hid (W1.heap.size≤wr.heap.size):=HV2.out.size
     rw[hlm2] at n1
     clear hbx hgy hy ht al ah n0 n2 n3 n4 n5 n6 n7 hom hlm2 hso
     go_wp2_with fail
     go_region_law (refine step_append_lies _ rfl (.tmp 31) (.tmp 41) 27 rfl W1.heap.size 3 i0 _ 1 8 Tryz.underlying27 hi_ hz0 hz1 hz2 rfl (by decide) (Value.slice sa j sc) j (((qAe l nd).take j).map (Value.int .i64)) (by rfl) (hrow.alloc _) ⟨wr.heap.size,0,none⟩ 1 1 [.int .i64 y.sort] (by rfl) rfl (World.news_of_block (B:=wr.heap.size) (cs:=#[.int .i64 y.sort]) (t:=3) (fr:=(0,0)) (heap_alloc_new wr _)) (by simp[Value.oneCell']) (by omega) (by simp only[maxLen];omega) (by omega) (by have:=HW1s.out;simp;omega) _ rfl ?_;intro g9 c9 w9 hown9 hgrow9 hat9 hlt9;have HB9:=Lib.hid (qEy HV2.out hrow hgrow9);have HO9:=Lib.hid hown9;clear hown9 hgrow9 hat9 hlt9)
     all_goals
      go_wp2_with fail
      go_roundw
      case rel=>exact⟨j+1,some ⟨g9,0,none⟩,c9,by omega,by go_num,rfl,HB9,by rw[HE.out];exact HO9.out⟩
      case measure=>simp[intOf];omega
    ·obtain rfl:j=m:=by omega
     have hml:(qAe l nd).length=j:=by rw[qDh,hlm2];omega
     have hrow:=HR2.out
     rw[List.take_of_length_le (by omega)] at hrow
     obtain⟨sa',sc',ee,h1,h2,h3,-⟩:=own_at hrow
     cases ee
     obtain⟨E,hE⟩:∃E,opE nd.op (qAe l nd)=E:=⟨_,rfl⟩
     obtain⟨VV,hVV⟩:∃VV,opV nd.op (qAe l nd)=VV:=⟨_,rfl⟩
     have HOp:Hid (Calls Tryz.prog 32 #[.int .i8 op,.slice sa j sc] wr fun e w'=>e=.returned (.tuple #[.int .i64 VV,.int .i64 E])∧Below wr.heap.size wr w'):=by
      have h:=_root_.Go.Proofs.YtfgpimhdjlmapaaGreatDoor.Op_any nd.op (qAe l nd) sa sc VV E wr (by rw[qN6];exact h3) (by omega) hVV hE
      rw[hml,hom] at h
      exact h
     have hmem:=List.mem_of_getElem? HGn.out
     have hjn:¬(j:Int)<(j:Int):=by omega
     have HFit:Hid (qS5 l nd=(decide (E=0)&&decide (VV=so))):=by
      show _=_
      unfold qS5
      rw[decide_eq_false H13.out,Bool.false_or,hE,hVV,hso]
     have HMem:=Lib.hid hmem
     rw[hlm2] at n1
     rw[hom] at n0
     rw[hso] at n5
     clear hrow h1 h2 h3 hE hVV hom hlm2 hso hml hmem hbx n2 n3 n4 n6 n7
     go_wp2_with fail
     refine HOp.out.mono ?_
     rintro e w3 ⟨rfl,hb3⟩
     have HV3:Hid (Below W1.heap.size W1 w3):=HV2.out.trans (hb3.mono HV2.out.size)
     have HW3:Hid (Below W0.heap.size W0 w3):=HB1.out.trans (HV3.out.mono HB1.out.size)
     have hbx:=HNb.out _ HV3.out
     rw[show (Obj.cells #[.int .i8 op,.int .i8 j,.int .i64 a0,.int .i64 a1,.int .i64 a2,.int .i64 so,.int .i64 fn,.int .i64 nu] 54 (0,0))=Obj.cells #[.int .i8 nd.op,.int .i8 nd.len,.int .i64 nd.a0,.int .i64 nd.a1,.int .i64 nd.a2,.int .i64 nd.sort,.int .i64 nd.fn,.int .i64 nd.num] 54 (0,0) by rw[HNd.out]] at hbx
     have hso:nd.sort=so:=by rw[HNd.out]
     clear n0 n1 n5 nz x0 xz hb3
     obtain⟨-,-,-,-,-,n5,-,-,nz⟩:=qAi hbx
     rw[hso] at n5
     clear hbx hso
     by_cases hE0:E=0
     ·subst hE0
      by_cases hVs:VV=so
      ·have evs:=ne_f hVs
       have HN2:Hid (∀(q:Nat) (n:NodeA),q<k+1→l[q]? = some n→qS5 l n=true):=fun q n hq hqn=>by
        by_cases hij:q<k
        ·exact HN.out q n hij hqn
        ·obtain rfl:q=k:=by omega
         have h:=HGn.out
         rw[h] at hqn
         obtain rfl:=Option.some.inj hqn
         rw[HFit.out,decide_eq_true hVs];rfl
       clear hVs
       go_wp2_with fail
       go_roundw
       case rel=>exact⟨k+1,by omega,by go_num,HW3,HN2⟩
       case measure=>simp[intOf];omega
      ·have evs:=qDf hVs
       have HBad:Hid (fitB l=false):=qQ3 HMem.out (by rw[HFit.out,decide_eq_false hVs];rfl)
       have HBw:Hid (Below w.heap.size w w3):=HB0.out.trans (HW3.out.mono HB0.out.size)
       clear hVs
       go_wp2_with fail
       go_ret
       exact⟨by rw[HBad.out];rfl,HBw.out⟩
     ·have ee0:=qDf hE0
      have HBad:Hid (fitB l=false):=qQ3 HMem.out (by rw[HFit.out,decide_eq_false hE0];rfl)
      have HBw:Hid (Below w.heap.size w w3):=HB0.out.trans (HW3.out.mono HB0.out.size)
      clear hE0
      go_wp2_with fail
      go_ret
      exact⟨by rw[HBad.out];rfl,HBw.out⟩
  ·obtain rfl:k=l.length:=by omega
   have HGood:Hid (fitB l=true):=List.all_eq_true.2 fun n hn=>by
    obtain⟨j,hj⟩:=List.getElem?_of_mem hn
    exact HN.out j n (List.getElem?_eq_some_iff.1 hj).1 hj
   have HBw:Hid (Below w.heap.size w U):=HB0.out.trans (HV.out.mono HB0.out.size)
   have hkn:¬(l.length:Int)<(l.length:Int):=by omega
   go_wp2_with fail
   go_ret
   exact⟨by rw[HGood.out];rfl,HBw.out⟩
theorem TabN.apart {V:World} {l:List NodeA} {a:Option Addr} {c b:Nat} (h:TabN V l a c) (h0:0<l.length) (hb:∀x,¬V.cell? ⟨b,0,none⟩=some (.int .i8 x)):∀g o,a=some ⟨g,o,none⟩→g≠b:=fun g o e hg=>by
 obtain⟨x,hx⟩:∃x,l[0]? = some x:=⟨_,List.getElem?_eq_getElem h0⟩
 obtain⟨g',o',e',hg',q0,_⟩:=h.node hx
 have ho:=h.off g' o' e'
 rw[e] at e'
 cases e'
 subst ho hg
 exact hb _ q0
theorem TabN.move {V V':World} {l:List NodeA} {a:Option Addr} {c:Nat} (h:TabN V l a c) (hs:V.heap.size≤V'.heap.size) (hk:∀g o,a=some ⟨g,o,none⟩→V'.heap[g]? = V.heap[g]?):TabN V' l a c:=by
 refine⟨⟨h.le,h.cap,fun hl=>?_,h.ok⟩,h.off⟩
 obtain⟨g,o,e,hg,hc⟩:=h.tat hl
 refine⟨g,o,e,by omega,fun i u hu=>?_⟩
 have:=hk g o e
 rw[←hc i u hu]
 simp only[World.cell?,this]
structure WkF (V:World) (X I:Nat) (s:MkS) (im:List Int) (a:Option Addr) (c ic:Nat) (cur:Array Value) (t:TypeId):Prop where
 box:V.heap[X]? = some (.cells #[.slice a s.l.length c,.slice (some ⟨I,0,none⟩) im.length ic] t (0,0))
 img:V.heap[I]? = some (.cells cur 3 (0,0))
 row:cur.toList.take im.length=im.map (Value.int .i64)
 le:im.length≤ic
 cap:ic≤maxLen
 tab:TabN V s.l a c
 ne:X≠I
def WkD (V:World) (X I:Nat) (s:MkS) (im:List Int):Prop:=∃a c ic cur t,WkF V X I s im a c ic cur t
theorem WkF.cells {V:World} {X I:Nat} {s:MkS} {im:List Int} {a:Option Addr} {c ic:Nat} {cur:Array Value} {t:TypeId} (h:WkF V X I s im a c ic cur t):V.cell? ⟨X,0,none⟩=some (.slice a s.l.length c)∧V.cell? ⟨X,1,none⟩=some (.slice (some ⟨I,0,none⟩) im.length ic)∧V.frozen? ⟨X,0,none⟩=false∧X<V.heap.size∧I<V.heap.size :=
 ⟨(cell_of_row _ _ 0 _ _ _ h.box).trans rfl,(cell_of_row _ _ 1 _ _ _ h.box).trans rfl,by simp[World.frozen?,h.box],(Array.getElem?_eq_some_iff.1 h.box).1,(Array.getElem?_eq_some_iff.1 h.img).1⟩
theorem WkF.cur_at {V:World} {X I:Nat} {s:MkS} {im:List Int} {a:Option Addr} {c ic:Nat} {cur:Array Value} {t:TypeId} (h:WkF V X I s im a c ic cur t) {k:Nat} (hk:k<im.length):cur[k]? = some (.int .i64 (imA im k)):=by
 have h1:(cur.toList.take im.length)[k]? = (im.map (Value.int .i64))[k]?:=by rw[h.row]
 rw[List.getElem?_take,if_pos hk,List.getElem?_map,List.getElem?_eq_getElem hk] at h1
 rw[←Array.getElem?_toList,h1]
 unfold imA
 rw[Int.toNat_natCast,List.getD_eq_getElem?_getD,List.getElem?_eq_getElem hk];rfl
theorem WkF.im {V:World} {X I:Nat} {s:MkS} {im:List Int} {a:Option Addr} {c ic:Nat} {cur:Array Value} {t:TypeId} (h:WkF V X I s im a c ic cur t) {k:Nat} (hk:k<im.length):V.cell? ⟨I,k,none⟩=some (.int .i64 (imA im k))∧V.frozen? ⟨I,k,none⟩=false :=
 ⟨(cell_of_row _ _ k _ _ _ h.img).trans (h.cur_at hk),by simp[World.frozen?,h.img]⟩
theorem WkF.move {V V':World} {X I:Nat} {s:MkS} {im:List Int} {a:Option Addr} {c ic:Nat} {cur:Array Value} {t:TypeId} (h:WkF V X I s im a c ic cur t) (hs:V.heap.size≤V'.heap.size) (hX:V'.heap[X]? = V.heap[X]?) (hI:V'.heap[I]? = V.heap[I]?) (hk:∀g o,a=some ⟨g,o,none⟩→V'.heap[g]? = V.heap[g]?):WkF V' X I s im a c ic cur t :=
 ⟨hX.trans h.box,hI.trans h.img,h.row,h.le,h.cap,h.tab.move hs hk,h.ne⟩
theorem TabN.lt {V:World} {l:List NodeA} {a:Option Addr} {c:Nat} (h:TabN V l a c) (h0:0<l.length) {g o:Nat} (e:a=some ⟨g,o,none⟩):g<V.heap.size:=by
 obtain⟨x,hx⟩:∃x,l[0]? = some x:=⟨_,List.getElem?_eq_getElem h0⟩
 obtain⟨g',o',e',hg',_⟩:=h.node hx
 rw[e] at e'
 cases e'
 exact hg'
theorem WkF.below {V V':World} {X I:Nat} {s:MkS} {im:List Int} {a:Option Addr} {c ic:Nat} {cur:Array Value} {t:TypeId} (h:WkF V X I s im a c ic cur t) (h0:0<s.l.length) (hb:Below V.heap.size V V'):WkF V' X I s im a c ic cur t :=
 h.move hb.size (hb.block _ h.cells.2.2.2.1) (hb.block _ h.cells.2.2.2.2) fun g o e=>hb.block _ (h.tab.lt h0 e)
theorem qQ4 {cur:Array Value} {im:List Int} (hr:cur.toList.take im.length=im.map (Value.int .i64)) (h0:0<im.length) (x:Int):¬cur[0]? = some (.int .i8 x):=fun h=>by
 have h1:(cur.toList.take im.length)[0]? = (im.map (Value.int .i64))[0]?:=by rw[hr]
 rw[List.getElem?_take,if_pos h0,List.getElem?_map,List.getElem?_eq_getElem h0,Array.getElem?_toList,h] at h1
 simp at h1
theorem WkF.set {V V1:World} {X I:Nat} {s s2:MkS} {im:List Int} {a a2:Option Addr} {c c2 ic:Nat} {cur:Array Value} {t:TypeId} (h:WkF V X I s im a c ic cur t) (hX:V1.heap[X]? = V.heap[X]?) (hI:V1.heap[I]? = V.heap[I]?) (hT:TabN V1 s2.l a2 c2) (h0:0<s2.l.length) {k:Nat} (hk:k<im.length) (x:Int):WkF ((V1.setCell ⟨X,0,none⟩ (.slice a2 s2.l.length c2)).setCell ⟨I,k,none⟩ (.int .i64 x)) X I s2 (im.set k x) a2 c2 ic (cur.setIfInBounds k (.int .i64 x)) t:=by
 have hbx:=hX.trans h.box
 have him:=hI.trans h.img
 have i1:(V1.setCell ⟨X,0,none⟩ (.slice a2 s2.l.length c2)).heap[I]? = some (.cells cur 3 (0,0)):=(Below.heap_setCell _ _ _ _ (fun e=>h.ne (by simpa using e.symm))).trans him
 have x1:(V1.setCell ⟨X,0,none⟩ (.slice a2 s2.l.length c2)).heap[X]? = some (.cells #[.slice a2 s2.l.length c2,.slice (some ⟨I,0,none⟩) im.length ic] t (0,0)):=(heap_setCell_same V1 X 0 _ _ _ hbx).trans rfl
 refine⟨?_,heap_setCell_same _ I k _ _ _ i1,?_,by simpa using h.le,h.cap,?_,h.ne⟩
 ·refine(Below.heap_setCell _ _ _ _ (fun e=>h.ne (by simpa using e))).trans ?_
  rw[x1,List.length_set]
 ·rw[Array.toList_setIfInBounds,List.length_set,List.take_set,h.row,List.map_set]
 ·refine hT.move (by simp) fun g o e=>?_
  have nX:g≠X:=hT.apart h0 (b:=X) (fun y hy=>by
   rw[(cell_of_row _ _ 0 _ _ _ hbx)] at hy
   simp at hy) g o e
  have nI:g≠I:=hT.apart h0 (b:=I) (fun y hy=>by
   rw[(cell_of_row _ _ 0 _ _ _ him)] at hy
   exact qQ4 h.row (by omega) y hy) g o e
  exact(Below.heap_setCell _ _ _ _ (fun e=>nI (by simpa using e))).trans (Below.heap_setCell _ _ _ _ (fun e=>nX (by simpa using e)))
def Oth (n X I k:Nat):Prop:=k<n∧k≠X∧k≠I
def qHa (Q:MkS→List Int→Prop) (most:Int) (l:List NodeA) (X I:Nat) (im:List Int) (id:Nat) (w:World) (e:Ending) (w':World):Prop :=
 Kp (Oth w.heap.size X I) w w'∧((∃s' im',e=.returned (.int .i64 0)∧WkS Q l s' im'∧WkD w' X I s' im'∧(∀x:Int,0≤x→¬imA im x=-1→imA im' x=imA im x)∧¬imA im' id=-1)∨(∃s',qSe Q most l s'∧e=.returned (.int .i64 s'.e)))
theorem qN7 {Q:MkS→List Int→Prop} {most:Int} {l:List NodeA} {X I:Nat} {im:List Int} {id:Nat} {w w':World} {e:Ending} (h:qHa Q most l X I im id w e w'):∃er:Int,e=.returned (.int .i64 er)∧Kp (Oth w.heap.size X I) w w'∧(er=0∧(∃s' im',WkS Q l s' im'∧WkD w' X I s' im'∧(∀x:Int,0≤x→¬imA im x=-1→imA im' x=imA im x)∧¬imA im' id=-1)∨¬er=0∧∃s',qSe Q most l s'∧er=s'.e):=by
 obtain⟨hk,⟨s',im',rfl,h1,h2,h3,h4⟩|⟨s',hf,rfl⟩⟩:=h
 ·exact⟨0,rfl,hk,.inl ⟨rfl,s',im',h1,h2,h3,h4⟩⟩
 ·exact⟨s'.e,rfl,hk,.inr ⟨hf.1,s',hf,rfl⟩⟩
def qJy (im:List Int) (n:NodeA) (k:Nat):List Int:=(List.range k).map (fun i=>imA im (qBc n i))
theorem qQ5 (im:List Int) (n:NodeA) (k:Nat):qJy im n (k+1)=qJy im n k++[imA im (qBc n k)]:=by
 unfold qJy
 rw[List.range_succ,List.map_append];rfl
theorem qHl (im:List Int) (n:NodeA) (k:Nat):(qJy im n k).length=k:=by unfold qJy;rw[List.length_map,List.length_range]
theorem qT1 {im:List Int} {n:NodeA} {k j:Nat} (hj:j<k):(qJy im n k)[j]? = some (imA im (qBc n j)):=by
 unfold qJy
 rw[List.getElem?_map,List.getElem?_range hj];rfl
theorem qT2 {im im':List Int} {n:NodeA} {k:Nat} (h0:∀q:Nat,q<k→0≤qBc n q) (hs:∀q:Nat,q<k→¬imA im (qBc n q)=-1) (he:∀x:Int,0≤x→¬imA im x=-1→imA im' x=imA im x):qJy im' n k=qJy im n k:=by
 unfold qJy
 refine List.map_congr_left fun q hq=>?_
 have hq':=List.mem_range.1 hq
 exact he _ (h0 q hq') (hs q hq')
theorem WkD.drew {V:World} {X I:Nat} {s:MkS} {im:List Int} (h:WkD V X I s im):WkD V.drew X I s im:=by
 obtain⟨a,c,ic,cur,t,hF⟩:=h
 exact⟨a,c,ic,cur,t,hF.move (Nat.le_refl _) rfl rfl fun _ _ _=>rfl⟩
theorem WkD.below {V V':World} {X I:Nat} {s:MkS} {im:List Int} (h:WkD V X I s im) (h0:0<s.l.length) (hb:Below V.heap.size V V'):WkD V' X I s im:=by
 obtain⟨a,c,ic,cur,t,hF⟩:=h
 exact⟨a,c,ic,cur,t,hF.below h0 hb⟩
theorem WkF.push {V w9:World} {X I B:Nat} {s:MkS} {im:List Int} {a:Option Addr} {c ic:Nat} {cur:Array Value} {t:TypeId} {v:Value} {k:Nat} {L:List Int} {o:Obj} (h:WkF V X I s im a c ic cur t) (h0:0<s.l.length) (hown:V.ownsRow B 3 1 v k (L.map (Value.int .i64))) (hv:k=0→v=.slice none 0 0) (hX:X<B) (hI:I<B) (hg:(V.alloc o).drew.grownBy w9 v.ownBlock):WkF w9 X I s im a c ic cur t:=by
 have hsz:V.heap.size≤w9.heap.size:=by
  have:=hg.size
  have h2:(V.alloc o).drew.heap.size=V.heap.size+1:=by show (V.alloc o).heap.size=_;rw[World.size_alloc]
  omega
 have hne:∀q,q<B→some q≠v.ownBlock:=fun q hq e=>by
  have:=(qD7 hown e.symm).1
  omega
 refine h.move hsz (qHh hg h.cells.2.2.2.1 (hne X hX)) (qHh hg h.cells.2.2.2.2 (hne I hI)) fun g o' e=>?_
 refine qHh hg (h.tab.lt h0 e) fun e2=>?_
 rcases hown.2 with⟨rfl,_⟩|⟨g',cap,cur',rfl,_,h2,_,_,_,h6⟩
 ·cases e2
 ·have hk:0<k:=by
   rcases Nat.eq_zero_or_pos k with h1|h1
   ·have:=hv h1
    cases this
   ·exact h1
  have hgg:g=g':=by simpa [Value.ownBlock] using e2
  refine h.tab.apart h0 (b:=g') (fun y hy=>?_) g o' e hgg
  rw[cell_of_row _ _ 0 _ _ _ h2] at hy
  have hl:=hown.1
  rw[List.length_map,Nat.mul_one] at hl
  rw[Nat.mul_one] at h6
  exact qQ4 (im:=L) (by rw[hl];exact h6) (by omega) y hy
theorem qVl {V V':World} {l:List NodeA} {a:Option Addr} {c n X I:Nat} (h:TabR V l a c) (hk:Kp (Oth n X I) V V') (hg:∀g o,a=some ⟨g,o,none⟩→Oth n X I g):TabR V' l a c:=by
 refine⟨h.le,h.cap,fun hl=>?_,h.ok⟩
 obtain⟨g,o,e,hg',hc⟩:=h.tat hl
 exact⟨g,o,e,Nat.lt_of_lt_of_le hg' hk.size,fun i u hu=>(hk.cell (hg g o e)).trans (hc i u hu)⟩
theorem Kp.oth {n n' X I:Nat} {u v w:World} (h:Kp (Oth n X I) u v) (k:Kp (Oth n' X I) v w) (hn:n≤n'):Kp (Oth n X I) u w:=h.trans (k.less fun q hq=>⟨Nat.lt_of_lt_of_le hq.1 hn,hq.2⟩)
theorem qN8 {V w9:World} {B k:Nat} {v:Value} {L:List Value} {E:TypeId} {sz:Nat} {o:Obj} (hown:V.ownsRow B E sz v k L) (hB:B≤V.heap.size) (hg:(V.alloc o).drew.grownBy w9 v.ownBlock):Below B V w9:=by
 refine⟨hg.os,hg.tape,hg.output,?_,fun q hq=>qHh hg (by omega) fun e=>?_⟩
 ·have:=hg.size
  have h2:(V.alloc o).drew.heap.size=V.heap.size+1:=by show (V.alloc o).heap.size=_;rw[World.size_alloc]
  omega
 ·have:=(qD7 hown e.symm).1
  omega
theorem qDj {n X I:Nat} {u v:World} (h:Below n u v):Kp (Oth n X I) u v:=⟨h.os,h.tape,h.output,h.size,fun q hq=>h.block q hq.1⟩
theorem qVm {V V':World} {B n X I k:Nat} {v:Value} {L:List Value} {E:TypeId} {sz:Nat} (h:V.ownsRow B E sz v k L) (hk:Kp (Oth n X I) V V') (hn:V.heap.size≤n) (hX:X<B) (hI:I<B):V'.ownsRow B E sz v k L:=qEb h fun g hg=>hk.keep g ⟨by have:=(qD7 h hg).2;omega,by have:=(qD7 h hg).1;omega,by have:=(qD7 h hg).1;omega⟩
end Go.Proofs.YtfgpimhdjlmapaaGreatDoor.Tm
