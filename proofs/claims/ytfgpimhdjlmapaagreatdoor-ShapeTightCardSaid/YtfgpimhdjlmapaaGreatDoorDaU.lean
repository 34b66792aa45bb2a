/- The document's Of. -/
import Derived.Laws.CopyOwn
import Derived.Deep.LoopGhost
import Derived.Laws.MakeOwn
import Derived.Laws.EntriesVeiled
import Derived.Laws.Bits128
import Derived.Test.YtfgpimhdjlmapaaGreatDoorCpT
import Derived.Test.YtfgpimhdjlmapaaGreatDoorDaP
import Derived.Test.YtfgpimhdjlmapaaGreatDoorDaS
import Derived.Test.YtfgpimhdjlmapaaGreatDoorHdV
namespace Go.Proofs.YtfgpimhdjlmapaaGreatDoor.Tm
open Go.RowKit
set_option linter.unusedVariables false
set_option maxRecDepth 100000
theorem qQ6 {V w':World} {r:MkS × Int} {e:Ending} (h:qB4 V r e w'):∃(va:Option Addr) (n c:Nat) (i er:Int),e=.returned (.tuple #[.agg #[.slice va n c],.int .i64 i,.int .i64 er])∧Below V.heap.size V w'∧((er=0∧r.1.e=0∧n=r.1.l.length∧i=r.2∧TabN w' r.1.l va c)∨(¬er=0∧er=r.1.e)):=by
 obtain⟨hb,⟨hz,a,c,rfl,hT⟩|⟨hz,rfl⟩⟩:=h
 ·exact⟨a,_,c,_,_,rfl,hb,.inl ⟨rfl,hz,rfl,rfl,hT⟩⟩
 ·exact⟨_,_,_,_,_,rfl,hb,.inr ⟨hz,rfl⟩⟩
set_option maxHeartbeats 16000000 in
theorem qQ7 {Q:MkS→List Int→Prop} {most:Int} {l:List NodeA} (hQ:qLz Q most l) (hQW:∀s im,Q s im→QW l s im) (hm:most≤2000) (hmay:qBu l=true) (hok:∀n∈l,NodeOk n) (hlen:l.length≤3000) (hfit:∀n∈l,WsN l n) (a:Option Addr) (c X I:Nat) (hXI:∀g o,a=some ⟨g,o,none⟩→g≠X∧g≠I) :
  ∀(b id:Nat),id<b→id<l.length→∀(w:World) (s:MkS) (im:List Int),WkS Q l s im→WkD w X I s im→TabR w l a c→Calls Tryz.prog 21 #[.pointer (some ⟨X,0,none⟩),.agg #[.slice a l.length c],.int .i64 id,.int .i64 most] w (qHa Q most l X I im id w):=by
 intro b
 induction b with
 | zero=>intro id h;omega
 | succ b ih =>
 intro id hb hid w s im hS hD hA
 obtain⟨a1,c1,ic,cur,t,hF⟩:=hD
 have hl0:0<s.l.length:=by have:=hS.inv.le;omega
 obtain⟨W0,hW0⟩:∃W0,W0=w.alloc (.cells #[.slice a l.length c] 33):=⟨_,rfl⟩
 have hB0:Below w.heap.size w W0:=by rw[hW0];exact(Below.refl _ w).alloc (Nat.le_refl _) _
 have hs0:W0.heap.size=w.heap.size+1:=by rw[hW0];simp
 have h0:W0.heap[w.heap.size]? = some (.cells #[.slice a l.length c] 33 (0,0)):=by rw[hW0];exact heap_alloc_new w _
 have hF0:=hF.below hl0 hB0
 obtain⟨k0,k1,kf,kX,kI⟩:=hF0.cells
 have hil:=hS.len
 obtain⟨v0,hv0⟩:∃v,imA im id=v:=⟨_,rfl⟩
 have ki:=(hF0.im (k:=id) (by omega)).1
 rw[hv0] at ki
 rw[hil] at k1
 have hii:(id:Int)<(l.length:Int):=by omega
 have hi0:(0:Int)≤(id:Int):=by omega
 have hlm:l.length≤9223372036854775807:=by omega
 by_cases hz:v0=-1
 rotate_left
 ·have hv:=hS.imp.at (i:=(id:Int)) (by rw[hv0];exact hz)
  rw[hv0] at hv
  have hge:decide ((0:Int)≤v0)=true:=decide_eq_true hv.1
  have HE:Hid (qHa Q most l X I im id w (.returned (.int .i64 0)) W0):=⟨qDj hB0,.inl ⟨s,im,rfl,hS,⟨a1,c1,ic,cur,t,hF0⟩,fun _ _ _=>rfl,by rw[hv0];exact hz⟩⟩
  clear hS hA hB0 hs0 h0 hF0 hil hv0 hz hv hF ih hQ hQW hmay hok hfit hXI hl0
  rw[hW0] at k0 k1 kf kX kI ki
  go_enter Tryz.func21,Tryz.ntmps21
  go_wp2_with fail
  rw[←hW0]
  go_ret
  exact HE.out
 subst hz
 obtain⟨n,hn⟩:∃n,l[id]? = some n:=⟨_,List.getElem?_eq_getElem hid⟩
 have hst:=(ok_at (mayT_ok hmay).2 hn).1
 have hnk:=hok n (List.mem_of_getElem? hn)
 have hws:=hfit n (List.mem_of_getElem? hn)
 have harg:=(stands_args hst).2.2
 have hIn:=stands_in (mayT_ok hmay).2 hn
 obtain⟨op,len,e0,e1,e2,so,fn,nu⟩:=n
 have hlo:0≤len:=hIn.lo
 have hhi:len≤3:=hIn.hi
 obtain⟨m,rfl⟩:∃m:Nat,len=m:=⟨len.toNat,by omega⟩
 obtain⟨g,o,rfl,hg,q0,q1,q2,q3,q4,q5,q6,q7⟩:=(hA.below hB0).node hn
 obtain⟨W1,hW1⟩:∃W1,W1=W0.alloc (.cells #[.int .i8 op,.int .i8 m,.int .i64 e0,.int .i64 e1,.int .i64 e2,.int .i64 so,.int .i64 fn,.int .i64 nu] 54):=⟨_,rfl⟩
 have hB1:Below W0.heap.size W0 W1:=by rw[hW1];exact(Below.refl _ W0).alloc (Nat.le_refl _) _
 have hBw1:Below w.heap.size w W1:=qA5 hB0 hB1
 have hs1:W1.heap.size=w.heap.size+1+1:=by rw[hW1,←hs0];simp
 have hn1:W1.heap[w.heap.size+1]? = some (.cells #[.int .i8 op,.int .i8 m,.int .i64 e0,.int .i64 e1,.int .i64 e2,.int .i64 so,.int .i64 fn,.int .i64 nu] 54 (0,0)):=by rw[hW1,←hs0];exact heap_alloc_new W0 _
 have ht1:W1.heap[w.heap.size]? = some (.cells #[.slice (some ⟨g,o,none⟩) l.length c] 33 (0,0)):=(hB1.block _ (by omega)).trans h0
 obtain⟨nd,hnd⟩:∃nd:NodeA,nd=⟨op,m,e0,e1,e2,so,fn,nu⟩:=⟨_,rfl⟩
 rw[←hnd] at hst hnk hws harg hIn hn
 have hm3:m≤3:=by omega
 have hXw:=hF.cells.2.2.2.1
 have hIw:=hF.cells.2.2.2.2
 have HNd:=Lib.hid hnd
 have HGn:=Lib.hid hn
 have HLn:Hid (nd.len=(m:Int)):=by show _=_;rw[hnd]
 have HBx:Hid (∀V,Kp (Oth W1.heap.size X I) W1 V→V.heap[w.heap.size]? = some (.cells #[.slice (some ⟨g,o,none⟩) l.length c] 33 (0,0))∧V.heap[w.heap.size+1]? = some (.cells #[.int .i8 nd.op,.int .i8 nd.len,.int .i64 nd.a0,.int .i64 nd.a1,.int .i64 nd.a2,.int .i64 nd.sort,.int .i64 nd.fn,.int .i64 nd.num] 54 (0,0))):=fun V hV=>⟨(hV.keep _ ⟨by omega,by omega,by omega⟩).trans ht1,(hV.keep _ ⟨by omega,by omega,by omega⟩).trans (by rw[hn1,hnd])⟩
 have HTab:Hid (∀V,Kp (Oth W1.heap.size X I) W1 V→TabR V l (some ⟨g,o,none⟩) c):=fun V hV=>qVl (hA.below hBw1) hV fun g' o' e=>by
  cases e
  exact⟨Nat.lt_of_lt_of_le hg hB1.size,hXI _ _ rfl⟩
 have HArg:Hid (∀j:Nat,j<m→0≤qBc nd j∧qBc nd j<(id:Int)):=fun j hj=>harg j (by rw[HLn.out];omega)
 have HIH:Hid (∀(t:Nat),t<id→∀(V:World) (s:MkS) (im:List Int),WkS Q l s im→WkD V X I s im→TabR V l (some ⟨g,o,none⟩) c→Calls Tryz.prog 21 #[.pointer (some ⟨X,0,none⟩),.agg #[.slice (some ⟨g,o,none⟩) l.length c],.int .i64 t,.int .i64 most] V (qHa Q most l X I im t V)):=fun t ht V s im h1 h2 h3=>ih t (by omega) (by omega) V s im h1 h2 h3
 have HS:=Lib.hid hS
 have HV0:=Lib.hid hv0
 have HId:=Lib.hid hid
 have HD1:Hid (WkD W1 X I s im):=⟨a1,c1,ic,cur,t,hF0.below hl0 hB1⟩
 have HKw:Hid (Kp (Oth w.heap.size X I) w W1):=qDj hBw1
 have HS1:=Lib.hid hs1
 have HXw:Hid (X<W1.heap.size∧I<W1.heap.size):=⟨by omega,by omega⟩
 have HStep:Hid (∀(s':MkS) (im':List Int),WkS Q l s' im'→qJp im' nd→Out most s' (qDu most s' im' nd)∧((qDu most s' im' nd).1.e=0→WkS Q l (qDu most s' im' nd).1 (im'.set id (qDu most s' im' nd).2))):=fun s' im' h1 h2=>qSf hQ h1 hn h2 hm hnk hst
 have HImg:Hid (∀(V:World) (s':MkS) (im':List Int) (a':Option Addr) (c':Nat) (va:Option Addr) (vc:Nat),WkS Q l s' im'→qJp im' nd→TabN V s'.l a' c'→IntsR V (qJy im' nd m) va vc→Calls Tryz.prog 33 #[.agg #[.slice a' s'.l.length c'],.agg #[.int .i8 nd.op,.int .i8 nd.len,.int .i64 nd.a0,.int .i64 nd.a1,.int .i64 nd.a2,.int .i64 nd.sort,.int .i64 nd.fn,.int .i64 nd.num],.slice va m vc,.int .i64 most] V (qB4 V (qDu most s' im' nd))):=fun V s' im' a' c' va vc h1 h2 h3 h4=>by
  have hq:=hQW _ _ h1.q
  have h:=qSz (p0:=nd.a0) (p1:=nd.a1) (p2:=nd.a2) h1.inv h1.ok hq.1 hq.2.1 most hm (qEs (l:=l) hst h1.imp h2) (qPt hq hn hst h2 hws) (vs:=qJy im' nd m) (by rw[qHl];show m=nd.len.toNat;rw[HLn.out];rfl) (fun j hj=>by
   rw[qHl] at hj
   rw[qT1 hj,qJo _ _ _ _ (by omega),if_pos (by rw[HLn.out];simpa using hj)]) h4 a' c' h3
  rw[qHl] at h
  exact h
 obtain⟨i0,hi_,hz0,hz1,hz2⟩:=info_parts info_int
 clear hS hA hB0 h0 hF0 hil hF ih hQ hQW hmay hok hfit hXI hl0 hB1 hBw1 hs1 hn1 ht1 hn hst hnk hws harg hIn hXw hIw hlo hhi hnd hv0
 rw[hW0] at k0 k1 kf kX kI ki hg q0 q1 q2 q3 q4 q5 q6 q7
 go_enter Tryz.func21,Tryz.ntmps21
 go_wp2_with fail
 rw[←hW0,←hW1]
 clear hW1 k0 k1 kf kX kI ki hg q0 q1 q2 q3 q4 q5 q6 q7 hW0
 go_loopw [10,11] (fun v i V=>∃(j:Nat) (sa:Option Addr) (sc:Nat) (s':MkS) (im':List Int),j≤m∧i=.int .i64 j∧v=.slice sa j sc∧Hid (Kp (Oth W1.heap.size X I) W1 V)∧Hid (WkS Q l s' im'∧WkD V X I s' im')∧Hid (∀x:Int,0≤x→¬imA im x=-1→imA im' x=imA im x)∧Hid (∀q:Nat,q<j→¬imA im' (qBc nd q)=-1)∧Hid (V.ownsRow W1.heap.size 3 1 (.slice sa j sc) j ((qJy im' nd j).map (Value.int .i64)))∧Hid (j=0→(Value.slice sa j sc)=.slice none 0 0)) (fun _ i _=>m-(intOf i).toNat)
 case atStart=>exact⟨0,none,0,s,im,Nat.zero_le _,rfl,rfl,Kp.refl _ _,⟨HS.out,HD1.out⟩,fun _ _ _=>rfl,fun q hq=>absurd hq (Nat.not_lt_zero _),World.ownsRow_nil _ _ _ _,fun _=>rfl⟩
 case round =>
  obtain⟨j,sa,sc,s',im',hjm,rfl,rfl,HK,HW,HX,HNs,HR,HZ⟩:=hrel
  obtain⟨hb1,hb2⟩:=HBx.out _ HK.out
  obtain⟨x0,xf,xz⟩:=qA6 hb1
  obtain⟨n0,n1,n2,n3,n4,n5,n6,n7,nz⟩:=qAi hb2
  rw[HLn.out] at n1
  by_cases hjl:j<m
  ·obtain⟨al,ah⟩:=HArg.out j hjl
   obtain⟨tt,ht⟩:∃t:Nat,qBc nd j=(t:Int):=⟨(qBc nd j).toNat,by omega⟩
   have htl:tt<id:=by omega
   have HT:Hid (qBc nd j=(tt:Int)):=ht
   have qa:wr.cell? ⟨w.heap.size+1,2+j,none⟩=some (.int .i64 tt):=(qEr hb2 j (by omega)).trans (by rw[ht])
   have hji:(j:Int)<(m:Int):=by omega
   have hj3:(j:Int)<3:=by omega
   have hj0:(0:Int)≤(j:Int):=by omega
   have hti:(tt:Int)<(l.length:Int):=by omega
   have ht0:(0:Int)≤(tt:Int):=by omega
   have HC:Hid (Calls Tryz.prog 21 #[.pointer (some ⟨X,0,none⟩),.agg #[.slice (some ⟨g,o,none⟩) l.length c],.int .i64 tt,.int .i64 most] wr.drew (qHa Q most l X I im' tt wr.drew)):=HIH.out tt htl _ s' im' HW.out.1 HW.out.2.drew (HTab.out _ HK.out.drew)
   have HSk:Hid (∀V,Kp (Oth W1.heap.size X I) W1 V→V.cell? ⟨w.heap.size,0,none⟩=some (.slice (some ⟨g,o,none⟩) l.length c)∧V.cell? ⟨w.heap.size+1,2+j,none⟩=some (.int .i64 tt)):=fun V hV=>by
    obtain⟨u1,u2⟩:=HBx.out _ hV
    exact⟨(qA6 u1).1,(qEr u2 j (by omega)).trans (by rw[HT.out])⟩
   clear hb1 hb2 n0 n2 n3 n4 n5 n6 n7 ht al ah
   go_wp2_with fail
   go_region_held3 (fun V=>V.cell? ⟨w.heap.size,0,none⟩=some (.slice (some ⟨g,o,none⟩) l.length c)∧V.cell? ⟨w.heap.size+1,2+j,none⟩=some (.int .i64 tt))
    (first|exact⟨x0,qa⟩|exact HSk.out _ HK.out.drew|with_reducible exact HSk.out _ HK2.out)
    (first|(go_at_call 21;refine HC.out.mono ?_;rintro e w2 hO;obtain⟨er,rfl,hk2,hor⟩:=qN7 hO;have HK2:Hid (Kp (Oth W1.heap.size X I) W1 w2):=HK.out.drew.oth hk2 HK.out.size;have HKs:Hid (Kp (Oth wr.heap.size X I) wr w2):=(show Kp (Oth wr.heap.size X I) wr wr.drew from (Kp.refl _ _).drew).trans hk2;have HOr:=Lib.hid hor;clear hO hk2 hor))
   clear x0 xf xz n1 nz qa HSk HC
   rcases HOr.out with⟨rfl,s2,im2,h1,h2,h3,h4⟩|⟨hne,s2,hf,rfl⟩
   rotate_left
   ·have ene:=qDf hne
    have HE:Hid (qHa Q most l X I im id w (.returned (.int .i64 s2.e)) w2):=⟨HKw.out.oth HK2.out (by have:=HS1.out;omega),.inr ⟨s2,hf,rfl⟩⟩
    clear hne hf
    go_wp2_with fail
    go_ret
    exact HE.out
   obtain⟨a2,c2,ic2,cur2,t2,hF2⟩:=h2
   have hl2:0<s2.l.length:=by have:=h1.inv.le;omega
   have hle2:=h1.len
   obtain⟨k0,k1,kf,kX,kI⟩:=hF2.cells
   rw[hle2] at k1
   obtain⟨u,hu⟩:∃u,imA im2 tt=u:=⟨_,rfl⟩
   have ki:=(hF2.im (k:=tt) (by omega)).1
   rw[hu] at ki
   obtain⟨u1,u2⟩:=HBx.out _ HK2.out
   obtain⟨x0,xf,xz⟩:=qA6 u1
   have qa:w2.cell? ⟨w.heap.size+1,2+j,none⟩=some (.int .i64 tt):=(qEr u2 j (by omega)).trans (by rw[HT.out])
   obtain⟨n0,n1,n2,n3,n4,n5,n6,n7,nz⟩:=qAi u2
   rw[HLn.out] at n1
   have hrow:w2.ownsRow W1.heap.size 3 1 (.slice sa j sc) j ((qJy im2 nd j).map (Value.int .i64)):=by
    rw[qT2 (im:=im') (fun q hq=>(HArg.out q (by omega)).1) HNs.out h3]
    exact qVm HR.out HKs.out (Nat.le_refl _) HXw.out.1 HXw.out.2
   have HX2:Hid (∀x:Int,0≤x→¬imA im x=-1→imA im2 x=imA im x):=fun x hx hn=>(h3 x hx (by rw[HX.out x hx hn];exact hn)).trans (HX.out x hx hn)
   have HNs2:Hid (∀q:Nat,q<j+1→¬imA im2 (qBc nd q)=-1):=fun q hq=>by
    by_cases hqj:q<j
    ·rw[h3 _ (HArg.out q (by omega)).1 (HNs.out q hqj)];exact HNs.out q hqj
    ·obtain rfl:q=j:=by omega
     rw[HT.out];exact h4
   have HE:Hid ((qJy im2 nd (j+1)).map (Value.int .i64)=(qJy im2 nd j).map (Value.int .i64)++[.int .i64 u]):=by
    show _=_
    rw[qQ5,HT.out,hu,List.map_append];rfl
   have HPush:Hid (∀(w9:World) (ob:Obj),(w2.alloc ob).drew.grownBy w9 (Value.slice sa j sc).ownBlock→Kp (Oth W1.heap.size X I) W1 w9∧WkD w9 X I s2 im2):=fun w9 ob hg9=>⟨HK2.out.oth (qDj (qN8 hrow HK2.out.size hg9)) (Nat.le_refl _),⟨a2,c2,ic2,cur2,t2,hF2.push hl2 hrow HZ.out HXw.out.1 HXw.out.2 hg9⟩⟩
   have HW2:Hid (WkS Q l s2 im2):=h1
   have HSz:Hid (W1.heap.size≤w2.heap.size):=HK2.out.size
   have hrow':=hrow
   clear u1 u2 hF2 h1 h3 h4 hl2 hle2 hu HOr n0 n2 n3 n4 n5 n6 n7 hrow
   go_wp2_with fail
   go_region_law (refine step_append_lies _ rfl (.tmp 47) (.tmp 58) 27 rfl W1.heap.size 3 i0 _ 1 8 Tryz.underlying27 hi_ hz0 hz1 hz2 rfl (by decide) (Value.slice sa j sc) j ((qJy im2 nd j).map (Value.int .i64)) (by rfl) (hrow'.alloc _) ⟨w2.heap.size,0,none⟩ 1 1 [.int .i64 u] (by rfl) rfl (World.news_of_block (B:=w2.heap.size) (cs:=#[.int .i64 u]) (t:=3) (fr:=(0,0)) (heap_alloc_new w2 _)) (by simp[Value.oneCell']) (by omega) (by simp only[maxLen];omega) (by omega) (by have:=HSz.out;simp;omega) _ rfl ?_;intro g9 c9 w9 hown9 hgrow9 hat9 hlt9;have HP9:=Lib.hid (HPush.out _ _ hgrow9);have HO9:=Lib.hid hown9;clear hown9 hgrow9 hat9 hlt9)
   all_goals
    go_wp2_with fail
    go_roundw
    case rel=>exact⟨j+1,some ⟨g9,0,none⟩,c9,s2,im2,by omega,by go_num,rfl,HP9.out.1,⟨HW2.out,HP9.out.2⟩,HX2,HNs2,by rw[HE.out];exact HO9.out,fun e=>absurd e (Nat.succ_ne_zero _)⟩
    case measure=>simp[intOf];omega
  ·obtain rfl:j=m:=by omega
   obtain⟨a2,c2,ic2,cur2,t2,hF2⟩:=HW.out.2
   have hl2:0<s'.l.length:=by have:=HW.out.1.inv.le;omega
   obtain⟨k0,k1,kf,kX,kI⟩:=hF2.cells
   have HAll:Hid (qJp im' nd):=fun q hq=>HNs.out q (by rw[HLn.out] at hq;omega)
   have HInt:Hid (IntsR wr (qJy im' nd j) sa sc):=qN2 (by rw[qHl];exact HR.out) (fun x hx=>by
    unfold qJy at hx
    obtain⟨q,hq,rfl⟩:=List.mem_map.1 hx
    exact(HW.out.1.imp.at (HNs.out q (List.mem_range.1 hq))).i64 HW.out.1.inv.len)
   have HC:Hid (∀V,Below wr.heap.size wr V→Calls Tryz.prog 33 #[.agg #[.slice a2 s'.l.length c2],.agg #[.int .i8 nd.op,.int .i8 j,.int .i64 nd.a0,.int .i64 nd.a1,.int .i64 nd.a2,.int .i64 nd.sort,.int .i64 nd.fn,.int .i64 nd.num],.slice sa j sc,.int .i64 most] V (qB4 V (qDu most s' im' nd))):=fun V hV=>by
    have h:=HImg.out V s' im' a2 c2 sa sc HW.out.1 HAll.out (hF2.tab.below hV) (HInt.out.below hV)
    rw[HLn.out] at h
    exact h
   obtain⟨ho,hnx⟩:=HStep.out s' im' HW.out.1 HAll.out
   obtain⟨r,hr⟩:∃r,qDu most s' im' nd=r:=⟨_,rfl⟩
   rw[hr] at HC ho hnx
   have hjn:¬(j:Int)<(j:Int):=by omega
   have hzn:w.heap.size+1<wr.heap.size:=nz
   have HSb:Hid (∀V,Below wr.heap.size wr V→V.cell? ⟨X,0,none⟩=some (.slice a2 s'.l.length c2)∧V.cell? ⟨w.heap.size+1,0,none⟩=some (.int .i8 nd.op)∧V.cell? ⟨w.heap.size+1,1,none⟩=some (.int .i8 j)∧V.cell? ⟨w.heap.size+1,2,none⟩=some (.int .i64 nd.a0)∧V.cell? ⟨w.heap.size+1,3,none⟩=some (.int .i64 nd.a1)∧V.cell? ⟨w.heap.size+1,4,none⟩=some (.int .i64 nd.a2)∧V.cell? ⟨w.heap.size+1,5,none⟩=some (.int .i64 nd.sort)∧V.cell? ⟨w.heap.size+1,6,none⟩=some (.int .i64 nd.fn)∧V.cell? ⟨w.heap.size+1,7,none⟩=some (.int .i64 nd.num)):=fun V hV=>⟨(hV.cell (p:=⟨X,0,none⟩) kX).trans k0,(hV.cell (p:=⟨w.heap.size+1,0,none⟩) hzn).trans n0,(hV.cell (p:=⟨w.heap.size+1,1,none⟩) hzn).trans n1,(hV.cell (p:=⟨w.heap.size+1,2,none⟩) hzn).trans n2,(hV.cell (p:=⟨w.heap.size+1,3,none⟩) hzn).trans n3,(hV.cell (p:=⟨w.heap.size+1,4,none⟩) hzn).trans n4,(hV.cell (p:=⟨w.heap.size+1,5,none⟩) hzn).trans n5,(hV.cell (p:=⟨w.heap.size+1,6,none⟩) hzn).trans n6,(hV.cell (p:=⟨w.heap.size+1,7,none⟩) hzn).trans n7⟩
   have HF2:=Lib.hid hF2
   have HRr:=Lib.hid hr
   have HNx:=Lib.hid hnx
   have HOut:=Lib.hid ho
   clear hb1 hb2 x0 xf xz hF2 hl2 hr hnx ho hzn k1 kI
   go_wp2_with fail
   go_region_held3 (fun V=>V.cell? ⟨X,0,none⟩=some (.slice a2 s'.l.length c2)∧V.cell? ⟨w.heap.size+1,0,none⟩=some (.int .i8 nd.op)∧V.cell? ⟨w.heap.size+1,1,none⟩=some (.int .i8 j)∧V.cell? ⟨w.heap.size+1,2,none⟩=some (.int .i64 nd.a0)∧V.cell? ⟨w.heap.size+1,3,none⟩=some (.int .i64 nd.a1)∧V.cell? ⟨w.heap.size+1,4,none⟩=some (.int .i64 nd.a2)∧V.cell? ⟨w.heap.size+1,5,none⟩=some (.int .i64 nd.sort)∧V.cell? ⟨w.heap.size+1,6,none⟩=some (.int .i64 nd.fn)∧V.cell? ⟨w.heap.size+1,7,none⟩=some (.int .i64 nd.num))
    (first|exact⟨k0,n0,n1,n2,n3,n4,n5,n6,n7⟩|exact HSb.out _ (Below.refl _ _).drew|exact HSb.out _ ((Below.refl _ wr).alloc (Nat.le_refl _) _)|exact HSb.out _ ((Below.refl _ wr).alloc (Nat.le_refl _) _).drew|exact HSb.out _ ((Below.refl _ wr).drew.alloc (Nat.le_refl _) _)|with_reducible exact HSb.out _ HB2.out|exact HSb.out _ (HB2.out.setCell (p:=⟨wr.heap.size,0,none⟩) (Nat.le_refl _) _)|exact HSb.out _ (HB2.out.alloc HB2.out.size _)|exact HSb.out _ ((HB2.out.alloc HB2.out.size _).setCell (p:=⟨w2.heap.size,0,none⟩) HB2.out.size _)|exact HSb.out _ (HB2.out.alloc HB2.out.size _).drew)
    (first
     | (go_at_call 33;refine(HC.out _ ((Below.refl _ wr).alloc (Nat.le_refl _) _).drew).mono ?_;rintro e w2 hO;obtain⟨va,nn,cc,ii,er,rfl,hb2,hor⟩:=qQ6 hO;have HB2:Hid (Below wr.heap.size wr w2):=(show Below wr.heap.size wr (wr.alloc (.cells #[.slice none 0 0] 33)).drew from ((Below.refl _ wr).alloc (Nat.le_refl _) _).drew).trans (hb2.mono (show wr.heap.size≤(wr.alloc (.cells #[.slice none 0 0] 33)).heap.size by simp));have hbx:w2.heap[wr.heap.size]? = some (.cells #[.slice none 0 0] 33 (0,0)):=(hb2.block _ (show wr.heap.size<(wr.alloc (.cells #[.slice none 0 0] 33)).heap.size by simp)).trans (heap_alloc_new wr _);obtain⟨y0,yf,yz⟩:=qA6 hbx;have HBX:=Lib.hid hbx;have HOr:=Lib.hid hor;clear hO hb2 hor hbx)
     | (go_at_call 33;refine(HC.out _ (Below.refl _ _).drew).mono ?_;rintro e w2 hO;obtain⟨va,nn,cc,ii,er,rfl,hb2,hor⟩:=qQ6 hO;have HB2:Hid (Below wr.heap.size wr w2):=(show Below wr.heap.size wr wr.drew from (Below.refl _ wr).drew).trans hb2;have HOr:=Lib.hid hor;clear hO hb2 hor))
   ·refine qKu ?_
    intro W3 hW3
    have HB3:Hid (Below wr.heap.size wr W3):=by
     show Below _ _ _
     rw[hW3]
     exact HB2.out.alloc HB2.out.size _
    have hbb:W3.heap[w2.heap.size]? = some (.cells #[.slice va nn cc] 33 (0,0)):=by rw[hW3];exact heap_alloc_new w2 _
    have HOr3:Hid ((er=0∧r.1.e=0∧nn=r.1.l.length∧ii=r.2∧TabN W3 r.1.l va cc)∨(¬er=0∧er=r.1.e)):=by
     rcases HOr.out with⟨h1,h2,h3,h4,h5⟩|h
     ·exact .inl ⟨h1,h2,h3,h4,by rw[hW3];exact h5.below ((Below.refl _ w2).alloc (Nat.le_refl _) _)⟩
     ·exact .inr h
    have HKf:Hid (Kp (Oth w.heap.size X I) w W3):=(HKw.out.oth HK.out (by have:=HS1.out;omega)).oth (qDj HB3.out) (by have:=HS1.out;have:=HK.out.size;omega)
    obtain⟨z0,zf,zz⟩:=qA6 hbb
    have hBB:w2.heap.size≠X:=by have:=kX;have:=HB2.out.size;omega
    have HF3:Hid (W3.heap[X]? = wr.heap[X]?∧W3.heap[I]? = wr.heap[I]?):=⟨HB3.out.block _ kX,HB3.out.block _ HF2.out.cells.2.2.2.2⟩
    clear hW3 hbb  k0 n0 n1 n2 n3 n4 n5 n6 n7 nz
    rcases HOr3.out with⟨rfl,hz,rfl,rfl,hT⟩|⟨hne,he⟩
    rotate_left
    ·have ene:=qDf hne
     have HE:Hid (qHa Q most l X I im id w (.returned (.int .i64 er)) W3):=⟨HKf.out,.inr ⟨r.1,⟨by rw[←he];exact hne,s',im',id,nd,HW.out.1,HGn.out,HAll.out,by rw[HRr.out]⟩,by rw[he]⟩⟩
     clear hne he
     go_wp2_with fail
     go_ret
     exact HE.out
    have hlen:=HW.out.1.len
    have hbx3:=HF3.out.1.trans HF2.out.box
    have him3:=HF3.out.2.trans HF2.out.img
    have hne:=HF2.out.ne
    have hl3:0<r.1.l.length:=by have:=HOut.out.inv.le;omega
    have hi1:(W3.setCell ⟨X,0,none⟩ (.slice va r.1.l.length cc)).heap[I]? = some (.cells cur2 3 (0,0)):=(Below.heap_setCell _ _ _ _ (fun e=>hne (by simpa using e.symm))).trans him3
    have hx1:(W3.setCell ⟨X,0,none⟩ (.slice va r.1.l.length cc)).heap[X]? = some (.cells #[.slice va r.1.l.length cc,.slice (some ⟨I,0,none⟩) im'.length ic2] t2 (0,0)):=(heap_setCell_same W3 X 0 _ _ _ hbx3).trans rfl
    have x0:W3.cell? ⟨X,0,none⟩=some (.slice a2 s'.l.length c2):=(cell_of_row _ _ 0 _ _ _ hbx3).trans rfl
    have xf:W3.frozen? ⟨X,0,none⟩=false:=by simp[World.frozen?,hbx3]
    have xz:X<W3.heap.size:=(Array.getElem?_eq_some_iff.1 hbx3).1
    have y1:(W3.setCell ⟨X,0,none⟩ (.slice va r.1.l.length cc)).cell? ⟨X,1,none⟩=some (.slice (some ⟨I,0,none⟩) l.length ic2):=(cell_of_row _ _ 1 _ _ _ hx1).trans (by rw[hlen];rfl)
    obtain⟨u,hu⟩:∃u,cur2[id]? = some u:=⟨_,HF2.out.cur_at (k:=id) (by rw[hlen];exact HId.out)⟩
    have i1:(W3.setCell ⟨X,0,none⟩ (.slice va r.1.l.length cc)).cell? ⟨I,id,none⟩=some u:=(cell_of_row _ _ id _ _ _ hi1).trans hu
    have if1:(W3.setCell ⟨X,0,none⟩ (.slice va r.1.l.length cc)).frozen? ⟨I,id,none⟩=false:=by simp[World.frozen?,hi1]
    have iz:I<(W3.setCell ⟨X,0,none⟩ (.slice va r.1.l.length cc)).heap.size:=(Array.getElem?_eq_some_iff.1 hi1).1
    have HE:Hid (qHa Q most l X I im id w (.returned (.int .i64 0)) ((W3.setCell ⟨X,0,none⟩ (.slice va r.1.l.length cc)).setCell ⟨I,id,none⟩ (.int .i64 r.2))):=by
     refine⟨(HKf.out.trans (Kp.set (fun k hk=>hk.2.1) _)).trans (Kp.set (fun k hk=>hk.2.2) _),.inl ⟨r.1,im'.set id r.2,rfl,HNx.out hz,⟨va,cc,ic2,_,t2,HF2.out.set HF3.out.1 HF3.out.2 hT hl3 (by rw[hlen];exact HId.out) r.2⟩,fun x hx hxn=>?_,?_⟩⟩
     ·rw[qHv hx (by rw[hlen];exact HId.out),if_neg (fun e=>by rw[e] at hxn;exact hxn HV0.out)]
      exact HX.out x hx hxn
     ·rw[qHv (by omega) (by rw[hlen];exact HId.out),if_pos rfl]
      have:=HOut.out.pl.1
      omega
    clear hz hT hlen hbx3 him3 hi1 hx1 hl3 hu
    go_wp2_with fail
    go_ret
    exact HE.out
   ·refine qKu ?_
    intro W3 hW3
    have HB3:Hid (Below wr.heap.size wr W3):=by
     show Below _ _ _
     rw[hW3]
     exact HB2.out.setCell (p:=⟨wr.heap.size,0,none⟩) (Nat.le_refl _) _
    have hbb:W3.heap[wr.heap.size]? = some (.cells #[.slice va nn cc] 33 (0,0)):=by rw[hW3];exact qAf HBX.out
    have HOr3:Hid ((er=0∧r.1.e=0∧nn=r.1.l.length∧ii=r.2∧TabN W3 r.1.l va cc)∨(¬er=0∧er=r.1.e)):=by
     rcases HOr.out with⟨h1,h2,h3,h4,h5⟩|h
     ·exact .inl ⟨h1,h2,h3,h4,by rw[hW3];exact h5.setBox (by have:=HOut.out.inv.le;omega) HBX.out⟩
     ·exact .inr h
    have HKf:Hid (Kp (Oth w.heap.size X I) w W3):=(HKw.out.oth HK.out (by have:=HS1.out;omega)).oth (qDj HB3.out) (by have:=HS1.out;have:=HK.out.size;omega)
    obtain⟨z0,zf,zz⟩:=qA6 hbb
    have hBB:wr.heap.size≠X:=by have:=kX;have:=HB2.out.size;omega
    have HF3:Hid (W3.heap[X]? = wr.heap[X]?∧W3.heap[I]? = wr.heap[I]?):=⟨HB3.out.block _ kX,HB3.out.block _ HF2.out.cells.2.2.2.2⟩
    clear hW3 hbb y0 yf yz k0 n0 n1 n2 n3 n4 n5 n6 n7 nz
    rcases HOr3.out with⟨rfl,hz,rfl,rfl,hT⟩|⟨hne,he⟩
    rotate_left
    ·have ene:=qDf hne
     have HE:Hid (qHa Q most l X I im id w (.returned (.int .i64 er)) W3):=⟨HKf.out,.inr ⟨r.1,⟨by rw[←he];exact hne,s',im',id,nd,HW.out.1,HGn.out,HAll.out,by rw[HRr.out]⟩,by rw[he]⟩⟩
     clear hne he
     go_wp2_with fail
     go_ret
     exact HE.out
    have hlen:=HW.out.1.len
    have hbx3:=HF3.out.1.trans HF2.out.box
    have him3:=HF3.out.2.trans HF2.out.img
    have hne:=HF2.out.ne
    have hl3:0<r.1.l.length:=by have:=HOut.out.inv.le;omega
    have hi1:(W3.setCell ⟨X,0,none⟩ (.slice va r.1.l.length cc)).heap[I]? = some (.cells cur2 3 (0,0)):=(Below.heap_setCell _ _ _ _ (fun e=>hne (by simpa using e.symm))).trans him3
    have hx1:(W3.setCell ⟨X,0,none⟩ (.slice va r.1.l.length cc)).heap[X]? = some (.cells #[.slice va r.1.l.length cc,.slice (some ⟨I,0,none⟩) im'.length ic2] t2 (0,0)):=(heap_setCell_same W3 X 0 _ _ _ hbx3).trans rfl
    have x0:W3.cell? ⟨X,0,none⟩=some (.slice a2 s'.l.length c2):=(cell_of_row _ _ 0 _ _ _ hbx3).trans rfl
    have xf:W3.frozen? ⟨X,0,none⟩=false:=by simp[World.frozen?,hbx3]
    have xz:X<W3.heap.size:=(Array.getElem?_eq_some_iff.1 hbx3).1
    have y1:(W3.setCell ⟨X,0,none⟩ (.slice va r.1.l.length cc)).cell? ⟨X,1,none⟩=some (.slice (some ⟨I,0,none⟩) l.length ic2):=(cell_of_row _ _ 1 _ _ _ hx1).trans (by rw[hlen];rfl)
    obtain⟨u,hu⟩:∃u,cur2[id]? = some u:=⟨_,HF2.out.cur_at (k:=id) (by rw[hlen];exact HId.out)⟩
    have i1:(W3.setCell ⟨X,0,none⟩ (.slice va r.1.l.length cc)).cell? ⟨I,id,none⟩=some u:=(cell_of_row _ _ id _ _ _ hi1).trans hu
    have if1:(W3.setCell ⟨X,0,none⟩ (.slice va r.1.l.length cc)).frozen? ⟨I,id,none⟩=false:=by simp[World.frozen?,hi1]
    have iz:I<(W3.setCell ⟨X,0,none⟩ (.slice va r.1.l.length cc)).heap.size:=(Array.getElem?_eq_some_iff.1 hi1).1
    have HE:Hid (qHa Q most l X I im id w (.returned (.int .i64 0)) ((W3.setCell ⟨X,0,none⟩ (.slice va r.1.l.length cc)).setCell ⟨I,id,none⟩ (.int .i64 r.2))):=by
     refine⟨(HKf.out.trans (Kp.set (fun k hk=>hk.2.1) _)).trans (Kp.set (fun k hk=>hk.2.2) _),.inl ⟨r.1,im'.set id r.2,rfl,HNx.out hz,⟨va,cc,ic2,_,t2,HF2.out.set HF3.out.1 HF3.out.2 hT hl3 (by rw[hlen];exact HId.out) r.2⟩,fun x hx hxn=>?_,?_⟩⟩
     ·rw[qHv hx (by rw[hlen];exact HId.out),if_neg (fun e=>by rw[e] at hxn;exact hxn HV0.out)]
      exact HX.out x hx hxn
     ·rw[qHv (by omega) (by rw[hlen];exact HId.out),if_pos rfl]
      have:=HOut.out.pl.1
      omega
    clear hz hT hlen hbx3 him3 hi1 hx1 hl3 hu
    go_wp2_with fail
    go_ret
    exact HE.out
def OfO (Q:MkS→List Int→Prop) (l:List NodeA) (xs:List Int) (w:World) (e:Ending) (w':World):Prop :=
 Below w.heap.size w w'∧((∃(s:MkS) (im:List Int) (a:Option Addr) (c:Nat) (b:Option Addr) (d:Nat),e=.returned (.tuple #[.agg #[.slice a s.l.length c],.slice b xs.length d,.int .i64 0])∧WkS Q l s im∧TabN w' s.l a c∧IntsR w' (xs.map (imA im)) b d∧(∀x∈xs,(0≤x∧x<(l.length:Int))∧¬imA im x=-1)∧qBu l=true∧∀n∈l,WsN l n)∨(∃er:Int,¬er=0∧e=.returned (.tuple #[.agg #[.slice none 0 0],.slice none 0 0,.int .i64 er])))
theorem zAm:MkI ⟨qE9,0⟩:=by
 refine⟨by show qBu qE9=true;decide,by show qE9.length≤2000;decide,fun n hn=>?_,.inl rfl⟩
 have hn':n=trueN∨n=qD5:=by simpa [qE9] using hn
 rcases hn' with rfl|rfl
 ·exact qCh (k:=5) (by decide) (by decide)
 ·exact qCh (k:=5) (by decide) (by decide)
theorem qX6 {xs:List Int} {im im':List Int} {k n:Nat} (hin:∀(j:Nat) (x:Int),j<n→xs[j]? = some x→0≤x∧x<(k:Int)) {q:Nat} (hq:q≤n) (hs:∀(j:Nat) (x:Int),j<q→xs[j]? = some x→¬imA im x=-1) (he:∀x:Int,0≤x→¬imA im x=-1→imA im' x=imA im x):(xs.take q).map (imA im')=(xs.take q).map (imA im):=by
 refine List.map_congr_left fun x hx=>?_
 obtain⟨j,hj⟩:=List.getElem?_of_mem hx
 rw[List.getElem?_take] at hj
 split at hj
 ·exact he x (hin j x (by omega) hj).1 (hs j x (by omega) hj)
 ·cases hj
set_option maxHeartbeats 16000000 in
theorem qQ8 {Q:MkS→List Int→Prop} {most:Int} {l:List NodeA} (hQ':qBu l=true→(∀n∈l,WsN l n)→qLz Q most l) (hQW:∀s im,Q s im→QW l s im) (hQ0:Q ⟨qE9,0⟩ (List.replicate l.length (-1))) (hm:most≤2000) (hlen:l.length≤3000) (a:Option Addr) (c:Nat) (xs:List Int) (rb:Option Addr) (rc:Nat) (w:World) (hA:TabR w l a c) (hX:IntsR w xs rb rc) (hxl:xs.length≤3000) :
  Calls Tryz.prog 9 #[.agg #[.slice a l.length c],.slice rb xs.length rc,.int .i64 most] w (OfO Q l xs w):=by
 obtain⟨W0,hW0⟩:∃W0,W0=(w.alloc (.cells #[.slice a l.length c] 33)).alloc (.cells #[.slice none 0 0] 33):=⟨_,rfl⟩
 obtain⟨hB0,hXX⟩:=qGq hW0
 have hs0:W0.heap.size=w.heap.size+1+1:=by rw[hW0];simp
 have HXX:=Lib.hid hXX
 have HB0:=Lib.hid hB0
 have HS0:=Lib.hid hs0
 have HA:Hid (∀V,Below W0.heap.size W0 V→TabR V l a c):=fun V hV=>hA.below (hB0.trans (hV.mono hB0.size))
 have HXr:Hid (∀V,Below W0.heap.size W0 V→IntsR V xs rb rc):=fun V hV=>hX.below (hB0.trans (hV.mono hB0.size))
 have HAw:=Lib.hid hA
 obtain⟨ec,hec⟩:∃r,errB2 (qBu l)=r:=⟨_,rfl⟩
 have HChk:Hid (∀V,Below W0.heap.size W0 V→Calls Tryz.prog 19 #[.agg #[.slice a l.length c]] V fun e w'=>e=.returned (.int .i64 ec)∧Below V.heap.size V w'):=fun V hV=>RCheck_any l a c ec V (HA.out V hV) hlen hec
 have HErr:Hid (∀(V:World) (er:Int),¬er=0→Below W0.heap.size W0 V→OfO Q l xs w (.returned (.tuple #[.agg #[.slice none 0 0],.slice none 0 0,.int .i64 er])) (V.setCell ⟨w.heap.size+1,0,none⟩ (.slice none 0 0))):=fun V er he hV=>⟨qAw (hB0.trans (hV.mono hB0.size)) (by omega),.inr ⟨er,he,rfl⟩⟩
 have hxm:xs.length≤9223372036854775807:=by omega
 have hlm:l.length≤9223372036854775807:=by omega
 obtain⟨i0,hi_,hz0,hz1,hz2⟩:=info_parts info_int
 obtain⟨⟨x0,xz⟩,hrb⟩:=hXX _ (Below.refl _ _)
 have HOk:=Lib.hid hA.ok
 clear hA hX hB0 hXX hs0 hrb
 rw[hW0] at x0 xz
 go_enter Tryz.func9,Tryz.ntmps9
 go_wp2_with fail
 rw[←hW0] at x0 xz
 rw[←hW0]
 clear hW0
 refine(HChk.out _ (Below.refl _ _)).mono ?_
 rintro e w1 ⟨rfl,hb1⟩
 have HB1:Hid (Below W0.heap.size W0 w1):=hb1
 clear hb1 x0 xz
 obtain⟨⟨x0,xz⟩,hrb⟩:=HXX.out w1 HB1.out
 obtain⟨y0,yf,yz⟩:=qA6 hrb
 have HRb:=Lib.hid hrb
 clear hrb
 by_cases hmay:qBu l=true
 rotate_left
 ·have hec2:ec=2:=by rw[←hec,Bool.eq_false_iff.2 hmay];rfl
  subst hec2
  have HE:=Lib.hid (HErr.out w1 2 (by decide) HB1.out)
  clear hmay hec
  go_wp2_with fail
  refine bodyPost_ret (qA4 rfl _ _ (w.heap.size+1) _ _ _ _ rfl (qAf HRb.out) Tryz.underlying33 rfl qA3) rfl ?_
  exact HE.out
 have hec0:ec=0:=by rw[←hec,hmay];rfl
 subst hec0
 have HMay:=Lib.hid hmay
 clear hmay hec
 go_wp2_with fail
 go_loopw [9] (fun i V=>∃k:Nat,k≤xs.length∧i=.int .i64 k∧Hid (Below W0.heap.size W0 V)∧Hid (∀(j:Nat) (x:Int),j<k→xs[j]? = some x→0≤x∧x<(l.length:Int))) (fun i _=>xs.length-(intOf i).toNat)
 case atStart=>exact⟨0,Nat.zero_le _,rfl,HB1,fun j x hj=>absurd hj (Nat.not_lt_zero _)⟩
 case round =>
  clear x0 xz y0 yf yz HRb
  obtain⟨k,hkl,rfl,HV,HIn⟩:=hrel
  obtain⟨⟨x0,xz⟩,hrb⟩:=HXX.out wr HV.out
  obtain⟨y0,yf,yz⟩:=qA6 hrb
  have HRb:=Lib.hid hrb
  clear hrb
  by_cases hlt:k<xs.length
  ·obtain⟨x,hx⟩:∃x,xs[k]? = some x:=⟨_,List.getElem?_eq_getElem hlt⟩
   obtain⟨g,o,rfl,hg,q0⟩:=(HXr.out wr HV.out).cell hx
   have hki:(k:Int)<(xs.length:Int):=by omega
   have hk0:(0:Int)≤(k:Int):=by omega
   by_cases hneg:x<0
   ·have en:decide (x<0)=true:=decide_eq_true hneg
    have HE:Hid (∀q,OfO Q l xs w (.returned (.tuple #[.agg #[.slice none 0 0],.slice none 0 0,.int .i64 2])) ((wr.drewN q).setCell ⟨w.heap.size+1,0,none⟩ (.slice none 0 0))):=fun q=>HErr.out (wr.drewN q) 2 (by decide) (qA1 HV.out)
    have HRq:Hid (∀q,(wr.drewN q).heap[w.heap.size+1]? = some (.cells #[.slice none 0 0] 33 (0,0))):=fun q=>HRb.out
    clear hx hneg
    go_wp2_with fail
    go_quiet (fail)
    go_wp2_with fail
    refine bodyPost_ret (qA4 rfl _ _ (w.heap.size+1) _ _ _ _ rfl (qAf (HRq.out _)) Tryz.underlying33 rfl qA3) rfl ?_
    exact HE.out _
   have en:decide (x<0)=false:=decide_eq_false hneg
   by_cases hge:(l.length:Int)≤x
   ·have eg:decide ((l.length:Int)≤x)=true:=decide_eq_true hge
    have HE:Hid (∀q,OfO Q l xs w (.returned (.tuple #[.agg #[.slice none 0 0],.slice none 0 0,.int .i64 2])) ((wr.drewN q).setCell ⟨w.heap.size+1,0,none⟩ (.slice none 0 0))):=fun q=>HErr.out (wr.drewN q) 2 (by decide) (qA1 HV.out)
    have HRq:Hid (∀q,(wr.drewN q).heap[w.heap.size+1]? = some (.cells #[.slice none 0 0] 33 (0,0))):=fun q=>HRb.out
    clear hx hneg hge
    go_wp2_with fail
    go_quiet (fail)
    go_wp2_with fail
    refine bodyPost_ret (qA4 rfl _ _ (w.heap.size+1) _ _ _ _ rfl (qAf (HRq.out _)) Tryz.underlying33 rfl qA3) rfl ?_
    exact HE.out _
   have eg:decide ((l.length:Int)≤x)=false:=decide_eq_false hge
   have HIn2:Hid (∀(j:Nat) (y:Int),j<k+1→xs[j]? = some y→0≤y∧y<(l.length:Int)):=fun j y hj hy=>by
    by_cases hjk:j<k
    ·exact HIn.out j y hjk hy
    ·obtain rfl:j=k:=by omega
     rw[hx] at hy
     obtain rfl:=Option.some.inj hy
     omega
   clear hx hneg hge
   go_wp2_with fail
   go_quiet (fail)
   go_wp2_with fail
   go_roundw
   case rel=>exact⟨k+1,by omega,by go_num,qA1 HV.out,HIn2⟩
   case measure=>simp[intOf];omega
  obtain rfl:k=xs.length:=by omega
  have hkn:¬(xs.length:Int)<(xs.length:Int):=by omega
  have HFit:Hid (Calls Tryz.prog 20 #[.agg #[.slice a l.length c]] wr fun e w'=>e=.returned (.bool (fitB l))∧Below wr.heap.size wr w'):=qT0 l HMay.out HOk.out hlen a c wr (HA.out wr HV.out)
  obtain⟨fb,hfb⟩:∃b,fitB l=b:=⟨_,rfl⟩
  rw[hfb] at HFit
  have HFb:=Lib.hid hfb
  clear hfb
  go_wp2_with fail
  refine HFit.out.mono ?_
  rintro e w2 ⟨rfl,hb2⟩
  have HB2:Hid (Below W0.heap.size W0 w2):=HV.out.trans (hb2.mono HV.out.size)
  clear hb2 x0 xz y0 yf yz HRb HFit
  obtain⟨⟨x0,xz⟩,hrb⟩:=HXX.out w2 HB2.out
  obtain⟨y0,yf,yz⟩:=qA6 hrb
  have HRb:=Lib.hid hrb
  clear hrb
  cases fb with
  | false =>
   have HE:=Lib.hid (HErr.out w2 33 (by decide) HB2.out)
   go_wp2_with fail
   refine bodyPost_ret (qA4 rfl _ _ (w.heap.size+1) _ _ _ _ rfl (qAf HRb.out) Tryz.underlying33 rfl qA3) rfl ?_
   exact HE.out
  | true =>
  go_wp2_with fail
  refine(qO2 w2).mono ?_
  rintro e w3 ⟨rfl,hT3,hb3⟩
  have HB3:Hid (Below W0.heap.size W0 w3):=HB2.out.trans (hb3.mono HB2.out.size)
  have hT3':=hT3
  have hb0:Hid (w2.heap.size+1<w3.heap.size):=by
   obtain⟨g,o,e,hg,_⟩:=hT3'.node (k:=0) (n:=trueN) rfl
   cases e;exact hg
  have HT3:=Lib.hid hT3
  clear hT3 hb3 hT3' x0 xz y0 yf yz HRb
  obtain⟨⟨x0,xz⟩,hrb⟩:=HXX.out w3 HB3.out
  clear hrb
  go_wp2_with fail
  refine qPk ?_
  intro W4 hW4
  have hB4:Below w3.heap.size w3 W4:=by rw[hW4];exact(Below.refl _ _).alloc (Nat.le_refl _) _
  obtain⟨t,h4⟩:∃t,W4.heap[w3.heap.size]? = some (.cells #[.slice (some ⟨w2.heap.size+1,0,none⟩) 2 2,.slice none 0 0] t (0,0)):=⟨_,by rw[hW4];exact heap_alloc_new w3 _⟩
  have HB4:=Lib.hid hB4
  have H4:=Lib.hid h4
  clear hW4 hB4 h4 x0 xz
  go_loopw [11] (fun i V=>∃(k:Nat) (ia:Option Addr) (ic:Nat),k≤l.length∧i=.int .i64 k∧Hid (Below w3.heap.size w3 V)∧Hid (V.heap[w3.heap.size]? = some (.cells #[.slice (some ⟨w2.heap.size+1,0,none⟩) 2 2,.slice ia k ic] t (0,0)))∧Hid (V.ownsRow (w3.heap.size+1) 3 1 (.slice ia k ic) k (List.replicate k (.int .i64 (-1))))) (fun i _=>l.length-(intOf i).toNat)
  case atStart=>exact⟨0,none,0,Nat.zero_le _,rfl,HB4,H4,World.ownsRow_nil _ _ _ _⟩
  case round =>
   rename World=>U
   obtain⟨k,ia,ic,hkl2,rfl,HV2,HBx,HR⟩:=hrel
   have HVw:Hid (Below W0.heap.size W0 U):=HB3.out.trans (HV2.out.mono HB3.out.size)
   obtain⟨⟨x0,xz⟩,hrb⟩:=HXX.out U HVw.out
   clear hrb
   have k1:U.cell? ⟨w3.heap.size,1,none⟩=some (.slice ia k ic):=(cell_of_row _ _ 1 _ _ _ HBx.out).trans rfl
   have kz:w3.heap.size<U.heap.size:=(Array.getElem?_eq_some_iff.1 HBx.out).1
   by_cases hlt:k<l.length
   ·have hki:(k:Int)<(l.length:Int):=by omega
    have hrow:U.ownsRow (w3.heap.size+1) 3 1 (.slice ia k ic) k (List.replicate k (.int .i64 (-1))):=HR.out
    have HPush:Hid (∀(g9 c9:Nat) (w9:World) (ob:Obj),w9.ownsRow (w3.heap.size+1) 3 1 (.slice (some ⟨g9,0,none⟩) (k+1) c9) (k+1) (List.replicate k (.int .i64 (-1))++[.int .i64 (-1)])→(U.alloc ob).grownBy w9 (Value.slice ia k ic).ownBlock→w9.heap[w3.heap.size]? = some (.cells #[.slice (some ⟨w2.heap.size+1,0,none⟩) 2 2,.slice ia k ic] t (0,0))∧Below w3.heap.size w3 (w9.setCell ⟨w3.heap.size,1,none⟩ (.slice (some ⟨g9,0,none⟩) (k+1) c9))∧(w9.setCell ⟨w3.heap.size,1,none⟩ (.slice (some ⟨g9,0,none⟩) (k+1) c9)).heap[w3.heap.size]? = some (.cells #[.slice (some ⟨w2.heap.size+1,0,none⟩) 2 2,.slice (some ⟨g9,0,none⟩) (k+1) c9] t (0,0))∧(w9.setCell ⟨w3.heap.size,1,none⟩ (.slice (some ⟨g9,0,none⟩) (k+1) c9)).ownsRow (w3.heap.size+1) 3 1 (.slice (some ⟨g9,0,none⟩) (k+1) c9) (k+1) (List.replicate (k+1) (.int .i64 (-1)))):=fun g9 c9 w9 ob ho hg=>by
     have hb9:=qFi (Nat.le_succ _) HV2.out hrow hg
     have hx9:w9.heap[w3.heap.size]? = some (.cells #[.slice (some ⟨w2.heap.size+1,0,none⟩) 2 2,.slice ia k ic] t (0,0)):=by
      refine(hg.block _ (by rw[World.size_alloc];omega) (fun e=>by have:=(qD7 hrow e.symm).1;omega)).trans ?_
      exact(Below.heap_alloc _ _ _ kz).trans HBx.out
     refine⟨hx9,hb9.setCell (p:=⟨w3.heap.size,1,none⟩) (Nat.le_refl _) _,(heap_setCell_same _ _ 1 _ _ _ hx9).trans rfl,?_⟩
     rw[List.replicate_succ']
     exact qEb ho fun g hg=>Below.heap_setCell _ _ _ _ (fun e=>by have:=(qD7 ho hg).1;simp only at e;omega)
    have HSz:Hid (w3.heap.size+1≤U.heap.size):=kz
    go_wp2_with (at_builtin;refine wpList_append_lies _ rfl _ _ 27 rfl (w3.heap.size+1) 3 i0 _ 1 8 Tryz.underlying27 hi_ hz0 hz1 hz2 rfl (by decide) (Value.slice ia k ic) k (List.replicate k (.int .i64 (-1))) (by rfl) (hrow.alloc _) ⟨U.heap.size,0,none⟩ 1 1 [.int .i64 (-1)] (by rfl) rfl (World.news_of_block (B:=U.heap.size) (cs:=#[.int .i64 (-1)]) (t:=3) (fr:=(0,0)) (heap_alloc_new U _)) (by simp[Value.oneCell']) (by omega) (by simp only[maxLen];omega) (by omega) (by have:=HSz.out;simp;omega) _ rfl ?_)
    intro g9 c9 w9 hown9 hgrow9 hat9 hlt9
    have HP9:=Lib.hid (HPush.out _ _ _ _ hown9 hgrow9)
    have k9:w9.cell? ⟨w3.heap.size,1,none⟩=some (.slice ia k ic):=(cell_of_row _ _ 1 _ _ _ HP9.out.1).trans rfl
    have f9:w9.frozen? ⟨w3.heap.size,1,none⟩=false:=by simp[World.frozen?,HP9.out.1]
    have z9:w3.heap.size<w9.heap.size:=(Array.getElem?_eq_some_iff.1 HP9.out.1).1
    clear hown9 hgrow9 hat9 hlt9
    go_wp2_with fail
    go_roundw
    case rel=>exact⟨k+1,some ⟨g9,0,none⟩,c9,by omega,by go_num,HP9.out.2.1,HP9.out.2.2.1,HP9.out.2.2.2⟩
    case measure=>simp[intOf];omega
   obtain rfl:k=l.length:=by omega
   have hl2:=qE3 HMay.out
   rcases HR.out.2 with⟨e,_⟩|⟨I,cap,cur,e,hI1,hI2,hI3,hI4,hI5,hI6⟩
   ·exfalso
    injection e with _ e2 _
    omega
   cases e
   have hF:WkF U w3.heap.size I ⟨qE9,0⟩ (List.replicate l.length (-1)) (some ⟨w2.heap.size+1,0,none⟩) 2 ic cur t:=⟨by rw[List.length_replicate];exact HBx.out,hI2,by rw[List.length_replicate,List.map_replicate];simpa using hI6,by rw[List.length_replicate];exact hI3,hI4,⟨HT3.out.below HV2.out,fun _ _ e=>by cases e;rfl⟩,by omega⟩
   have hS:WkS Q l ⟨qE9,0⟩ (List.replicate l.length (-1)):=⟨hQ0,zAm,rfl,fun x hx=>.inl (List.eq_of_mem_replicate hx),List.length_replicate⟩
   have HW0:Hid (WkS Q l ⟨qE9,0⟩ (List.replicate l.length (-1))∧WkD U w3.heap.size I ⟨qE9,0⟩ (List.replicate l.length (-1))):=⟨hS,_,_,_,_,_,hF⟩
   have hIU:=hF.cells.2.2.2.2
   have hUw:w.heap.size+1+1≤w3.heap.size:=by rw[←HS0.out];exact HB3.out.size
   have hW0w:W0.heap.size≤w3.heap.size:=HB3.out.size
   have HFit2:Hid (∀n∈l,WsN l n):=fun n hn=>by
    obtain⟨j,hj⟩:=List.getElem?_of_mem hn
    exact zAl (ok_at (mayT_ok HMay.out).2 hj).1 (List.all_eq_true.1 HFb.out n hn)
   have HAg:Hid (∀g o,a=some ⟨g,o,none⟩→g<W0.heap.size):=fun g o e=>by
    obtain⟨g',o',e',hg',_⟩:=(HA.out W0 (Below.refl _ _)).node (List.getElem?_eq_getElem (show 0<l.length by omega))
    rw[e] at e'
    cases e'
    exact hg'
   have hQ:=hQ' HMay.out HFit2.out
   have HWalk:Hid (∀(id:Nat),id<l.length→∀(V:World) (s:MkS) (im:List Int),WkS Q l s im→WkD V w3.heap.size I s im→TabR V l a c→Calls Tryz.prog 21 #[.pointer (some ⟨w3.heap.size,0,none⟩),.agg #[.slice a l.length c],.int .i64 id,.int .i64 most] V (qHa Q most l w3.heap.size I im id V)):=fun id hid V s im h1 h2 h3=>qQ7 hQ hQW hm HMay.out HOk.out hlen HFit2.out a c w3.heap.size I (fun g o e=>by have:=HAg.out g o e;exact⟨by omega,by omega⟩) (id+1) id (Nat.lt_succ_self _) hid V s im h1 h2 h3
   have HUT:Hid (TabR U l a c):=HA.out U HVw.out
   have HTab:Hid (∀V,Kp (Oth U.heap.size w3.heap.size I) U V→TabR V l a c):=fun V hV=>qVl HUT.out hV fun g o e=>by
    have:=HAg.out g o e
    exact⟨by omega,by omega,by omega⟩
   have HBX:Hid (∀V,Kp (Oth U.heap.size w3.heap.size I) U V→V.cell? ⟨w.heap.size,0,none⟩=some (.slice a l.length c)):=fun V hV=>(hV.cell (b:=w.heap.size) ⟨by omega,by omega,by omega⟩).trans x0
   have HRes:Hid (∀V,Kp (Oth U.heap.size w3.heap.size I) U V→V.heap[w.heap.size+1]? = some (.cells #[.slice none 0 0] 33 (0,0))):=fun V hV=>(hV.keep (w.heap.size+1) ⟨by omega,by omega,by omega⟩).trans (HXX.out U HVw.out).2
   have HRt:Hid (∀(k:Nat) (x:Int),xs[k]? = some x→∃g o:Nat,rb=some ⟨g,o,none⟩∧∀V,Kp (Oth U.heap.size w3.heap.size I) U V→V.cell? ⟨g,o+k,none⟩=some (.int .i64 x)):=fun k x hx=>by
    obtain⟨g,o,e,hg,hc⟩:=(HXr.out W0 (Below.refl _ _)).cell hx
    obtain⟨g',o',e',_,hc'⟩:=(HXr.out U HVw.out).cell hx
    rw[e] at e'
    cases e'
    exact⟨g,o,e,fun V hV=>(hV.cell (b:=g) ⟨by omega,by omega,by omega⟩).trans hc'⟩
   have HXI:Hid (w3.heap.size<U.heap.size∧I<U.heap.size∧w.heap.size≤w3.heap.size∧w.heap.size≤I):=⟨kz,hIU,by omega,by omega⟩
   have HUw:Hid (Below w.heap.size w U):=HB0.out.trans (HVw.out.mono HB0.out.size)
   have hkn2:¬(l.length:Int)<(l.length:Int):=by omega
   have HBw:Hid (∀V,Kp (Oth U.heap.size w3.heap.size I) U V→Below w.heap.size w V):=fun V hV=>HUw.out.trans (hV.below (by have:=HUw.out.size;omega) (fun k hk=>⟨by have:=HUw.out.size;omega,by omega,by omega⟩))
   clear hF hS hIU hUw hW0w hI1 hI2 hI3 hI4 hI5 hI6 hQ hQ' hQW hQ0
   go_wp2_with fail
   clear x0 xz k1 kz
   go_loopw [12,13] (fun v i V=>∃(k:Nat) (oa:Option Addr) (oc:Nat) (s:MkS) (im:List Int),k≤xs.length∧i=.int .i64 k∧v=.slice oa k oc∧Hid (Kp (Oth U.heap.size w3.heap.size I) U V)∧Hid (WkS Q l s im∧WkD V w3.heap.size I s im)∧Hid (∀(j:Nat) (x:Int),j<k→xs[j]? = some x→¬imA im x=-1)∧Hid (V.ownsRow U.heap.size 3 1 (.slice oa k oc) k (((xs.take k).map (imA im)).map (Value.int .i64)))∧Hid (k=0→(Value.slice oa k oc)=.slice none 0 0)) (fun _ i _=>xs.length-(intOf i).toNat)
   case atStart=>exact⟨0,none,0,_,_,Nat.zero_le _,rfl,rfl,Kp.refl _ _,HW0,fun j x hj=>absurd hj (Nat.not_lt_zero _),World.ownsRow_nil _ _ _ _,fun _=>rfl⟩
   case round =>
    obtain⟨k,oa,oc,s',im',hkl3,rfl,rfl,HK,HW,HNs,HRo,HZ⟩:=hrel
    have x0:=HBX.out _ HK.out
    have xz:w.heap.size<wr.heap.size:=by have:=HK.out.size;have:=HXI.out;omega
    by_cases hlt:k<xs.length
    ·obtain⟨x,hx⟩:∃x,xs[k]? = some x:=⟨_,List.getElem?_eq_getElem hlt⟩
     obtain⟨hx0,hx1⟩:=HIn.out k x hlt hx
     obtain⟨tt,rfl⟩:∃t:Nat,x=(t:Int):=⟨x.toNat,by omega⟩
     obtain⟨gr,gro,rfl,hrt⟩:=HRt.out k _ hx
     have qa:=hrt _ HK.out
     have HQa:=Lib.hid hrt
     have hki:(k:Int)<(xs.length:Int):=by omega
     have hk0:(0:Int)≤(k:Int):=by omega
     have hti:(tt:Int)<(l.length:Int):=by omega
     have ht0:(0:Int)≤(tt:Int):=by omega
     have HC:Hid (Calls Tryz.prog 21 #[.pointer (some ⟨w3.heap.size,0,none⟩),.agg #[.slice a l.length c],.int .i64 tt,.int .i64 most] wr.drew (qHa Q most l w3.heap.size I im' tt wr.drew)):=HWalk.out tt (by omega) _ s' im' HW.out.1 HW.out.2.drew (HTab.out _ HK.out.drew)
     have HXk:=Lib.hid hx
     clear hx hx0 hx1 hrt
     go_wp2_with fail
     go_region_held3 (fun V=>V.cell? ⟨w.heap.size,0,none⟩=some (.slice a l.length c)∧V.cell? ⟨gr,gro+k,none⟩=some (.int .i64 tt))
      (first|exact⟨x0,qa⟩|exact⟨HBX.out _ HK.out.drew,HQa.out _ HK.out.drew⟩|exact⟨HBX.out _ HK2.out,HQa.out _ HK2.out⟩)
      (first|(go_at_call 21;refine HC.out.mono ?_;rintro e w5 hO;obtain⟨er,rfl,hk2,hor⟩:=qN7 hO;have HK2:Hid (Kp (Oth U.heap.size w3.heap.size I) U w5):=HK.out.drew.oth hk2 HK.out.size;have HKs:Hid (Kp (Oth wr.heap.size w3.heap.size I) wr w5):=(show Kp (Oth wr.heap.size w3.heap.size I) wr wr.drew from (Kp.refl _ _).drew).trans hk2;have HOr:=Lib.hid hor;clear hO hk2 hor))
     clear x0 xz qa HC
     have y0:=HBX.out _ HK2.out
     have yz:w.heap.size<w5.heap.size:=by have:=HK2.out.size;have:=HXI.out;omega
     rcases HOr.out with⟨rfl,s2,im2,h1,h2,h3,h4⟩|⟨hne,s2,hf,rfl⟩
     rotate_left
     ·have ene:=qDf hne
      obtain⟨z0,zf,zz⟩:=qA6 (HRes.out _ HK2.out)
      have HE:Hid (OfO Q l xs w (.returned (.tuple #[.agg #[.slice none 0 0],.slice none 0 0,.int .i64 s2.e])) (w5.setCell ⟨w.heap.size+1,0,none⟩ (.slice none 0 0))):=⟨qAw (HBw.out _ HK2.out) (by omega),.inr ⟨s2.e,hne,rfl⟩⟩
      clear hne hf
      go_wp2_with fail
      refine bodyPost_ret (qA4 rfl _ _ (w.heap.size+1) _ _ _ _ rfl (qAf (HRes.out _ HK2.out)) Tryz.underlying33 rfl qA3) rfl ?_
      exact HE.out
     obtain⟨a2,c2,ic2,cur2,t2,hF2⟩:=h2
     have hl2:0<s2.l.length:=by have:=h1.inv.le;omega
     have hle2:=h1.len
     obtain⟨k0,k1,kf,kX,kI⟩:=hF2.cells
     rw[hle2] at k1
     obtain⟨u,hu⟩:∃u,imA im2 tt=u:=⟨_,rfl⟩
     have ki:=(hF2.im (k:=tt) (by omega)).1
     rw[hu] at ki
     have qa:=HQa.out _ HK2.out
     have hrow:w5.ownsRow U.heap.size 3 1 (.slice oa k oc) k (((xs.take k).map (imA im2)).map (Value.int .i64)):=by
      rw[qX6 HIn.out hkl3 HNs.out h3]
      exact qVm HRo.out HKs.out (Nat.le_refl _) HXI.out.1 HXI.out.2.1
     have HNs2:Hid (∀(j:Nat) (x:Int),j<k+1→xs[j]? = some x→¬imA im2 x=-1):=fun j x hj hx=>by
      by_cases hjk:j<k
      ·rw[h3 x (HIn.out j x (by omega) hx).1 (HNs.out j x hjk hx)]
       exact HNs.out j x hjk hx
      ·obtain rfl:j=k:=by omega
       have:=HXk.out
       rw[hx] at this
       obtain rfl:=Option.some.inj this
       exact h4
     have HE:Hid (((xs.take (k+1)).map (imA im2)).map (Value.int .i64)=((xs.take k).map (imA im2)).map (Value.int .i64)++[.int .i64 u]):=by
      show _=_
      rw[List.take_add_one,HXk.out,List.map_append,List.map_append,←hu];rfl
     have HPush:Hid (∀(w9:World) (ob:Obj),(w5.alloc ob).drew.grownBy w9 (Value.slice oa k oc).ownBlock→Kp (Oth U.heap.size w3.heap.size I) U w9∧WkD w9 w3.heap.size I s2 im2):=fun w9 ob hg9=>⟨HK2.out.oth (qDj (qN8 hrow HK2.out.size hg9)) (Nat.le_refl _),⟨a2,c2,ic2,cur2,t2,hF2.push hl2 hrow HZ.out HXI.out.1 HXI.out.2.1 hg9⟩⟩
     have HW2:Hid (WkS Q l s2 im2):=h1
     have HSz:Hid (U.heap.size≤w5.heap.size):=HK2.out.size
     have hrow':=hrow
     clear hF2 h1 h3 h4 hl2 hle2 hu HOr hrow
     go_wp2_with fail
     go_region_law (refine step_append_lies _ rfl (.tmp 82) (.tmp 93) 27 rfl U.heap.size 3 i0 _ 1 8 Tryz.underlying27 hi_ hz0 hz1 hz2 rfl (by decide) (Value.slice oa k oc) k (((xs.take k).map (imA im2)).map (Value.int .i64)) (by rfl) (hrow'.alloc _) ⟨w5.heap.size,0,none⟩ 1 1 [.int .i64 u] (by rfl) rfl (World.news_of_block (B:=w5.heap.size) (cs:=#[.int .i64 u]) (t:=3) (fr:=(0,0)) (heap_alloc_new w5 _)) (by simp[Value.oneCell']) (by omega) (by simp only[maxLen];omega) (by omega) (by have:=HSz.out;simp;omega) _ rfl ?_;intro g9 c9 w9 hown9 hgrow9 hat9 hlt9;have HP9:=Lib.hid (HPush.out _ _ hgrow9);have HO9:=Lib.hid hown9;clear hown9 hgrow9 hat9 hlt9)
     all_goals
      go_wp2_with fail
      go_roundw
      case rel=>exact⟨k+1,some ⟨g9,0,none⟩,c9,s2,im2,by omega,by go_num,rfl,HP9.out.1,⟨HW2.out,HP9.out.2⟩,HNs2,by rw[HE.out];exact HO9.out,fun e=>absurd e (Nat.succ_ne_zero _)⟩
      case measure=>simp[intOf];omega
    ·obtain rfl:k=xs.length:=by omega
     obtain⟨a2,c2,ic2,cur2,t2,hF2⟩:=HW.out.2
     have hl2:0<s'.l.length:=by have:=HW.out.1.inv.le;omega
     obtain⟨k0,k1,kf,kX,kI⟩:=hF2.cells
     have hres:=HRes.out _ HK.out
     obtain⟨z0,zf,zz⟩:=qA6 hres
     have hrow:=HRo.out
     rw[List.take_of_length_le (Nat.le_refl _)] at hrow
     have hall:∀x∈xs,(0≤x∧x<(l.length:Int))∧¬imA im' x=-1:=fun x hx=>by
      obtain⟨j,hj⟩:=List.getElem?_of_mem hx
      have hjl:=(List.getElem?_eq_some_iff.1 hj).1
      exact⟨HIn.out j x hjl hj,HNs.out j x hjl hj⟩
     have HE:Hid (OfO Q l xs w (.returned (.tuple #[.agg #[.slice a2 s'.l.length c2],.slice oa xs.length oc,.int .i64 0])) (wr.setCell ⟨w.heap.size+1,0,none⟩ (.slice a2 s'.l.length c2))):=by
      refine⟨qAw (HBw.out _ HK.out) (by omega),.inl ⟨s',im',a2,c2,oa,oc,rfl,HW.out.1,hF2.tab.setBox hl2 hres,?_,hall,HMay.out,HFit2.out⟩⟩
      have hr2:=qEb (w':=wr.setCell ⟨w.heap.size+1,0,none⟩ (.slice a2 s'.l.length c2)) hrow fun g hg=>Below.heap_setCell _ _ _ _ (fun e=>by
       have h1:=(qD7 hrow hg).1
       have h2:=(qA6 (HRes.out U (Kp.refl _ _))).2.2
       simp only at e
       omega)
      refine qN2 (base:=U.heap.size) (by rw[List.length_map];exact hr2) fun x hx=>?_
      obtain⟨y,hy,rfl⟩:=List.mem_map.1 hx
      exact(HW.out.1.imp.at (hall y hy).2).i64 HW.out.1.inv.len
     have HRs:=Lib.hid hres
     have hkn3:¬(xs.length:Int)<(xs.length:Int):=by omega
     clear hF2 hl2 hres hrow hall
     go_wp2_with fail
     refine bodyPost_ret (qA4 rfl _ _ (w.heap.size+1) _ _ _ _ rfl (qAf HRs.out) Tryz.underlying33 rfl qA3) rfl ?_
     exact HE.out
end Go.Proofs.YtfgpimhdjlmapaaGreatDoor.Tm
