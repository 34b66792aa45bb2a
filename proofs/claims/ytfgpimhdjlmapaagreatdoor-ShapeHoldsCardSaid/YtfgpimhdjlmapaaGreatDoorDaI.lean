/- The document's same and equal. -/
import Derived.Deep.AppendLies
import Derived.Laws.CopyOwn
import Derived.Deep.LoopGhost
import Derived.Laws.MakeOwn
import Derived.Laws.EntriesVeiled
import Derived.Test.YtfgpimhdjlmapaaGreatDoorDaF
import Derived.Test.YtfgpimhdjlmapaaGreatDoorHdR
namespace Go.Proofs.YtfgpimhdjlmapaaGreatDoor.Tm
open Go.RowKit
set_option linter.unusedVariables false
set_option maxRecDepth 100000
def qGk (op:Int) (ids:List Int) (k:Nat) (sr:Int):NodeA:=⟨op,ids.length,if 0<k then ids.getD 0 0 else 0,if 1<k then ids.getD 1 0 else 0,if 2<k then ids.getD 2 0 else 0,sr,0,0⟩
structure PgR (B:Nat) (W1 wr:World) (nd:NodeA) (v:Value) (k:Nat) (L:List Int):Prop where
 bl:Below B W1 wr
 box:wr.heap[B]? = some (.cells #[.int .i8 nd.op,.int .i8 nd.len,.int .i64 nd.a0,.int .i64 nd.a1,.int .i64 nd.a2,.int .i64 nd.sort,.int .i64 nd.fn,.int .i64 nd.num] 54 (0,0))
 row:wr.ownsRow (B+1) 3 1 v k (L.map (Value.int .i64))
theorem PgR.put {B:Nat} {W1 wr:World} {op:Int} {ids:List Int} {k:Nat} {sr:Int} {v:Value} {L:List Int} (h:PgR B W1 wr (qGk op ids k sr) v k L) (hk:k<3) {x:Int} (hx:ids.getD k 0=x):PgR B W1 (wr.setCell ⟨B,2+k,none⟩ (.int .i64 x)) (qGk op ids (k+1) sr) v k L:=by
 refine⟨h.bl.setCell (p:=⟨B,2+k,none⟩) (Nat.le_refl _) _,?_,?_⟩
 ·refine Eq.trans (heap_setCell_same wr B (2+k) _ _ _ h.box) ?_
  subst hx
  have hc:k=0∨k=1∨k=2:=by omega
  rcases hc with rfl|rfl|rfl<;>rfl
 ·refine qEb h.row fun g hg=>?_
  have:=(qD7 h.row hg).1
  exact Below.heap_setCell _ _ _ _ (fun e=>by simp only at e;omega)
theorem PgR.sort {B:Nat} {W1 wr:World} {op:Int} {ids:List Int} {k m:Nat} {sr:Int} {v:Value} {L:List Int} (h:PgR B W1 wr (qGk op ids k 0) v m L):PgR B W1 (wr.setCell ⟨B,5,none⟩ (.int .i64 sr)) (qGk op ids k sr) v m L:=by
 refine⟨h.bl.setCell (p:=⟨B,5,none⟩) (Nat.le_refl _) _,?_,?_⟩
 ·refine Eq.trans (heap_setCell_same wr B 5 _ _ _ h.box) ?_
  rfl
 ·refine qEb h.row fun g hg=>?_
  have:=(qD7 h.row hg).1
  exact Below.heap_setCell _ _ _ _ (fun e=>by simp only at e;omega)
theorem PgR.up {B:Nat} {W1 wr V:World} {nd:NodeA} {v:Value} {k:Nat} {L:List Int} (h:PgR B W1 wr nd v k L) (hB:W1.heap.size=B) (hV:Below wr.heap.size wr V):PgR B W1 V nd v k L:=by
 subst hB
 exact⟨qA5 h.bl hV,(hV.block _ (Array.getElem?_eq_some_iff.1 h.box).1).trans h.box,qEb h.row fun g hg=>hV.block _ (qD7 h.row hg).2⟩
theorem PgR.push {B:Nat} {W1 wr w9:World} {nd:NodeA} {v:Value} {k:Nat} {L:List Int} (h:PgR B W1 wr nd v k L) (hB:W1.heap.size=B) {o:Obj} {g9 c9:Nat} {y:Int} (hown:w9.ownsRow (B+1) 3 1 (.slice (some ⟨g9,0,none⟩) (k+1) c9) (k+1) (L.map (Value.int .i64)++[.int .i64 y])) (hg:(wr.drew.alloc o).grownBy w9 v.ownBlock):PgR B W1 w9 nd (.slice (some ⟨g9,0,none⟩) (k+1) c9) (k+1) (L++[y]):=by
 subst hB
 have hb:=qFi (V:=wr.drew) (by omega:W1.heap.size≤W1.heap.size+1) h.bl.drew (show wr.drew.ownsRow (W1.heap.size+1) 3 1 v k (L.map (Value.int .i64)) from h.row) hg
 refine⟨hb,?_,by rw[List.map_append];exact hown⟩
 have hlt:=(Array.getElem?_eq_some_iff.1 h.box).1
 have h2:=hg.block W1.heap.size (by rw[World.size_alloc];show W1.heap.size<wr.heap.size+1;omega) (fun e=>by have:=(qD7 h.row e.symm).1;omega)
 refine h2.trans ((Below.heap_alloc wr.drew o _ ?_).trans h.box)
 exact hlt
theorem qN6 (l:List Int):l.flatMap qFb=l.map (Value.int .i64):=by
 induction l with
 | nil=>rfl
 | cons x r ih=>rw[List.flatMap_cons,ih];rfl
set_option maxHeartbeats 8000000 in
theorem qEe {s:MkS} (hI:MkI s) (h0:s.e=0) (most:Int) (hm:most≤2000) (op:Int) (hop:I8 op) (ids:List Int) (hl1:1≤ids.length) (hl3:ids.length≤3) (hp:∀i∈ids,PlA s i) (sr:Int) (hE:opE op (ids.map (srt s.l))=0) (hV:opV op (ids.map (srt s.l))=sr) (hst:standsB (qGk op ids 3 sr) s.l.length=true) (a:Option Addr) (c:Nat) (b:Option Addr) (d:Nat) (w:World) (hA:TabN w s.l a c) (hX:IntsR w ids b d) :
  Calls Tryz.prog 50 #[.agg #[.slice a s.l.length c],.int .i8 op,.slice b ids.length d,.int .i64 most] w (qB4 w (qAq most s (qGk op ids 3 sr))):=by
 obtain⟨W1,hW1⟩:∃W1,W1=(w.alloc (.cells #[.slice a s.l.length c] 33)).alloc (.cells #[.slice none 0 0] 33):=⟨_,rfl⟩
 obtain⟨hB1,hXX⟩:=qGq hW1
 have hs1:W1.heap.size=w.heap.size+1+1:=by rw[hW1];simp
 obtain⟨W2,hW2⟩:∃W2,W2=W1.alloc (.cells #[.int .i8 op,.int .i8 ids.length,.int .i64 0,.int .i64 0,.int .i64 0,.int .i64 0,.int .i64 0,.int .i64 0] 54):=⟨_,rfl⟩
 have hP2:PgR (w.heap.size+1+1) W1 W2 (qGk op ids 0 0) (.slice none 0 0) 0 ((ids.map (srt s.l)).take 0):=by
  rw[hW2,←hs1]
  exact⟨(Below.refl _ _).alloc (Nat.le_refl _) _,heap_alloc_new W1 _,World.ownsRow_nil _ _ _ _⟩
 have hlen:=hI.len
 have hcap:=hA.le
 have hxc:=hX.le
 have HA:Hid (∀V,Below W1.heap.size W1 V→TabN V s.l a c):=fun V hV=>hA.below (hB1.trans (hV.mono hB1.size))
 have HX:Hid (∀V,Below W1.heap.size W1 V→IntsR V ids b d):=fun V hV=>hX.below (hB1.trans (hV.mono hB1.size))
 have HOp:Hid (∀V (la:Option Addr) (lc:Nat),At V V.heap.size ((ids.map (srt s.l)).map (Value.int .i64)) la→Calls Tryz.prog 32 #[.int .i8 op,.slice la ids.length lc] V fun e w'=>e=.returned (.tuple #[.int .i64 sr,.int .i64 0])∧Below V.heap.size V w'):=fun V la lc hat=>by
  have:=_root_.Go.Proofs.YtfgpimhdjlmapaaGreatDoor.Op_any op (ids.map (srt s.l)) la lc sr 0 V (by rw[qN6];exact hat) (by simpa using hl3) hV hE
  rw[List.length_map] at this;exact this
 obtain⟨q,hq⟩:∃q,qGk op ids 3 sr=q:=⟨_,rfl⟩
 rw[hq] at hst ⊢
 have HPut:Hid (∀V,Below W1.heap.size W1 V→Calls Tryz.prog 55 #[.agg #[.slice a s.l.length c],.agg #[.int .i8 q.op,.int .i8 q.len,.int .i64 q.a0,.int .i64 q.a1,.int .i64 q.a2,.int .i64 q.sort,.int .i64 q.fn,.int .i64 q.num],.int .i64 most] V (qB4 V (qAq most s q))):=fun V hV=>qEu hI h0 most hm _ hst a c V (HA.out V hV)
 have HL:Hid ((qAq most s q).1.e=0→0<(qAq most s q).1.l.length):=fun _=>by
  have:=(qB8 (most:=most) hI hm (qCh hst hI.len) (fun _=>hst)).inv.le
  omega
 have HIds:Hid (∀(j:Nat) (x:Int),ids[j]? = some x→PlA s x):=fun j x hx=>hp x (List.mem_of_getElem? hx)
 have hw8:IntKind.wrap .i8 (ids.length:Int)=ids.length:=by
  have hc:ids.length=1∨ids.length=2∨ids.length=3:=by omega
  rcases hc with e|e|e<;>rw[e]<;>rfl
 have HB1:=Lib.hid hB1
 have HXX:=Lib.hid hXX
 have HP2:=Lib.hid hP2
 have HS1:=Lib.hid hs1
 have HW2:=Lib.hid hW2
 have HW1:=Lib.hid hW1
 have hlm:ids.length≤9223372036854775807:=by omega
 have hllm:s.l.length≤9223372036854775807:=by omega
 obtain⟨i0,hi_,hz0,hz1,hz2⟩:=info_parts info_int
 have HQ:=Lib.hid hq
 clear hA hX hXX hB1 hI h0 hp hE hV hst hs1 hP2 hq
 go_enter Tryz.func50,Tryz.ntmps50
 go_wp2_with fail
 have hW2':((w.alloc (.cells #[.slice a s.l.length c] 33)).alloc (.cells #[.slice none 0 0] 33)).alloc (.cells #[.int .i8 op,.int .i8 ids.length,.int .i64 0,.int .i64 0,.int .i64 0,.int .i64 0,.int .i64 0,.int .i64 0] 54)=W2:=by rw[HW2.out,HW1.out]
 rw[hW2']
 clear hW2' hW1 hW2
 rw[HS1.out] at HA HX HXX HPut
 go_loopw [12,13] (fun v i wr=>∃(k:Nat) (sa:Option Addr) (sc:Nat),k≤ids.length∧i=.int .i64 k∧v=.slice sa k sc∧Hid (PgR (w.heap.size+1+1) W1 wr (qGk op ids k 0) (.slice sa k sc) k ((ids.map (srt s.l)).take k))) (fun _ i _=>ids.length-(intOf i).toNat)
 case atStart=>exact⟨0,none,0,Nat.zero_le _,rfl,rfl,HP2⟩
 case round =>
  obtain⟨k,sa,sc,hkl,rfl,rfl,HP⟩:=hrel
  obtain⟨⟨x0,xz⟩,hrb⟩:=HXX.out wr HP.out.bl
  by_cases hlt:k<ids.length
  ·obtain⟨x,hx⟩:∃x,ids[k]? = some x:=⟨_,List.getElem?_eq_getElem hlt⟩
   obtain⟨m,rfl,hml⟩:=(HIds.out k x hx).nat
   obtain⟨gi,oi,rfl,hgi,q0⟩:=(HX.out wr HP.out.bl).cell hx
   have qa:wr.cell? ⟨w.heap.size+1+1,2+k,none⟩=some (.int .i64 0):=(qEr HP.out.box k (by omega)).trans (by
    have hc:k=0∨k=1∨k=2:=by omega
    rcases hc with rfl|rfl|rfl<;>rfl)
   have qf:wr.frozen? ⟨w.heap.size+1+1,2+k,none⟩=false:=by simp[World.frozen?,HP.out.box]
   have qz:w.heap.size+1+1<wr.heap.size:=(Array.getElem?_eq_some_iff.1 HP.out.box).1
   have hki:(k:Int)<(ids.length:Int):=by omega
   have hk3:(k:Int)<3:=by omega
   have hk0:(0:Int)≤(k:Int):=by omega
   have hmi:(m:Int)<(s.l.length:Int):=by omega
   have hm0:(0:Int)≤(m:Int):=by omega
   have HP1:Hid (PgR (w.heap.size+1+1) W1 (wr.setCell ⟨w.heap.size+1+1,2+k,none⟩ (.int .i64 (m:Int))) (qGk op ids (k+1) 0) (.slice sa k sc) k ((ids.map (srt s.l)).take k)):=HP.out.put (by omega) (by rw[List.getD_eq_getElem?_getD,hx];rfl)
   have HTk:Hid ((ids.map (srt s.l)).take k++[srt s.l m]=(ids.map (srt s.l)).take (k+1)):=by
    show _=_
    rw[List.take_add_one,List.getElem?_map,hx];rfl
   have HXk:=Lib.hid hx
   clear hrb hx
   go_wp2_with fail
   refine qPk ?_
   intro V1 hV1
   rw[←hV1] at HP1
   clear hV1 x0 xz q0 qa qf qz hgi
   obtain⟨⟨x0,xz⟩,hrb⟩:=HXX.out V1 HP1.out.bl
   obtain⟨gi2,oi2,e2,hgi,q0⟩:=(HX.out V1 HP1.out.bl).cell HXk.out
   cases e2
   obtain⟨g,o,rfl,hg,_,_,_,_,_,q5,_,_⟩:=(HA.out V1 HP1.out.bl).node (nodA_get hml)
   have hv1:w.heap.size+1+1+1≤V1.heap.size:=(Array.getElem?_eq_some_iff.1 HP1.out.box).1
   have hrow:=HP1.out.row
   clear hrb
   rw[List.map_take] at hrow
   go_region_law (refine step_append_lies _ rfl (.tmp 34) (.tmp 44) 27 rfl (w.heap.size+1+1+1) 3 i0 _ 1 8 Tryz.underlying27 hi_ hz0 hz1 hz2 rfl (by decide) (Value.slice sa k sc) k (((ids.map (srt s.l)).map (Value.int .i64)).take k) (by rfl) (hrow.alloc _) ⟨V1.heap.size,0,none⟩ 1 1 [.int .i64 (qAd s.l m).sort] (by rfl) rfl (World.news_of_block (B:=V1.heap.size) (cs:=#[.int .i64 (qAd s.l m).sort]) (t:=3) (fr:=(0,0)) (heap_alloc_new V1 _)) (by simp[Value.oneCell']) (by omega) (by simp only[maxLen];omega) (by omega) (by simp;omega) _ rfl ?_;intro g9 c9 w9 hown9 hgrow9 hat9 hlt9;rw[←List.map_take] at hown9;have HP9:=Lib.hid (HP1.out.push HS1.out (y:=srt s.l m) hown9 hgrow9);clear hown9 hgrow9 hat9 hlt9)
   all_goals
    rw[HTk.out] at HP9
    go_wp2_with fail
    go_roundw
    case rel=>exact⟨k+1,some ⟨g9,0,none⟩,c9,by omega,by go_num,rfl,HP9⟩
    case measure=>simp[intOf];omega
  ·obtain rfl:k=ids.length:=by omega
   have hkn:ids.length=1∨ids.length=2∨ids.length=3:=by omega
   have HP3:Hid (PgR (w.heap.size+1+1) W1 wr (qGk op ids 3 0) (.slice sa ids.length sc) ids.length (ids.map (srt s.l))):=by
    have h:=HP.out
    rw[show (ids.map (srt s.l)).take ids.length=ids.map (srt s.l) by rw[List.take_of_length_le (by simp)]] at h
    have e:qGk op ids ids.length 0=qGk op ids 3 0:=by
     unfold qGk
     rcases hkn with e|e|e
     ·have h1:ids.getD 1 0=0:=by rw[List.getD_eq_getElem?_getD,List.getElem?_eq_none (by omega)];rfl
      have h2:ids.getD 2 0=0:=by rw[List.getD_eq_getElem?_getD,List.getElem?_eq_none (by omega)];rfl
      rw[h1,h2,e];rfl
     ·have h2:ids.getD 2 0=0:=by rw[List.getD_eq_getElem?_getD,List.getElem?_eq_none (by omega)];rfl
      rw[h2,e];rfl
     ·rw[e]
    rw[e] at h
    exact h
   have hrow:=HP3.out.row
   obtain⟨sa',sc',e,h1,h2,h3,-⟩:=own_at (n:=ids.length) hrow
   cases e
   have HAt:=Lib.hid h3
   clear hkn hrow h1 h2 h3 hrb
   go_wp2_with fail
   refine(HOp.out _ _ _ HAt.out).mono ?_
   rintro e w3 ⟨rfl,hb3⟩
   have HP4:Hid (PgR (w.heap.size+1+1) W1 w3 (qGk op ids 3 0) (.slice sa ids.length sc) ids.length (ids.map (srt s.l))):=HP3.out.up HS1.out hb3
   have HP5:Hid (PgR (w.heap.size+1+1) W1 (w3.setCell ⟨w.heap.size+1+1,5,none⟩ (.int .i64 sr)) q (.slice sa ids.length sc) ids.length (ids.map (srt s.l))):=by
    have h:=HP4.out.sort (sr:=sr)
    rw[HQ.out] at h
    exact h
   obtain⟨⟨x0',xz'⟩,hrb⟩:=HXX.out w3 HP4.out.bl
   obtain⟨m0,m1,m2,m3,m4,m5,m6,m7,mz⟩:=qAi HP4.out.box
   have mf:w3.frozen? ⟨w.heap.size+1+1,5,none⟩=false:=by simp[World.frozen?,HP4.out.box]
   obtain⟨⟨x0,xz⟩,hrb5⟩:=HXX.out _ HP5.out.bl
   obtain⟨n0,n1,n2,n3,n4,n5,n6,n7,nz⟩:=qAi HP5.out.box
   obtain⟨y0,yf,yz⟩:=qA6 hrb5
   have HRb:=Lib.hid hrb5
   have HBw:Hid (Below w.heap.size w (w3.setCell ⟨w.heap.size+1+1,5,none⟩ (.int .i64 sr))):=by
    have h:Below W1.heap.size W1 (w3.setCell ⟨w.heap.size+1+1,5,none⟩ (.int .i64 sr)):=by rw[HS1.out];exact HP5.out.bl
    exact qA5 HB1.out h
   clear hb3 hrb hrb5
   go_wp2_with fail
   refine(HPut.out _ HP5.out.bl).mono ?_
   rintro e w4 hO
   obtain⟨va,nn,cc,i,er,rfl,hr2,hO2⟩:=qAl (w:=w) hO HBw.out (by omega) HRb.out HL.out
   have HO2:=Lib.hid hO2
   have HR2:=Lib.hid hr2
   clear x0 xz y0 yf yz hO hO2 n0 n1 n2 n3 n4 n5 n6 n7 nz x0' xz' m0 m1 m2 m3 m4 m5 m6 m7 mz mf
   obtain⟨y0,yf,yz⟩:=qA6 hr2
   clear hr2
   go_wp2_with fail
   refine bodyPost_ret (qA4 rfl _ _ (w.heap.size+1) _ _ _ _ rfl (qAf HR2.out) Tryz.underlying33 rfl qA3) rfl ?_
   exact HO2.out
structure Bx (w V:World) (l:List NodeA) (a:Option Addr) (c:Nat):Prop where
 bl:Below w.heap.size w V
 tab:V.heap[w.heap.size]? = some (.cells #[.slice a l.length c] 33 (0,0))
 res:V.heap[w.heap.size+1]? = some (.cells #[.slice none 0 0] 33 (0,0))
 rd:TabN V l a c
theorem Bx.start {w W0:World} {l:List NodeA} {a:Option Addr} {c:Nat} (hA:TabN w l a c) (h:W0=(w.alloc (.cells #[.slice a l.length c] 33)).alloc (.cells #[.slice none 0 0] 33)):Bx w W0 l a c:=by
 obtain⟨hB,hV⟩:=qGq h
 obtain⟨_,h2⟩:=hV _ (Below.refl _ _)
 refine⟨hB,?_,h2,hA.below hB⟩
 rw[h];exact(Below.heap_alloc _ _ _ (by simp)).trans (heap_alloc_new w _)
theorem Bx.up {w V V':World} {l:List NodeA} {a:Option Addr} {c:Nat} (h:Bx w V l a c) (hb:Below V.heap.size V V'):Bx w V' l a c :=
 ⟨qA5 h.bl hb,(hb.block _ (Array.getElem?_eq_some_iff.1 h.tab).1).trans h.tab,(hb.block _ (Array.getElem?_eq_some_iff.1 h.res).1).trans h.res,h.rd.below hb⟩
theorem Bx.store {w V V':World} {l l':List NodeA} {a a':Option Addr} {c c':Nat} (h:Bx w V l a c) (hb:Below V.heap.size V V') (hT:TabN V' l' a' c') (h0:0<l'.length):Bx w (V'.setCell ⟨w.heap.size,0,none⟩ (.slice a' l'.length c')) l' a' c':=by
 have h2:=h.up hb
 exact⟨qAw h2.bl (Nat.le_refl _),qAf h2.tab,(Below.heap_setCell _ _ _ _ (fun e=>by simp only at e;omega)).trans h2.res,hT.setBox h0 h2.tab⟩
theorem Bx.cells {w V:World} {l:List NodeA} {a:Option Addr} {c:Nat} (h:Bx w V l a c):(V.cell? ⟨w.heap.size,0,none⟩=some (.slice a l.length c)∧V.frozen? ⟨w.heap.size,0,none⟩=false∧w.heap.size<V.heap.size)∧(V.cell? ⟨w.heap.size+1,0,none⟩=some (.slice none 0 0)∧V.frozen? ⟨w.heap.size+1,0,none⟩=false∧w.heap.size+1<V.heap.size):=⟨qA6 h.tab,qA6 h.res⟩
theorem qJu (V:World) (xs:List Int) (hx:∀x∈xs,I64 x) (hl:xs.length≤maxLen):IntsR (V.alloc (.cells ⟨xs.map (Value.int .i64)⟩ 3)) xs (some ⟨V.heap.size,0,none⟩) xs.length:=by
 refine⟨Nat.le_refl _,hl,fun _=>⟨V.heap.size,0,rfl,by simp,fun j v hv=>?_⟩,hx⟩
 rw[Nat.zero_add]
 refine(cell_of_row _ _ j _ _ _ (heap_alloc_new V _)).trans ?_
 simpa using hv
theorem qM6 {most:Int} {s:MkS} {n:NodeA} (hI:MkI s) (hm:most≤2000) (hst:standsB n s.l.length=true):(qAq most s n).1.e=0→0<(qAq most s n).1.l.length:=fun _=>by
 have:=(qB8 (most:=most) hI hm (qCh hst hI.len) (fun _=>hst)).inv.le
 omega
theorem PlA.mem1 {s:MkS} {i:Int} (h:PlA s i):∀x∈[i],PlA s x:=fun x hx=>by rw[List.mem_singleton.1 hx];exact h
theorem PlA.mem2 {s:MkS} {i j:Int} (h:PlA s i) (k:PlA s j):∀x∈[i,j],PlA s x:=fun x hx=>by
 simp only[List.mem_cons,List.not_mem_nil,or_false] at hx
 rcases hx with rfl|rfl
 ·exact h
 ·exact k
set_option maxHeartbeats 8000000 in
theorem qJv {s:MkS} (hI:MkI s) (h0:s.e=0) (most:Int) (hm:most≤2000) {i:Int} (hi:PlA s i) (si:srt s.l i=0) (a:Option Addr) (c:Nat) (w:World) (hA:TabN w s.l a c) :
  Calls Tryz.prog 49 #[.agg #[.slice a s.l.length c],.int .i64 i,.int .i64 most] w (qB4 w (qDg most s i)):=by
 obtain⟨W0,hW0⟩:∃W0,W0=(w.alloc (.cells #[.slice a s.l.length c] 33)).alloc (.cells #[.slice none 0 0] 33):=⟨_,rfl⟩
 have hBx:=Bx.start hA hW0
 obtain⟨k,rfl,hk⟩:=hi.nat
 obtain⟨n,hn⟩:∃n,qAd s.l k=n:=⟨_,rfl⟩
 have hg:=nodA_get hk
 rw[hn] at hg
 have hlen:=hI.len
 have hlm:s.l.length≤9223372036854775807:=by omega
 have hki:(k:Int)<(s.l.length:Int):=by omega
 have hk0:(0:Int)≤(k:Int):=by omega
 obtain⟨⟨x0,xf,xz⟩,⟨y0,yf,yz⟩⟩:=hBx.cells
 obtain⟨g,o,rfl,hgz,q0,q1,q2,q3,q4,q5,q6,q7⟩:=hBx.rd.node hg
 by_cases h1:n.op=1
 ·have e1:=qC9 h1
  have hr:qDg most s (k:Int)=(s,n.a0):=by
   show qIu most s (qMz 1 k)=_
   unfold qIu
   show (if (qAd s.l (k:Int)).op=1 then (s,(qAd s.l (k:Int)).a0) else _)=_
   rw[hn,if_pos h1]
  have HP:Hid (∀q,qB4 w (qDg most s (k:Int)) (.returned (.tuple #[.agg #[.slice (some ⟨g,o,none⟩) s.l.length c],.int .i64 n.a0,.int .i64 0])) ((W0.drewN q).setCell ⟨w.heap.size+1,0,none⟩ (.slice (some ⟨g,o,none⟩) s.l.length c))):=fun q=>qKw hA (qA1 hBx.bl) (by omega) h0 hr
  have HRb:Hid (∀q,(W0.drewN q).heap[w.heap.size+1]? = some (.cells #[.slice none 0 0] 33 (0,0))):=fun q=>hBx.res
  have hgw:g<w.heap.size:=by
   obtain⟨g',o',e,hg',_⟩:=hA.node hg
   cases e;exact hg'
  have HQ:Hid (∀v,(W0.drew.setCell ⟨w.heap.size+1,0,none⟩ v).cell? ⟨w.heap.size,0,none⟩=some (.slice (some ⟨g,o,none⟩) s.l.length c)∧(W0.drew.setCell ⟨w.heap.size+1,0,none⟩ v).cell? ⟨g,o+k*8+2,none⟩=some (.int .i64 n.a0)):=fun v=>by
   have hk1:∀b:Nat,b≠w.heap.size+1→(W0.drew.setCell ⟨w.heap.size+1,0,none⟩ v).heap[b]? = W0.heap[b]?:=fun b hb=>Below.heap_setCell W0.drew _ _ _ (fun e=>hb (by simpa using e))
   refine⟨?_,?_⟩
   ·rw[←x0];simp only[World.cell?,hk1 w.heap.size (by omega)]
   ·rw[←q2];simp only[World.cell?,hk1 g (by omega)]
  clear hA hI h0 hi si hn hg hr h1 hBx
  rw[hW0] at x0 xf xz y0 yf yz hgz q0 q1 q2 q3 q4 q5 q6 q7
  go_enter Tryz.func49,Tryz.ntmps49
  go_wp2_with fail
  rw[←hW0] at x0 xf xz y0 yf yz hgz q0 q1 q2 q3 q4 q5 q6 q7
  rw[←hW0]
  clear hW0
  go_region_held3 (fun V=>V.cell? ⟨w.heap.size,0,none⟩=some (.slice (some ⟨g,o,none⟩) s.l.length c)∧V.cell? ⟨g,o+k*8+2,none⟩=some (.int .i64 n.a0)) (first|exact⟨x0,q2⟩|exact HQ.out _) (fail)
  all_goals
   go_wp2_with fail
   refine bodyPost_ret (qA4 rfl _ _ (w.heap.size+1) _ _ _ _ rfl (qAf (HRb.out 1)) Tryz.underlying33 rfl qA3) rfl ?_
   exact HP.out 1
 ·have e1:=qB7 h1
  have hr:qDg most s (k:Int)=qAq most s (qGk 1 [(k:Int)] 3 0):=by
   show qIu most s (qMz 1 k)=_
   unfold qIu
   show (if (qAd s.l (k:Int)).op=1 then (s,(qAd s.l (k:Int)).a0) else _)=_
   rw[hn,if_neg h1];rfl
  have hst:standsB (qGk 1 [(k:Int)] 3 0) s.l.length=true:=qJ7 rfl hi
  have hs0:W0.heap.size=w.heap.size+1+1:=by rw[hW0];simp
  have HPut:Hid (Calls Tryz.prog 50 #[.agg #[.slice (some ⟨g,o,none⟩) s.l.length c],.int .i8 1,.slice (some ⟨w.heap.size+1+1,0,none⟩) 1 1,.int .i64 most] (W0.alloc (.cells #[.int .i64 k] 3)) (qB4 (W0.alloc (.cells #[.int .i64 k] 3)) (qDg most s (k:Int)))):=by
   show Calls _ _ _ _ _
   rw[hr,←hs0]
   exact qEe hI h0 most hm 1 (qCi (by decide)) [(k:Int)] (by simp) (by simp) hi.mem1 0 (by show opE 1 [srt s.l (k:Int)]=0;rw[si];rfl) (by show opV 1 [srt s.l (k:Int)]=0;rw[si];rfl) hst _ c _ 1 _ (hBx.rd.below ((Below.refl _ W0).alloc (Nat.le_refl _) _)) (qJu W0 [(k:Int)] (fun x hx=>by rw[List.mem_singleton.1 hx];exact hi.i64 hI.len) (by simp[maxLen]))
  have HL:Hid ((qDg most s (k:Int)).1.e=0→0<(qDg most s (k:Int)).1.l.length):=by
   show _→_
   rw[hr];exact qM6 hI hm hst
  have HBx:=Lib.hid hBx
  have hb:=(hBx.up ((Below.refl _ W0).alloc (Nat.le_refl _) (.cells #[.int .i64 k] 3)))
  have HB1:=Lib.hid hb
  clear hA hI h0 hi si hn hg hr h1 hBx hst hb hs0
  rw[hW0] at x0 xf xz y0 yf yz hgz q0 q1 q2 q3 q4 q5 q6 q7
  go_enter Tryz.func49,Tryz.ntmps49
  go_wp2_with fail
  rw[←hW0]
  clear hW0
  with_reducible refine HPut.out.mono ?_
  rintro e w2 hO
  obtain⟨va,nn,cc,i,er,rfl,hr2,hO2⟩:=qAl (w:=w) hO HB1.out.bl (by omega) HB1.out.res HL.out
  have HO2:=Lib.hid hO2
  have HR2:=Lib.hid hr2
  clear x0 xf xz y0 yf yz hO hO2 hgz q0 q1 q2 q3 q4 q5 q6 q7
  obtain⟨y0,yf,yz⟩:=qA6 hr2
  clear hr2
  go_wp2_with fail
  refine bodyPost_ret (qA4 rfl _ _ (w.heap.size+1) _ _ _ _ rfl (qAf HR2.out) Tryz.underlying33 rfl qA3) rfl ?_
  exact HO2.out
def qDb (most:Int) (s:MkS) (a b:Int):MkS × Int:=if a=b then (s,0) else qAq most s (qAk 6 (min a b) (max a b) 0)
theorem zAj {s:MkS} (hI:MkI s) {x:Int} (hx:PlA s x):opE 6 [srt s.l x,srt s.l x]=0∧opV 6 [srt s.l x,srt s.l x]=0:=by
 obtain⟨k,rfl,hk⟩:=hx.nat
 have hst:=hI.stands hk
 unfold standsB at hst
 rw[decide_eq_true_eq] at hst
 obtain⟨_,hs,_⟩:=hst
 have hc:srt s.l k=0∨srt s.l k=1∨srt s.l k=2∨srt s.l k=3∨srt s.l k=4∨srt s.l k=5:=by unfold srt;omega
 rcases hc with e|e|e|e|e|e<;>rw[e]<;>exact⟨rfl,rfl⟩
theorem qGs {s:MkS} (hI:MkI s) (h0:s.e=0) (most:Int) (hm:most≤2000) (op:Int) (ho:op=2∨op=3∨op=6) {x y:Int} (hx:PlA s x) (hy:PlA s y) (hs:srt s.l x=srt s.l y) (hb:op=6∨srt s.l x=0) (a:Option Addr) (c:Nat) (V:World) (hA:TabN V s.l a c) :
  Calls Tryz.prog 50 #[.agg #[.slice a s.l.length c],.int .i8 op,.slice (some ⟨V.heap.size,0,none⟩) 2 2,.int .i64 most] (V.alloc (.cells #[.int .i64 x,.int .i64 y] 3)) (qB4 (V.alloc (.cells #[.int .i64 x,.int .i64 y] 3)) (qAq most s (qAk op x y 0))):=by
 have hst:standsB (qGk op [x,y] 3 0) s.l.length=true:=qBm (.inl ⟨ho,rfl⟩) hx hy
 have h8:I8 op:=⟨by omega,by omega⟩
 have he:opE op ([x,y].map (srt s.l))=0∧opV op ([x,y].map (srt s.l))=0:=by
  show opE op [srt s.l x,srt s.l y]=0∧opV op [srt s.l x,srt s.l y]=0
  rw[←hs]
  rcases hb with rfl|h
  ·exact zAj hI hx
  ·rw[h]
   rcases ho with rfl|rfl|rfl<;>exact⟨rfl,rfl⟩
 exact qEe hI h0 most hm op h8 [x,y] (by simp) (by simp) (PlA.mem2 hx hy) 0 he.1 he.2 hst a c _ 2 _ (hA.below ((Below.refl _ V).alloc (Nat.le_refl _) _)) (qJu V [x,y] (fun z hz=>(PlA.mem2 hx hy z hz).i64 hI.len) (by simp[maxLen]))
theorem qEf {most:Int} {s:MkS} (hI:MkI s) (hm:most≤2000) {op x y:Int} (ho:op=2∨op=3∨op=6) (hx:PlA s x) (hy:PlA s y):(qAq most s (qAk op x y 0)).1.e=0→0<(qAq most s (qAk op x y 0)).1.l.length:=qM6 hI hm (qBm (.inl ⟨ho,rfl⟩) hx hy)
set_option maxHeartbeats 8000000 in
theorem qKy {s:MkS} (hI:MkI s) (h0:s.e=0) (most:Int) (hm:most≤2000) {x y:Int} (hx:PlA s x) (hy:PlA s y) (hs:srt s.l x=srt s.l y) (a:Option Addr) (c:Nat) (w:World) (hA:TabN w s.l a c) :
  Calls Tryz.prog 76 #[.agg #[.slice a s.l.length c],.int .i64 x,.int .i64 y,.int .i64 most] w (qB4 w (qDb most s x y)):=by
 obtain⟨W0,hW0⟩:∃W0,W0=(w.alloc (.cells #[.slice a s.l.length c] 33)).alloc (.cells #[.slice none 0 0] 33):=⟨_,rfl⟩
 have hBx:=Bx.start hA hW0
 have hs0:W0.heap.size=w.heap.size+1+1:=by rw[hW0];simp
 obtain⟨⟨x0,xf,xz⟩,⟨y0,yf,yz⟩⟩:=hBx.cells
 by_cases hxy:x=y
 ·have e1:=qC9 hxy
  obtain⟨hbW,hXW⟩:Below w.heap.size w ((w.alloc (.cells #[.slice a s.l.length c] 33)).alloc (.cells #[.slice a s.l.length c] 33))∧((w.alloc (.cells #[.slice a s.l.length c] 33)).alloc (.cells #[.slice a s.l.length c] 33)).heap[w.heap.size+1]? = some (.cells #[.slice a s.l.length c] 33 (0,0)):=by
   have:=heap_alloc_new (w.alloc (.cells #[.slice a s.l.length c] 33)) (.cells #[.slice a s.l.length c] 33)
   rw[World.size_alloc] at this
   exact⟨((Below.refl _ w).alloc (Nat.le_refl _) _).alloc (by simp) _,this⟩
  have HP:Hid (qB4 w (qDb most s x y) (.returned (.tuple #[.agg #[.slice a s.l.length c],.int .i64 0,.int .i64 0])) ((w.alloc (.cells #[.slice a s.l.length c] 33)).alloc (.cells #[.slice a s.l.length c] 33))):=by
   have hr:qDb most s x y=(s,0):=by unfold qDb;rw[if_pos hxy]
   show qB4 _ _ _ _
   rw[hr]
   exact⟨hbW,.inl ⟨h0,a,c,rfl,hA.below hbW⟩⟩
  have HRb:=Lib.hid hXW
  clear hA hI h0 hx hy hs hBx hxy hs0 hbW hXW x0 xf xz y0 yf yz
  clear hW0
  go_enter Tryz.func76,Tryz.ntmps76
  go_wp2_with fail
  refine bodyPost_ret (qA4 rfl _ _ (w.heap.size+1) _ _ _ _ rfl HRb.out Tryz.underlying33 rfl qA3) rfl ?_
  exact HP.out
 have e1:=qB7 hxy
 have hor:x<y∨y<x:=by omega
 rcases hor with hlt|hlt
 ·have hr:qDb most s x y=qAq most s (qAk 6 x y 0):=by unfold qDb;rw[if_neg hxy,Int.min_eq_left (by omega),Int.max_eq_right (by omega)]
  have HPut:Hid (Calls Tryz.prog 50 #[.agg #[.slice a s.l.length c],.int .i8 6,.slice (some ⟨w.heap.size+1+1,0,none⟩) 2 2,.int .i64 most] (W0.alloc (.cells #[.int .i64 x,.int .i64 y] 3)) (qB4 (W0.alloc (.cells #[.int .i64 x,.int .i64 y] 3)) (qDb most s x y))):=by
   show Calls _ _ _ _ _
   rw[hr,←hs0]
   exact qGs hI h0 most hm 6 (by omega) hx hy hs (.inl rfl) a c W0 hBx.rd
  have HL:Hid ((qDb most s x y).1.e=0→0<(qDb most s x y).1.l.length):=by
   show _→_
   rw[hr];exact qEf hI hm (by omega) hx hy
  have HB1:=Lib.hid (hBx.up ((Below.refl _ W0).alloc (Nat.le_refl _) (.cells #[.int .i64 x,.int .i64 y] 3)))
  clear hA hI h0 hx hy hs hBx hxy hr hs0
  go_enter Tryz.func76,Tryz.ntmps76
  go_wp2_with fail
  all_goals first
   | (exfalso;omega)
   | (rw[←hW0]
      clear hW0
      with_reducible refine HPut.out.mono ?_
      rintro e w2 hO
      obtain⟨va,nn,cc,i,er,rfl,hr2,hO2⟩:=qAl (w:=w) hO HB1.out.bl (by omega) HB1.out.res HL.out
      have HO2:=Lib.hid hO2
      have HR2:=Lib.hid hr2
      clear x0 xf xz y0 yf yz hO hO2
      obtain⟨y0,yf,yz⟩:=qA6 hr2
      clear hr2
      go_wp2_with fail
      refine bodyPost_ret (qA4 rfl _ _ (w.heap.size+1) _ _ _ _ rfl (qAf HR2.out) Tryz.underlying33 rfl qA3) rfl ?_
      exact HO2.out)
 ·have hr:qDb most s x y=qAq most s (qAk 6 y x 0):=by unfold qDb;rw[if_neg hxy,Int.min_eq_right (by omega),Int.max_eq_left (by omega)]
  have HPut:Hid (Calls Tryz.prog 50 #[.agg #[.slice a s.l.length c],.int .i8 6,.slice (some ⟨w.heap.size+1+1,0,none⟩) 2 2,.int .i64 most] (W0.alloc (.cells #[.int .i64 y,.int .i64 x] 3)) (qB4 (W0.alloc (.cells #[.int .i64 y,.int .i64 x] 3)) (qDb most s x y))):=by
   show Calls _ _ _ _ _
   rw[hr,←hs0]
   exact qGs hI h0 most hm 6 (by omega) hy hx hs.symm (.inl rfl) a c W0 hBx.rd
  have HL:Hid ((qDb most s x y).1.e=0→0<(qDb most s x y).1.l.length):=by
   show _→_
   rw[hr];exact qEf hI hm (by omega) hy hx
  have HB1:=Lib.hid (hBx.up ((Below.refl _ W0).alloc (Nat.le_refl _) (.cells #[.int .i64 y,.int .i64 x] 3)))
  clear hA hI h0 hx hy hs hBx hxy hr hs0
  go_enter Tryz.func76,Tryz.ntmps76
  go_wp2_with fail
  all_goals first
   | (exfalso;omega)
   | (rw[←hW0]
      clear hW0
      with_reducible refine HPut.out.mono ?_
      rintro e w2 hO
      obtain⟨va,nn,cc,i,er,rfl,hr2,hO2⟩:=qAl (w:=w) hO HB1.out.bl (by omega) HB1.out.res HL.out
      have HO2:=Lib.hid hO2
      have HR2:=Lib.hid hr2
      clear x0 xf xz y0 yf yz hO hO2
      obtain⟨y0,yf,yz⟩:=qA6 hr2
      clear hr2
      go_wp2_with fail
      refine bodyPost_ret (qA4 rfl _ _ (w.heap.size+1) _ _ _ _ rfl (qAf HR2.out) Tryz.underlying33 rfl qA3) rfl ?_
      exact HO2.out)
end Go.Proofs.YtfgpimhdjlmapaaGreatDoor.Tm
