/- The document's le, and the images of OpXor and OpImp. -/
import Derived.Laws.CopyOwn
import Derived.Deep.LoopGhost
import Derived.Laws.MakeOwn
import Derived.Laws.EntriesVeiled
import Derived.Test.YtfgpimhdjlmapaaGreatDoorDaI
namespace Go.Proofs.YtfgpimhdjlmapaaGreatDoor.Tm
open Go.RowKit
set_option linter.unusedVariables false
set_option maxRecDepth 100000
theorem qH6 {most:Int} {s:MkS} {n:NodeA} (h:¬s.e=0):qAq most s n=(s,0):=by unfold qAq;rw[if_pos h]
theorem qM7 {s:MkS} {n e:Int} (h:¬s.e=0):(qDr s n e).1=s:=by
 unfold qDr
 by_cases he:e=0
 ·rw[if_pos he]
 ·rw[if_neg he,if_neg h]
theorem qVh {most:Int} {s:MkS} {i:Int} (h:¬s.e=0):(qDg most s i).1=s:=by
 unfold qDg qIu
 split
 ·rfl
 ·rw[qH6 h]
theorem qIy {most:Int} {s:MkS} {a b k:Int} (h:¬s.e=0):(leM most s a b k).1=s:=by
 have hd:(qBd s a b k).1=s:=by
  unfold qBd
  rw[qM7 (by rw[qM7 h];exact h),qM7 h]
 unfold leM
 rw[hd]
 split
 ·rw[qH6 h]
 ·split
  ·rfl
  ·exact qVh h
theorem qJw {most:Int} {s:MkS} (hI:MkI s) (hm:most≤2000) {x y:Int} (hx:PlA s x) (hy:PlA s y) (k:Int):(leM most s x y k).1.e=0→0<(leM most s x y k).1.l.length:=fun _=>by
 have:=(qBs (most:=most) hI hm hx hy k).inv.le
 omega
theorem qHj {w V V1:World} {l:List NodeA} {a:Option Addr} {c:Nat} {r:MkS × Int} {e:Ending} (hV:Bx w V l a c) (h:LeO V r e V1) (hl:r.1.e=0→0<r.1.l.length) :
  (r.1.e=0∧∃(a1:Option Addr) (c1:Nat) (q:Bool),e=.returned (.tuple #[.agg #[.slice a1 r.1.l.length c1],.int .i64 r.2,.bool q,.int .i64 0])∧Bx w (V1.setCell ⟨w.heap.size,0,none⟩ (.slice a1 r.1.l.length c1)) r.1.l a1 c1∧Bx w V1 l a c)∨(¬r.1.e=0∧∃q:Bool,e=.returned (.tuple #[.agg #[.slice none 0 0],.int .i64 0,.bool q,.int .i64 r.1.e])∧Bx w V1 l a c):=by
 obtain⟨hb,⟨hz,a1,c1,q,rfl,hT⟩|⟨hz,q,rfl⟩⟩:=h
 ·exact .inl ⟨hz,a1,c1,q,rfl,hV.store hb hT (hl hz),hV.up hb⟩
 ·exact .inr ⟨hz,q,rfl,hV.up hb⟩
theorem qCx {w V:World} {l:List NodeA} {a:Option Addr} {c:Nat} {r:MkS × Int} {er:Int} {v:Value} (hV:Bx w V l a c) (h:r.1.e=er) (h0:¬er=0):qB4 w r (.returned (.tuple #[.agg #[.slice none 0 0],.int .i64 0,.int .i64 er])) ((V.setCell ⟨w.heap.size,0,none⟩ v).setCell ⟨w.heap.size+1,0,none⟩ (.slice none 0 0))∧(V.setCell ⟨w.heap.size,0,none⟩ v).heap[w.heap.size+1]? = some (.cells #[.slice none 0 0] 33 (0,0)):=by
 refine⟨qN5 (qAw hV.bl (Nat.le_refl _)) (by omega) h h0,?_⟩
 exact(Below.heap_setCell _ _ _ _ (fun e=>by simp only at e;omega)).trans hV.res
set_option maxHeartbeats 16000000 in
theorem qO7 {s:MkS} (hI:MkI s) (h0:s.e=0) (hQ:QO s.l) (hW:WS s.l) (most:Int) (hm:most≤2000) {x y:Int} (hx:PlA s x) (hy:PlA s y) (hs:srt s.l x=srt s.l y) (a:Option Addr) (c:Nat) (w:World) (hA:TabN w s.l a c) :
  Calls Tryz.prog 52 #[.agg #[.slice a s.l.length c],.int .i64 x,.int .i64 y,.int .i64 most] w (qB4 w (eqM most s (qAk 6 x y 0))):=by
 obtain⟨W0,hW0⟩:∃W0,W0=(w.alloc (.cells #[.slice a s.l.length c] 33)).alloc (.cells #[.slice none 0 0] 33):=⟨_,rfl⟩
 have hBx:=Bx.start hA hW0
 have hs0:W0.heap.size=w.heap.size+1+1:=by rw[hW0];simp
 have hlen:=hI.len
 have hlm:s.l.length≤9223372036854775807:=by omega
 obtain⟨i,rfl,hi⟩:=hx.nat
 obtain⟨j,rfl,hj⟩:=hy.nat
 obtain⟨n,hn⟩:∃n,qAd s.l i=n:=⟨_,rfl⟩
 obtain⟨m,hm'⟩:∃m,qAd s.l j=m:=⟨_,rfl⟩
 have hgi:=nodA_get hi
 have hgj:=nodA_get hj
 rw[hn] at hgi
 rw[hm'] at hgj
 have hsi:srt s.l (i:Int)=n.sort:=by unfold srt;rw[hn]
 have hsj:srt s.l (j:Int)=m.sort:=by unfold srt;rw[hm']
 have hii:(i:Int)<(s.l.length:Int):=by omega
 have hi0:(0:Int)≤(i:Int):=by omega
 have hji:(j:Int)<(s.l.length:Int):=by omega
 have hj0:(0:Int)≤(j:Int):=by omega
 obtain⟨⟨x0,xf,xz⟩,⟨y0,yf,yz⟩⟩:=hBx.cells
 obtain⟨g,o,rfl,hgz,-,-,-,-,-,q5,-,-⟩:=hBx.rd.node hgi
 obtain⟨g',o',e',-,-,-,-,-,-,p5,-,-⟩:=hBx.rd.node hgj
 cases e'
 have hmn:m.sort=n.sort:=by rw[←hsi,←hsj,hs]
 rw[hmn] at p5
 have es:(n.sort != n.sort)=false:=by simp
 have hR:eqM most s (qAk 6 (i:Int) (j:Int) 0)=if n.sort=0 then qAq most s (qAk 6 (i:Int) (j:Int) 0) else if n.sort=1 then eqI most s (i:Int) (j:Int) else qDb most s (i:Int) (j:Int):=by
  unfold eqM
  show (if (qAd s.l (i:Int)).sort=0 then _ else if (qAd s.l (i:Int)).sort=1 then _ else _)=_
  rw[hn];rfl
 generalize eqM most s (qAk 6 (i:Int) (j:Int) 0)=R at hR
 rw[hsi] at hs
 rw[hW0] at x0 xf xz y0 yf yz hgz q5 p5
 by_cases z0:n.sort=0
 ·have e0:=qC9 z0
  rw[if_pos z0] at hR
  have HPut:Hid (Calls Tryz.prog 50 #[.agg #[.slice (some ⟨g,o,none⟩) s.l.length c],.int .i8 6,.slice (some ⟨w.heap.size+1+1,0,none⟩) 2 2,.int .i64 most] (W0.alloc (.cells #[.int .i64 i,.int .i64 j] 3)) (qB4 (W0.alloc (.cells #[.int .i64 i,.int .i64 j] 3)) R)):=by
   show Calls _ _ _ _ _
   rw[hR,←hs0]
   exact qGs hI h0 most hm 6 (by omega) hx hy (by rw[hsi,hs]) (.inl rfl) _ c W0 hBx.rd
  have HL:Hid (R.1.e=0→0<R.1.l.length):=by
   show _→_
   rw[hR];exact qEf hI hm (by omega) hx hy
  have HB1:=Lib.hid (hBx.up ((Below.refl _ W0).alloc (Nat.le_refl _) (.cells #[.int .i64 i,.int .i64 j] 3)))
  clear hA hI h0 hQ hW hx hy hs hBx hR hn hm' hgi hgj hsi hsj hmn hs0 z0
  go_enter Tryz.func52,Tryz.ntmps52
  go_wp2_with fail
  rw[←hW0]
  clear hW0
  with_reducible refine HPut.out.mono ?_
  rintro e w2 hO
  obtain⟨va,nn,cc,ii,er,rfl,hr2,hO2⟩:=qAl (w:=w) hO HB1.out.bl (by omega) HB1.out.res HL.out
  have HO2:=Lib.hid hO2
  have HR2:=Lib.hid hr2
  clear x0 xf xz y0 yf yz hO hO2 hgz q5 p5
  obtain⟨y0,yf,yz⟩:=qA6 hr2
  clear hr2
  go_wp2_with fail
  refine bodyPost_ret (qA4 rfl _ _ (w.heap.size+1) _ _ _ _ rfl (qAf HR2.out) Tryz.underlying33 rfl qA3) rfl ?_
  exact HO2.out
 rw[if_neg z0] at hR
 have e0:=qB7 z0
 by_cases z1:n.sort=1
 rotate_left
 ·have e1:=qDf z1
  rw[if_neg z1] at hR
  have HS:Hid (Calls Tryz.prog 76 #[.agg #[.slice (some ⟨g,o,none⟩) s.l.length c],.int .i64 i,.int .i64 j,.int .i64 most] W0 (qB4 W0 R)):=by
   show Calls _ _ _ _ _
   rw[hR]
   exact qKy hI h0 most hm hx hy (by rw[hsi,hs]) _ c W0 hBx.rd
  have HL:Hid (R.1.e=0→0<R.1.l.length):=by
   show _→_
   rw[hR]
   unfold qDb
   split
   ·have:=hI.le;intro _;show 0<s.l.length;omega
   ·rcases Int.le_total (i:Int) (j:Int) with hh|hh
    ·rw[Int.min_eq_left hh,Int.max_eq_right hh];exact qEf hI hm (by omega) hx hy
    ·rw[Int.min_eq_right hh,Int.max_eq_left hh];exact qEf hI hm (by omega) hy hx
  have HB1:=Lib.hid hBx
  clear hA hI h0 hQ hW hx hy hs hBx hR hn hm' hgi hgj hsi hsj hmn hs0 z0 z1
  go_enter Tryz.func52,Tryz.ntmps52
  go_wp2_with fail
  rw[←hW0]
  clear hW0
  with_reducible refine HS.out.mono ?_
  rintro e w2 hO
  obtain⟨va,nn,cc,ii,er,rfl,hr2,hO2⟩:=qAl (w:=w) hO HB1.out.bl (by omega) HB1.out.res HL.out
  have HO2:=Lib.hid hO2
  have HR2:=Lib.hid hr2
  clear x0 xf xz y0 yf yz hO hO2 hgz q5 p5
  obtain⟨y0,yf,yz⟩:=qA6 hr2
  clear hr2
  go_wp2_with fail
  refine bodyPost_ret (qA4 rfl _ _ (w.heap.size+1) _ _ _ _ rfl (qAf HR2.out) Tryz.underlying33 rfl qA3) rfl ?_
  exact HO2.out
 have e1:=ne_f z1
 rw[if_pos z1] at hR
 have sx:srt s.l (i:Int)=1:=by rw[hsi,z1]
 have sy:srt s.l (j:Int)=1:=by rw[←hs,z1]
 obtain⟨r1,hr1⟩:∃r,leM most s (i:Int) (j:Int) 0=r:=⟨_,rfl⟩
 have o1:=qBs (most:=most) hI hm hx hy 0
 have hL1:=qJw (most:=most) hI hm hx hy 0
 rw[hr1] at o1 hL1
 have HLe1:Hid (Calls Tryz.prog 77 #[.agg #[.slice (some ⟨g,o,none⟩) s.l.length c],.int .i64 i,.int .i64 j,.int .i64 0,.int .i64 most] W0 (LeO W0 r1)):=by
  show Calls _ _ _ _ _
  rw[←hr1];exact qHx hI h0 hQ most hm hx hy sx sy 0 _ c W0 hBx.rd
 obtain⟨r2,hr2⟩:∃r,leM most r1.1 (j:Int) (i:Int) 0=r:=⟨_,rfl⟩
 have o2:=qBs (most:=most) o1.inv hm (hy.up o1.pre) (hx.up o1.pre) 0
 have hL2:=qJw (most:=most) o1.inv hm (hy.up o1.pre) (hx.up o1.pre) 0
 rw[hr2] at o2 hL2
 have hq1:QO r1.1.l:=by rw[←hr1];exact qJr hI hm hQ hx hy 0
 have HLe2:Hid (r1.1.e=0→∀V a' c',TabN V r1.1.l a' c'→Calls Tryz.prog 77 #[.agg #[.slice a' r1.1.l.length c'],.int .i64 j,.int .i64 i,.int .i64 0,.int .i64 most] V (LeO V r2)):=fun he V a' c' hT=>by
  rw[←hr2];exact qHx o1.inv he hq1 most hm (hy.up o1.pre) (hx.up o1.pre) (by rw[qBa hy o1.pre];exact sy) (by rw[qBa hx o1.pre];exact sx) 0 _ c' V hT
 have hRe:R=qAq most r2.1 (qAk 2 r1.2 r2.2 0):=by rw[hR];unfold eqI;rw[hr1,hr2]
 have HE1:Hid (¬r1.1.e=0→R.1.e=r1.1.e):=fun h=>by
  have h2:r2.1=r1.1:=by rw[←hr2];exact qIy h
  rw[hRe,h2,qH6 h]
 have HE2:Hid (¬r2.1.e=0→R.1.e=r2.1.e):=fun h=>by rw[hRe,qH6 h]
 have hz1:r1.1.e=0→srt r1.1.l r1.2=0:=fun h=>by
  have:=(qIx (most:=most) hI hm hW hx hy 0 (fun _=>⟨sx,sy⟩) (by rw[hr1];exact h)).2
  rw[hr1] at this;exact this
 have hw1:r1.1.e=0→WS r1.1.l:=fun h=>by
  have:=(qIx (most:=most) hI hm hW hx hy 0 (fun _=>⟨sx,sy⟩) (by rw[hr1];exact h)).1
  rw[hr1] at this;exact this
 have hz2:r1.1.e=0→r2.1.e=0→srt r2.1.l r2.2=0:=fun h h'=>by
  have:=(qIx (most:=most) o1.inv hm (hw1 h) (hy.up o1.pre) (hx.up o1.pre) 0 (fun _=>⟨by rw[qBa hy o1.pre];exact sy,by rw[qBa hx o1.pre];exact sx⟩) (by rw[hr2];exact h')).2
  rw[hr2] at this;exact this
 have HPut:Hid (r1.1.e=0→r2.1.e=0→∀V a' c',TabN V r2.1.l a' c'→Calls Tryz.prog 50 #[.agg #[.slice a' r2.1.l.length c'],.int .i8 2,.slice (some ⟨V.heap.size,0,none⟩) 2 2,.int .i64 most] (V.alloc (.cells #[.int .i64 r1.2,.int .i64 r2.2] 3)) (qB4 (V.alloc (.cells #[.int .i64 r1.2,.int .i64 r2.2] 3)) R)):=fun h h' V a' c' hT=>by
  rw[hRe]
  have z:=(qBa o1.pl o2.pre).trans (hz1 h)
  exact qGs o2.inv h' most hm 2 (by omega) (o1.pl.up o2.pre) o2.pl (by rw[z,hz2 h h']) (.inr z) a' c' V hT
 have HL:Hid (R.1.e=0→0<R.1.l.length):=by
  show _→_
  rw[hRe];exact qEf o2.inv hm (by omega) (o1.pl.up o2.pre) o2.pl
 have HL1:=Lib.hid hL1
 have HL2:=Lib.hid hL2
 have HBx:=Lib.hid hBx
 clear hA hI h0 hQ hW hx hy hs hBx hR hn hm' hgi hgj hsi hsj hmn hs0 z0 z1 sx sy hr1 hr2 hRe hz1 hw1 hz2 hq1 o1 o2 hL1 hL2
 go_enter Tryz.func52,Tryz.ntmps52
 go_wp2_with fail
 rw[←hW0]
 clear hW0
 with_reducible refine HLe1.out.mono ?_
 rintro e w1 hO
 rcases qHj HBx.out hO HL1.out with⟨hz,a1,c1,q,rfl,hb1,hb0⟩|⟨hz,q,rfl,hb0⟩
 rotate_left
 ·have ez:=qDf hz
  obtain⟨hE,hE2⟩:=qCx (v:=.slice none 0 0) hb0 (HE1.out hz) hz
  have HE:=Lib.hid hE
  have HE2':=Lib.hid hE2
  clear x0 xf xz y0 yf yz hgz q5 p5 hO hE hE2 hz
  obtain⟨⟨x0,xf,xz⟩,⟨y0,yf,yz⟩⟩:=hb0.cells
  clear hb0
  go_wp2_with fail
  refine bodyPost_ret (qA4 rfl _ _ (w.heap.size+1) _ _ _ _ rfl (qAf HE2'.out) Tryz.underlying33 rfl qA3) rfl ?_
  exact HE.out
 have HZ1:=Lib.hid hz
 have HB1:=Lib.hid hb1
 have hsz1:(w1.setCell ⟨w.heap.size,0,none⟩ (.slice a1 r1.1.l.length c1)).heap.size=w1.heap.size:=by simp
 clear x0 xf xz y0 yf yz hgz q5 p5 hO hz hb1
 obtain⟨⟨x0,xf,xz⟩,-⟩:=hb0.cells
 obtain⟨⟨x1,x1f,x1z⟩,-⟩:=HB1.out.cells
 clear hb0 hsz1
 go_wp2_with fail
 refine(HLe2.out HZ1.out _ _ _ HB1.out.rd).mono ?_
 rintro e w2 hO
 rcases qHj HB1.out hO HL2.out with⟨hz,a2,c2,q',rfl,hb2,hb0⟩|⟨hz,q',rfl,hb0⟩
 rotate_left
 ·have ez:=qDf hz
  obtain⟨hE,hE2⟩:=qCx (v:=.slice none 0 0) hb0 (HE2.out hz) hz
  have HE:=Lib.hid hE
  have HE2':=Lib.hid hE2
  clear x0 xf xz x1 x1f x1z hO hE hE2 hz
  obtain⟨⟨x0,xf,xz⟩,⟨y0,yf,yz⟩⟩:=hb0.cells
  clear hb0
  go_wp2_with fail
  refine bodyPost_ret (qA4 rfl _ _ (w.heap.size+1) _ _ _ _ rfl (qAf HE2'.out) Tryz.underlying33 rfl qA3) rfl ?_
  exact HE.out
 have HZ2:=Lib.hid hz
 have HB2:=Lib.hid hb2
 have hsz2:(w2.setCell ⟨w.heap.size,0,none⟩ (.slice a2 r2.1.l.length c2)).heap.size=w2.heap.size:=by simp
 have HP2:=HPut.out HZ1.out HZ2.out _ _ _ HB2.out.rd
 rw[hsz2] at HP2
 have HP2:=Lib.hid HP2
 have HB3:=Lib.hid (hb2.up ((Below.refl _ _).alloc (Nat.le_refl _) (.cells #[.int .i64 r1.2,.int .i64 r2.2] 3)))
 clear x0 xf xz x1 x1f x1z hO hz hb2
 obtain⟨⟨x0,xf,xz⟩,-⟩:=hb0.cells
 obtain⟨⟨x1,x1f,x1z⟩,-⟩:=HB2.out.cells
 clear hb0 hsz2
 go_wp2_with fail
 refine HP2.out.mono ?_
 rintro e w3 hO
 obtain⟨va,nn,cc,ii,er,rfl,hr2,hO2⟩:=qAl (w:=w) hO HB3.out.bl (by omega) HB3.out.res HL.out
 have HO2:=Lib.hid hO2
 have HR2:=Lib.hid hr2
 clear x0 xf xz x1 x1f x1z hO hO2
 obtain⟨y0,yf,yz⟩:=qA6 hr2
 clear hr2
 go_wp2_with fail
 refine bodyPost_ret (qA4 rfl _ _ (w.heap.size+1) _ _ _ _ rfl (qAf HR2.out) Tryz.underlying33 rfl qA3) rfl ?_
 exact HO2.out
theorem qEv {w V V1:World} {l:List NodeA} {a:Option Addr} {c:Nat} {r:MkS × Int} {e:Ending} (hV:Bx w V l a c) (h:qB4 V r e V1) (hl:r.1.e=0→0<r.1.l.length) :
  (r.1.e=0∧∃(a1:Option Addr) (c1:Nat),e=.returned (.tuple #[.agg #[.slice a1 r.1.l.length c1],.int .i64 r.2,.int .i64 0])∧Bx w (V1.setCell ⟨w.heap.size,0,none⟩ (.slice a1 r.1.l.length c1)) r.1.l a1 c1∧Bx w V1 l a c∧TabN V1 r.1.l a1 c1)∨(¬r.1.e=0∧e=.returned (.tuple #[.agg #[.slice none 0 0],.int .i64 0,.int .i64 r.1.e])∧Bx w V1 l a c):=by
 obtain⟨hb,⟨hz,a1,c1,rfl,hT⟩|⟨hz,rfl⟩⟩:=h
 ·exact .inl ⟨hz,a1,c1,rfl,hV.store hb hT (hl hz),hV.up hb,hT⟩
 ·exact .inr ⟨hz,rfl,hV.up hb⟩
theorem qHk {w V:World} {l:List NodeA} {a:Option Addr} {c:Nat} {r:MkS × Int} (hV:Bx w V l a c) (h:r.1.e=0) (hl:r.1.l=l) (h0:0<l.length):qB4 w r (.returned (.tuple #[.agg #[.slice a l.length c],.int .i64 r.2,.int .i64 0])) (V.setCell ⟨w.heap.size+1,0,none⟩ (.slice a l.length c)):=by
 refine⟨qAw hV.bl (by omega),.inl ⟨h,a,c,by rw[hl],?_⟩⟩
 rw[hl]
 exact hV.rd.setBox h0 hV.res
set_option maxHeartbeats 8000000 in
theorem qHy {s:MkS} (hI:MkI s) (h0:s.e=0) (hQ:QO s.l) (most:Int) (hm:most≤2000) {x y:Int} (hx:PlA s x) (hy:PlA s y) (sx:srt s.l x=1) (sy:srt s.l y=1) (k:Int) (a:Option Addr) (c:Nat) (w:World) (hA:TabN w s.l a c) :
  Calls Tryz.prog 54 #[.agg #[.slice a s.l.length c],.int .i64 x,.int .i64 y,.int .i64 k,.int .i64 most] w (qB4 w (leM most s x y k)):=by
 obtain⟨W0,hW0⟩:∃W0,W0=(w.alloc (.cells #[.slice a s.l.length c] 33)).alloc (.cells #[.slice none 0 0] 33):=⟨_,rfl⟩
 have hBx:=Bx.start hA hW0
 have hL1:=qJw (most:=most) hI hm hx hy k
 have HLe1:Hid (Calls Tryz.prog 77 #[.agg #[.slice a s.l.length c],.int .i64 x,.int .i64 y,.int .i64 k,.int .i64 most] W0 (LeO W0 (leM most s x y k))):=qHx hI h0 hQ most hm hx hy sx sy k _ c W0 hBx.rd
 generalize leM most s x y k=r at *
 have HL1:=Lib.hid hL1
 have HBx:=Lib.hid hBx
 clear hA hI h0 hQ hx hy sx sy hBx hL1
 go_enter Tryz.func54,Tryz.ntmps54
 go_wp2_with fail
 rw[←hW0]
 clear hW0
 with_reducible refine HLe1.out.mono ?_
 rintro e w1 hO
 rcases qHj HBx.out hO HL1.out with⟨hz,a1,c1,q,rfl,hb1,hb0⟩|⟨hz,q,rfl,hb0⟩
 rotate_left
 ·have ez:=qDf hz
  obtain⟨hE,hE2⟩:=qCx (v:=.slice none 0 0) hb0 rfl hz
  have HE:=Lib.hid hE
  have HE2':=Lib.hid hE2
  clear hO hE hE2 hz
  obtain⟨⟨x0,xf,xz⟩,⟨y0,yf,yz⟩⟩:=hb0.cells
  clear hb0
  go_wp2_with fail
  refine bodyPost_ret (qA4 rfl _ _ (w.heap.size+1) _ _ _ _ rfl (qAf HE2'.out) Tryz.underlying33 rfl qA3) rfl ?_
  exact HE.out
 have HE:=Lib.hid (qHk hb1 hz rfl (HL1.out hz))
 have HR:=Lib.hid hb1.res
 obtain⟨⟨x0,xf,xz⟩,⟨y0,yf,yz⟩⟩:=hb0.cells
 obtain⟨⟨x1,x1f,x1z⟩,⟨y1,y1f,y1z⟩⟩:=hb1.cells
 clear hO hz hb0 hb1
 go_wp2_with fail
 refine bodyPost_ret (qA4 rfl _ _ (w.heap.size+1) _ _ _ _ rfl (qAf HR.out) Tryz.underlying33 rfl qA3) rfl ?_
 exact HE.out
theorem qWo {w V:World} {l:List NodeA} {a:Option Addr} {c:Nat} {r:MkS × Int} {er:Int} (hV:Bx w V l a c) (h:r.1.e=er) (h0:¬er=0) (o:Obj):qB4 w r (.returned (.tuple #[.agg #[.slice none 0 0],.int .i64 0,.int .i64 er])) ((V.setCell ⟨w.heap.size+1,0,none⟩ (.slice none 0 0)).alloc o)∧((V.setCell ⟨w.heap.size+1,0,none⟩ (.slice none 0 0)).alloc o).heap[w.heap.size+1]? = some (.cells #[.slice none 0 0] 33 (0,0)):=by
 obtain⟨h1,h2⟩:=qGr (v:=.slice none 0 0) hV.bl (b:=w.heap.size+1) (by omega) hV.res o
 exact⟨⟨h1,.inr ⟨by rw[h];exact h0,by rw[h]⟩⟩,h2⟩
theorem qQ2 {most:Int} {s:MkS} (hI:MkI s) (hm:most≤2000) {x:Int} (hx:PlA s x):(qDg most s x).1.e=0→0<(qDg most s x).1.l.length:=fun _=>by
 have:=(qDt (most:=most) hI hm hx).inv.le
 omega
set_option maxHeartbeats 8000000 in
theorem qSq {s:MkS} (hI:MkI s) (h0:s.e=0) (hW:WS s.l) (most:Int) (hm:most≤2000) {x y:Int} (hx:PlA s x) (hy:PlA s y) (sx:srt s.l x=0) (sy:srt s.l y=0) (a:Option Addr) (c:Nat) (w:World) (hA:TabN w s.l a c) :
  Calls Tryz.prog 51 #[.agg #[.slice a s.l.length c],.int .i8 4,.int .i64 x,.int .i64 y,.int .i64 most] w (qB4 w (qDg most (eqM most s (qAk 6 x y 0)).1 (eqM most s (qAk 6 x y 0)).2)):=by
 obtain⟨W0,hW0⟩:∃W0,W0=(w.alloc (.cells #[.slice a s.l.length c] 33)).alloc (.cells #[.slice none 0 0] 33):=⟨_,rfl⟩
 have hBx:=Bx.start hA hW0
 have hs0:W0.heap.size=w.heap.size+1+1:=by rw[hW0];simp
 have hR:eqM most s (qAk 6 x y 0)=qAq most s (qAk 6 x y 0):=by
  unfold eqM
  show (if srt s.l x=0 then _ else _)=_
  rw[if_pos sx]
 have o1:=qGp (most:=most) (a:=x) (b:=y) hI hm hx hy
 have w1':=qPs (most:=most) hI hm hW hx hy (fun _=>sx.trans sy.symm)
 rw[hR] at o1 w1' ⊢
 have HPut:Hid (Calls Tryz.prog 50 #[.agg #[.slice a s.l.length c],.int .i8 6,.slice (some ⟨w.heap.size+1+1,0,none⟩) 2 2,.int .i64 most] (W0.alloc (.cells #[.int .i64 x,.int .i64 y] 3)) (qB4 (W0.alloc (.cells #[.int .i64 x,.int .i64 y] 3)) (qAq most s (qAk 6 x y 0)))):=by
  show Calls _ _ _ _ _
  rw[←hs0]
  exact qGs hI h0 most hm 6 (by omega) hx hy (sx.trans sy.symm) (.inl rfl) _ c W0 hBx.rd
 have hL1:=qEf (most:=most) (op:=6) hI hm (by omega) hx hy
 generalize qAq most s (qAk 6 x y 0)=r1 at *
 have HNot:Hid (r1.1.e=0→∀V a' c',TabN V r1.1.l a' c'→Calls Tryz.prog 49 #[.agg #[.slice a' r1.1.l.length c'],.int .i64 r1.2,.int .i64 most] V (qB4 V (qDg most r1.1 r1.2))):=fun he V a' c' hT=>qJv o1.inv he most hm o1.pl (w1' he).2 a' c' V hT
 have hL2:=qQ2 (most:=most) o1.inv hm o1.pl
 have hst:¬r1.1.e=0→(qDg most r1.1 r1.2).1.e=r1.1.e:=fun h=>by rw[qVh h]
 generalize qDg most r1.1 r1.2=r2 at *
 have HL1:=Lib.hid hL1
 have HL2:=Lib.hid hL2
 have HSt:=Lib.hid hst
 have HB1:=Lib.hid (hBx.up ((Below.refl _ W0).alloc (Nat.le_refl _) (.cells #[.int .i64 x,.int .i64 y] 3)))
 clear hA hI h0 hW hx hy sx sy hBx hL1 hL2 hst hR o1 w1' hs0
 go_enter Tryz.func51,Tryz.ntmps51
 go_wp2_with fail
 rw[←hW0]
 clear hW0
 with_reducible refine HPut.out.mono ?_
 rintro e w1 hO
 rcases qEv HB1.out hO HL1.out with⟨hz,a1,c1,rfl,-,hb0,hT⟩|⟨hz,rfl,hb0⟩
 rotate_left
 ·have ez:=qDf hz
  have HE:=Lib.hid (fun o=>qWo hb0 (HSt.out hz) hz o)
  clear hO hz
  obtain⟨⟨x0,xf,xz⟩,⟨y0,yf,yz⟩⟩:=hb0.cells
  clear hb0
  go_wp2_with fail
  refine bodyPost_ret (qA4 rfl _ _ (w.heap.size+1) _ _ _ _ rfl (HE.out _).2 Tryz.underlying33 rfl qA3) rfl ?_
  exact(HE.out _).1
 have HZ:=Lib.hid hz
 have HBo:Hid (∀o,Bx w (w1.alloc o) s.l a c∧TabN (w1.alloc o) r1.1.l a1 c1):=fun o=>⟨hb0.up ((Below.refl _ w1).alloc (Nat.le_refl _) o),hT.below ((Below.refl _ w1).alloc (Nat.le_refl _) o)⟩
 clear hO hz hb0 hT
 go_wp2_with fail
 refine(HNot.out HZ.out _ _ _ (HBo.out _).2).mono ?_
 rintro e w2 hO
 obtain⟨va,nn,cc,ii,er,rfl,hr2,hO2⟩:=qAl (w:=w) hO (HBo.out _).1.bl (by omega) (HBo.out _).1.res HL2.out
 have HO2:=Lib.hid hO2
 have HR2:=Lib.hid hr2
 clear hO hO2
 obtain⟨y0,yf,yz⟩:=qA6 hr2
 clear hr2
 go_wp2_with fail
 refine bodyPost_ret (qA4 rfl _ _ (w.heap.size+1) _ _ _ _ rfl (qAf HR2.out) Tryz.underlying33 rfl qA3) rfl ?_
 exact HO2.out
set_option maxHeartbeats 8000000 in
theorem qSr {s:MkS} (hI:MkI s) (h0:s.e=0) (hW:WS s.l) (most:Int) (hm:most≤2000) {x y:Int} (hx:PlA s x) (hy:PlA s y) (sx:srt s.l x=0) (sy:srt s.l y=0) (a:Option Addr) (c:Nat) (w:World) (hA:TabN w s.l a c) :
  Calls Tryz.prog 51 #[.agg #[.slice a s.l.length c],.int .i8 5,.int .i64 x,.int .i64 y,.int .i64 most] w (qB4 w (qAq most (qDg most s x).1 (qAk 3 (qDg most s x).2 y 0))):=by
 obtain⟨W0,hW0⟩:∃W0,W0=(w.alloc (.cells #[.slice a s.l.length c] 33)).alloc (.cells #[.slice none 0 0] 33):=⟨_,rfl⟩
 have hBx:=Bx.start hA hW0
 have o1:=qDt (most:=most) hI hm hx
 have w1':=qN4 (most:=most) hI hW hx (fun _=>sx)
 have hL1:=qQ2 (most:=most) hI hm hx
 have HNot:Hid (Calls Tryz.prog 49 #[.agg #[.slice a s.l.length c],.int .i64 x,.int .i64 most] W0 (qB4 W0 (qDg most s x))):=qJv hI h0 most hm hx sx a c W0 hBx.rd
 generalize qDg most s x=r1 at *
 have HPut:Hid (r1.1.e=0→∀V a' c',TabN V r1.1.l a' c'→Calls Tryz.prog 50 #[.agg #[.slice a' r1.1.l.length c'],.int .i8 3,.slice (some ⟨V.heap.size,0,none⟩) 2 2,.int .i64 most] (V.alloc (.cells #[.int .i64 r1.2,.int .i64 y] 3)) (qB4 (V.alloc (.cells #[.int .i64 r1.2,.int .i64 y] 3)) (qAq most r1.1 (qAk 3 r1.2 y 0)))):=fun he V a' c' hT=>by
  have z:srt r1.1.l y=0:=(qBa hy o1.pre).trans sy
  exact qGs o1.inv he most hm 3 (by omega) o1.pl (hy.up o1.pre) ((w1' he).2.trans z.symm) (.inr (w1' he).2) a' c' V hT
 have hL2:=qEf (most:=most) (op:=3) o1.inv hm (by omega) o1.pl (hy.up o1.pre)
 have hst:¬r1.1.e=0→(qAq most r1.1 (qAk 3 r1.2 y 0)).1.e=r1.1.e:=fun h=>by rw[qH6 h]
 generalize qAq most r1.1 (qAk 3 r1.2 y 0)=r2 at *
 have HL1:=Lib.hid hL1
 have HL2:=Lib.hid hL2
 have HSt:=Lib.hid hst
 have HBx:=Lib.hid hBx
 clear hA hI h0 hW hx hy sx sy hBx hL1 hL2 hst o1 w1'
 go_enter Tryz.func51,Tryz.ntmps51
 go_wp2_with fail
 rw[←hW0]
 clear hW0
 with_reducible refine HNot.out.mono ?_
 rintro e w1 hO
 rcases qEv HBx.out hO HL1.out with⟨hz,a1,c1,rfl,hb1,hb0,-⟩|⟨hz,rfl,hb0⟩
 rotate_left
 ·have ez:=qDf hz
  obtain⟨hE,hE2⟩:=qCx (v:=.slice none 0 0) hb0 (HSt.out hz) hz
  have HE:=Lib.hid hE
  have HE2':=Lib.hid hE2
  clear hO hE hE2 hz
  obtain⟨⟨x0,xf,xz⟩,⟨y0,yf,yz⟩⟩:=hb0.cells
  clear hb0
  go_wp2_with fail
  refine bodyPost_ret (qA4 rfl _ _ (w.heap.size+1) _ _ _ _ rfl (qAf HE2'.out) Tryz.underlying33 rfl qA3) rfl ?_
  exact HE.out
 have hsz:(w1.setCell ⟨w.heap.size,0,none⟩ (.slice a1 r1.1.l.length c1)).heap.size=w1.heap.size:=by simp
 have HP2:=HPut.out hz _ _ _ hb1.rd
 rw[hsz] at HP2
 have HP2:=Lib.hid HP2
 have HB3:=Lib.hid (hb1.up ((Below.refl _ _).alloc (Nat.le_refl _) (.cells #[.int .i64 r1.2,.int .i64 y] 3)))
 obtain⟨⟨x0,xf,xz⟩,⟨y0,yf,yz⟩⟩:=hb0.cells
 obtain⟨⟨x1,x1f,x1z⟩,⟨y1,y1f,y1z⟩⟩:=hb1.cells
 clear hO hz hb0 hb1 hsz
 go_wp2_with fail
 refine HP2.out.mono ?_
 rintro e w3 hO
 obtain⟨va,nn,cc,ii,er,rfl,hr2,hO2⟩:=qAl (w:=w) hO HB3.out.bl (by omega) HB3.out.res HL2.out
 have HO2:=Lib.hid hO2
 have HR2:=Lib.hid hr2
 clear x0 xf xz x1 x1f x1z y0 yf yz y1 y1f y1z hO hO2
 obtain⟨y0,yf,yz⟩:=qA6 hr2
 clear hr2
 go_wp2_with fail
 refine bodyPost_ret (qA4 rfl _ _ (w.heap.size+1) _ _ _ _ rfl (qAf HR2.out) Tryz.underlying33 rfl qA3) rfl ?_
 exact HO2.out
end Go.Proofs.YtfgpimhdjlmapaaGreatDoor.Tm
