/- The document's ite. -/
import Derived.Deep.RegionHeld3
import Derived.Laws.CopyOwn
import Derived.Deep.LoopGhost
import Derived.Laws.MakeOwn
import Derived.Laws.EntriesVeiled
import Derived.Test.YtfgpimhdjlmapaaGreatDoorDaK
namespace Go.Proofs.YtfgpimhdjlmapaaGreatDoor.Tm
open Go.RowKit
set_option linter.unusedVariables false
set_option maxRecDepth 100000
theorem qEg {P:Program} {fn:Func} {p u:Tmp} {ty:TypeId} (h:fn.results=#[.cell p ty,.tmp u]) (tmps:Array Value) (w:World) (g:Nat) (t:TypeId) (cs:Array Value) (fr:Nat × Nat) (d:TypeDesc)
  (hp:tmps.getD p undef=.pointer (some ⟨g,0,none⟩)) (hg:w.heap[g]? = some (.cells cs t fr))
  (hu:P.underlying ty=some d) (hd:(match d with|.struct _|.array _ _=>true|_=>false)=true) (hi:(P.info? ty).map (·.size)=some cs.size) :
  (results fn tmps).run P w=.ok (.tuple #[.agg cs,tmps.getD u undef]) w:=by
 have hp':tmps[p]?.getD undef=.pointer (some ⟨g,0,none⟩):=by simpa using hp
 simp[results,h,hp',asAddr,run_loadVar_row w g t ty cs fr d hg hu hd hi]
def qS4 (W:World) (r:MkS) (e:Ending) (w':World):Prop :=
 Below W.heap.size W w'∧((r.e=0∧∃(a:Option Addr) (c:Nat),e=.returned (.tuple #[.agg #[.slice a r.l.length c],.int .i64 0])∧TabN w' r.l a c)∨(¬r.e=0∧e=.returned (.tuple #[.agg #[.slice none 0 0],.int .i64 r.e])))
theorem qJx {w V:World} {r:MkS} {b:Nat} {va:Option Addr} {n c:Nat} {er:Int} (hV:Below w.heap.size w V) (hb:V.heap[w.heap.size+1]? = some (.cells #[.slice none 0 0] 33 (0,0))) (h:(r.e=0∧er=0∧n=r.l.length∧TabN V r.l va c∧0<r.l.length)∨(¬r.e=0∧er=r.e∧va=none∧n=0∧c=0)):qS4 w r (.returned (.tuple #[.agg #[.slice va n c],.int .i64 er])) (V.setCell ⟨w.heap.size+1,0,none⟩ (.slice va n c)):=by
 refine⟨qAw hV (by omega),?_⟩
 rcases h with⟨h0,rfl,rfl,hT,hl⟩|⟨h0,rfl,rfl,rfl,rfl⟩
 ·exact .inl ⟨h0,va,c,rfl,hT.setBox hl hb⟩
 ·exact .inr ⟨h0,rfl⟩
theorem qSs {most:Int} {s:MkS} {x y:Int} (h0:¬srt s.l x=0) (h1:¬srt s.l x=1):(eqM most s (qAk 6 x y 0)).1=(qDb most s x y).1:=by
 unfold eqM qDb
 show (if srt s.l x=0 then _ else if srt s.l x=1 then _ else _:MkS × Int).1=_
 rw[if_neg h0,if_neg h1]
 rfl
set_option maxHeartbeats 16000000 in
theorem qHz {s:MkS} (hI:MkI s) (h0:s.e=0) (hQ:QO s.l) (most:Int) (hm:most≤2000) {x y:Int} (hx:PlA s x) (hy:PlA s y) {sr:Int} (sx:srt s.l x=sr) (sy:srt s.l y=sr) (hs0:¬sr=0) (a:Option Addr) (c:Nat) (w:World) (hA:TabN w s.l a c) :
  Calls Tryz.prog 78 #[.agg #[.slice a s.l.length c],.int .i64 x,.int .i64 y,.int .i64 most] w (qS4 w (qCp most s sr x y)):=by
 obtain⟨W0,hW0⟩:∃W0,W0=(w.alloc (.cells #[.slice a s.l.length c] 33)).alloc (.cells #[.slice none 0 0] 33):=⟨_,rfl⟩
 have hBx:=Bx.start hA hW0
 have hlen:=hI.len
 have hlm:s.l.length≤9223372036854775807:=by omega
 have hL0:(qCp most s sr x y).e=0→0<(qCp most s sr x y).l.length:=fun _=>by
  have:=(qDa (most:=most) hI hm hx hy sr).2.le
  omega
 obtain⟨i,rfl,hi⟩:=hx.nat
 obtain⟨n,hn⟩:∃n,qAd s.l i=n:=⟨_,rfl⟩
 have hgi:=nodA_get hi
 rw[hn] at hgi
 have hsi:n.sort=sr:=by rw[←sx];unfold srt;rw[hn]
 have hii:(i:Int)<(s.l.length:Int):=by omega
 have hi0:(0:Int)≤(i:Int):=by omega
 obtain⟨⟨x0,xf,xz⟩,⟨y0,yf,yz⟩⟩:=hBx.cells
 obtain⟨g,o,rfl,hgz,-,-,-,-,-,q5,-,-⟩:=hBx.rd.node hgi
 rw[hsi] at q5
 rw[hW0] at x0 xf xz y0 yf yz hgz q5
 by_cases z1:sr=1
 rotate_left
 ·have e1:=qB7 z1
  have hR:qCp most s sr (i:Int) y=(qDb most s (i:Int) y).1:=by
   unfold qCp
   rw[if_neg hs0,if_neg z1,qSs (by rw[sx];exact hs0) (by rw[sx];exact z1)]
  rw[hR] at hL0 ⊢
  have HS:Hid (Calls Tryz.prog 76 #[.agg #[.slice (some ⟨g,o,none⟩) s.l.length c],.int .i64 i,.int .i64 y,.int .i64 most] W0 (qB4 W0 (qDb most s (i:Int) y))):=qKy hI h0 most hm hx hy (sx.trans sy.symm) _ c W0 hBx.rd
  generalize qDb most s (i:Int) y=r at *
  have HL0:=Lib.hid hL0
  have HBx:=Lib.hid hBx
  clear hA hI h0 hQ hx hy sx sy hs0 hBx hn hgi hsi z1 hL0 hR
  go_enter Tryz.func78,Tryz.ntmps78
  go_wp2_with fail
  rw[←hW0]
  clear hW0
  with_reducible refine HS.out.mono ?_
  rintro e w1 hO
  clear x0 xf xz y0 yf yz hgz q5
  rcases qEv HBx.out hO HL0.out with⟨hz,a1,c1,rfl,hb1,hb0,-⟩|⟨hz,rfl,hb0⟩
  ·have HE:Hid (qS4 w r.1 (.returned (.tuple #[.agg #[.slice a1 r.1.l.length c1],.int .i64 0])) ((w1.setCell ⟨w.heap.size,0,none⟩ (.slice a1 r.1.l.length c1)).setCell ⟨w.heap.size+1,0,none⟩ (.slice a1 r.1.l.length c1))):=qJx (b:=0) hb1.bl hb1.res (.inl ⟨hz,rfl,rfl,hb1.rd,HL0.out hz⟩)
   have HR:=Lib.hid hb1.res
   obtain⟨⟨x0,xf,xz⟩,⟨y0,yf,yz⟩⟩:=hb0.cells
   obtain⟨⟨x1,x1f,x1z⟩,⟨y1,y1f,y1z⟩⟩:=hb1.cells
   clear hO hz hb0 hb1
   go_wp2_with fail
   refine bodyPost_ret (qEg rfl _ _ (w.heap.size+1) _ _ _ _ rfl (qAf HR.out) Tryz.underlying33 rfl qA3) rfl ?_
   exact HE.out
  ·have hres:(w1.setCell ⟨w.heap.size,0,none⟩ (.slice none 0 0)).heap[w.heap.size+1]? = some (.cells #[.slice none 0 0] 33 (0,0)):=(Below.heap_setCell _ _ _ _ (fun e=>by simp only at e;omega)).trans hb0.res
   have htab:(w1.setCell ⟨w.heap.size,0,none⟩ (.slice none 0 0)).heap[w.heap.size]? = some (.cells #[.slice none 0 0] 33 (0,0)):=qAf hb0.tab
   have HE:Hid (qS4 w r.1 (.returned (.tuple #[.agg #[.slice none 0 0],.int .i64 r.1.e])) ((w1.setCell ⟨w.heap.size,0,none⟩ (.slice none 0 0)).setCell ⟨w.heap.size+1,0,none⟩ (.slice none 0 0))):=qJx (b:=0) (qAw hb0.bl (Nat.le_refl _)) hres (.inr ⟨hz,rfl,rfl,rfl,rfl⟩)
   have HR:=Lib.hid hres
   obtain⟨⟨x0,xf,xz⟩,⟨y0,yf,yz⟩⟩:=hb0.cells
   obtain⟨x1,x1f,x1z⟩:=qA6 htab
   obtain⟨y1,y1f,y1z⟩:=qA6 hres
   clear hO hz hb0 hres htab
   go_wp2_with fail
   refine bodyPost_ret (qEg rfl _ _ (w.heap.size+1) _ _ _ _ rfl (qAf HR.out) Tryz.underlying33 rfl qA3) rfl ?_
   exact HE.out
 subst z1
 have o1:=qBs (most:=most) hI hm hx hy 0
 have hL1:=qJw (most:=most) hI hm hx hy 0
 have HLe1:Hid (Calls Tryz.prog 77 #[.agg #[.slice (some ⟨g,o,none⟩) s.l.length c],.int .i64 i,.int .i64 y,.int .i64 0,.int .i64 most] W0 (LeO W0 (leM most s (i:Int) y 0))):=qHx hI h0 hQ most hm hx hy sx sy 0 _ c W0 hBx.rd
 have hq1:QO (leM most s (i:Int) y 0).1.l:=qJr hI hm hQ hx hy 0
 have hR:qCp most s 1 (i:Int) y=(leM most (leM most s (i:Int) y 0).1 y (i:Int) 0).1:=by
  unfold qCp
  rw[if_neg (by decide),if_pos rfl]
 rw[hR] at hL0 ⊢
 generalize leM most s (i:Int) y 0=r1 at *
 have HLe2:Hid (r1.1.e=0→∀V a' c',TabN V r1.1.l a' c'→Calls Tryz.prog 77 #[.agg #[.slice a' r1.1.l.length c'],.int .i64 y,.int .i64 i,.int .i64 0,.int .i64 most] V (LeO V (leM most r1.1 y (i:Int) 0))):=fun he V a' c' hT=>qHx o1.inv he hq1 most hm (hy.up o1.pre) (hx.up o1.pre) (by rw[qBa hy o1.pre];exact sy) (by rw[qBa hx o1.pre];exact sx) 0 _ c' V hT
 have hst:¬r1.1.e=0→(leM most r1.1 y (i:Int) 0).1.e=r1.1.e:=fun h=>by rw[qIy h]
 generalize leM most r1.1 y (i:Int) 0=r2 at *
 have HL0:=Lib.hid hL0
 have HL1:=Lib.hid hL1
 have HSt:=Lib.hid hst
 have HBx:=Lib.hid hBx
 clear hA hI h0 hQ hx hy sx sy hs0 hBx hn hgi hsi hL0 hL1 hst hq1 o1 hR
 go_enter Tryz.func78,Tryz.ntmps78
 go_wp2_with fail
 rw[←hW0]
 clear hW0
 with_reducible refine HLe1.out.mono ?_
 rintro e w1 hO
 clear x0 xf xz y0 yf yz hgz q5
 rcases qHj HBx.out hO HL1.out with⟨hz,a1,c1,q,rfl,-,hb0⟩|⟨hz,q,rfl,hb0⟩
 rotate_left
 ·have ez:=qDf hz
  have HE:Hid (∀o,qS4 w r2.1 (.returned (.tuple #[.agg #[.slice none 0 0],.int .i64 r1.1.e])) ((w1.setCell ⟨w.heap.size+1,0,none⟩ (.slice none 0 0)).alloc o)∧((w1.setCell ⟨w.heap.size+1,0,none⟩ (.slice none 0 0)).alloc o).heap[w.heap.size+1]? = some (.cells #[.slice none 0 0] 33 (0,0))):=fun o=>by
   obtain⟨h1,h2⟩:=qGr (v:=.slice none 0 0) hb0.bl (b:=w.heap.size+1) (by omega) hb0.res o
   exact⟨⟨h1,.inr ⟨by rw[HSt.out hz];exact hz,by rw[HSt.out hz]⟩⟩,h2⟩
  obtain⟨⟨x0,xf,xz⟩,⟨y0,yf,yz⟩⟩:=hb0.cells
  clear hO hz hb0
  go_wp2_with fail
  refine bodyPost_ret (qEg rfl _ _ (w.heap.size+1) _ _ _ _ rfl (HE.out _).2 Tryz.underlying33 rfl qA3) rfl ?_
  exact(HE.out _).1
 have hT1:TabN w1 r1.1.l a1 c1:=by
  rcases hO.2 with⟨_,a2,c2,q2,e2,hT⟩|⟨h2,_⟩
  ·cases e2;exact hT
  ·exact absurd hz h2
 obtain⟨W2,hW2⟩:∃W2,W2=w1.alloc (.cells #[.slice a1 r1.1.l.length c1] 33):=⟨_,rfl⟩
 have hb2:Below w1.heap.size w1 W2:=by rw[hW2];exact(Below.refl _ w1).alloc (Nat.le_refl _) _
 have hn2:W2.heap[w1.heap.size]? = some (.cells #[.slice a1 r1.1.l.length c1] 33 (0,0)):=by rw[hW2];exact heap_alloc_new w1 _
 have hB2:=hb0.up hb2
 have HT2:=Lib.hid (hT1.below hb2)
 have hlt1:w.heap.size+1<w1.heap.size:=(Array.getElem?_eq_some_iff.1 hb0.res).1
 have HZ:=Lib.hid hz
 have HB2:=Lib.hid hB2
 have HN2:=Lib.hid hn2
 obtain⟨⟨x0,xf,xz⟩,⟨y0,yf,yz⟩⟩:=hB2.cells
 obtain⟨z0,zf,zz⟩:=qA6 hn2
 clear hO hz hb0 hT1 hb2 hB2 hn2
 rw[hW2] at x0 xf xz y0 yf yz z0 zf zz
 go_wp2_with fail
 rw[←hW2]
 clear hW2 x0 xf xz y0 yf yz z0 zf zz
 refine(HLe2.out HZ.out _ _ _ HT2.out).mono ?_
 rintro e w3 hO
 obtain⟨hb3,hc⟩:=hO
 have hB3:=HB2.out.up hb3
 have hn3:=(hb3.block _ (Array.getElem?_eq_some_iff.1 HN2.out).1).trans HN2.out
 rcases hc with⟨hz,a2,c2,q2,rfl,hT⟩|⟨hz,q2,rfl⟩
 ·have hres:(w3.setCell ⟨w1.heap.size,0,none⟩ (.slice a2 r2.1.l.length c2)).heap[w.heap.size+1]? = some (.cells #[.slice none 0 0] 33 (0,0)):=(Below.heap_setCell _ _ _ _ (fun e=>by simp only at e;omega)).trans hB3.res
  have HE:Hid (qS4 w r2.1 (.returned (.tuple #[.agg #[.slice a2 r2.1.l.length c2],.int .i64 0])) ((w3.setCell ⟨w1.heap.size,0,none⟩ (.slice a2 r2.1.l.length c2)).setCell ⟨w.heap.size+1,0,none⟩ (.slice a2 r2.1.l.length c2))):=qJx (b:=0) (qAw hB3.bl (by omega)) hres (.inl ⟨hz,rfl,rfl,hT.setBox (HL0.out hz) hn3,HL0.out hz⟩)
  have HR:=Lib.hid hres
  obtain⟨⟨x0,xf,xz⟩,⟨y0,yf,yz⟩⟩:=hB3.cells
  obtain⟨z0,zf,zz⟩:=qA6 hn3
  obtain⟨y1,y1f,y1z⟩:=qA6 hres
  obtain⟨z1,z1f,z1z⟩:=qA6 (qAf (v:=.slice a2 r2.1.l.length c2) hn3)
  clear hz hB3 hn3 hT hres hb3
  go_wp2_with fail
  refine bodyPost_ret (qEg rfl _ _ (w.heap.size+1) _ _ _ _ rfl (qAf HR.out) Tryz.underlying33 rfl qA3) rfl ?_
  exact HE.out
 ·have hres:(w3.setCell ⟨w1.heap.size,0,none⟩ (.slice none 0 0)).heap[w.heap.size+1]? = some (.cells #[.slice none 0 0] 33 (0,0)):=(Below.heap_setCell _ _ _ _ (fun e=>by simp only at e;omega)).trans hB3.res
  have HE:Hid (qS4 w r2.1 (.returned (.tuple #[.agg #[.slice none 0 0],.int .i64 r2.1.e])) ((w3.setCell ⟨w1.heap.size,0,none⟩ (.slice none 0 0)).setCell ⟨w.heap.size+1,0,none⟩ (.slice none 0 0))):=qJx (b:=0) (qAw hB3.bl (by omega)) hres (.inr ⟨hz,rfl,rfl,rfl,rfl⟩)
  have HR:=Lib.hid hres
  obtain⟨⟨x0,xf,xz⟩,⟨y0,yf,yz⟩⟩:=hB3.cells
  obtain⟨z0,zf,zz⟩:=qA6 hn3
  obtain⟨y1,y1f,y1z⟩:=qA6 hres
  obtain⟨z1,z1f,z1z⟩:=qA6 (qAf (v:=.slice none 0 0) hn3)
  clear hz hB3 hn3 hres hb3
  go_wp2_with fail
  refine bodyPost_ret (qEg rfl _ _ (w.heap.size+1) _ _ _ _ rfl (qAf HR.out) Tryz.underlying33 rfl qA3) rfl ?_
  exact HE.out
theorem qVi {a b c sr:Int} {at_:Nat} (ha:0≤a∧a<(at_:Int)) (hb:0≤b∧b<(at_:Int)) (hc:0≤c∧c<(at_:Int)) (hs:0≤sr∧sr<6):standsB (qGk 7 [a,b,c] 3 sr) at_=true:=by
 unfold standsB
 rw[decide_eq_true_eq]
 refine⟨⟨by show (0:Int)≤7;decide,by show (7:Int)<14;decide,?_⟩,hs,qBr.ins (by show ((0:Nat):Int)<3;decide) ha,qBr.ins (by show ((1:Nat):Int)<3;decide) hb,qBr.ins (by show ((2:Nat):Int)<3;decide) hc⟩
 show (if (7:Int)=13 then _ else if (7:Int)=10∨(7:Int)=11∨(7:Int)=12 then _ else _)
 rw[if_neg (by decide),if_neg (by decide)]
 exact⟨rfl,rfl,rfl⟩
theorem qVj {s:MkS} (hI:MkI s) {x:Int} (hx:PlA s x):0≤srt s.l x∧srt s.l x<6:=by
 obtain⟨k,rfl,hk⟩:=hx.nat
 have hst:=hI.stands hk
 unfold standsB at hst
 rw[decide_eq_true_eq] at hst
 exact hst.2.1
theorem qM8 {sr:Int} (h:0≤sr∧sr<6):opE 7 [0,sr,sr]=0∧opV 7 [0,sr,sr]=sr:=by
 have hc:sr=0∨sr=1∨sr=2∨sr=3∨sr=4∨sr=5:=by omega
 rcases hc with e|e|e|e|e|e<;>rw[e]<;>exact⟨rfl,rfl⟩
theorem PlA.mem3 {s:MkS} {i j m:Int} (h:PlA s i) (k:PlA s j) (q:PlA s m):∀x∈[i,j,m],PlA s x:=fun x hx=>by
 simp only[List.mem_cons,List.not_mem_nil,or_false] at hx
 rcases hx with rfl|rfl|rfl
 ·exact h
 ·exact k
 ·exact q
theorem qWp (V:World) (l:List Int):At (V.alloc (.cells ⟨l.flatMap qFb⟩ 3)) (V.alloc (.cells ⟨l.flatMap qFb⟩ 3)).heap.size (l.flatMap qFb) (some ⟨V.heap.size,0,none⟩):=by
 intro h
 refine⟨V.heap.size,0,rfl,by simp,fun i v hv=>?_⟩
 rw[Nat.zero_add]
 refine(cell_of_row _ _ i _ _ _ (heap_alloc_new V _)).trans ?_
 simpa using hv
theorem qWq {s:MkS} (hI:MkI s) (h0:s.e=0) (most:Int) (hm:most≤2000) {x y z sr:Int} (hx:PlA s x) (hy:PlA s y) (hz:PlA s z) (sx:srt s.l x=0) (sy:srt s.l y=sr) (sz:srt s.l z=sr) (a:Option Addr) (c:Nat) (V:World) (hA:TabN V s.l a c) :
  Calls Tryz.prog 50 #[.agg #[.slice a s.l.length c],.int .i8 7,.slice (some ⟨V.heap.size,0,none⟩) 3 3,.int .i64 most] (V.alloc (.cells #[.int .i64 x,.int .i64 y,.int .i64 z] 3)) (qB4 (V.alloc (.cells #[.int .i64 x,.int .i64 y,.int .i64 z] 3)) (qAq most s (qGk 7 [x,y,z] 3 sr))):=by
 have hr:=qVj hI hy
 rw[sy] at hr
 have he:opE 7 ([x,y,z].map (srt s.l))=0∧opV 7 ([x,y,z].map (srt s.l))=sr:=by
  show opE 7 [srt s.l x,srt s.l y,srt s.l z]=0∧opV 7 [srt s.l x,srt s.l y,srt s.l z]=sr
  rw[sx,sy,sz]
  exact qM8 hr
 exact qEe hI h0 most hm 7 (qCi (by decide)) [x,y,z] (by simp) (by simp) (PlA.mem3 hx hy hz) sr he.1 he.2 (qVi hx hy hz hr) a c _ 3 _ (hA.below ((Below.refl _ V).alloc (Nat.le_refl _) _)) (qJu V [x,y,z] (fun q hq=>(PlA.mem3 hx hy hz q hq).i64 hI.len) (by simp[maxLen]))
theorem qWr {l:List NodeA} {n:NodeA} (h:n.op=7) (h1:srt l n.a0=0) (h2:srt l n.a1=n.sort) (h3:srt l n.a2=n.sort):WsN l n :=
 ⟨fun e=>by omega,fun e=>by omega,fun e=>by omega,fun e=>by omega,fun _=>⟨h1,h2,h3⟩,fun e=>by omega,fun e=>by omega,fun e=>by omega⟩
theorem qVk {most:Int} {s:MkS} {sr x y:Int} (h:¬s.e=0):(qCp most s sr x y).e=s.e:=by
 unfold qCp
 split
 ·rfl
 ·split
  ·have h1:=qIy (most:=most) (a:=x) (b:=y) (k:=0) h
   rw[qIy (by rw[h1];exact h),h1]
  ·unfold eqM
   split
   ·rw[qH6 h]
   ·split
    ·unfold eqI
     rw[qH6 (by rw[qIy (by rw[qIy h];exact h),qIy h];exact h),qIy (by rw[qIy h];exact h),qIy h]
    ·split
     ·rfl
     ·rw[qH6 h]
theorem qKz {w V V1:World} {l:List NodeA} {a:Option Addr} {c:Nat} {r:MkS} {e:Ending} (hV:Bx w V l a c) (h:qS4 V r e V1) (hl:r.e=0→0<r.l.length) :
  (r.e=0∧∃(a1:Option Addr) (c1:Nat),e=.returned (.tuple #[.agg #[.slice a1 r.l.length c1],.int .i64 0])∧Bx w (V1.setCell ⟨w.heap.size,0,none⟩ (.slice a1 r.l.length c1)) r.l a1 c1∧Bx w V1 l a c)∨(¬r.e=0∧e=.returned (.tuple #[.agg #[.slice none 0 0],.int .i64 r.e])∧Bx w V1 l a c):=by
 obtain⟨hb,⟨hz,a1,c1,rfl,hT⟩|⟨hz,rfl⟩⟩:=h
 ·exact .inl ⟨hz,a1,c1,rfl,hV.store hb hT (hl hz),hV.up hb⟩
 ·exact .inr ⟨hz,rfl,hV.up hb⟩
set_option maxHeartbeats 16000000 in
theorem qSt {s:MkS} (hI:MkI s) (h0:s.e=0) (hQ:QO s.l) (hW:WS s.l) (most:Int) (hm:most≤2000) {x y z:Int} (hx:PlA s x) (hy:PlA s y) (hz:PlA s z) (sx:srt s.l x=0) {sr:Int} (sy:srt s.l y=sr) (sz:srt s.l z=sr) (a:Option Addr) (c:Nat) (w:World) (hA:TabN w s.l a c) :
  Calls Tryz.prog 53 #[.agg #[.slice a s.l.length c],.int .i64 x,.int .i64 y,.int .i64 z,.int .i64 most] w (qB4 w (qIv most s (qGk 7 [x,y,z] 3 sr))):=by
 obtain⟨W0,hW0⟩:∃W0,W0=(w.alloc (.cells #[.slice a s.l.length c] 33)).alloc (.cells #[.slice none 0 0] 33):=⟨_,rfl⟩
 have hBx:=Bx.start hA hW0
 have hs0:W0.heap.size=w.heap.size+1+1:=by rw[hW0];simp
 have hlen:=hI.len
 have hlm:s.l.length≤9223372036854775807:=by omega
 have hsr:=qVj hI hy
 rw[sy] at hsr
 obtain⟨i,rfl,hi⟩:=hx.nat
 obtain⟨j,rfl,hj⟩:=hy.nat
 obtain⟨m,rfl,hm1⟩:=hz.nat
 obtain⟨n1,hn1⟩:∃n,qAd s.l i=n:=⟨_,rfl⟩
 obtain⟨n2,hn2⟩:∃n,qAd s.l j=n:=⟨_,rfl⟩
 obtain⟨n3,hn3⟩:∃n,qAd s.l m=n:=⟨_,rfl⟩
 have hg1:=nodA_get hi
 have hg2:=nodA_get hj
 have hg3:=nodA_get hm1
 rw[hn1] at hg1
 rw[hn2] at hg2
 rw[hn3] at hg3
 have e1:n1.sort=0:=by rw[←sx];unfold srt;rw[hn1]
 have e2:n2.sort=sr:=by rw[←sy];unfold srt;rw[hn2]
 have e3:n3.sort=sr:=by rw[←sz];unfold srt;rw[hn3]
 have hi1:(i:Int)<(s.l.length:Int):=by omega
 have hi0:(0:Int)≤(i:Int):=by omega
 have hj1:(j:Int)<(s.l.length:Int):=by omega
 have hj0:(0:Int)≤(j:Int):=by omega
 have hm2:(m:Int)<(s.l.length:Int):=by omega
 have hm0:(0:Int)≤(m:Int):=by omega
 obtain⟨⟨x0,xf,xz⟩,⟨y0,yf,yz⟩⟩:=hBx.cells
 obtain⟨g,o,rfl,hgz,-,-,-,-,-,p1,-,-⟩:=hBx.rd.node hg1
 obtain⟨g',o',ee,-,-,-,-,-,-,p2,-,-⟩:=hBx.rd.node hg2
 cases ee
 obtain⟨g',o',ee,-,-,-,-,-,-,p3,-,-⟩:=hBx.rd.node hg3
 cases ee
 rw[e1] at p1
 rw[e2] at p2
 rw[e3] at p3
 have HS:Hid (∀V,Below W0.heap.size W0 V→V.cell? ⟨w.heap.size,0,none⟩=some (.slice (some ⟨g,o,none⟩) s.l.length c)∧V.cell? ⟨g,o+i*8+5,none⟩=some (.int .i64 0)∧V.cell? ⟨g,o+j*8+5,none⟩=some (.int .i64 sr)∧V.cell? ⟨g,o+m*8+5,none⟩=some (.int .i64 sr)):=fun V hV=>⟨(hV.cell (p:=⟨w.heap.size,0,none⟩) xz).trans x0,(hV.cell (p:=⟨g,o+i*8+5,none⟩) hgz).trans p1,(hV.cell (p:=⟨g,o+j*8+5,none⟩) hgz).trans p2,(hV.cell (p:=⟨g,o+m*8+5,none⟩) hgz).trans p3⟩
 have HOp:Hid (Calls Tryz.prog 32 #[.int .i8 7,.slice (some ⟨W0.heap.size,0,none⟩) 3 3] (W0.alloc (.cells #[.int .i64 0,.int .i64 sr,.int .i64 sr] 3)).drew fun e w'=>e=.returned (.tuple #[.int .i64 sr,.int .i64 0])∧Below W0.heap.size W0 w'):=by
  have h:=_root_.Go.Proofs.YtfgpimhdjlmapaaGreatDoor.Op_any 7 [0,sr,sr] (some ⟨W0.heap.size,0,none⟩) 3 sr 0 (W0.alloc (.cells #[.int .i64 0,.int .i64 sr,.int .i64 sr] 3)).drew (qWp W0 [0,sr,sr]) (by simp) (qM8 hsr).2 (qM8 hsr).1
  refine h.mono ?_
  rintro e w' ⟨rfl,hb⟩
  refine⟨rfl,?_⟩
  have hb1:Below W0.heap.size W0 (W0.alloc (.cells #[.int .i64 0,.int .i64 sr,.int .i64 sr] 3)).drew:=((Below.refl _ W0).alloc (Nat.le_refl _) _).drew
  exact hb1.trans (hb.mono hb1.size)
 obtain⟨N,hN⟩:∃N,qGk 7 [(i:Int),j,m] 3 sr=N:=⟨_,rfl⟩
 have hr1:(j:Int)=m→qIv most s N=(s,(j:Int)):=fun h=>by subst hN;unfold qIv;exact if_pos h
 have hr2:¬(j:Int)=m→qIv most s N=(qCp most (qCp most (qAq most s N).1 sr (qAq most s N).2 j) sr (qAq most s N).2 m,(qAq most s N).2):=fun h=>by subst hN;unfold qIv;exact if_neg h
 have HPut:Hid (∀V,Below W0.heap.size W0 V→Calls Tryz.prog 50 #[.agg #[.slice (some ⟨g,o,none⟩) s.l.length c],.int .i8 7,.slice (some ⟨V.heap.size,0,none⟩) 3 3,.int .i64 most] (V.alloc (.cells #[.int .i64 i,.int .i64 j,.int .i64 m] 3)) (qB4 (V.alloc (.cells #[.int .i64 i,.int .i64 j,.int .i64 m] 3)) (qAq most s N))):=fun V hV=>by
  rw[←hN]
  exact qWq hI h0 most hm hx hy hz sx sy sz _ c V (hBx.rd.below hV)
 rw[hN]
 have HBx:=Lib.hid hBx
 have hst:standsB N s.l.length=true:=by rw[←hN];exact qVi hx hy hz hsr
 have hop:N.op=7:=by rw[←hN];rfl
 have o1:=qB8 (most:=most) hI hm (qCh hst hI.len) (fun _=>hst)
 have hL1:=qM6 (most:=most) hI hm hst
 have hq1:=qEc (most:=most) hI hQ (fun _=>hst) (fun _=>qBv (by rw[hop];decide) (by rw[hop];decide))
 have hw1:(qAq most s N).1.e=0→srt (qAq most s N).1.l (qAq most s N).2=sr:=fun he=>by
  have h:=(qEd (most:=most) hI hW (fun _=>hst) (fun _=>qWr hop (by subst hN;exact sx) (by subst hN;exact sy) (by subst hN;exact sz)) he).2
  rw[h,←hN];rfl
 generalize qAq most s N=r1 at *
 obtain⟨s1,q⟩:=r1
 obtain⟨p,hp',hp⟩:=o1.pl.nat
 simp only at hp' hp hL1 hq1 hw1 hr2
 subst hp'
 have hlen1:=o1.inv.len
 have hlm1:s1.l.length≤9223372036854775807:=by have:s1.l.length≤2000:=hlen1;omega
 have hpp:(p:Int)<(s1.l.length:Int):=by omega
 have hpp0:(0:Int)≤(p:Int):=by omega
 have hBe1:s1.e=0→¬sr=0→∀V a' c',TabN V s1.l a' c'→Calls Tryz.prog 78 #[.agg #[.slice a' s1.l.length c'],.int .i64 p,.int .i64 j,.int .i64 most] V (qS4 V (qCp most s1 sr p j)):=fun he h V a' c' hT=>qHz o1.inv he hq1 most hm o1.pl (hy.up o1.pre) (hw1 he) (by rw[qBa hy o1.pre];exact sy) h a' c' V hT
 obtain⟨b1,hb1⟩:∃b1,qCp most s1 sr p j=b1:=⟨_,rfl⟩
 have o2:=qDa (most:=most) o1.inv hm o1.pl (hy.up o1.pre) sr
 have hq2:=qPp (most:=most) o1.inv hm hq1 o1.pl (hy.up o1.pre) sr
 have st2:¬s1.e=0→b1.e=s1.e:=fun h=>by rw[←hb1];exact qVk h
 simp only at o2 hq2
 rw[hb1] at hBe1 hr2 o2 hq2
 have hBe2:b1.e=0→¬sr=0→∀V a' c',TabN V b1.l a' c'→Calls Tryz.prog 78 #[.agg #[.slice a' b1.l.length c'],.int .i64 p,.int .i64 m,.int .i64 most] V (qS4 V (qCp most b1 sr p m)):=fun he h V a' c' hT=>qHz o2.2 he hq2 most hm (o1.pl.up o2.1) ((hz.up o1.pre).up o2.1) (by rw[qBa o1.pl o2.1];exact hw1 (o2.1.e he)) (by rw[qBa (hz.up o1.pre) o2.1,qBa hz o1.pre];exact sz) h a' c' V hT
 have o3:=qDa (most:=most) o2.2 hm (o1.pl.up o2.1) ((hz.up o1.pre).up o2.1) sr
 obtain⟨b2,hb2⟩:∃b2,qCp most b1 sr p m=b2:=⟨_,rfl⟩
 have st3:¬b1.e=0→b2.e=b1.e:=fun h=>by rw[←hb2];exact qVk h
 simp only at o3
 rw[hb2] at hBe2 hr2 o3
 have hl2:b1.e=0→0<b1.l.length:=fun _=>by have:=o2.2.le;omega
 have hl3:b2.e=0→0<b2.l.length:=fun _=>by have:=o3.2.le;omega
 have hsame:sr=0→b2=s1:=fun h=>by
  rw[←hb2,←hb1];unfold qCp
  rw[if_pos h,if_pos h]
 have HNd:Hid (∀V a' c',TabN V s1.l a' c'→s1.e=0→∃g1 o1:Nat,a'=some ⟨g1,o1,none⟩∧V.cell? ⟨g1,o1+p*8+5,none⟩=some (.int .i64 sr)∧g1<V.heap.size):=fun V a' c' hT he=>by
  have hgp:=nodA_get hp
  obtain⟨g1,o1',e,hz1,-,-,-,-,-,q5,-,-⟩:=hT.node hgp
  have h5:(qAd s1.l p).sort=sr:=hw1 he
  rw[h5] at q5
  exact⟨g1,o1',e,q5,hz1⟩
 have HR1:=Lib.hid hr1
 have HR2:=Lib.hid hr2
 have HH0:=Lib.hid h0
 have HL0:Hid (0<s.l.length):=Lib.hid (by omega)
 have HL1:=Lib.hid hL1
 have HL2:=Lib.hid hl2
 have HL3:=Lib.hid hl3
 have HSt2:=Lib.hid st2
 have HSt3:=Lib.hid st3
 have HBe1:=Lib.hid hBe1
 have HBe2:=Lib.hid hBe2
 have HSame:=Lib.hid hsame
 clear hA hI h0 hQ hW hx hy hz sx sy sz hBx hn1 hn2 hn3 hg1 hg2 hg3 hs0 hr1 hr2 hN hsr hst hop o1 hL1 hq1 hw1 hlen1 hBe1 o2 hq2 st2 hBe2 o3 st3 hl2 hl3 hsame hb1 hb2
 rw[hW0] at x0 xf xz y0 yf yz hgz p1 p2 p3
 go_enter Tryz.func53,Tryz.ntmps53
 go_wp2_with fail
 rw[←hW0] at x0 xf xz y0 yf yz hgz p1 p2 p3
 rw[←hW0]
 clear hW0
 go_region_held3 (fun V=>V.cell? ⟨w.heap.size,0,none⟩=some (.slice (some ⟨g,o,none⟩) s.l.length c)∧V.cell? ⟨g,o+i*8+5,none⟩=some (.int .i64 0)∧V.cell? ⟨g,o+j*8+5,none⟩=some (.int .i64 sr)∧V.cell? ⟨g,o+m*8+5,none⟩=some (.int .i64 sr))
  (first|exact⟨x0,p1,p2,p3⟩|exact HS.out _ (Below.refl _ _).drew|exact HS.out _ ((Below.refl _ W0).drew.alloc (Nat.le_refl _) _)|with_reducible exact HS.out _ HB1.out)
  (first|(go_at_call 32;refine HOp.out.mono ?_;rintro e w1 ⟨rfl,hb1⟩;have HB1:=Lib.hid hb1;clear hb1))
 have hB1:=HBx.out.up HB1.out
 clear x0 xf xz y0 yf yz hgz p1 p2 p3 HS HOp
 obtain⟨⟨x0,xf,xz⟩,⟨y0,yf,yz⟩⟩:=hB1.cells
 by_cases hjm:(j:Int)=m
 ·have ejm:=qC9 hjm
  have HJ:=Lib.hid (HR1.out hjm)
  have HE:=Lib.hid (qHk (r:=(s,(j:Int))) hB1 HH0.out rfl HL0.out)
  have HRs:=Lib.hid hB1.res
  clear hB1 hjm
  go_wp2_with fail
  refine bodyPost_ret (qA4 rfl _ _ (w.heap.size+1) _ _ _ _ rfl (qAf HRs.out) Tryz.underlying33 rfl qA3) rfl ?_
  show qB4 _ _ _ _
  rw[HJ.out]
  exact HE.out
 have ejm:=qB7 hjm
 have HJ:=Lib.hid (HR2.out hjm)
 have HB2:=Lib.hid (hB1.up ((Below.refl _ w1).alloc (Nat.le_refl _) (.cells #[.int .i64 i,.int .i64 j,.int .i64 m] 3)))
 clear hB1 hjm
 go_wp2_with fail
 with_reducible refine(HPut.out _ HB1.out).mono ?_
 rintro e w2 hO
 clear x0 xf xz y0 yf yz
 rcases qEv HB2.out hO HL1.out with⟨hz,a1,c1,rfl,hb1,hb0,-⟩|⟨hz,rfl,hb0⟩
 rotate_left
 ·have ez:=qDf hz
  have hz1:¬b1.e=0:=by rw[HSt2.out hz];exact hz
  obtain⟨hE,hE2⟩:=qCx (r:=(b2,(p:Int))) (v:=.slice none 0 0) hb0 ((HSt3.out hz1).trans (HSt2.out hz)) hz
  have HE:=Lib.hid hE
  have HE2':=Lib.hid hE2
  clear hO hE hE2 hz hz1
  obtain⟨⟨x0,xf,xz⟩,⟨y0,yf,yz⟩⟩:=hb0.cells
  clear hb0
  go_wp2_with fail
  refine bodyPost_ret (qA4 rfl _ _ (w.heap.size+1) _ _ _ _ rfl (qAf HE2'.out) Tryz.underlying33 rfl qA3) rfl ?_
  show qB4 _ _ _ _
  rw[HJ.out]
  exact HE.out
 obtain⟨g1,o1,rfl,q5,hg1z⟩:=HNd.out _ _ _ hb1.rd hz
 obtain⟨⟨x0,xf,xz⟩,⟨y0,yf,yz⟩⟩:=hb0.cells
 obtain⟨⟨x1,x1f,x1z⟩,⟨y1,y1f,y1z⟩⟩:=hb1.cells
 simp only at hz
 by_cases hs0:sr=0
 ·subst hs0
  have HE:=Lib.hid (qHk (r:=(b2,(p:Int))) hb1 (by show b2.e=0;rw[HSame.out rfl];exact hz) (by show b2.l=_;rw[HSame.out rfl]) (HL1.out hz))
  have HR:=Lib.hid hb1.res
  clear hO hz hb0 hb1
  go_wp2_with fail
  refine bodyPost_ret (qA4 rfl _ _ (w.heap.size+1) _ _ _ _ rfl (qAf HR.out) Tryz.underlying33 rfl qA3) rfl ?_
  show qB4 _ _ _ _
  rw[HJ.out]
  exact HE.out
 have es0:=qB7 hs0
 have HS1:=Lib.hid hs0
 have HZ:=Lib.hid hz
 have HB3:=Lib.hid hb1
 clear hO hz hb0 hb1 hs0
 go_wp2_with fail
 refine(HBe1.out HZ.out HS1.out _ _ _ HB3.out.rd).mono ?_
 rintro e w3 hO
 clear x0 xf xz y0 yf yz x1 x1f x1z y1 y1f y1z q5 hg1z
 rcases qKz HB3.out hO HL2.out with⟨hz,a2,c2,rfl,hb1,hb0⟩|⟨hz,rfl,hb0⟩
 rotate_left
 ·have ez:=qDf hz
  obtain⟨hE,hE2⟩:=qCx (r:=(b2,(p:Int))) (v:=.slice none 0 0) hb0 (HSt3.out hz) hz
  have HE:=Lib.hid hE
  have HE2':=Lib.hid hE2
  clear hO hE hE2 hz
  obtain⟨⟨x0,xf,xz⟩,⟨y0,yf,yz⟩⟩:=hb0.cells
  clear hb0
  go_wp2_with fail
  refine bodyPost_ret (qA4 rfl _ _ (w.heap.size+1) _ _ _ _ rfl (qAf HE2'.out) Tryz.underlying33 rfl qA3) rfl ?_
  show qB4 _ _ _ _
  rw[HJ.out]
  exact HE.out
 obtain⟨⟨x0,xf,xz⟩,⟨y0,yf,yz⟩⟩:=hb0.cells
 obtain⟨⟨x1,x1f,x1z⟩,⟨y1,y1f,y1z⟩⟩:=hb1.cells
 have HZ2:=Lib.hid hz
 have HB4:=Lib.hid hb1
 clear hO hz hb0 hb1
 go_wp2_with fail
 refine(HBe2.out HZ2.out HS1.out _ _ _ HB4.out.rd).mono ?_
 rintro e w4 hO
 clear x0 xf xz y0 yf yz x1 x1f x1z y1 y1f y1z
 rcases qKz HB4.out hO HL3.out with⟨hz,a3,c3,rfl,hb1,hb0⟩|⟨hz,rfl,hb0⟩
 rotate_left
 ·have ez:=qDf hz
  obtain⟨hE,hE2⟩:=qCx (r:=(b2,(p:Int))) (v:=.slice none 0 0) hb0 rfl hz
  have HE:=Lib.hid hE
  have HE2':=Lib.hid hE2
  clear hO hE hE2 hz
  obtain⟨⟨x0,xf,xz⟩,⟨y0,yf,yz⟩⟩:=hb0.cells
  clear hb0
  go_wp2_with fail
  refine bodyPost_ret (qA4 rfl _ _ (w.heap.size+1) _ _ _ _ rfl (qAf HE2'.out) Tryz.underlying33 rfl qA3) rfl ?_
  show qB4 _ _ _ _
  rw[HJ.out]
  exact HE.out
 have HE:=Lib.hid (qHk (r:=(b2,(p:Int))) hb1 hz rfl (HL3.out hz))
 have HR:=Lib.hid hb1.res
 obtain⟨⟨x0,xf,xz⟩,⟨y0,yf,yz⟩⟩:=hb0.cells
 obtain⟨⟨x1,x1f,x1z⟩,⟨y1,y1f,y1z⟩⟩:=hb1.cells
 clear hO hz hb0 hb1
 go_wp2_with fail
 refine bodyPost_ret (qA4 rfl _ _ (w.heap.size+1) _ _ _ _ rfl (qAf HR.out) Tryz.underlying33 rfl qA3) rfl ?_
 show qB4 _ _ _ _
 rw[HJ.out]
 exact HE.out
end Go.Proofs.YtfgpimhdjlmapaaGreatDoor.Tm
