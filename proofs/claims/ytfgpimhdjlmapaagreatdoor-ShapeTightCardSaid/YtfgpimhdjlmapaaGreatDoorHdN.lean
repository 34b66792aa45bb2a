/- The document's Many, alike. -/
import Derived.Test.YtfgpimhdjlmapaaGreatDoorHdK
namespace Go.Proofs.YtfgpimhdjlmapaaGreatDoor
open Go.RowKit
set_option linter.unusedVariables false
set_option maxRecDepth 100000
theorem qMc {α:Type} {one:List α→α→Bool} {l:List α} {k:Nat} {p:α} (h:qE7 one [] l=true) (hp:l[k]? = some p):one (l.take k) p=true:=by
 cases h2:one (l.take k) p with
 | true=>rfl
 | false =>
  have h3:qE7 one [] l=false:=qGt (k:=k+1) (by rw[qDl hp,h2,Bool.and_false])
  rw[h] at h3;cases h3
theorem qTi {x:SigV} {y:WorV} (h:qHb x y=true) {k:Nat} {f:FunA} (hf:x.funs[k]? = some f):0≤f.len∧f.len≤3:=by
 unfold qHb at h
 simp only[Bool.and_eq_true] at h
 have h2:=h.1
 unfold qC1 at h2
 simp only[Bool.and_eq_true] at h2
 have h3:=qMc h2.2.2.2.2.1 (k:=k) (p:=f) hf
 unfold qS6 qNh at h3
 simp only[Bool.and_eq_true,decide_eq_true_eq] at h3
 exact⟨h3.2.1,h3.2.2.1⟩
def zCd:FunA:=⟨⟨#[]⟩,0,0,0,0,0⟩
def fnA (x:SigV) (f:Int):FunA:=(x.funs[f.toNat]?).getD zCd
def qK5 (x:SigV) (y:WorV) (f:Int) (l:List Int):Int :=
 if qHb x y=true∧0≤f∧f<(x.funs.length:Int)∧(l.length:Int)=(fnA x f).len then (if fitB x.sorts.length y.sizes (fnA x f) (l.getD 0 0) (l.getD 1 0) (l.getD 2 0)=true then 0 else 33) else 2
theorem qI5 {x:SigV} {y:WorV} {f:Int} {l:List Int} (h:¬(qHb x y=true∧0≤f∧f<(x.funs.length:Int)∧(l.length:Int)=(fnA x f).len)):qK5 x y f l=2:=if_neg h
theorem qZi {w:World} {b:Nat} {t:TypeId} {a0 a1 a2 v0 v1 v2:Value} (h:w.heap[b]? = some (.cells #[a0,a1,a2] t (0,0))) :
  (((w.setCell ⟨b,0,none⟩ v0).setCell ⟨b,1,none⟩ v1).setCell ⟨b,2,none⟩ v2).heap[b]? = some (.cells #[v0,v1,v2] t (0,0)):=by
 simp[World.setCell,Array.getElem?_modify,h]
theorem qC2 {P:Program} {fn:Func} {p u:Tmp} {ty:TypeId} (h:fn.results=#[.cell p ty,.tmp u]) (tmps:Array Value) (w:World) (g:Nat) (t:TypeId) (cs:Array Value) (fr:Nat × Nat) (d:TypeDesc)
  (hp:tmps.getD p undef=.pointer (some ⟨g,0,none⟩)) (hg:w.heap[g]? = some (.cells cs t fr))
  (hu:P.underlying ty=some d) (hd:(match d with|.struct _|.array _ _=>true|_=>false)=true) (hi:(P.info? ty).map (·.size)=some cs.size) :
  (results fn tmps).run P w=.ok (.tuple #[.agg cs,tmps.getD u undef]) w:=by
 rw[results_cell_tmp h,hp]
 simp[asAddr,run_loadVar_row w g t ty cs fr d hg hu hd hi]
theorem qGu:(Tryz.prog.info? 52).map (·.size)=some 3:=by kernel_rfl
structure AskI (w V:World) (x:SigV) (y:WorV) (a0 a1 a2:Int):Prop where
 below:Below w.heap.size w V
 bx:V.heap[w.heap.size]? = some (.cells #[.slice x.sa x.sorts.length x.sc,.slice x.fa x.funs.length x.fc,.slice x.ma x.macs.length x.mc] 26 (0,0))
 bw:V.heap[w.heap.size+1]? = some (.cells #[.slice y.sa y.sizes.length y.sc,.slice y.fa y.funs.length y.fc] 30 (0,0))
 br:V.heap[w.heap.size+1+1]? = some (.cells #[.int .i64 0,.int .i64 0,.int .i64 0] 52 (0,0))
 ba:V.heap[w.heap.size+1+1+1]? = some (.cells #[.int .i64 a0,.int .i64 a1,.int .i64 a2] 52 (0,0))
theorem AskI.lt {w V:World} {x:SigV} {y:WorV} {a0 a1 a2:Int} (h:AskI w V x y a0 a1 a2):w.heap.size+1+1+1<V.heap.size:=(Array.getElem?_eq_some_iff.1 h.ba).1
theorem AskI.on {w V V':World} {x:SigV} {y:WorV} {a0 a1 a2:Int} (h:AskI w V x y a0 a1 a2) (hb:Below V.heap.size V V'):AskI w V' x y a0 a1 a2:=by
 have hl:=h.lt
 exact⟨h.below.trans (hb.mono h.below.size),(hb.block _ (by omega)).trans h.bx,(hb.block _ (by omega)).trans h.bw,(hb.block _ (by omega)).trans h.br,(hb.block _ hl).trans h.ba⟩
theorem AskI.cells {w V:World} {x:SigV} {y:WorV} {a0 a1 a2:Int} (h:AskI w V x y a0 a1 a2):V.cell? ⟨w.heap.size,0,none⟩=some (.slice x.sa x.sorts.length x.sc)∧V.cell? ⟨w.heap.size,1,none⟩=some (.slice x.fa x.funs.length x.fc)∧V.cell? ⟨w.heap.size,2,none⟩=some (.slice x.ma x.macs.length x.mc)∧V.cell? ⟨w.heap.size+1,0,none⟩=some (.slice y.sa y.sizes.length y.sc)∧V.cell? ⟨w.heap.size+1,1,none⟩=some (.slice y.fa y.funs.length y.fc)∧V.cell? ⟨w.heap.size+1+1,0,none⟩=some (.int .i64 0)∧V.cell? ⟨w.heap.size+1+1,1,none⟩=some (.int .i64 0)∧V.cell? ⟨w.heap.size+1+1,2,none⟩=some (.int .i64 0)∧V.cell? ⟨w.heap.size+1+1+1,0,none⟩=some (.int .i64 a0)∧V.cell? ⟨w.heap.size+1+1+1,1,none⟩=some (.int .i64 a1)∧V.cell? ⟨w.heap.size+1+1+1,2,none⟩=some (.int .i64 a2)∧(∀i,V.frozen? ⟨w.heap.size+1+1,i,none⟩=false)∧(∀i,V.frozen? ⟨w.heap.size+1+1+1,i,none⟩=false):=by
 obtain⟨c0,c1,c2,_⟩:=qAx h.bx
 obtain⟨w0,w1,_⟩:=qBy h.bw
 obtain⟨p0,p1,p2,_⟩:=qG3 h.br
 obtain⟨q0,q1,q2,_⟩:=qG3 h.ba
 have h1:=h.br
 have h2:=h.ba
 exact⟨c0,c1,c2,w0,w1,p0,p1,p2,q0,q1,q2,fun i=>by simp[World.frozen?,h1],fun i=>by simp[World.frozen?,h2]⟩
theorem AskI.set0 {w V:World} {x:SigV} {y:WorV} {a0 a1 a2:Int} (h:AskI w V x y a0 a1 a2) (v:Int):AskI w (V.setCell ⟨w.heap.size+1+1+1,0,none⟩ (.int .i64 v)) x y v a1 a2:=by
 obtain⟨h1,h2,h3,h4,h5⟩:=h
 exact⟨h1.setCell (p:=⟨w.heap.size+1+1+1,0,none⟩) (by simp;omega) _,by first|(simp[World.setCell,Array.getElem?_modify,h2];done)|(simp[World.setCell,Array.getElem?_modify,h2];omega),by first|(simp[World.setCell,Array.getElem?_modify,h3];done)|(simp[World.setCell,Array.getElem?_modify,h3];omega),by first|(simp[World.setCell,Array.getElem?_modify,h4];done)|(simp[World.setCell,Array.getElem?_modify,h4];omega),by first|(simp[World.setCell,Array.getElem?_modify,h5];done)|(simp[World.setCell,Array.getElem?_modify,h5];omega)⟩
theorem AskI.set1 {w V:World} {x:SigV} {y:WorV} {a0 a1 a2:Int} (h:AskI w V x y a0 a1 a2) (v:Int):AskI w (V.setCell ⟨w.heap.size+1+1+1,1,none⟩ (.int .i64 v)) x y a0 v a2:=by
 obtain⟨h1,h2,h3,h4,h5⟩:=h
 exact⟨h1.setCell (p:=⟨w.heap.size+1+1+1,1,none⟩) (by simp;omega) _,by first|(simp[World.setCell,Array.getElem?_modify,h2];done)|(simp[World.setCell,Array.getElem?_modify,h2];omega),by first|(simp[World.setCell,Array.getElem?_modify,h3];done)|(simp[World.setCell,Array.getElem?_modify,h3];omega),by first|(simp[World.setCell,Array.getElem?_modify,h4];done)|(simp[World.setCell,Array.getElem?_modify,h4];omega),by first|(simp[World.setCell,Array.getElem?_modify,h5];done)|(simp[World.setCell,Array.getElem?_modify,h5];omega)⟩
theorem AskI.set2 {w V:World} {x:SigV} {y:WorV} {a0 a1 a2:Int} (h:AskI w V x y a0 a1 a2) (v:Int):AskI w (V.setCell ⟨w.heap.size+1+1+1,2,none⟩ (.int .i64 v)) x y a0 a1 v:=by
 obtain⟨h1,h2,h3,h4,h5⟩:=h
 exact⟨h1.setCell (p:=⟨w.heap.size+1+1+1,2,none⟩) (by simp;omega) _,by first|(simp[World.setCell,Array.getElem?_modify,h2];done)|(simp[World.setCell,Array.getElem?_modify,h2];omega),by first|(simp[World.setCell,Array.getElem?_modify,h3];done)|(simp[World.setCell,Array.getElem?_modify,h3];omega),by first|(simp[World.setCell,Array.getElem?_modify,h4];done)|(simp[World.setCell,Array.getElem?_modify,h4];omega),by first|(simp[World.setCell,Array.getElem?_modify,h5];done)|(simp[World.setCell,Array.getElem?_modify,h5];omega)⟩
theorem AskI.drew {w V:World} {x:SigV} {y:WorV} {a0 a1 a2:Int} (h:AskI w V x y a0 a1 a2):AskI w V.drew x y a0 a1 a2:=h.on (Below.refl _ _).drew
theorem AskI.new (w:World) (x:SigV) (y:WorV):AskI w ((((w.alloc (.cells #[.slice x.sa x.sorts.length x.sc,.slice x.fa x.funs.length x.fc,.slice x.ma x.macs.length x.mc] 26)).alloc (.cells #[.slice y.sa y.sizes.length y.sc,.slice y.fa y.funs.length y.fc] 30)).alloc (.cells #[.int .i64 0,.int .i64 0,.int .i64 0] 52)).alloc (.cells #[.int .i64 0,.int .i64 0,.int .i64 0] 52)) x y 0 0 0:=by
 refine⟨((((Below.refl _ w).alloc (Nat.le_refl _) _).alloc (by simp) _).alloc (by simp;omega) _).alloc (by simp;omega) _,?_,?_,?_,?_⟩
 ·exact(((Below.heap_alloc _ _ _ (by simp;omega)).trans (Below.heap_alloc _ _ _ (by simp;omega))).trans (Below.heap_alloc _ _ _ (by simp))).trans (heap_alloc_new w _)
 ·have:=heap_alloc_new (w.alloc (.cells #[.slice x.sa x.sorts.length x.sc,.slice x.fa x.funs.length x.fc,.slice x.ma x.macs.length x.mc] 26)) (.cells #[.slice y.sa y.sizes.length y.sc,.slice y.fa y.funs.length y.fc] 30)
  rw[World.size_alloc] at this
  exact((Below.heap_alloc _ _ _ (by simp)).trans (Below.heap_alloc _ _ _ (by simp))).trans this
 ·have:=heap_alloc_new ((w.alloc (.cells #[.slice x.sa x.sorts.length x.sc,.slice x.fa x.funs.length x.fc,.slice x.ma x.macs.length x.mc] 26)).alloc (.cells #[.slice y.sa y.sizes.length y.sc,.slice y.fa y.funs.length y.fc] 30)) (.cells #[.int .i64 0,.int .i64 0,.int .i64 0] 52)
  rw[World.size_alloc,World.size_alloc] at this
  exact(Below.heap_alloc _ _ _ (by simp)).trans this
 ·have:=heap_alloc_new (((w.alloc (.cells #[.slice x.sa x.sorts.length x.sc,.slice x.fa x.funs.length x.fc,.slice x.ma x.macs.length x.mc] 26)).alloc (.cells #[.slice y.sa y.sizes.length y.sc,.slice y.fa y.funs.length y.fc] 30)).alloc (.cells #[.int .i64 0,.int .i64 0,.int .i64 0] 52)) (.cells #[.int .i64 0,.int .i64 0,.int .i64 0] 52)
  rw[World.size_alloc,World.size_alloc,World.size_alloc] at this
  exact this
theorem qBp {w V:World} {x:SigV} {y:WorV} {a0 a1 a2:Int} (h:AskI w V x y a0 a1 a2) (v0 v1 v2:Value):Below w.heap.size w (((V.setCell ⟨w.heap.size+1+1,0,none⟩ v0).setCell ⟨w.heap.size+1+1,1,none⟩ v1).setCell ⟨w.heap.size+1+1,2,none⟩ v2) :=
 ((h.below.setCell (p:=⟨w.heap.size+1+1,0,none⟩) (by simp;omega) _).setCell (p:=⟨w.heap.size+1+1,1,none⟩) (by simp;omega) _).setCell (p:=⟨w.heap.size+1+1,2,none⟩) (by simp;omega) _
set_option maxHeartbeats 4000000 in
theorem qOe (x:SigV) (y:WorV) (f:Int) (l:List Int) (la:Option Addr) (lc:Nat) (w:World) (hX:SigR w x) (hY:WorR w y) (hf:I64 f) (hl:At w w.heap.size (l.flatMap qFb) la) (hlo:∀n∈l,I64 n) (hln:l.length≤maxLen) :
  Calls Tryz.prog 84 #[.agg #[.slice x.sa x.sorts.length x.sc,.slice x.fa x.funs.length x.fc,.slice x.ma x.macs.length x.mc],.agg #[.slice y.sa y.sizes.length y.sc,.slice y.fa y.funs.length y.fc],.int .i64 f,.slice la l.length lc] w fun e w'=>(∃a0 a1 a2:Int,e=.returned (.tuple #[.agg #[.int .i64 a0,.int .i64 a1,.int .i64 a2],.int .i64 (qK5 x y f l)])∧(qK5 x y f l=0→a0=l.getD 0 0∧a1=l.getD 1 0∧a2=l.getD 2 0))∧Below w.heap.size w w':=by
 obtain⟨W0,hW0⟩:∃W0,W0=(((w.alloc (.cells #[.slice x.sa x.sorts.length x.sc,.slice x.fa x.funs.length x.fc,.slice x.ma x.macs.length x.mc] 26)).alloc (.cells #[.slice y.sa y.sizes.length y.sc,.slice y.fa y.funs.length y.fc] 30)).alloc (.cells #[.int .i64 0,.int .i64 0,.int .i64 0] 52)).alloc (.cells #[.int .i64 0,.int .i64 0,.int .i64 0] 52):=⟨_,rfl⟩
 have HI0:Hid (AskI w W0 x y 0 0 0):=by rw[hW0];exact AskI.new w x y
 have hCh:∀q,qHb x y=q→Calls Tryz.prog 34 #[.agg #[.slice x.sa x.sorts.length x.sc,.slice x.fa x.funs.length x.fc,.slice x.ma x.macs.length x.mc],.agg #[.slice y.sa y.sizes.length y.sc,.slice y.fa y.funs.length y.fc]] W0 fun e w'=>e=.returned (.bool q)∧Below W0.heap.size W0 w':=fun q hq=>qNj x y q W0 (hX.below HI0.out.below) (hY.below HI0.out.below) hq
 have HX:=Lib.hid hX
 have HY:=Lib.hid hY
 have HL:=Lib.hid hl
 have HO:=Lib.hid hlo
 obtain⟨f1,f2⟩:=hf
 clear hX hY hl hlo
 cases hq:qHb x y with
 | false =>
  have he:qK5 x y f l=2:=qI5 (fun h=>by rw[hq] at h;cases h.1)
  rw[he]
  have HC:=Lib.hid (hCh _ hq)
  clear hCh hq he
  go_enter Tryz.func84,Tryz.ntmps84
  go_wp2_with (go_at_call 34;rw[←hW0];clear hW0;refine HC.out.mono ?_;rintro e w3 ⟨rfl,hb1⟩;have HI1:=Lib.hid (HI0.out.on hb1);clear hb1;have hlt:=HI1.out.lt;obtain⟨c0,c1,c2,w0,w1,p0,p1,p2,q0,q1,q2,fz,fa⟩:=HI1.out.cells)
  refine bodyPost_ret (qC2 rfl _ _ (w.heap.size+1+1) _ _ _ _ rfl (qZi HI1.out.br) Tryz.underlying52 rfl qGu) rfl ?_
  first|exact⟨⟨0,0,0,rfl,fun h=>by cases h⟩,qBp HI1.out _ _ _⟩|exact⟨⟨0,0,0,rfl⟩,qBp HI1.out _ _ _⟩|exact⟨⟨0,0,0,rfl,rfl,rfl,rfl⟩,qBp HI1.out _ _ _⟩
 | true =>
 have HC:=Lib.hid (hCh _ hq)
 have HQ:=Lib.hid hq
 obtain⟨l4,l12⟩:x.sorts.length≤4∧x.funs.length≤12:=by
  unfold qHb at hq
  simp only[Bool.and_eq_true] at hq
  exact qEx hq.1
 clear hCh hq
 by_cases h0:f<0
 ·have he:qK5 x y f l=2:=qI5 (fun h=>by have:=h.2.1;omega)
  rw[he]
  clear he
  go_enter Tryz.func84,Tryz.ntmps84
  go_wp2_with (go_at_call 34;rw[←hW0];clear hW0;refine HC.out.mono ?_;rintro e w3 ⟨rfl,hb1⟩;have HI1:=Lib.hid (HI0.out.on hb1);clear hb1;have hlt:=HI1.out.lt;obtain⟨c0,c1,c2,w0,w1,p0,p1,p2,q0,q1,q2,fz,fa⟩:=HI1.out.cells)
  refine bodyPost_ret (qC2 rfl _ _ (w.heap.size+1+1) _ _ _ _ rfl (qZi HI1.out.br) Tryz.underlying52 rfl qGu) rfl ?_
  first|exact⟨⟨0,0,0,rfl,fun h=>by cases h⟩,qBp HI1.out _ _ _⟩|exact⟨⟨0,0,0,rfl⟩,qBp HI1.out _ _ _⟩|exact⟨⟨0,0,0,rfl,rfl,rfl,rfl⟩,qBp HI1.out _ _ _⟩
 by_cases h1:(x.funs.length:Int)≤f
 ·have he:qK5 x y f l=2:=qI5 (fun h=>by have:=h.2.2.1;omega)
  rw[he]
  clear he
  go_enter Tryz.func84,Tryz.ntmps84
  go_wp2_with (go_at_call 34;rw[←hW0];clear hW0;refine HC.out.mono ?_;rintro e w3 ⟨rfl,hb1⟩;have HI1:=Lib.hid (HI0.out.on hb1);clear hb1;have hlt:=HI1.out.lt;obtain⟨c0,c1,c2,w0,w1,p0,p1,p2,q0,q1,q2,fz,fa⟩:=HI1.out.cells)
  refine bodyPost_ret (qC2 rfl _ _ (w.heap.size+1+1) _ _ _ _ rfl (qZi HI1.out.br) Tryz.underlying52 rfl qGu) rfl ?_
  first|exact⟨⟨0,0,0,rfl,fun h=>by cases h⟩,qBp HI1.out _ _ _⟩|exact⟨⟨0,0,0,rfl⟩,qBp HI1.out _ _ _⟩|exact⟨⟨0,0,0,rfl,rfl,rfl,rfl⟩,qBp HI1.out _ _ _⟩
 obtain⟨k,rfl⟩:∃k:Nat,f=(k:Int):=⟨f.toNat,by omega⟩
 have hk:k<x.funs.length:=by omega
 obtain⟨fn,hfn⟩:∃fn,x.funs[k]? = some fn:=⟨_,List.getElem?_eq_getElem hk⟩
 have hfA:fnA x (k:Int)=fn:=by unfold fnA;rw[Int.toNat_natCast,hfn];rfl
 obtain⟨m0,m3⟩:=qTi HQ.out hfn
 obtain⟨g,o,ha,hg,hcell⟩:=HX.out.fat (by rw[len_flat qAj];omega)
 have HFn:Hid (∀V,Below w.heap.size w V→V.cell? ⟨g,o+k*6,none⟩=some (.string fn.name)∧V.cell? ⟨g,o+k*6+1,none⟩=some (.int .i64 fn.len)∧V.cell? ⟨g,o+k*6+2,none⟩=some (.int .i64 fn.a0)∧V.cell? ⟨g,o+k*6+3,none⟩=some (.int .i64 fn.a1)∧V.cell? ⟨g,o+k*6+4,none⟩=some (.int .i64 fn.a2)∧V.cell? ⟨g,o+k*6+5,none⟩=some (.int .i64 fn.res)):=fun V hV=>by
  have q0:=hcell _ _ ((get_flat qAj x.funs k 0 fn hfn (by omega)).trans rfl)
  have q1:=hcell _ _ ((get_flat qAj x.funs k 1 fn hfn (by omega)).trans rfl)
  have q2:=hcell _ _ ((get_flat qAj x.funs k 2 fn hfn (by omega)).trans rfl)
  have q3:=hcell _ _ ((get_flat qAj x.funs k 3 fn hfn (by omega)).trans rfl)
  have q4:=hcell _ _ ((get_flat qAj x.funs k 4 fn hfn (by omega)).trans rfl)
  have q5:=hcell _ _ ((get_flat qAj x.funs k 5 fn hfn (by omega)).trans rfl)
  simp only[Nat.add_zero,←Nat.add_assoc] at q0 q1 q2 q3 q4 q5
  exact⟨(hV.cell (p:=⟨g,o+k*6,none⟩) hg).trans q0,(hV.cell (p:=⟨g,o+k*6+1,none⟩) hg).trans q1,(hV.cell (p:=⟨g,o+k*6+2,none⟩) hg).trans q2,(hV.cell (p:=⟨g,o+k*6+3,none⟩) hg).trans q3,(hV.cell (p:=⟨g,o+k*6+4,none⟩) hg).trans q4,(hV.cell (p:=⟨g,o+k*6+5,none⟩) hg).trans q5⟩
 have hfo:=HX.out.fok fn (List.mem_of_getElem? hfn)
 have HA1:=Lib.hid ha
 have hkx:(k:Int)<(x.funs.length:Int):=by omega
 have hk0:(0:Int)≤(k:Int):=by omega
 clear hcell hfn ha
 by_cases h2:(l.length:Int)=fn.len
 rotate_left
 ·have he:qK5 x y (k:Int) l=2:=qI5 (fun h=>by have:=h.2.2.2;rw[hfA] at this;exact h2 this)
  rw[he]
  have e2:=qAr h2
  clear he h2
  go_enter Tryz.func84,Tryz.ntmps84
  go_wp2_with (go_at_call 34;rw[←hW0];clear hW0;refine HC.out.mono ?_;rintro e w3 ⟨rfl,hb1⟩;have HI1:=Lib.hid (HI0.out.on hb1);clear hb1;have hlt:=HI1.out.lt;obtain⟨c0,c1,c2,w0,w1,p0,p1,p2,q0,q1,q2,fz,fa⟩:=HI1.out.cells;rw[HA1.out] at c1;obtain⟨r0,r1,r2,r3,r4,r5⟩:=HFn.out _ HI1.out.below)
  refine bodyPost_ret (qC2 rfl _ _ (w.heap.size+1+1) _ _ _ _ rfl (qZi HI1.out.br) Tryz.underlying52 rfl qGu) rfl ?_
  first|exact⟨⟨0,0,0,rfl,fun h=>by cases h⟩,qBp HI1.out _ _ _⟩|exact⟨⟨0,0,0,rfl⟩,qBp HI1.out _ _ _⟩|exact⟨⟨0,0,0,rfl,rfl,rfl,rfl⟩,qBp HI1.out _ _ _⟩
 have hE:qK5 x y (k:Int) l=(if fitB x.sorts.length y.sizes fn (l.getD 0 0) (l.getD 1 0) (l.getD 2 0)=true then 0 else 33):=by
  unfold qK5
  rw[hfA,if_pos ⟨HQ.out,by omega,by omega,h2⟩]
 rw[hE]
 have e2:((l.length:Int) != fn.len)=false:=qB3 h2
 have hl3:l.length≤3:=by omega
 obtain⟨b0,hb0⟩:∃b,b=l.getD 0 0:=⟨_,rfl⟩
 obtain⟨b1,hb1⟩:∃b,b=l.getD 1 0:=⟨_,rfl⟩
 obtain⟨b2,hb2⟩:∃b,b=l.getD 2 0:=⟨_,rfl⟩
 rw[←hb0,←hb1,←hb2]
 obtain⟨E,hEE⟩:∃E:Int,E=(if fitB x.sorts.length y.sizes fn b0 b1 b2=true then 0 else 33):=⟨_,rfl⟩
 rw[←hEE]
 have HEt:Hid (fitB x.sorts.length y.sizes fn b0 b1 b2=true→E=0):=fun h=>by rw[hEE,if_pos h]
 have HEf:Hid (fitB x.sorts.length y.sizes fn b0 b1 b2=false→E=33):=fun h=>by rw[hEE,h];rfl
 have Hb0:=Lib.hid hb0
 have Hb1:=Lib.hid hb1
 have Hb2:=Lib.hid hb2
 clear hE h2 hfA hEE hb0 hb1 hb2
 go_enter Tryz.func84,Tryz.ntmps84
 go_wp2_with (go_at_call 34;rw[←hW0];clear hW0;refine HC.out.mono ?_;rintro e w3 ⟨rfl,hb1⟩;have HI1:=Lib.hid (HI0.out.on hb1);clear hb1;have hlt:=HI1.out.lt;obtain⟨c0,c1,c2,w0,w1,p0,p1,p2,q0,q1,q2,fz,fa⟩:=HI1.out.cells;rw[HA1.out] at c1;obtain⟨r0,r1,r2,r3,r4,r5⟩:=HFn.out _ HI1.out.below)
 clear hlt c0 c1 c2 w0 w1 p0 p1 p2 q0 q1 q2 fz fa r0 r1 r2 r3 r4 r5
 go_loopw [11] (fun i wr=>∃j:Nat,j≤l.length∧i=.int .i64 j∧Hid (AskI w wr x y (if 0<j then l.getD 0 0 else 0) (if 1<j then l.getD 1 0 else 0) (if 2<j then l.getD 2 0 else 0))) (fun i _=>l.length-(intOf i).toNat)
 case atStart=>exact⟨0,Nat.zero_le _,rfl,HI1⟩
 case round =>
  obtain⟨j,hj,rfl,HI⟩:=hrel
  have hlt:=HI.out.lt
  by_cases hjl:j<l.length
  ·obtain⟨n,hn⟩:∃n,l[j]? = some n:=⟨_,List.getElem?_eq_getElem hjl⟩
   have hgd:l.getD j 0=n:=by rw[List.getD_eq_getElem?_getD,hn];rfl
   obtain⟨g4,o4,ha4,hg4,hcell4⟩:=HL.out.below HI.out.below (by rw[len_flat qA2];omega)
   have n0:=hcell4 _ _ ((get_flat qA2 l j 0 n hn (by omega)).trans rfl)
   simp only[Nat.add_zero,Nat.mul_one] at n0
   subst ha4
   have hjj:(j:Int)<(l.length:Int):=by omega
   have hc:j=0∨j=1∨j=2:=by omega
   clear hcell4 hn
   rcases hc with rfl|rfl|rfl
   ·obtain⟨c0,c1,c2,w0,w1,p0,p1,p2,q0,q1,q2,fz,fa⟩:=HI.out.cells
    have HI2:Hid (AskI w (wr.setCell ⟨w.heap.size+1+1+1,0,none⟩ (.int .i64 n)) x y (if 0<0+1 then l.getD 0 0 else 0) (if 1<0+1 then l.getD 1 0 else 0) (if 2<0+1 then l.getD 2 0 else 0)):=by
     have h:=HI.out.set0 n
     rw[←hgd] at h ⊢
     exact h
    clear hgd
    try simp only[Nat.add_zero] at n0
    go_wp2
    go_roundw
    case rel=>exact⟨0+1,by omega,by go_num,by first|exact HI2|exact HI2.out.drew⟩
    case measure=>first|(simp[intOf];done)|(simp[intOf];omega)
   ·obtain⟨c0,c1,c2,w0,w1,p0,p1,p2,q0,q1,q2,fz,fa⟩:=HI.out.cells
    have HI2:Hid (AskI w (wr.setCell ⟨w.heap.size+1+1+1,1,none⟩ (.int .i64 n)) x y (if 0<1+1 then l.getD 0 0 else 0) (if 1<1+1 then l.getD 1 0 else 0) (if 2<1+1 then l.getD 2 0 else 0)):=by
     have h:=HI.out.set1 n
     rw[←hgd] at h ⊢
     exact h
    clear hgd
    try simp only[Nat.add_zero] at n0
    go_wp2
    go_roundw
    case rel=>exact⟨1+1,by omega,by go_num,by first|exact HI2|exact HI2.out.drew⟩
    case measure=>first|(simp[intOf];done)|(simp[intOf];omega)
   ·obtain⟨c0,c1,c2,w0,w1,p0,p1,p2,q0,q1,q2,fz,fa⟩:=HI.out.cells
    have HI2:Hid (AskI w (wr.setCell ⟨w.heap.size+1+1+1,2,none⟩ (.int .i64 n)) x y (if 0<2+1 then l.getD 0 0 else 0) (if 1<2+1 then l.getD 1 0 else 0) (if 2<2+1 then l.getD 2 0 else 0)):=by
     have h:=HI.out.set2 n
     rw[←hgd] at h ⊢
     exact h
    clear hgd
    try simp only[Nat.add_zero] at n0
    go_wp2
    go_roundw
    case rel=>exact⟨2+1,by omega,by go_num,by first|exact HI2|exact HI2.out.drew⟩
    case measure=>first|(simp[intOf];done)|(simp[intOf];omega)
  ·obtain rfl:j=l.length:=by omega
   have ha0:(if 0<l.length then l.getD 0 0 else 0)=l.getD 0 0:=by
    by_cases h:0<l.length
    ·rw[if_pos h]
    ·rw[if_neg h,List.getD_eq_getElem?_getD,List.getElem?_eq_none (by omega)];rfl
   have ha1:(if 1<l.length then l.getD 1 0 else 0)=l.getD 1 0:=by
    by_cases h:1<l.length
    ·rw[if_pos h]
    ·rw[if_neg h,List.getD_eq_getElem?_getD,List.getElem?_eq_none (by omega)];rfl
   have ha2:(if 2<l.length then l.getD 2 0 else 0)=l.getD 2 0:=by
    by_cases h:2<l.length
    ·rw[if_pos h]
    ·rw[if_neg h,List.getD_eq_getElem?_getD,List.getElem?_eq_none (by omega)];rfl
   rw[ha0,ha1,ha2,←Hb0.out,←Hb1.out,←Hb2.out] at HI
   have hd:∀i,I64 (l.getD i 0):=fun i=>by
    rw[List.getD_eq_getElem?_getD]
    cases h:l[i]? with
    | none=>exact⟨by decide,by decide⟩
    | some n=>exact HO.out n (List.mem_of_getElem? h)
   have hd0:=hd 0
   have hd1:=hd 1
   have hd2:=hd 2
   rw[←Hb0.out] at hd0
   rw[←Hb1.out] at hd1
   rw[←Hb2.out] at hd2
   have HFt:∀q,fitB x.sorts.length y.sizes fn b0 b1 b2=q→∀V,Below wr.heap.size wr V→Calls Tryz.prog 58 #[.agg #[.slice x.sa x.sorts.length x.sc,.slice (some ⟨g,o,none⟩) x.funs.length x.fc,.slice x.ma x.macs.length x.mc],.agg #[.slice y.sa y.sizes.length y.sc,.slice y.fa y.funs.length y.fc],.agg #[.string fn.name,.int .i64 fn.len,.int .i64 fn.a0,.int .i64 fn.a1,.int .i64 fn.a2,.int .i64 fn.res],.agg #[.int .i64 b0,.int .i64 b1,.int .i64 b2]] V fun e w'=>e=.returned (.bool q)∧Below wr.heap.size wr w':=fun q hq V hV=>by
    have h:=(qI4 x y fn _ _ _ q V (HY.out.below (HI.out.on hV).below) hfo hd0 hd1 hd2 (by omega) hq).mono fun e w' ⟨h1,h2⟩=>(⟨h1,hV.trans (h2.mono hV.size)⟩:e=Ending.returned (Value.bool q)∧Below wr.heap.size wr w')
    rw[HA1.out] at h
    exact h
   clear ha0 ha1 ha2
   obtain⟨c0,c1,c2,w0,w1,p0,p1,p2,q0,q1,q2,fz,fa⟩:=HI.out.cells
   rw[HA1.out] at c1
   obtain⟨r0,r1,r2,r3,r4,r5⟩:=HFn.out _ HI.out.below
   have hgw:g<wr.heap.size:=Nat.lt_of_lt_of_le hg HI.out.below.size
   cases hq:fitB x.sorts.length y.sizes fn b0 b1 b2 with
   | false =>
    have HC3:=Lib.hid (HFt _ hq)
    obtain rfl:=HEf.out hq
    clear hq HFt
    have HSX:Hid (∀V,Below wr.heap.size wr V→V.cell? ⟨w.heap.size,0,none⟩=some (.slice x.sa x.sorts.length x.sc)∧V.cell? ⟨w.heap.size,1,none⟩=some (.slice (some ⟨g,o,none⟩) x.funs.length x.fc)∧V.cell? ⟨w.heap.size,2,none⟩=some (.slice x.ma x.macs.length x.mc)∧V.cell? ⟨w.heap.size+1,0,none⟩=some (.slice y.sa y.sizes.length y.sc)∧V.cell? ⟨w.heap.size+1,1,none⟩=some (.slice y.fa y.funs.length y.fc)∧V.cell? ⟨w.heap.size+1+1+1,0,none⟩=some (.int .i64 b0)∧V.cell? ⟨w.heap.size+1+1+1,1,none⟩=some (.int .i64 b1)∧V.cell? ⟨w.heap.size+1+1+1,2,none⟩=some (.int .i64 b2)∧V.cell? ⟨g,o+k*6,none⟩=some (.string fn.name)∧V.cell? ⟨g,o+k*6+1,none⟩=some (.int .i64 fn.len)∧V.cell? ⟨g,o+k*6+2,none⟩=some (.int .i64 fn.a0)∧V.cell? ⟨g,o+k*6+3,none⟩=some (.int .i64 fn.a1)∧V.cell? ⟨g,o+k*6+4,none⟩=some (.int .i64 fn.a2)∧V.cell? ⟨g,o+k*6+5,none⟩=some (.int .i64 fn.res)):=fun V hV=>by
     obtain⟨c0,c1,c2,w0,w1,_,_,_,q0,q1,q2,_,_⟩:=(HI.out.on hV).cells
     rw[HA1.out] at c1
     obtain⟨r0,r1,r2,r3,r4,r5⟩:=HFn.out _ (HI.out.on hV).below
     exact⟨c0,c1,c2,w0,w1,q0,q1,q2,r0,r1,r2,r3,r4,r5⟩
    go_wp2_with fail
    refine wp_region_held_drew (S:=fun V=>V.cell? ⟨w.heap.size,0,none⟩=some (.slice x.sa x.sorts.length x.sc)∧V.cell? ⟨w.heap.size,1,none⟩=some (.slice (some ⟨g,o,none⟩) x.funs.length x.fc)∧V.cell? ⟨w.heap.size,2,none⟩=some (.slice x.ma x.macs.length x.mc)∧V.cell? ⟨w.heap.size+1,0,none⟩=some (.slice y.sa y.sizes.length y.sc)∧V.cell? ⟨w.heap.size+1,1,none⟩=some (.slice y.fa y.funs.length y.fc)∧V.cell? ⟨w.heap.size+1+1+1,0,none⟩=some (.int .i64 b0)∧V.cell? ⟨w.heap.size+1+1+1,1,none⟩=some (.int .i64 b1)∧V.cell? ⟨w.heap.size+1+1+1,2,none⟩=some (.int .i64 b2)∧V.cell? ⟨g,o+k*6,none⟩=some (.string fn.name)∧V.cell? ⟨g,o+k*6+1,none⟩=some (.int .i64 fn.len)∧V.cell? ⟨g,o+k*6+2,none⟩=some (.int .i64 fn.a0)∧V.cell? ⟨g,o+k*6+3,none⟩=some (.int .i64 fn.a1)∧V.cell? ⟨g,o+k*6+4,none⟩=some (.int .i64 fn.a2)∧V.cell? ⟨g,o+k*6+5,none⟩=some (.int .i64 fn.res)) (by kernel_rfl) (HSX.out _ (Below.refl _ wr).drew) (fun hHeld=>?_)
    refine tkY 0 (.agg #[.slice x.sa x.sorts.length x.sc,.slice (some ⟨g,o,none⟩) x.funs.length x.fc,.slice x.ma x.macs.length x.mc]) ?_;try simp only[k4]
    refine tkY 1 (.agg #[.slice y.sa y.sizes.length y.sc,.slice y.fa y.funs.length y.fc]) ?_;try simp only[k4]
    refine tkY 2 (.pointer (some ⟨w.heap.size,1,none⟩)) ?_;try simp only[k4]
    refine tkY 3 (.slice (some ⟨g,o,none⟩) x.funs.length x.fc) ?_;try simp only[k4]
    refine tkY 4 (.int .i64 k) ?_;try simp only[k4]
    refine tkY 5 (.pointer (some ⟨g,o+k*6,none⟩)) ?_;try simp only[k4]
    refine tkY 6 (.agg #[.string fn.name,.int .i64 fn.len,.int .i64 fn.a0,.int .i64 fn.a1,.int .i64 fn.a2,.int .i64 fn.res]) ?_;try simp only[k4]
    refine tkY 7 (.agg #[.int .i64 b0,.int .i64 b1,.int .i64 b2]) ?_;try simp only[k4]
    refine wpAnyH_ready (rs:=[8]) (by kernel_rfl) (by simp) ?_
    refine AllReadyH.cons (o:={ dst:=some 59,op:=Op.call { callee:=Callee.value (Operand.func 58),args:=#[Operand.tmp 51,Operand.tmp 52,Operand.tmp 57,Operand.tmp 58],argTypes:=#[26,30,120,52] },type:=4,pos := "ref.go:85", after:=#[{ on:=0,ground:=Ground.data },{ on:=1,ground:=Ground.data },{ on:=6,ground:=Ground.data },{ on:=7,ground:=Ground.data }],guard:=none }) rfl (fun K hK=>?_) AllReadyH.nil
    go_simp
    go_at_call 58
    refine(HC3.out _ (Below.refl _ wr).drew).mono ?_
    rintro e w5 ⟨rfl,hb5⟩
    have HB5:=Lib.hid hb5
    clear hb5
    go_wp2_with fail
    refine hK.out _ _ ?_ (fun hHeld=>?_)
    ·exact HSX.out _ HB5.out
    clear hK K
    try simp only[Act.put,List.setIfInBounds_toArray,List.set_cons_zero,List.set_cons_succ]
    refine tkY 9 (.bool true) ?_;try simp only[k4]
    refine wpAnyH_done (by kernel_rfl) ?_ _
    have HI5:=Lib.hid (HI.out.on HB5.out)
    have hlt5:=HI5.out.lt
    clear c0 c1 c2 w0 w1 p0 p1 p2 q0 q1 q2 fz fa r0 r1 r2 r3 r4 r5
    obtain⟨c0,c1,c2,w0,w1,p0,p1,p2,q0,q1,q2,fz,fa⟩:=HI5.out.cells
    go_wp2_with fail
    refine bodyPost_ret (qC2 rfl _ _ (w.heap.size+1+1) _ _ _ _ rfl (qZi HI5.out.br) Tryz.underlying52 rfl qGu) rfl ?_
    first|exact⟨⟨b0,b1,b2,rfl,fun h=>by cases h⟩,qBp HI5.out _ _ _⟩|exact⟨⟨b0,b1,b2,rfl⟩,qBp HI5.out _ _ _⟩|exact⟨⟨b0,b1,b2,rfl,rfl,rfl,rfl⟩,qBp HI5.out _ _ _⟩
   | true =>
    have HC3:=Lib.hid (HFt _ hq)
    obtain rfl:=HEt.out hq
    clear hq HFt
    have HSX:Hid (∀V,Below wr.heap.size wr V→V.cell? ⟨w.heap.size,0,none⟩=some (.slice x.sa x.sorts.length x.sc)∧V.cell? ⟨w.heap.size,1,none⟩=some (.slice (some ⟨g,o,none⟩) x.funs.length x.fc)∧V.cell? ⟨w.heap.size,2,none⟩=some (.slice x.ma x.macs.length x.mc)∧V.cell? ⟨w.heap.size+1,0,none⟩=some (.slice y.sa y.sizes.length y.sc)∧V.cell? ⟨w.heap.size+1,1,none⟩=some (.slice y.fa y.funs.length y.fc)∧V.cell? ⟨w.heap.size+1+1+1,0,none⟩=some (.int .i64 b0)∧V.cell? ⟨w.heap.size+1+1+1,1,none⟩=some (.int .i64 b1)∧V.cell? ⟨w.heap.size+1+1+1,2,none⟩=some (.int .i64 b2)∧V.cell? ⟨g,o+k*6,none⟩=some (.string fn.name)∧V.cell? ⟨g,o+k*6+1,none⟩=some (.int .i64 fn.len)∧V.cell? ⟨g,o+k*6+2,none⟩=some (.int .i64 fn.a0)∧V.cell? ⟨g,o+k*6+3,none⟩=some (.int .i64 fn.a1)∧V.cell? ⟨g,o+k*6+4,none⟩=some (.int .i64 fn.a2)∧V.cell? ⟨g,o+k*6+5,none⟩=some (.int .i64 fn.res)):=fun V hV=>by
     obtain⟨c0,c1,c2,w0,w1,_,_,_,q0,q1,q2,_,_⟩:=(HI.out.on hV).cells
     rw[HA1.out] at c1
     obtain⟨r0,r1,r2,r3,r4,r5⟩:=HFn.out _ (HI.out.on hV).below
     exact⟨c0,c1,c2,w0,w1,q0,q1,q2,r0,r1,r2,r3,r4,r5⟩
    go_wp2_with fail
    refine wp_region_held_drew (S:=fun V=>V.cell? ⟨w.heap.size,0,none⟩=some (.slice x.sa x.sorts.length x.sc)∧V.cell? ⟨w.heap.size,1,none⟩=some (.slice (some ⟨g,o,none⟩) x.funs.length x.fc)∧V.cell? ⟨w.heap.size,2,none⟩=some (.slice x.ma x.macs.length x.mc)∧V.cell? ⟨w.heap.size+1,0,none⟩=some (.slice y.sa y.sizes.length y.sc)∧V.cell? ⟨w.heap.size+1,1,none⟩=some (.slice y.fa y.funs.length y.fc)∧V.cell? ⟨w.heap.size+1+1+1,0,none⟩=some (.int .i64 b0)∧V.cell? ⟨w.heap.size+1+1+1,1,none⟩=some (.int .i64 b1)∧V.cell? ⟨w.heap.size+1+1+1,2,none⟩=some (.int .i64 b2)∧V.cell? ⟨g,o+k*6,none⟩=some (.string fn.name)∧V.cell? ⟨g,o+k*6+1,none⟩=some (.int .i64 fn.len)∧V.cell? ⟨g,o+k*6+2,none⟩=some (.int .i64 fn.a0)∧V.cell? ⟨g,o+k*6+3,none⟩=some (.int .i64 fn.a1)∧V.cell? ⟨g,o+k*6+4,none⟩=some (.int .i64 fn.a2)∧V.cell? ⟨g,o+k*6+5,none⟩=some (.int .i64 fn.res)) (by kernel_rfl) (HSX.out _ (Below.refl _ wr).drew) (fun hHeld=>?_)
    refine tkY 0 (.agg #[.slice x.sa x.sorts.length x.sc,.slice (some ⟨g,o,none⟩) x.funs.length x.fc,.slice x.ma x.macs.length x.mc]) ?_;try simp only[k4]
    refine tkY 1 (.agg #[.slice y.sa y.sizes.length y.sc,.slice y.fa y.funs.length y.fc]) ?_;try simp only[k4]
    refine tkY 2 (.pointer (some ⟨w.heap.size,1,none⟩)) ?_;try simp only[k4]
    refine tkY 3 (.slice (some ⟨g,o,none⟩) x.funs.length x.fc) ?_;try simp only[k4]
    refine tkY 4 (.int .i64 k) ?_;try simp only[k4]
    refine tkY 5 (.pointer (some ⟨g,o+k*6,none⟩)) ?_;try simp only[k4]
    refine tkY 6 (.agg #[.string fn.name,.int .i64 fn.len,.int .i64 fn.a0,.int .i64 fn.a1,.int .i64 fn.a2,.int .i64 fn.res]) ?_;try simp only[k4]
    refine tkY 7 (.agg #[.int .i64 b0,.int .i64 b1,.int .i64 b2]) ?_;try simp only[k4]
    refine wpAnyH_ready (rs:=[8]) (by kernel_rfl) (by simp) ?_
    refine AllReadyH.cons (o:={ dst:=some 59,op:=Op.call { callee:=Callee.value (Operand.func 58),args:=#[Operand.tmp 51,Operand.tmp 52,Operand.tmp 57,Operand.tmp 58],argTypes:=#[26,30,120,52] },type:=4,pos := "ref.go:85", after:=#[{ on:=0,ground:=Ground.data },{ on:=1,ground:=Ground.data },{ on:=6,ground:=Ground.data },{ on:=7,ground:=Ground.data }],guard:=none }) rfl (fun K hK=>?_) AllReadyH.nil
    go_simp
    go_at_call 58
    refine(HC3.out _ (Below.refl _ wr).drew).mono ?_
    rintro e w5 ⟨rfl,hb5⟩
    have HB5:=Lib.hid hb5
    clear hb5
    go_wp2_with fail
    refine hK.out _ _ ?_ (fun hHeld=>?_)
    ·exact HSX.out _ HB5.out
    clear hK K
    try simp only[Act.put,List.setIfInBounds_toArray,List.set_cons_zero,List.set_cons_succ]
    refine tkY 9 (.bool false) ?_;try simp only[k4]
    refine wpAnyH_done (by kernel_rfl) ?_ _
    have HI5:=Lib.hid (HI.out.on HB5.out)
    have hlt5:=HI5.out.lt
    clear c0 c1 c2 w0 w1 p0 p1 p2 q0 q1 q2 fz fa r0 r1 r2 r3 r4 r5
    obtain⟨c0,c1,c2,w0,w1,p0,p1,p2,q0,q1,q2,fz,fa⟩:=HI5.out.cells
    go_wp2_with fail
    refine bodyPost_ret (qC2 rfl _ _ (w.heap.size+1+1) _ _ _ _ rfl (qZi HI5.out.br) Tryz.underlying52 rfl qGu) rfl ?_
    first|exact⟨⟨b0,b1,b2,rfl,fun _=>⟨rfl,rfl,rfl⟩⟩,qBp HI5.out _ _ _⟩|exact⟨⟨b0,b1,b2,rfl⟩,qBp HI5.out _ _ _⟩|exact⟨⟨b0,b1,b2,rfl,rfl,rfl,rfl⟩,qBp HI5.out _ _ _⟩
def zD8:FvV:=⟨[],none,0,0⟩
def fvA (y:WorV) (f:Int):FvV:=(y.funs[f.toNat]?).getD zD8
def rowV (rows:List RowA) (b0 b1 b2 els:Int):Int:=((rows.find? (fun s=>qE4 s ⟨b0,b1,b2,0⟩)).map (·.v)).getD els
def qD8 (x:SigV) (y:WorV) (f:Int) (l:List Int):Int:=if qK5 x y f l=0 then rowV (fvA y f).rows (l.getD 0 0) (l.getD 1 0) (l.getD 2 0) (fvA y f).els else 0
theorem qQh {α:Type} {p:α→Bool}:∀ {l:List α} {k:Nat} {y:α},l[k]? = some y→p y=true→(∀(j:Nat) (z:α),j<k→l[j]? = some z→p z=false)→l.find? p=some y
 | [],k,y,h,_,_=>by simp at h
 | a :: r,0,y,h,hp,_=>by
  simp at h
  subst h
  simp[List.find?,hp]
 | a :: r,k+1,y,h,hp,hno=>by
  have h0:=hno 0 a (by omega) (by simp)
  rw[List.find?_cons,h0]
  exact qQh (by simpa using h) hp (fun j z hj hz=>hno (j+1) z (by omega) (by simpa using hz))
theorem qXh {α:Type} {p:α→Bool} {l:List α} (h:∀(j:Nat) (z:α),l[j]? = some z→p z=false):l.find? p=none:=by
 rw[List.find?_eq_none]
 intro z hz
 obtain⟨j,hj⟩:=List.getElem?_of_mem hz
 rw[h j z hj];simp
theorem qL2 {x:SigV} {y:WorV} {f:Int} {l:List Int} (h:qK5 x y f l=0):qHb x y=true∧0≤f∧f<(x.funs.length:Int)∧(l.length:Int)=(fnA x f).len:=by
 by_cases hc:qHb x y=true∧0≤f∧f<(x.funs.length:Int)∧(l.length:Int)=(fnA x f).len
 ·exact hc
 ·rw[qI5 hc] at h;cases h
theorem qNk {x:SigV} {y:WorV} (h:qHb x y=true):y.funs.length=x.funs.length∧x.funs.length≤12:=by
 unfold qHb at h
 simp only[Bool.and_eq_true,decide_eq_true_eq] at h
 exact⟨h.2.2.1,(qEx h.1).2⟩
set_option maxHeartbeats 4000000 in
theorem qOf (x:SigV) (y:WorV) (f:Int) (l:List Int) (la:Option Addr) (lc:Nat) (w:World) (hX:SigR w x) (hY:WorR w y) (hf:I64 f) (hl:At w w.heap.size (l.flatMap qFb) la) (hlo:∀n∈l,I64 n) (hln:l.length≤maxLen) :
  Calls Tryz.prog 63 #[.agg #[.slice x.sa x.sorts.length x.sc,.slice x.fa x.funs.length x.fc,.slice x.ma x.macs.length x.mc],.agg #[.slice y.sa y.sizes.length y.sc,.slice y.fa y.funs.length y.fc],.int .i64 f,.slice la l.length lc] w fun e w'=>e=.returned (.tuple #[.int .i64 (qD8 x y f l),.int .i64 (qK5 x y f l)])∧Below w.heap.size w w':=by
 obtain⟨W0,hW0⟩:∃W0,W0=(w.alloc (.cells #[.slice x.sa x.sorts.length x.sc,.slice x.fa x.funs.length x.fc,.slice x.ma x.macs.length x.mc] 26)).alloc (.cells #[.slice y.sa y.sizes.length y.sc,.slice y.fa y.funs.length y.fc] 30):=⟨_,rfl⟩
 have hB0:Below w.heap.size w W0:=by rw[hW0];exact((Below.refl _ w).alloc (Nat.le_refl _) _).alloc (by simp) _
 have HB0:=Lib.hid hB0
 have hY0:W0.heap[w.heap.size+1]? = some (.cells #[.slice y.sa y.sizes.length y.sc,.slice y.fa y.funs.length y.fc] 30 (0,0)):=by
  have:=heap_alloc_new (w.alloc (.cells #[.slice x.sa x.sorts.length x.sc,.slice x.fa x.funs.length x.fc,.slice x.ma x.macs.length x.mc] 26)) (.cells #[.slice y.sa y.sizes.length y.sc,.slice y.fa y.funs.length y.fc] 30)
  rw[World.size_alloc] at this
  rw[hW0];exact this
 have HK:Hid (∀V,Below W0.heap.size W0 V→V.cell? ⟨w.heap.size+1,0,none⟩=some (.slice y.sa y.sizes.length y.sc)∧V.cell? ⟨w.heap.size+1,1,none⟩=some (.slice y.fa y.funs.length y.fc)∧w.heap.size+1<V.heap.size):=fun V hV=>qBy ((hV.block _ (Array.getElem?_eq_some_iff.1 hY0).1).trans hY0)
 have HC:=Lib.hid (qOe x y f l la lc W0 (hX.below hB0) (hY.below hB0) hf ((hl.below hB0).more hB0.size) hlo hln)
 have HY:=Lib.hid hY
 obtain⟨f1,f2⟩:=hf
 clear hY0 hX hY hl hlo hB0
 by_cases h0:qK5 x y f l=0
 rotate_left
 ·have hv:qD8 x y f l=0:=if_neg h0
  rw[hv]
  have e1:=qAr h0
  generalize qK5 x y f l=E at *
  clear hv h0
  go_enter Tryz.func63,Tryz.ntmps63
  go_wp2_with (go_at_call 84;rw[←hW0];clear hW0;refine HC.out.mono ?_;rintro e w3 ⟨⟨a0,a1,a2,rfl,_⟩,hb1⟩;have HB1:=Lib.hid hb1;clear hb1)
  go_ret2
  exact⟨rfl,by first|exact HB0.out.trans (HB1.out.mono HB0.out.size)|exact(HB0.out.trans (HB1.out.mono HB0.out.size)).alloc (by have:=HB1.out.size;have:=HB0.out.size;omega) _⟩
 obtain⟨hq,hf0,hfl,_⟩:=qL2 h0
 obtain⟨m1,m2⟩:=qNk hq
 obtain⟨k,rfl⟩:∃k:Nat,f=(k:Int):=⟨f.toNat,by omega⟩
 have hk:k<y.funs.length:=by omega
 obtain⟨v,hv⟩:∃v,y.funs[k]? = some v:=⟨_,List.getElem?_eq_getElem hk⟩
 have hvA:fvA y (k:Int)=v:=by unfold fvA;rw[Int.toNat_natCast,hv];rfl
 have hE:qD8 x y (k:Int) l=rowV v.rows (l.getD 0 0) (l.getD 1 0) (l.getD 2 0) v.els:=by unfold qD8;rw[if_pos h0,hvA]
 rw[hE]
 rw[h0] at HC ⊢
 obtain⟨b0,hb0⟩:∃b,b=l.getD 0 0:=⟨_,rfl⟩
 obtain⟨b1,hb1⟩:∃b,b=l.getD 1 0:=⟨_,rfl⟩
 obtain⟨b2,hb2⟩:∃b,b=l.getD 2 0:=⟨_,rfl⟩
 rw[←hb0,←hb1,←hb2] at HC ⊢
 obtain⟨R,hR⟩:∃R,R=rowV v.rows b0 b1 b2 v.els:=⟨_,rfl⟩
 rw[←hR]
 have HR:=Lib.hid hR
 obtain⟨g,o,ha,hg,hcell⟩:=HY.out.fat (by rw[len_flat qDx];omega)
 have p0:=hcell _ _ ((get_flat qDx y.funs k 0 v hv (by omega)).trans rfl)
 have p1:=hcell _ _ ((get_flat qDx y.funs k 1 v hv (by omega)).trans rfl)
 simp only[Nat.add_zero,←Nat.add_assoc] at p0 p1
 have HP:Hid (∀V,Below w.heap.size w V→V.cell? ⟨g,o+k*2,none⟩=some (.slice v.ra v.rows.length v.rc)∧V.cell? ⟨g,o+k*2+1,none⟩=some (.int .i64 v.els)):=fun V hV =>
  ⟨(hV.cell (p:=⟨g,o+k*2,none⟩) hg).trans p0,(hV.cell (p:=⟨g,o+k*2+1,none⟩) hg).trans p1⟩
 have HVO:=Lib.hid (HY.out.fok v (List.mem_of_getElem? hv))
 have HA1:=Lib.hid ha
 have hkx:(k:Int)<(y.funs.length:Int):=by omega
 have hk0:(0:Int)≤(k:Int):=by omega
 clear hE hvA h0 hq hb0 hb1 hb2 hcell hv ha p0 p1 m1 m2 hR
 go_enter Tryz.func63,Tryz.ntmps63
 go_wp2_with (go_at_call 84;rw[←hW0];clear hW0;refine HC.out.mono ?_;rintro e w3 ⟨⟨a0,a1,a2,rfl,hab⟩,hb1⟩;obtain⟨rfl,rfl,rfl⟩:=hab rfl;have HB1:=Lib.hid hb1;clear hb1)
 obtain⟨W2,hW2⟩:∃W2,W2=w3.alloc (.cells #[.int .i64 a0,.int .i64 a1,.int .i64 a2] 52):=⟨_,rfl⟩
 have hX2:W2.heap[w3.heap.size]? = some (.cells #[.int .i64 a0,.int .i64 a1,.int .i64 a2] 52 (0,0)):=by rw[hW2];exact heap_alloc_new w3 _
 have HB2:Hid (Below W0.heap.size W0 W2):=by rw[hW2];exact HB1.out.alloc HB1.out.size _
 have hsz2:W2.heap.size=w3.heap.size+1:=by rw[hW2];simp
 obtain⟨B,hB⟩:∃B,B=w3.heap.size:=⟨_,rfl⟩
 rw[←hB] at hX2
 rw[←hW2]
 rw[←hB]
 have HBz:Hid (B<W2.heap.size):=by show _<_;omega
 have HX2:=Lib.hid hX2
 clear hW2 hB hsz2 hX2
 have HBL:Hid (∀V,Below W2.heap.size W2 V→Below W0.heap.size W0 V):=fun V hV=>HB2.out.trans (hV.mono HB2.out.size)
 have HBW:Hid (∀V,Below W2.heap.size W2 V→Below w.heap.size w V):=fun V hV=>HB0.out.trans ((HBL.out V hV).mono HB0.out.size)
 have HS2:Hid (∀V,Below W2.heap.size W2 V→V.cell? ⟨w.heap.size+1,0,none⟩=some (.slice y.sa y.sizes.length y.sc)∧V.cell? ⟨w.heap.size+1,1,none⟩=some (.slice (some ⟨g,o,none⟩) y.funs.length y.fc)∧V.cell? ⟨g,o+k*2,none⟩=some (.slice v.ra v.rows.length v.rc)∧V.cell? ⟨g,o+k*2+1,none⟩=some (.int .i64 v.els)∧V.cell? ⟨B,0,none⟩=some (.int .i64 a0)∧V.cell? ⟨B,1,none⟩=some (.int .i64 a1)∧V.cell? ⟨B,2,none⟩=some (.int .i64 a2)∧w.heap.size+1<V.heap.size∧g<V.heap.size∧B<V.heap.size):=fun V hV=>by
  obtain⟨w0,w1,z⟩:=HK.out _ (HBL.out V hV)
  rw[HA1.out] at w1
  obtain⟨p0,p1⟩:=HP.out _ (HBW.out V hV)
  obtain⟨q0,q1,q2,z2⟩:=qG3 ((hV.block _ HBz.out).trans HX2.out)
  exact⟨w0,w1,p0,p1,q0,q1,q2,z,Nat.lt_of_lt_of_le hg (HBW.out V hV).size,z2⟩
 go_loopw [12] (fun i wr=>∃j:Nat,j≤v.rows.length∧i=.int .i64 j∧Hid (∀(i:Nat) (s:RowA),i<j→v.rows[i]? = some s→qE4 s ⟨a0,a1,a2,0⟩=false)∧Hid (Below W2.heap.size W2 wr)) (fun i _=>v.rows.length-(intOf i).toNat)
 case atStart=>exact⟨0,Nat.zero_le _,rfl,fun j _ hj=>absurd hj (Nat.not_lt_zero _),Below.refl _ _⟩
 case round =>
  obtain⟨j,hj,rfl,HN,HB⟩:=hrel
  obtain⟨w0,w1,p0,p1,q0,q1,q2,z0,z1,z2⟩:=HS2.out _ HB.out
  have hrl:=HVO.out.rl
  have hrm:=HVO.out.rm
  have hrz:v.rows.length≤9223372036854775807:=by simp only[maxLen] at hrm;omega
  by_cases hlt:j<v.rows.length
  rotate_left
  ·obtain rfl:j=v.rows.length:=by omega
   obtain rfl:R=v.els:=by rw[HR.out];unfold rowV;rw[qXh (fun i s hs=>HN.out i s (List.getElem?_eq_some_iff.1 hs).1 hs)];rfl
   go_wp2
   go_ret2
   exact⟨rfl,HBW.out _ HB.out⟩
  obtain⟨s,hs⟩:∃s,v.rows[j]? = some s:=⟨_,List.getElem?_eq_getElem hlt⟩
  obtain⟨g3,o3,ha3,hg3,hcell3⟩:=HVO.out.rat (by rw[len_flat qBj];omega)
  have hW:=HBW.out _ HB.out
  have r0:=(hW.cell (p:=⟨g3,o3+(j*4+0),none⟩) hg3).trans (hcell3 _ _ ((get_flat qBj v.rows j 0 s hs (by omega)).trans rfl))
  have r1:=(hW.cell (p:=⟨g3,o3+(j*4+1),none⟩) hg3).trans (hcell3 _ _ ((get_flat qBj v.rows j 1 s hs (by omega)).trans rfl))
  have r2:=(hW.cell (p:=⟨g3,o3+(j*4+2),none⟩) hg3).trans (hcell3 _ _ ((get_flat qBj v.rows j 2 s hs (by omega)).trans rfl))
  have r3:=(hW.cell (p:=⟨g3,o3+(j*4+3),none⟩) hg3).trans (hcell3 _ _ ((get_flat qBj v.rows j 3 s hs (by omega)).trans rfl))
  simp only[Nat.add_zero,←Nat.add_assoc] at r0 r1 r2 r3
  have hg4:g3<wr.heap.size:=Nat.lt_of_lt_of_le hg3 hW.size
  rw[ha3] at p0
  have hji:(j:Int)<(v.rows.length:Int):=by omega
  have hsm:(decide (s.a0=a0)&&(decide (s.a1=a1)&&decide (s.a2=a2)))=qE4 s ⟨a0,a1,a2,0⟩:=rfl
  by_cases hsr:qE4 s ⟨a0,a1,a2,0⟩=true
  ·obtain rfl:R=s.v:=by rw[HR.out];unfold rowV;rw[qQh hs hsr (fun i z hi hz=>HN.out i z hi hz)];rfl
   have e0:∀W,(Op.equal 52 (.agg #[.int .i64 s.a0,.int .i64 s.a1,.int .i64 s.a2]) (.agg #[.int .i64 a0,.int .i64 a1,.int .i64 a2])).run Tryz.prog W=.ok true W:=fun W=>by rw[qJa,hsm,hsr]
   have g0:∀W,(Op.equalIn 10000 52 (.agg #[.int .i64 s.a0,.int .i64 s.a1,.int .i64 s.a2]) (.agg #[.int .i64 a0,.int .i64 a1,.int .i64 a2])).run Tryz.prog W=.ok true W:=fun W=>by rw[qFn,hsm,hsr]
   clear hsm hsr hs hcell3 ha3 hW
   go_wp2_with fail
   go_quiet (fail)
   go_wp2_with fail
   go_ret2
   exact⟨rfl,qAh (HBW.out _ HB.out)⟩
  ·rw[Bool.not_eq_true] at hsr
   have e0:∀W,(Op.equal 52 (.agg #[.int .i64 s.a0,.int .i64 s.a1,.int .i64 s.a2]) (.agg #[.int .i64 a0,.int .i64 a1,.int .i64 a2])).run Tryz.prog W=.ok false W:=fun W=>by rw[qJa,hsm,hsr]
   have g0:∀W,(Op.equalIn 10000 52 (.agg #[.int .i64 s.a0,.int .i64 s.a1,.int .i64 s.a2]) (.agg #[.int .i64 a0,.int .i64 a1,.int .i64 a2])).run Tryz.prog W=.ok false W:=fun W=>by rw[qFn,hsm,hsr]
   have HN2:Hid (∀(i:Nat) (t:RowA),i<j+1→v.rows[i]? = some t→qE4 t ⟨a0,a1,a2,0⟩=false):=fun i t hi ht=>by
    by_cases hij:i<j
    ·exact HN.out i t hij ht
    ·obtain rfl:i=j:=by omega
     obtain rfl:s=t:=by rw[hs] at ht;exact Option.some.inj ht
     exact hsr
   clear hsm hsr hs hcell3 ha3 hW
   go_wp2_with fail
   go_quiet (fail)
   go_wp2_with fail
   go_roundw
   case rel=>exact⟨j+1,by omega,by go_num,HN2,qAh HB.out⟩
   case measure=>simp[intOf];omega
def qBq (op:Int):Int:=if Tm.arityA op<0 then -1 else Tm.arityA op
theorem qTj (op:Int) (k:Int) (w:World) (hk:qBq op=k):Calls Tryz.prog 45 #[.int .i8 op] w fun e w'=>e=.returned (.int .i64 k)∧w=w':=by
 by_cases h:op=0∨op=1∨op=2∨op=3∨op=4∨op=5∨op=6∨op=7∨op=8∨op=9∨op=10∨op=11∨op=12
 ·rcases h with rfl|rfl|rfl|rfl|rfl|rfl|rfl|rfl|rfl|rfl|rfl|rfl|rfl <;>
  ·obtain rfl:_=k:=(show _=k from hk)
   go_enter Tryz.func45,Tryz.ntmps45
   go_wp2
   go_ret
   exact⟨rfl,rfl⟩
 ·have hk2:k=-1:=by
   rw[←hk];unfold qBq Tm.arityA
   by_cases h13:op=13
   ·subst h13;rfl
   ·repeat (rw[if_neg (by omega:¬(op=0∨op=10)),if_neg (by omega:¬(op=1∨op=11)),if_neg (by omega:¬(op=2∨op=3∨op=4∨op=5∨op=6∨op=8∨op=9∨op=12)),if_neg (by omega:¬op=7),if_neg h13])
    rfl
  subst hk2
  have e0:=qA9 (x:=op) (y:=0) (by omega)
  have e1:=qA9 (x:=op) (y:=1) (by omega)
  have e2:=qA9 (x:=op) (y:=2) (by omega)
  have e3:=qA9 (x:=op) (y:=3) (by omega)
  have e4:=qA9 (x:=op) (y:=4) (by omega)
  have e5:=qA9 (x:=op) (y:=5) (by omega)
  have e6:=qA9 (x:=op) (y:=6) (by omega)
  have e7:=qA9 (x:=op) (y:=7) (by omega)
  have e8:=qA9 (x:=op) (y:=8) (by omega)
  have e9:=qA9 (x:=op) (y:=9) (by omega)
  have e10:=qA9 (x:=op) (y:=10) (by omega)
  have e11:=qA9 (x:=op) (y:=11) (by omega)
  have e12:=qA9 (x:=op) (y:=12) (by omega)
  clear hk h
  go_enter Tryz.func45,Tryz.ntmps45
  go_wp2
  go_ret
  exact⟨rfl,rfl⟩
def alikeB (l:List Int) (n s:Int):Bool:=l.all (fun y=>decide (y=s))&&decide ((l.length:Int)=n)
theorem qQi (l:List Int) (la:Option Addr) (lc:Nat) (n s:Int) (r:Bool) (w:World) (hl:At w w.heap.size (l.flatMap qFb) la) (hln:l.length≤3) (hr:alikeB l n s=r) :
  Calls Tryz.prog 46 #[.slice la l.length lc,.int .i64 n,.int .i64 s] w fun e w'=>e=.returned (.bool r)∧w=w':=by
 have HL:=Lib.hid hl
 have HR:Hid (alikeB l n s=r):=hr
 clear hl hr
 go_enter Tryz.func46,Tryz.ntmps46
 go_wp2
 go_loop [7] (fun i=>∃j:Nat,j≤l.length∧i=.int .i64 j∧Hid (∀(i:Nat) (y:Int),i<j→l[i]? = some y→decide (y=s)=true)) (fun i=>l.length-(intOf i).toNat)
 case atStart=>exact⟨0,Nat.zero_le _,rfl,fun j _ hj=>absurd hj (Nat.not_lt_zero _)⟩
 case round =>
  obtain⟨j,hj,rfl,HN⟩:=hrel
  by_cases hlt:j<l.length
  rotate_left
  ·obtain rfl:j=l.length:=by omega
   have ha:l.all (fun y=>decide (y=s))=true:=qK4 (fun i y hy=>HN.out i y (List.getElem?_eq_some_iff.1 hy).1 hy)
   by_cases hn:(l.length:Int)=n
   ·obtain rfl:r=true:=by rw[←HR.out];unfold alikeB;rw[ha,decide_eq_true hn];rfl
    have e1:=qAo hn
    clear hn ha
    go_wp2
    go_ret
    exact⟨rfl,rfl⟩
   ·obtain rfl:r=false:=by rw[←HR.out];unfold alikeB;rw[decide_eq_false hn];simp
    have e1:=qA9 hn
    clear hn ha
    go_wp2
    go_ret
    exact⟨rfl,rfl⟩
  obtain⟨y,hy⟩:∃y,l[j]? = some y:=⟨_,List.getElem?_eq_getElem hlt⟩
  obtain⟨g,o,ha,hg,hcell⟩:=HL.out (by rw[len_flat qA2];omega)
  have n0:=hcell _ _ ((get_flat qA2 l j 0 y hy (by omega)).trans rfl)
  simp only[Nat.add_zero,Nat.mul_one] at n0
  subst ha
  have hji:(j:Int)<(l.length:Int):=by omega
  by_cases hys:y=s
  ·have HN2:Hid (∀(i:Nat) (z:Int),i<j+1→l[i]? = some z→decide (z=s)=true):=fun i z hi hz=>by
    by_cases hij:i<j
    ·exact HN.out i z hij hz
    ·obtain rfl:i=j:=by omega
     obtain rfl:y=z:=by rw[hy] at hz;exact Option.some.inj hz
     exact decide_eq_true hys
   have e1:=qB3 hys
   clear hys hcell hy
   go_wp2
   go_round
   case rel=>exact⟨j+1,by omega,by go_num,HN2⟩
   case measure=>simp[intOf];omega
  ·obtain rfl:r=false:=by rw[←HR.out];unfold alikeB;rw[qJb hy (decide_eq_false hys)];rfl
   have e1:=qAr hys
   clear hys hcell hy
   go_wp2
   go_ret
   exact⟨rfl,rfl⟩
end Go.Proofs.YtfgpimhdjlmapaaGreatDoor
