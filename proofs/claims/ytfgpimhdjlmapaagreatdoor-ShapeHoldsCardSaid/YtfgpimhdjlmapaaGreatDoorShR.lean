/- The package's All. -/
import Derived.Deep.LoopGhost
import Derived.Laws.Bits128
import Derived.Test.YtfgpimhdjlmapaaGreatDoorShf
import Derived.Test.YtfgpimhdjlmapaaGreatDoorShN
import Derived.Test.YtfgpimhdjlmapaaGreatDoorShT3
namespace Go.Proofs.YtfgpimhdjlmapaaGreatDoor.Tm
open Go.RowKit Go.Shelf
set_option linter.unusedVariables false
set_option maxRecDepth 100000
attribute [local go_sem] Oper.semAt_some
def qHg (B:Nat) (ds:List Deferred) (w:World):Prop:=∃Ds:List Nat,ds=Ds.map (fun D=>{ target:=.collected D,args:=#[] })∧Ds.Nodup∧∀D∈Ds,B≤D∧w.heap[D]? = some (.deferred (some []))
theorem qHg.keep {B:Nat} {ds:List Deferred} {w w':World} (h:qHg B ds w) (hk:∀D,B≤D→D<w.heap.size→w.heap[D]? = some (.deferred (some []))→w'.heap[D]? = w.heap[D]?):qHg B ds w':=by
 obtain⟨Ds,h1,h2,h3⟩:=h
 refine⟨Ds,h1,h2,fun D hD=>⟨(h3 D hD).1,?_⟩⟩
 rw[hk D (h3 D hD).1 (Array.getElem?_eq_some_iff.1 (h3 D hD).2).1 (h3 D hD).2]
 exact(h3 D hD).2
theorem qHg.push {B D:Nat} {ds:List Deferred} {w w':World} (h:qHg B ds w) (hD:w'.heap[D]? = some (.deferred (some []))) (hB:B≤D) (hn:w.heap.size≤D) (hk:∀D,B≤D→D<w.heap.size→w.heap[D]? = some (.deferred (some []))→w'.heap[D]? = w.heap[D]?):qHg B ({ target:=.collected D,args:=#[] } :: ds) w':=by
 obtain⟨Ds,h1,h2,h3⟩:=h.keep hk
 obtain⟨Ds0,h1',h2',h3'⟩:=h
 have he:Ds0=Ds:=by
  rw[h1] at h1'
  have:Function.Injective (fun D:Nat=>({ target:=.collected D,args:=#[] }:Deferred)):=fun a b hab=>by simpa using hab
  exact((List.map_inj_right (fun a b hab=>this hab)).1 h1').symm
 subst he
 refine⟨D :: Ds0,by rw[h1];rfl,List.nodup_cons.2 ⟨fun hm=>?_,h2⟩,fun E hE=>?_⟩
 ·have:=(Array.getElem?_eq_some_iff.1 (h3' D hm).2).1
  omega
 ·rcases List.mem_cons.1 hE with rfl|hE
  ·exact⟨hB,hD⟩
  ·exact h3 E hE
theorem qHg.nil (B:Nat) (w:World):qHg B [] w:=⟨[],rfl,List.nodup_nil,fun D h=>by simp at h⟩
theorem qIk {F:Fence} {n:Nat} {P:Program} {fn:Func} {tmps:Array Value} {R:Ending→World→Prop} {u:FrameMode} (hu:u≠.run) {B:Nat}:∀(Ds:List Nat) (w:World),Ds.Nodup→(∀D∈Ds,B≤D∧w.heap[D]? = some (.deferred (some []))) →
  (∀w',w'.os=w.os→w'.tape=w.tape→w'.output=w.output→w'.heap.size=w.heap.size→(∀k,k ∉ Ds→w'.heap[k]? = w.heap[k]?)→LeavesIn F n P fn tmps R [] u w')→LeavesInM F n P fn tmps R (Ds.map (fun D=>{ target:=.collected D,args:=#[] })) u w
 | [],w,_,_,h=>h w rfl rfl rfl rfl (fun _ _=>rfl)
 | D :: r,w,hn,hD,h=>by
  obtain⟨hn1,hn2⟩:=List.nodup_cons.1 hn
  have h0:=hD D (by simp)
  refine⟨hu,.inl ⟨D,_,rfl,run_takeDeferred h0.2,?_⟩⟩
  refine qIk hu r _ hn2 (fun E hE=>⟨(hD E (by simp[hE])).1,(World.putObj_heap_other (by rintro rfl;exact hn1 hE)).trans (hD E (by simp[hE])).2⟩) (fun w' h1 h2 h3 h4 h5=>?_)
  refine h w' h1 h2 h3 (by rw[h4];simp[World.putObj]) (fun k hk=>?_)
  rw[h5 k (fun hm=>hk (by simp[hm]))]
  exact World.putObj_heap_other (by rintro rfl;exact hk (by simp))
theorem qHg.leave {F:Fence} {n:Nat} {P:Program} {fn:Func} {tmps:Array Value} {R:Ending→World→Prop} {u:FrameMode} (hu:u≠.run) {B:Nat} {ds:List Deferred} {w:World} (h:qHg B ds w)
  (hR:∀w',Below B w w'→(∀(k:Nat) (cs:Array Value) (ty:TypeId) (fz:Nat × Nat),w.heap[k]? = some (Obj.cells cs ty fz)→w'.heap[k]? = some (Obj.cells cs ty fz))→LeavesIn F n P fn tmps R [] u w'):LeavesInM F n P fn tmps R ds u w:=by
 obtain⟨Ds,rfl,h2,h3⟩:=h
 refine qIk hu Ds w h2 h3 (fun w' e1 e2 e3 e4 e5=>hR w' ⟨e1,e2,e3,by omega,fun k hk=>e5 k (fun hm=>by have:=(h3 k hm).1;omega)⟩ (fun k cs ty fz hk=>?_))
 rw[e5 k (fun hm=>by have:=(h3 k hm).2;rw[hk] at this;cases this)]
 exact hk
theorem qRg:(Tryz.prog.info? 27).map (fun i=>(i.zero,i.size,i.bytes))=some (some (.slice none 0 0),1,24):=by kernel_rfl
def qIl (w:World) (base:Nat) (rs:List RowD) (v:Value):Prop:=w.ownsRow base 27 1 v rs.length (rs.map rowV)
theorem qUn (w:World) (base:Nat) (v:Value) (rs rs2:List RowD) (b:Option Addr) (d:Nat) (hown:qIl w base rs v) (hI:RowsR w rs2 b d) (hb:base≤w.heap.size) (hl:rs.length+rs2.length≤20000) :
  ∃v' w',(Builtin.append_ #[44,44] 44 #[v,.slice b rs2.length d]).run Tryz.prog w=.ok v' w'∧qIl w' base (rs++rs2) v'∧w.grownBy w' v.ownBlock:=by
 obtain⟨i0,hi_,hz0,hz1,hz2⟩:=info_parts qRg
 cases b with
 | none =>
  have h0:rs2=[]:=by
   cases rs2 with
   | nil=>rfl
   | cons y r =>
    obtain⟨g,o,e,_⟩:=hI.tat (by simp)
    cases e
  subst h0
  refine⟨v,w,?_,by rw[List.append_nil];exact hown,⟨rfl,rfl,rfl,Nat.le_refl _,fun _ _ _=>rfl⟩⟩
  rcases hown.2 with⟨rfl,h⟩|⟨g,cap,cur,rfl,_,_,hc,_,_,_⟩
  ·simp[Builtin.append_,run_underlying Tryz.underlying44,sizeOf,typeInfo,hi_,Builtin.lenOf,Builtin.firstCells]
  ·simp[Builtin.append_,run_underlying Tryz.underlying44,sizeOf,typeInfo,hi_,Builtin.lenOf,Builtin.firstCells,loadCells,hc,storeCells]
 | some ad =>
  have hnews:∀j u,(rs2.map rowV)[j]? = some u→w.cell? (ad.add j)=some u:=fun j u hu=>by
   have hlt:=(List.getElem?_eq_some_iff.1 hu).1
   obtain⟨g,o,e,_,hc⟩:=hI.tat (by omega)
   cases e
   have:=hc j u hu
   rw[Addr.add_lit];exact this
  have hone:∀u∈rs2.map rowV,u.oneCell'=true:=fun u hu=>by
   obtain⟨r,_,rfl⟩:=List.mem_map.1 hu
   simp[rowV,Value.oneCell']
  obtain⟨v',w',hr,h2,h3,_,_⟩:=run_append_own_at (P:=Tryz.prog) w base 44 44 27 i0 _ 1 24 Tryz.underlying44 hi_ hz0 hz1 hz2 rfl (by decide) v rs.length (rs.map rowV) hown ad rs2.length d (rs2.map rowV) (by simp) hnews hone (by simp only[maxLen];omega) (by omega) hb
  refine⟨v',w',hr,?_,h3⟩
  unfold qIl
  rw[List.length_append,List.map_append]
  exact h2
theorem qKk {F:Fence} {nF:Nat} {w:World} {ops:Array Oper} {rest:List Oper} {o:Oper} {a:Act} {Q:Exit→Act→World→Prop} (hgd:o.guard=none) (s x:Operand) (ho:o.op=.call { callee:=.builtin .append,args:=#[s,x],argTypes:=#[44,44] }) (hty:o.type=44)
  (base:Nat) (v:Value) (rs rs2:List RowD) (b:Option Addr) (d:Nat) (hs:a.eval s=v) (hx:a.eval x=.slice b rs2.length d) (hown:qIl w base rs v) (hI:RowsR w rs2 b d) (hb:base≤w.heap.size) (hl:rs.length+rs2.length≤20000)
  (h:∀v' w',qIl w' base (rs++rs2) v'→w.grownBy w' v.ownBlock→wpListIn F nF Tryz.prog ops Q rest (a.put o.dst v') w'):wpListIn F nF Tryz.prog ops Q (o :: rest) a w:=by
 refine wpListIn_plain hgd fun K hK=>?_
 obtain⟨v',w',hr,h2,h3⟩:=qUn w base v rs rs2 b d hown hI hb hl
 unfold Oper.wpIn
 refine⟨by simp[Oper.about,ho,resolve,Target.leads,Sem.run_pure],?_⟩
 rw[Oper.semAt_plain F _ _ (by rw[ho];intro c hc';cases hc')]
 simp[execOp,ho,hty,resolve,invoke,builtin,hs,hx,hr,Result.andThen]
 exact hK _ _ (h v' w' h2 h3)
theorem qYf:(44:Nat)≠27∧(27:Nat)≠3∧(44:Nat)≠3:=by decide
theorem qIm {W:World} {base:Nat} {rs:List RowD} {v:Value} (h:qIl W base rs v):∀g,v.ownBlock=some g→base≤g∧∃cs,W.heap[g]? = some (.cells cs 27 (0,0)):=fun g hg=>by
 rcases h.2 with⟨rfl,_⟩|⟨g',cap,cur,rfl,h1,h2,_⟩
 ·cases hg
 ·obtain rfl:g'=g:=by simpa [Value.ownBlock] using hg
  exact⟨h1,cur,h2⟩
theorem qIn {W W':World} {base:Nat} {rs:List RowD} {v:Value} (h:qIl W base rs v) (hk:∀g,v.ownBlock=some g→W'.heap[g]? = W.heap[g]?):qIl W' base rs v:=by
 refine⟨h.1,?_⟩
 rcases h.2 with h1|⟨g,cap,cur,rfl,h1,h2,h3⟩
 ·exact .inl h1
 ·exact .inr ⟨g,cap,cur,rfl,h1,(hk g rfl).trans h2,h3⟩
def qH9 (c:List NodeA):List (List Int):=(List.range c.length).flatMap (qAy c)
structure AlR (c:List NodeA) (w4:World) (B4:Nat) (ks:List Nat) (rs:List RowD) (v:Value) (W:World):Prop where
 but:But B4 w4 W
 box:W.heap[B4]? = some (.cells #[v] 44 (0,0))
 own:qIl W w4.heap.size rs v
 ints:∀r∈rs,IntsR W r.xs r.a r.c
 typ:qY6 W rs
 xs:rs.map RowD.xs=ks.flatMap (qAy c)
def AlI (c:List NodeA) (w4:World) (B4:Nat) (pre:List YD) (W:World):Prop:=∃rs v,AlR c w4 B4 (pre.map YD.k) rs v W
theorem AlR.turn {c:List NodeA} {w4:World} {B4:Nat} {ks:List Nat} {rs:List RowD} {v:Value} {W W':World} (h:AlR c w4 B4 ks rs v W) (hb:But B4 w4 W') (hs:W.heap.size≤W'.heap.size) (hk:∀(g:Nat) (cs:Array Value) (t:TypeId),W.heap[g]? = some (.cells cs t (0,0))→W'.heap[g]? = W.heap[g]?):AlR c w4 B4 ks rs v W' :=
 ⟨hb,(hk _ _ _ h.box).trans h.box,qIn h.own (fun g hg=>by obtain⟨_,cs,hc⟩:=qIm h.own g hg;exact hk _ _ _ hc),
  fun r hr=>qCv (h.ints r hr) (fun g o e=>by obtain⟨cs,hc⟩:=h.typ r hr g o e;exact hk _ _ _ hc) hs,
  fun r hr g o e=>by obtain⟨cs,hc⟩:=h.typ r hr g o e;exact⟨cs,(hk _ _ _ hc).trans hc⟩,h.xs⟩
theorem qLj (c:List NodeA) (w4:World) (B4:Nat):∀pre A B,AlI c w4 B4 pre A→Below A.heap.size A B→AlI c w4 B4 pre B:=fun pre A B ⟨rs,v,h⟩ hb =>
 ⟨rs,v,h.turn (h.but.trans (But.of hb)) hb.size (fun g cs t hg=>hb.block g (Array.getElem?_eq_some_iff.1 hg).1)⟩
theorem qYg (c:List NodeA) (w4:World) (B4:Nat):∀pre,zCw w4.heap.size (AlI c w4 B4 pre):=fun pre A l o o' ⟨rs,v,h⟩ hl hA ho =>
 ⟨rs,v,h.turn ⟨h.but.os,h.but.tape,h.but.output,by simpa using h.but.size,fun k hk hne=>(World.putObj_heap_other (by omega)).trans (h.but.block k hk hne)⟩ (by simp) (fun g cs t hg=>World.putObj_heap_other (fun e=>by
  subst e
  rw[hg] at hA
  cases hA
  cases ho))⟩
theorem AlR.step {c:List NodeA} {w4:World} {B4:Nat} {ks:List Nat} {rs rs2:List RowD} {v v6:Value} {W W6:World} {k:Nat} (h:AlR c w4 B4 ks rs v W) (hB:B4<w4.heap.size) (hr:qIl W6 w4.heap.size (rs++rs2) v6) (hg:W.grownBy W6 v.ownBlock)
  (h2:∀r∈rs2,IntsR W r.xs r.a r.c) (ht:qY6 W rs2) (hx:rs2.map RowD.xs=qAy c k):AlR c w4 B4 (ks++[k]) (rs++rs2) v6 (W6.setCell ⟨B4,0,none⟩ v6):=by
 have hgo:=qIm h.own
 have same:∀g,g<W.heap.size→v.ownBlock≠some g→g≠B4→(W6.setCell ⟨B4,0,none⟩ v6).heap[g]? = W.heap[g]?:=fun g h1 h2 h3=>(Below.heap_setCell _ _ _ _ h3).trans (hg.block g h1 (fun e=>h2 e.symm))
 have hb6:W6.heap[B4]? = some (.cells #[v] 44 (0,0)):=(hg.block _ (Array.getElem?_eq_some_iff.1 h.box).1 (fun e=>by have:=(hgo _ e.symm).1;omega)).trans h.box
 have hint:∀(g:Nat) (cs:Array Value),W.heap[g]? = some (.cells cs 3 (0,0))→(W6.setCell ⟨B4,0,none⟩ v6).heap[g]? = W.heap[g]?:=fun g cs hc=>same g (Array.getElem?_eq_some_iff.1 hc).1 (fun e=>by
   obtain⟨_,cs',hc'⟩:=hgo g e
   rw[hc] at hc'
   have:=Option.some.inj hc'
   injection this with _ e2 _
   exact qYf.2.1 e2.symm) (fun e=>by
   have hbb:=h.box
   rw[←e,hc] at hbb
   have:=Option.some.inj hbb
   injection this with _ e2 _
   exact qYf.2.2 e2.symm)
 have hsz:W.heap.size≤(W6.setCell ⟨B4,0,none⟩ v6).heap.size:=by simpa [World.setCell] using hg.size
 have hall:∀r∈rs++rs2,IntsR W r.xs r.a r.c∧∀g o,r.a=some ⟨g,o,none⟩→∃cs,W.heap[g]? = some (.cells cs 3 (0,0)):=fun r hr=>by
  rcases List.mem_append.1 hr with hr|hr
  ·exact⟨h.ints r hr,h.typ r hr⟩
  ·exact⟨h2 r hr,ht r hr⟩
 refine⟨⟨?_,?_,?_,Nat.le_trans h.but.size hsz,fun g h1 h2=>(same g (Nat.lt_of_lt_of_le h1 h.but.size) (fun e=>by have:=(hgo g e).1;omega) h2).trans (h.but.block g h1 h2)⟩,?_,qIn hr (fun g hg'=>Below.heap_setCell _ _ _ _ (fun e=>?_)),fun r hr'=>qCv (hall r hr').1 (fun g o e=>by obtain⟨cs,hc⟩:=(hall r hr').2 g o e;exact hint g cs hc) hsz,fun r hr' g o e=>?_,?_⟩
 ·exact hg.os.trans h.but.os
 ·exact hg.tape.trans h.but.tape
 ·exact hg.output.trans h.but.output
 ·simp[World.setCell,Array.getElem?_modify,hb6]
 ·obtain⟨h3,_⟩:=qIm hr g hg'
  simp only at e
  omega
 ·obtain⟨cs,hc⟩:=(hall r hr').2 g o e
  exact⟨cs,(hint g cs hc).trans hc⟩
 ·rw[List.map_append,h.xs,hx,List.flatMap_append]
  simp
attribute [local go_sem] Oper.semAt_some
theorem qUo (a:Option Addr) (n ca:Nat) (c:List NodeA) (la:Option Addr) (V:World):Calls Tryz.prog 25 #[.agg #[.slice a c.length ca,.slice la c.length c.length,.func (.func 69) #[] #[],.nilFunc,.func (.func 70) #[] #[],.func (.func 71) #[] #[],.nilFunc,.nilFunc,.func (.func 72) #[] #[],.func (.func 73) #[] #[],.nilFunc,.nilFunc,.nilFunc,.nilFunc,.nilFunc,.nilFunc]] V fun e w'=>e=.returned (.func (.func 40) #[] #[.pointer (some ⟨V.heap.size,0,none⟩)])∧V.alloc (.cells #[.slice a c.length ca,.slice la c.length c.length,.func (.func 69) #[] #[],.nilFunc,.func (.func 70) #[] #[],.func (.func 71) #[] #[],.nilFunc,.nilFunc,.func (.func 72) #[] #[],.func (.func 73) #[] #[],.nilFunc,.nilFunc,.nilFunc,.nilFunc,.nilFunc,.nilFunc] 85)=w':=by
 go_enter Tryz.func25,Tryz.ntmps25
 go_wp2
 go_ret
 exact⟨rfl,rfl⟩
theorem qAm.turn {V W:World} {v:Value} {xss:List (List Int)} (h:qAm V v xss) (hs:V.heap.size≤W.heap.size) (hk:∀(g:Nat) (cs:Array Value) (t:TypeId) (fr:Nat × Nat),V.heap[g]? = some (.cells cs t fr)→W.heap[g]? = V.heap[g]?):qAm W v xss:=by
 obtain⟨rs,a,c,h1,h2,h3,h4⟩:=h
 refine⟨rs,a,c,h1,h2,⟨h3.le,h3.cap,fun h0=>?_,fun r hr=>qCv (h3.ok r hr) (fun g o e=>by obtain⟨cs,hc⟩:=h4 r hr g o e;exact hk _ _ _ _ hc) hs⟩,fun r hr g o e=>by obtain⟨cs,hc⟩:=h4 r hr g o e;exact⟨cs,(hk _ _ _ _ hc).trans hc⟩⟩
 obtain⟨g,o,e,hg,hc⟩:=h3.tat h0
 exact⟨g,o,e,by omega,fun i v hv=>by
  obtain⟨cs,t,fr,hcs,_⟩:=Go.Sort.cells_of_cell? (hc i v hv)
  exact(World.cell?_of_block (a:=⟨g,o+i,none⟩) (hk _ _ _ _ hcs)).trans (hc i v hv)⟩
theorem zCy:(38:Nat)≠3:=by decide
theorem SpY.len {c:List NodeA} {pre:List YD} (h:SpY c pre):pre.length≤c.length:=by
 obtain⟨k,h1,h2⟩:=h
 have:=congrArg List.length h2
 rw[List.length_map,List.length_range] at this
 omega
theorem AlR.len {c:List NodeA} {w4:World} {B4:Nat} {ks:List Nat} {rs:List RowD} {v:Value} {W:World} (h:AlR c w4 B4 ks rs v W):rs.length≤4*ks.length:=by
 have:=congrArg List.length h.xs
 rw[List.length_map] at this
 have:=qKm c ks
 omega
set_option maxHeartbeats 8000000 in
theorem zB9 (c:List NodeA) (hC:Cl c) (a:Option Addr) (ca:Nat) (w:World) (hG:GT w) (hA:TabR w c a ca) (hc0:0<c.length) :
  CallsIn Fence.wide 8 Tryz.prog 11 #[.agg #[.slice a c.length ca]] w fun e w'=>∃b d,e=.returned (.tuple #[.slice b (qH9 c).length d,.int .i64 0])∧qAm w' (.slice b (qH9 c).length d) (qH9 c)∧Below w.heap.size w w':=by
 have hlen:c.length≤2000:=hC.len
 obtain⟨W0,hW0⟩:∃W0,W0=((w.alloc (.cells #[.slice a c.length ca] 33)).alloc (.cells #[.slice none 0 0] 44)).alloc (.cells #[.int .i64 0] 38):=⟨_,rfl⟩
 obtain⟨hB0,hs0,e1,e2,e3⟩:=qLk hW0
 have HX:Hid (∀V,Below W0.heap.size W0 V→V.cell? ⟨w.heap.size,0,none⟩=some (.slice a c.length ca)∧w.heap.size<V.heap.size):=fun V hV=>by
  have e:=(hV.block _ (Array.getElem?_eq_some_iff.1 e1).1).trans e1
  exact⟨(cell_of_row _ _ 0 _ _ _ e).trans rfl,(Array.getElem?_eq_some_iff.1 e).1⟩
 have HR:Hid (∀V,Below W0.heap.size W0 V→V.heap[w.heap.size+1]? = some (.cells #[.slice none 0 0] 44 (0,0))∧V.heap[w.heap.size+1+1]? = some (.cells #[.int .i64 0] 38 (0,0))):=fun V hV=>⟨(hV.block _ (Array.getElem?_eq_some_iff.1 e2).1).trans e2,(hV.block _ (Array.getElem?_eq_some_iff.1 e3).1).trans e3⟩
 have HCk:Hid (Calls Tryz.prog 23 #[.agg #[.slice a c.length ca]] W0 fun e w'=>e=.returned (.int .i64 0)∧Hid (Below W0.heap.size W0 w')):=qG9 c a ca 0 W0 (hG.below hB0) (hA.below hB0) (by omega) (by rw[hC.may];rfl)
 have HNm:Hid (∀V,Below W0.heap.size W0 V→Calls Tryz.prog 24 #[.agg #[.slice a c.length ca]] V fun e w'=>∃la,e=.returned (.agg #[.slice a c.length ca,.slice la c.length c.length,.func (.func 69) #[] #[],.nilFunc,.func (.func 70) #[] #[],.func (.func 71) #[] #[],.nilFunc,.nilFunc,.func (.func 72) #[] #[],.func (.func 73) #[] #[],.nilFunc,.nilFunc,.nilFunc,.nilFunc,.nilFunc,.nilFunc])∧Hid (MkrR w' c a ca la)∧Hid (Below V.heap.size V w')):=fun V hV=>qH8 c hC a ca V ((hA.below hB0).below hV)
 have HAl:Hid (∀V la,Calls Tryz.prog 25 #[.agg #[.slice a c.length ca,.slice la c.length c.length,.func (.func 69) #[] #[],.nilFunc,.func (.func 70) #[] #[],.func (.func 71) #[] #[],.nilFunc,.nilFunc,.func (.func 72) #[] #[],.func (.func 73) #[] #[],.nilFunc,.nilFunc,.nilFunc,.nilFunc,.nilFunc,.nilFunc]] V fun e w'=>e=.returned (.func (.func 40) #[] #[.pointer (some ⟨V.heap.size,0,none⟩)])∧V.alloc (.cells #[.slice a c.length ca,.slice la c.length c.length,.func (.func 69) #[] #[],.nilFunc,.func (.func 70) #[] #[],.func (.func 71) #[] #[],.nilFunc,.nilFunc,.func (.func 72) #[] #[],.func (.func 73) #[] #[],.nilFunc,.nilFunc,.nilFunc,.nilFunc,.nilFunc,.nilFunc] 85)=w'):=fun V la=>qUo a 0 ca c la V
 have HB0:=Lib.hid hB0
 have HZ0:=Lib.hid hs0
 have HCl:=Lib.hid hC
 have HGA:=Lib.hid (And.intro hG hA)
 obtain⟨x0,xz⟩:=HX.out W0 (Below.refl _ _)
 have hd:1≤8:=by omega
 have hA0:=hW0.symm
 clear hW0 hC hG hA hB0 e1 e2 e3 hs0
 refine callsIn_of_wp_marks Tryz.func11 rfl trivial ?_ rfl
 simp only[Tryz.ntmps11,List.size_toArray,List.length_cons,List.length_nil,Nat.reduceAdd,Nat.reduceSub,Array.replicate_succ,Array.replicate_zero,List.push_toArray,List.append_toArray,List.nil_append,List.cons_append]
 gi_wp2_with (first
  | (refine⟨trivial,?_⟩;gi_at_call 23;refine(callsIn_wide.2 HCk.out).mono ?_;rintro e w1 ⟨rfl,HB1⟩;obtain⟨y0,yz⟩:=HX.out _ HB1.out)
  | (refine⟨trivial,?_⟩;gi_at_call 24;refine(callsIn_wide.2 (HNm.out _ (HB1.out.alloc HB1.out.size _))).mono ?_;rintro e w2 ⟨la,rfl,HM2,HB2⟩)
  | (refine⟨trivial,?_⟩;gi_at_call 25;refine(callsIn_wide.2 (HAl.out _ _)).mono ?_;rintro e w3 ⟨rfl,hw3⟩))
 have HW3:Hid (Below w2.heap.size w2 w3∧w3.heap.size=w2.heap.size+1∧w3.heap[w2.heap.size]? = some (.cells #[.slice a c.length ca,.slice la c.length c.length,.func (.func 69) #[] #[],.nilFunc,.func (.func 70) #[] #[],.func (.func 71) #[] #[],.nilFunc,.nilFunc,.func (.func 72) #[] #[],.func (.func 73) #[] #[],.nilFunc,.nilFunc,.nilFunc,.nilFunc,.nilFunc,.nilFunc] 85 (0,0))):=by
  subst hw3
  exact⟨(Below.refl _ w2).alloc (Nat.le_refl _) _,by simp,heap_alloc_new w2 _⟩
 have HB4:Hid (w2.heap[w1.heap.size]? = some (.cells #[.slice none 0 0] 44 (0,0))∧w1.heap.size<w2.heap.size∧Below W0.heap.size W0 w2):=by
  have h:=heap_alloc_new w1 (.cells #[.slice none 0 0] 44)
  have hb:=HB2.out
  exact⟨(hb.block _ (by simp)).trans h,by have:=hb.size;simp at this;omega,(HB1.out.alloc HB1.out.size _).trans (hb.mono (by have:=HB1.out.size;simp;omega))⟩
 clear hw3
 have hz1:W0.heap.size≤w1.heap.size:=HB1.out.size
 have hz2:=HB4.out.2.1
 have hz3:=HW3.out.2.1
 have hz0:=HZ0.out
 have HWw:Hid (Below w.heap.size w w3):=(HB0.out.trans (HB4.out.2.2.mono HB0.out.size)).trans (HW3.out.1.mono (by omega))
 have hal:AlK w c a ca la w2.heap.size w3:=⟨fun b hb=>HWw.out.block b hb,HWw.out.size,HW3.out.2.2,HM2.out.lits.below HW3.out.1⟩
 have hla:∀g o,la=some ⟨g,o,none⟩→g<w3.heap.size∧g≠w1.heap.size:=fun g o e=>by
  obtain⟨g',o',e',hg,hc⟩:=HM2.out.lits.cell (qGd hc0)
  rw[e] at e'
  cases e'
  refine⟨by omega,fun e2=>?_⟩
  subst e2
  rw[cell_of_row _ _ _ _ _ _ HB4.out.1] at hc
  cases o with
  | zero=>cases hc
  | succ o=>simp at hc
 have hbox3:w3.heap[w1.heap.size]? = some (.cells #[.slice none 0 0] 44 (0,0)):=(HW3.out.1.block _ (by omega)).trans HB4.out.1
 have hI0:AlI c w3 w1.heap.size [] w3:=⟨[],.slice none 0 0,But.refl _ _,hbox3,World.ownsRow_nil _ _ _ _,fun r hr=>by simp at hr,fun r hr=>by simp at hr,rfl⟩
 have HR3:Hid (w3.heap[w.heap.size+1]? = some (.cells #[.slice none 0 0] 44 (0,0))∧w3.heap[w.heap.size+1+1]? = some (.cells #[.int .i64 0] 38 (0,0))):=by
  refine HR.out _ (HB4.out.2.2.trans (HW3.out.1.mono (by omega)))
 have hlen:=HCl.out.len
 clear HM2 HB2 HCk HNm HAl HX HR x0 xz y0 yz hA0 hbox3
 refine qHf rfl hd (gf:=40) (lb:=#[.pointer (some ⟨w2.heap.size,0,none⟩)]) rfl trivial (enters_of Tryz.func40 (by kernel_rfl) rfl)
  (qUj 7 (by omega) c HCl.out a ca la w HGA.out.1 HGA.out.2 w2.heap.size w3.heap.size w1.heap.size w3 hal (by omega) (by omega) ⟨by omega,by omega⟩ hla) (fun b hb=>hb.1) (fun _=>rfl)
  (AlI c w3 w1.heap.size) (qLj c w3 w1.heap.size) (qYg c w3 w1.heap.size) (fun B hB=>qLj c w3 w1.heap.size _ _ _ hI0 hB)
  (fun x a' W=>a'={ tmps:=#[.agg #[.slice a c.length ca],.pointer (some ⟨w.heap.size,0,none⟩),.pointer (some ⟨w.heap.size+1,0,none⟩),.pointer (some ⟨w.heap.size+1+1,0,none⟩),.pointer (some ⟨w1.heap.size,0,none⟩),.slice x.a (qAy c x.k).length x.c,.int .i64 0,.agg #[.slice a c.length ca],.int .i64 0,.bool false,.agg #[.slice a c.length ca],.agg #[.slice a c.length ca,.slice la c.length c.length,.func (.func 69) #[] #[],.nilFunc,.func (.func 70) #[] #[],.func (.func 71) #[] #[],.nilFunc,.nilFunc,.func (.func 72) #[] #[],.func (.func 73) #[] #[],.nilFunc,.nilFunc,.nilFunc,.nilFunc,.nilFunc,.nilFunc],.func (.func 40) #[] #[.pointer (some ⟨w2.heap.size,0,none⟩)],.slice x.a (qAy c x.k).length x.c,.int .i64 0,undef,undef,undef,undef,undef,undef,undef],defers:=[] }∧YcP c x W) (fun x a' A l o o' h hl hA ho=>⟨h.1,qAm.turn h.2 (by simp) (fun g cs t fr hg=>World.putObj_heap_other (fun e=>by
   subst e
   rw[hg] at hA
   cases hA
   cases ho))⟩) ?_ ?_ ?_
 ·rintro l' pre x W K hsz hsp hy hI hK
  simp only[zCx]
  gi_wp2
  exact hK _ _ (KeepsFrom.refl _ _) (qC7.refl _ _) hI ⟨rfl,hy⟩
 ·rintro l' pre x a' V hsz hsp ⟨rs,v,hAR⟩ ⟨rfl,hy⟩
  obtain⟨k,xa,xc⟩:=x
  obtain⟨rs2,ra,rc,e1,e2,h3,h4⟩:=hy
  simp only at e1 e2
  injection e1 with ea el ec
  subst ea ec
  have hpl:=hsp.len
  rw[List.length_append] at hpl
  have hrl:=hAR.len
  rw[List.length_map] at hrl
  have hcl:=qKl c k
  have hl2:rs.length+rs2.length≤20000:=by simp at hpl;omega
  have c0:V.cell? ⟨w1.heap.size,0,none⟩=some v:=(cell_of_row _ _ 0 _ _ _ hAR.box).trans rfl
  have cz:=(Array.getElem?_eq_some_iff.1 hAR.box).1
  have HAR:=Lib.hid hAR
  have H34:=Lib.hid (And.intro e2 (And.intro h3 h4))
  have hown:=hAR.own
  have hzV:w3.heap.size≤V.heap.size:=hsz
  dsimp only
  rw[el]
  clear hAR h4 e2 hpl hrl hcl el
  gi_wp2_with (gi_at_builtin;refine qKk rfl _ _ rfl rfl w3.heap.size v rs rs2 xa xc rfl rfl hown h3 hzV hl2 ?_)
  intro v6 W6 hr6 hg6
  rw[←hz3] at hr6
  have hst:=HAR.out.step (k:=k) (by omega:w1.heap.size<w3.heap.size) hr6 hg6 (fun r hr=>H34.out.2.1.ok r hr) H34.out.2.2 H34.out.1
  have hot:=qIm HAR.out.own
  have hb6:W6.heap[w1.heap.size]? = some (.cells #[v] 44 (0,0)):=(hg6.block _ cz (fun e=>by have:=(hot _ e.symm).1;omega)).trans HAR.out.box
  obtain⟨a6,c6,e6,_,_,_,_⟩:=own_at hr6
  subst e6
  obtain⟨W7,hW7⟩:∃W7,W6.setCell ⟨w1.heap.size,0,none⟩ (.slice a6 (rs++rs2).length c6)=W7:=⟨_,rfl⟩
  rw[hW7] at hst
  have HP:Hid (KeepsFrom w3.heap.size V W7∧qC7 (fun b=>b<w3.heap.size∧b≠w1.heap.size) V W7∧AlI c w3 w1.heap.size (pre++[⟨k,xa,xc⟩]) W7):=by
   refine⟨?_,⟨?_,fun b hb=>?_⟩,_,_,by rw[List.map_append];exact hst⟩
   ·rw[←hW7]
    exact KeepsOthers.from ((KeepsOthers.of_grownBy hg6 (fun j o e ho=>by
     obtain⟨_,cs,hc⟩:=hot j e
     rw[hc] at ho
     cases ho
     rfl)).trans (KeepsOthers.setCell _ _ _)) _
   ·rw[←hW7]
    have:=hg6.size
    simpa [World.setCell] using this
   ·rw[←hW7]
    exact(Below.heap_setCell _ _ _ _ hb.2).trans (hg6.block b (by omega) (fun e=>by have:=(hot b e.symm).1;omega))
  have c6':W6.cell? ⟨w1.heap.size,0,none⟩=some v:=(cell_of_row _ _ 0 _ _ _ hb6).trans rfl
  have f6:W6.frozen? ⟨w1.heap.size,0,none⟩=false:=by simp[World.frozen?,hb6]
  have z6:=(Array.getElem?_eq_some_iff.1 hb6).1
  clear hst hot hb6 hg6 hr6 c0 cz hown h3
  gi_wp2
  rw[show rs.length+rs2.length=(rs++rs2).length from List.length_append.symm,hW7]
  exact HP.out
 ·rintro D ys W hD hS ⟨rs,v,hAR⟩ hDf
  have hot:=qIm hAR.own
  obtain⟨a6,c6,e6,_,_,_,_⟩:=own_at hAR.own
  subst e6
  have hr1:W.heap[w.heap.size+1]? = some (.cells #[.slice none 0 0] 44 (0,0)):=(hAR.but.block _ (by omega) (by omega)).trans HR3.out.1
  have hr2:W.heap[w.heap.size+1+1]? = some (.cells #[.int .i64 0] 38 (0,0)):=(hAR.but.block _ (by omega) (by omega)).trans HR3.out.2
  have c0:W.cell? ⟨w1.heap.size,0,none⟩=some (.slice a6 rs.length c6):=(cell_of_row _ _ 0 _ _ _ hAR.box).trans rfl
  have cz:=(Array.getElem?_eq_some_iff.1 hAR.box).1
  have c1:W.cell? ⟨w.heap.size+1,0,none⟩=some (.slice none 0 0):=(cell_of_row _ _ 0 _ _ _ hr1).trans rfl
  have c2:W.cell? ⟨w.heap.size+1+1,0,none⟩=some (.int .i64 0):=(cell_of_row _ _ 0 _ _ _ hr2).trans rfl
  have f1:W.frozen? ⟨w.heap.size+1,0,none⟩=false:=by simp[World.frozen?,hr1]
  have f2:W.frozen? ⟨w.heap.size+1+1,0,none⟩=false:=by simp[World.frozen?,hr2]
  have z1:=(Array.getElem?_eq_some_iff.1 hr1).1
  have z2:=(Array.getElem?_eq_some_iff.1 hr2).1
  have hxs:rs.map RowD.xs=qH9 c:=by rw[hAR.xs,hS];rfl
  have hlm:rs.length=(qH9 c).length:=by rw[←hxs,List.length_map]
  obtain⟨W9,hW9⟩:∃W9,(W.setCell ⟨w.heap.size+1,0,none⟩ (.slice a6 rs.length c6)).setCell ⟨w.heap.size+1+1,0,none⟩ (.int .i64 0)=W9:=⟨_,rfl⟩
  have k9:∀b,b≠w.heap.size+1→b≠w.heap.size+1+1→W9.heap[b]? = W.heap[b]?:=fun b h1 h2=>by
   rw[←hW9]
   exact(Below.heap_setCell _ _ _ _ h2).trans (Below.heap_setCell _ _ _ _ h1)
  have s9:W9.heap.size=W.heap.size:=by rw[←hW9];simp[World.setCell]
  have q1:W9.heap[w.heap.size+1]? = some (.cells #[.slice a6 rs.length c6] 44 (0,0)):=by
   rw[←hW9]
   exact(Below.heap_setCell _ _ _ _ (by show w.heap.size+1≠w.heap.size+1+1;omega)).trans (qAf hr1)
  have q2:W9.heap[w.heap.size+1+1]? = some (.cells #[.int .i64 0] 38 (0,0)):=by
   rw[←hW9]
   exact qAf ((Below.heap_setCell _ _ _ _ (by show w.heap.size+1+1≠w.heap.size+1;omega)).trans hr2)
  have hbw9:Below w.heap.size w W9:=by
   have hbW:Below w.heap.size w W:=⟨hAR.but.os.trans HWw.out.os,hAR.but.tape.trans HWw.out.tape,hAR.but.output.trans HWw.out.output,Nat.le_trans HWw.out.size hAR.but.size,fun b hb=>(hAR.but.block b (by omega) (by omega)).trans (HWw.out.block b hb)⟩
   rw[←hW9]
   exact(hbW.setCell (p:=⟨w.heap.size+1,0,none⟩) (by show w.heap.size≤w.heap.size+1;omega) _).setCell (p:=⟨w.heap.size+1+1,0,none⟩) (by show w.heap.size≤w.heap.size+1+1;omega) _
  have hint:∀(g:Nat) (cs:Array Value),W.heap[g]? = some (.cells cs 3 (0,0))→W9.heap[g]? = W.heap[g]?:=fun g cs hc=>k9 g (fun e=>by
   rw[e,hr1] at hc
   have:=Option.some.inj hc
   injection this with _ e2 _
   exact qYf.2.2 e2) (fun e=>by
   rw[e,hr2] at hc
   have:=Option.some.inj hc
   injection this with _ e2 _
   exact zCy e2)
  have HRow:Hid (qAm W9 (.slice a6 (qH9 c).length c6) (qH9 c)):=by
   have ho9:qIl W9 w3.heap.size rs (.slice a6 rs.length c6):=qIn hAR.own (fun g hg=>k9 g (by have:=(hot g hg).1;omega) (by have:=(hot g hg).1;omega))
   obtain⟨a7,c7,e7,r1,r2,r3,_⟩:=own_at ho9
   cases e7
   exact⟨rs,a6,c6,by rw[hlm],hxs,⟨r1,r2,r3,fun r hr=>qCv (hAR.ints r hr) (fun g o e=>by obtain⟨cs,hc⟩:=hAR.typ r hr g o e;exact hint g cs hc) (by omega)⟩,fun r hr g o e=>by obtain⟨cs,hc⟩:=hAR.typ r hr g o e;exact⟨cs,(hint g cs hc).trans hc⟩⟩
  have HM:Hid (qHg w3.heap.size [{ target:=.collected D,args:=#[] }] W9):=by
   refine⟨[D],rfl,by simp,fun E hE=>?_⟩
   obtain rfl:E=D:=by simpa using hE
   exact⟨hD,(k9 _ (by omega) (by omega)).trans hDf⟩
  have HQ:=Lib.hid (And.intro q1 (And.intro q2 hbw9))
  rw[hlm] at hW9 HQ c0
  clear hot hAR hr1 hr2 hxs k9 s9 q1 q2 hbw9 hint hDf hS
  gi_wp2
  refine qHg.leave (by simp) HM.out (fun w' hb hc=>?_)
  have p1:w'.cell? ⟨w.heap.size+1,0,none⟩=some (.slice a6 (qH9 c).length c6):=(cell_of_row _ _ 0 _ _ _ (hc _ _ _ _ HQ.out.1)).trans rfl
  have p2:w'.cell? ⟨w.heap.size+1+1,0,none⟩=some (.int .i64 0):=(cell_of_row _ _ 0 _ _ _ (hc _ _ _ _ HQ.out.2.1)).trans rfl
  exact⟨.tuple #[.slice a6 (qH9 c).length c6,.int .i64 0],by simp[results,Tryz.results11,go_sem,p1,p2],a6,c6,rfl,qAm.turn HRow.out hb.size (fun g cs t fr hg=>(hc _ _ _ _ hg).trans hg.symm),HQ.out.2.2.trans (hb.mono (by omega))⟩
theorem qUp (c:List NodeA) (hC:Cl c) (a:Option Addr) (ca:Nat) (w:World) (hG:GT w) (hA:TabR w c a ca) (hc0:0<c.length) :
  Calls Tryz.prog 11 #[.agg #[.slice a c.length ca]] w fun e w'=>∃b d,e=.returned (.tuple #[.slice b (qH9 c).length d,.int .i64 0])∧qAm w' (.slice b (qH9 c).length d) (qH9 c)∧Below w.heap.size w w':=callsIn_wide.1 (zB9 c hC a ca w hG hA hc0)
end Go.Proofs.YtfgpimhdjlmapaaGreatDoor.Tm
