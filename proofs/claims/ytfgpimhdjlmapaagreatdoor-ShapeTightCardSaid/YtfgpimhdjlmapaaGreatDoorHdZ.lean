/- Arguments that are interpretations, opened. -/
import Derived.SizedLaws
import Derived.ChangeArms
import Derived.OpenShut
import Derived.Deep.RegionHeld3
import Derived.DeepKeys4
import Derived.WalkArith
import Derived.Maps.OwnSet
import Derived.Maps.OwnIn
import Derived.Maps.AppendAt
import Derived.Deep.CutRange
import Derived.Laws.Cover3
import Derived.Laws.Append
import Derived.Maps.Ext
import Derived.Carry
import Derived.Test.YtfgpimhdjlmapaaGreatDoorTyC
import Derived.Deep.AppendLies
import Derived.Deep.RegionHeldLaw
import Derived.Deep.RegionLaw
import Derived.Test.YtfgpimhdjlmapaaGreatDoorHdK
import Derived.Test.YtfgpimhdjlmapaaGreatDoorSgOq
namespace Go.Proofs.YtfgpimhdjlmapaaGreatDoor.Tm
open Go.RowKit
set_option linter.unusedVariables false
theorem spot_none {w:World} {a:Addr} {v:Value} (h:w.cell? a=some v):a=⟨a.block,a.off,none⟩∧a.block<w.heap.size:=by
 unfold World.cell? at h
 split at h
 ·rename_i c ty fr hc
  split at h
  ·cases h
  ·rename_i hs
   refine⟨?_,(Array.getElem?_eq_some_iff.1 hc).1⟩
   obtain⟨b,o,s⟩:=a
   cases s with
   | none=>rfl
   | some x=>simp at hs
 ·cases h
theorem add_add {a:Addr} (hsp:a=⟨a.block,a.off,none⟩) (i j:Nat):(a.add i).add j=⟨a.block,a.off+(i+j),none⟩:=by
 rw[hsp]
 unfold Addr.add
 by_cases h:i=0<;>by_cases h':j=0<;>simp[h,h',Nat.add_assoc]
theorem rows_open {α:Type} {f:α→List Value} {n:Nat} (hn0:0<n) (hn:∀x,(f x).length=n) {Q:α→Prop} {W:World} {a:Addr} {len:Nat} (h:∀i,i<len→∃x,W.cells? 0 (a.add (i*n)) n=some (f x)∧Q x) :
  ∃l:List α,l.length=len∧(∀y∈l,Q y)∧At W W.heap.size (l.flatMap f) (some a):=by
 obtain⟨l,hl,hg⟩:∃l:List α,l.length=len∧∀i y,l[i]? = some y→W.cells? 0 (a.add (i*n)) n=some (f y)∧Q y:=by
  induction len with
  | zero=>exact⟨[],rfl,fun i y hy=>by simp at hy⟩
  | succ k ih =>
   obtain⟨l,hl,hg⟩:=ih (fun i hi=>h i (by omega))
   obtain⟨x,hx⟩:=h k (by omega)
   refine⟨l++[x],by simp[hl],fun i y hy=>?_⟩
   by_cases hi:i<l.length
   ·rw[List.getElem?_append_left hi] at hy
    exact hg i y hy
   ·have hi2:i=k:=by
     have:=(List.getElem?_eq_some_iff.1 hy).1
     simp at this
     omega
    subst hi2
    rw[List.getElem?_append_right (by omega),hl] at hy
    simp at hy
    subst hy
    exact hx
 refine⟨l,hl,fun y hy=>?_,fun h0=>?_⟩
 ·obtain⟨i,hi⟩:=List.getElem?_of_mem hy
  exact(hg i y hi).2
 ·rw[len_flat hn] at h0
  have hl0:0<l.length:=Nat.pos_of_mul_pos_right h0
  obtain⟨y0,hy0⟩:∃y,l[0]? = some y:=⟨_,List.getElem?_eq_getElem hl0⟩
  obtain⟨_,_,hc⟩:=World.cells?_some (hg 0 y0 hy0).1
  have q:=hc 0 hn0
  obtain⟨v0,hv0⟩:∃v,(f y0)[0]? = some v:=⟨_,List.getElem?_eq_getElem (by rw[hn];exact hn0)⟩
  rw[hv0] at q
  have e00:(a.add (0*n)).add 0=a:=by simp[Addr.add]
  rw[e00] at q
  obtain⟨hsp,hab⟩:=spot_none q
  refine⟨a.block,a.off,by rw[←hsp],hab,fun i v hv=>?_⟩
  have hi:i<l.length*n:=by have:=(List.getElem?_eq_some_iff.1 hv).1;rwa [len_flat hn] at this
  have hq:i / n<l.length:=Nat.div_lt_of_lt_mul (by rw[Nat.mul_comm];exact hi)
  have hr:i % n<n:=Nat.mod_lt _ hn0
  obtain⟨y,hy⟩:∃y,l[i / n]? = some y:=⟨_,List.getElem?_eq_getElem hq⟩
  have hs:i / n*n+i % n=i:=by rw[Nat.mul_comm];exact Nat.div_add_mod i n
  have e:=get_flat hn l (i / n) (i % n) y hy hr
  rw[hs] at e
  obtain⟨_,_,hc'⟩:=World.cells?_some (hg (i / n) y hy).1
  have q':=hc' (i % n) hr
  rw[add_add hsp,hs] at q'
  rw[q',←e]
  exact hv
theorem cInt:Tryz.prog.cellsOf 3=1:=by kernel_rfl
theorem cI8:Tryz.prog.cellsOf 49=1:=by kernel_rfl
theorem cArr:Tryz.prog.cellsOf 52=3:=by kernel_rfl
theorem zAr:Tryz.prog.cellsOf 54=8:=by kernel_rfl
theorem zAs:Tryz.prog.cellsOf 31=1:=by kernel_rfl
theorem zAt:Tryz.prog.cellsOf 33=1:=by kernel_rfl
theorem i64_wf {x:Int} (h:(Lit.int .i64 x).wf=true):I64 x:=by
 have:=bounds_i64 h
 exact⟨by omega,by omega⟩
theorem qVo {α:Type} {l:List α} (h:l.length=1):∃a,l=[a]:=by
 match l,h with
 | [a],_=>exact⟨a,rfl⟩
theorem zAu {α:Type} {l:List α} (h:l.length=3):∃a b c,l=[a,b,c]:=by
 match l,h with
 | [a,b,c],_=>exact⟨a,b,c,rfl⟩
theorem list6 {α:Type} {l:List α} (h:l.length=6):∃a b c d e f,l=[a,b,c,d,e,f]:=by
 match l,h with
 | [a,b,c,d,e,f],_=>exact⟨a,b,c,d,e,f,rfl⟩
theorem zCe {α:Type} {l:List α} (h:l.length=8):∃a b c d e f g i,l=[a,b,c,d,e,f,g,i]:=by
 match l,h with
 | [a,b,c,d,e,f,g,i],_=>exact⟨a,b,c,d,e,f,g,i,rfl⟩
section
variable {H:Type} {enc:TypeId × Value→H} {W:World} {sp:Nat→Bool} {held:Bool}
theorem open_int1 {fuel:Nat} {c:Value} {x:DataW H × List MemPlace} (h:DataW.trod enc Tryz.prog W 0 sp held fuel 3 [c]=some x):∃n,c=.int .i64 n∧I64 n:=by
 obtain⟨n,e,_,hw⟩:=DataW.trod_int Tryz.underlying3 h
 simp only[List.cons.injEq,and_true] at e
 exact⟨n,e,i64_wf hw⟩
theorem qJd {fuel:Nat} {c:Value} {x:DataW H × List MemPlace} (h:DataW.trod enc Tryz.prog W 0 sp held fuel 49 [c]=some x):∃n,c=.int .i8 n∧I8 n:=by
 obtain⟨n,e,_,hw⟩:=DataW.trod_int Tryz.underlying49 h
 simp only[List.cons.injEq,and_true] at e
 have:=bounds_i8 hw
 exact⟨n,e,by omega,by omega⟩
theorem qQp {fuel:Nat} {cs:List Value} {x:DataW H × List MemPlace} (h:DataW.trod enc Tryz.prog W 0 sp held fuel 54 cs=some x):∃n:NodeA,cs=qC8 n∧NodeOk n:=by
 obtain⟨xs,n,rfl,rfl,hlen,hxs,hf⟩:=DataW.trod_struct Tryz.underlying54 h
 rw[zAr] at hlen
 clear h
 obtain⟨c0,c1,c2,c3,c4,c5,c6,c7,rfl⟩:=zCe hlen
 obtain⟨y0,y1,y2,y3,y4,y5,rfl⟩:=list6 (show xs.length=6 from hxs)
 have h0:=hf 0 ({ name := "Op", type:=49,offset:=0,embedded:=false,tag := "", pkgPath := "", byteOffset:=0 }) rfl
 have h1:=hf 1 ({ name := "Len", type:=49,offset:=1,embedded:=false,tag := "", pkgPath := "", byteOffset:=1 }) rfl
 have h2:=hf 2 ({ name := "Args", type:=52,offset:=2,embedded:=false,tag := "", pkgPath := "", byteOffset:=8 }) rfl
 have h3:=hf 3 ({ name := "Sort", type:=3,offset:=5,embedded:=false,tag := "", pkgPath := "", byteOffset:=32 }) rfl
 have h4:=hf 4 ({ name := "Fun", type:=3,offset:=6,embedded:=false,tag := "", pkgPath := "", byteOffset:=40 }) rfl
 have h5:=hf 5 ({ name := "N", type:=3,offset:=7,embedded:=false,tag := "", pkgPath := "", byteOffset:=48 }) rfl
 simp only[cInt,cI8,cArr,List.drop_zero,List.take_succ_cons,List.take_zero,List.drop_succ_cons,List.getElem?_cons_zero,List.getElem?_cons_succ] at h0 h1 h2 h3 h4 h5
 obtain⟨n0,rfl,hn0⟩:=qJd h0
 obtain⟨n1,rfl,hn1⟩:=qJd h1
 obtain⟨n5,rfl,hn5⟩:=open_int1 h3
 obtain⟨n6,rfl,hn6⟩:=open_int1 h4
 obtain⟨n7,rfl,hn7⟩:=open_int1 h5
 obtain⟨zs,m,rfl,hx,hl2,hz,hg⟩:=DataW.trod_array Tryz.underlying52 h2
 obtain⟨z0,z1,z2,rfl⟩:=zAu hz
 have g0:=hg 0 (by decide)
 have g1:=hg 1 (by decide)
 have g2:=hg 2 (by decide)
 simp only[cInt,Nat.mul_one,List.drop_zero,List.take_succ_cons,List.take_zero,List.drop_succ_cons,List.getElem?_cons_zero,List.getElem?_cons_succ] at g0 g1 g2
 obtain⟨n2,rfl,hn2⟩:=open_int1 g0
 obtain⟨n3,rfl,hn3⟩:=open_int1 g1
 obtain⟨n4,rfl,hn4⟩:=open_int1 g2
 exact⟨⟨n0,n1,n2,n3,n4,n5,n6,n7⟩,rfl,hn0,hn1,hn2,hn3,hn4,hn5,hn6,hn7⟩
theorem open_row {α:Type} {f:α→List Value} {n:Nat} (hn0:0<n) (hn:∀x,(f x).length=n) {Q:α→Prop} {t e:TypeId} (hu:Tryz.prog.underlying t=some (.slice e)) (hc:Tryz.prog.cellsOf e=n)
  (ho:∀(fuel:Nat) (cs:List Value) (x:DataW H × List MemPlace),DataW.trod enc Tryz.prog W 0 sp held fuel e cs=some x→∃y,cs=f y∧Q y)
  {fuel:Nat} {c:Value} {x:DataW H × List MemPlace} (h:DataW.trod enc Tryz.prog W 0 sp held fuel t [c]=some x) :
  ∃(l:List α) (a:Option Addr) (cap:Nat),c=.slice a l.length cap∧l.length≤cap∧cap≤maxLen∧At W W.heap.size (l.flatMap f) a∧∀y∈l,Q y:=by
 rcases DataW.trod_slice hu h with⟨e2,_⟩|⟨a,len,cap,elems,rest,m,rfl,e2,hx2,_,hlc,hcm,hel,hi,_,_⟩
 ·simp only[List.cons.injEq,and_true] at e2
  exact⟨[],none,0,e2,Nat.le_refl _,Nat.zero_le _,fun h=>absurd h (by simp),fun _ h=>by simp at h⟩
 ·simp only[List.cons.injEq,and_true] at e2
  subst e2
  rw[hc] at hi
  obtain⟨l,hl,hq,hat⟩:=rows_open (f:=f) (Q:=Q) (W:=W) (a:=a) (len:=len) hn0 hn (fun i hil=>by
   have hh:=hi i hil
   obtain⟨z,hz⟩:∃z,elems[i]? = some z:=⟨_,List.getElem?_eq_getElem (by omega)⟩
   rw[hz] at hh
   obtain⟨cs',hc',ht'⟩:=Option.bind_eq_some_iff.1 hh
   obtain⟨y,rfl,hy⟩:=ho m cs' z ht'
   exact⟨y,hc',hy⟩)
  exact⟨l,some a,cap,by rw[hl],by omega,hcm,hat,hq⟩
theorem open_table {fuel:Nat} {cs:List Value} {x:DataW H × List MemPlace} (h:DataW.trod enc Tryz.prog W 0 sp held fuel 33 cs=some x):∃(l:List NodeA) (a:Option Addr) (c:Nat),cs=[.slice a l.length c]∧TabR W l a c:=by
 obtain⟨xs,n,rfl,rfl,hlen,hxs,hf⟩:=DataW.trod_struct Tryz.underlying33 h
 rw[zAt] at hlen
 clear h
 obtain⟨c0,rfl⟩:=qVo hlen
 obtain⟨y0,rfl⟩:=qVo (show xs.length=1 from hxs)
 have h0:=hf 0 ({ name := "Nodes", type:=31,offset:=0,embedded:=false,tag := "", pkgPath := "", byteOffset:=0 }) rfl
 simp only[zAs,List.drop_zero,List.take_succ_cons,List.take_zero,List.getElem?_cons_zero] at h0
 obtain⟨l,a,c,rfl,q1,q2,q3,q4⟩:=open_row (f:=qC8) (n:=8) (Q:=NodeOk) (by decide) qBb Tryz.underlying31 zAr (fun fuel cs x h=>qQp h) h0
 exact⟨l,a,c,rfl,q1,q2,q3,q4⟩
theorem qTp (l:List Int):l.flatMap (fun x=>[Value.int .i64 x])=l.map (Value.int .i64):=by
 induction l with
 | nil=>rfl
 | cons x r ih=>simp only[List.flatMap_cons,List.map_cons,ih];rfl
def WB (t:TypeId) (d:DataW H):Prop:=∀n∈d.weights Tryz.prog t,n≤reachBytes
theorem wb_len {t e:TypeId} {es sp:List (DataW H)} (hu:Tryz.prog.underlying t=some (.slice e)) (h:WB t (.slice es sp)):(es.length+sp.length)*Tryz.prog.bytesOf e≤reachBytes:=h _ (by
 simp only[DataW.weights,hu,List.mem_cons,true_or])
theorem zDl:Tryz.prog.bytesOf 3=8:=by kernel_rfl
theorem open_ints {fuel:Nat} {c:Value} {x:DataW H × List MemPlace} (h:DataW.trod enc Tryz.prog W 0 sp held fuel 27 [c]=some x):∃(l:List Int) (a:Option Addr) (cap:Nat),c=.slice a l.length cap∧IntsR W l a cap∧(WB 27 x.1→l.length≤17592186044416):=by
 obtain⟨l,a,cap,rfl,q1,q2,q3,q4⟩:=open_row (f:=fun x=>[Value.int .i64 x]) (n:=1) (Q:=I64) (by decide) (fun _=>rfl) Tryz.underlying27 cInt (fun fuel cs x h=>by
  obtain⟨n,e,_,hw⟩:=DataW.trod_int Tryz.underlying3 h
  exact⟨n,e,i64_wf hw⟩) h
 rw[qTp] at q3
 refine⟨l,a,cap,rfl,⟨q1,q2,q3,q4⟩,fun hB=>?_⟩
 rcases DataW.trod_slice Tryz.underlying27 h with⟨e2,_⟩|⟨a',len,cap',elems,rest,m,_,e2,hx2,_,_,_,hel,_,_,_⟩
 ·simp only[List.cons.injEq,and_true] at e2
  cases l with
  | nil=>simp
  | cons y r=>simp at e2
 ·simp only[List.cons.injEq,and_true] at e2
  rw[hx2] at hB
  have:=wb_len Tryz.underlying27 hB
  rw[zDl] at this
  simp only[List.length_map,reachBytes] at this
  have hll:l.length=len:=by cases e2;rfl
  omega
end
end Go.Proofs.YtfgpimhdjlmapaaGreatDoor.Tm
namespace Go.Proofs.YtfgpimhdjlmapaaGreatDoor
open Go.RowKit
set_option linter.unusedVariables false
theorem zD9:Tryz.prog.cellsOf 124=4:=by kernel_rfl
theorem cFv:Tryz.prog.cellsOf 65=2:=by kernel_rfl
theorem zDm:Tryz.prog.cellsOf 30=2:=by kernel_rfl
theorem zCf:Tryz.prog.cellsOf 63=1:=by kernel_rfl
theorem zDn:Tryz.prog.cellsOf 28=1:=by kernel_rfl
theorem zCg:Tryz.prog.cellsOf 27=1:=by kernel_rfl
section
variable {H:Type} {enc:TypeId × Value→H} {W:World} {sp:Nat→Bool} {held:Bool}
theorem qQq {fuel:Nat} {cs:List Value} {x:DataW H × List MemPlace} (h:DataW.trod enc Tryz.prog W 0 sp held fuel 124 cs=some x):∃r:RowA,cs=zC2 r∧qHe r:=by
 obtain⟨xs,n,rfl,rfl,hlen,hxs,hf⟩:=DataW.trod_struct Tryz.underlying124 h
 rw[zD9] at hlen
 clear h
 obtain⟨c0,c1,c2,c3,rfl⟩:=qY1 hlen
 obtain⟨y0,y1,rfl⟩:=list2 (show xs.length=2 from hxs)
 have h2:=hf 0 ({ name := "Args", type:=52,offset:=0,embedded:=false,tag := "", pkgPath := "", byteOffset:=0 }) rfl
 have h3:=hf 1 ({ name := "Val", type:=3,offset:=3,embedded:=false,tag := "", pkgPath := "", byteOffset:=24 }) rfl
 simp only[cInt,cArr,List.drop_zero,List.take_succ_cons,List.take_zero,List.drop_succ_cons,List.getElem?_cons_zero,List.getElem?_cons_succ] at h2 h3
 obtain⟨n5,rfl,hn5⟩:=open_int1 h3
 obtain⟨zs,m,rfl,hx,hl2,hz,hg⟩:=DataW.trod_array Tryz.underlying52 h2
 obtain⟨z0,z1,z2,rfl⟩:=list3 hz
 have g0:=hg 0 (by decide)
 have g1:=hg 1 (by decide)
 have g2:=hg 2 (by decide)
 simp only[cInt,Nat.mul_one,List.drop_zero,List.take_succ_cons,List.take_zero,List.drop_succ_cons,List.getElem?_cons_zero,List.getElem?_cons_succ] at g0 g1 g2
 obtain⟨n2,rfl,hn2⟩:=open_int1 g0
 obtain⟨n3,rfl,hn3⟩:=open_int1 g1
 obtain⟨n4,rfl,hn4⟩:=open_int1 g2
 exact⟨⟨n2,n3,n4,n5⟩,rfl,hn2,hn3,hn4,hn5⟩
theorem qXm {fuel:Nat} {cs:List Value} {x:DataW H × List MemPlace} (h:DataW.trod enc Tryz.prog W 0 sp held fuel 65 cs=some x):∃f:FvV,cs=fvL f∧FvOk W W.heap.size f:=by
 obtain⟨xs,n,rfl,rfl,hlen,hxs,hf⟩:=DataW.trod_struct Tryz.underlying65 h
 rw[cFv] at hlen
 clear h
 obtain⟨c0,c1,rfl⟩:=list2 hlen
 obtain⟨y0,y1,rfl⟩:=list2 (show xs.length=2 from hxs)
 have h0:=hf 0 ({ name := "Rows", type:=63,offset:=0,embedded:=false,tag := "", pkgPath := "", byteOffset:=0 }) rfl
 have h1:=hf 1 ({ name := "Else", type:=3,offset:=1,embedded:=false,tag := "", pkgPath := "", byteOffset:=24 }) rfl
 simp only[cInt,zCf,List.drop_zero,List.take_succ_cons,List.take_zero,List.drop_succ_cons,List.getElem?_cons_zero,List.getElem?_cons_succ] at h0 h1
 obtain⟨l,a,cap,rfl,q1,q2,q3,q4⟩:=Tm.open_row (f:=zC2) (n:=4) (Q:=qHe) (by decide) qBj Tryz.underlying63 zD9 (fun fuel cs x h=>qQq h) h0
 obtain⟨n1,rfl,hn1⟩:=open_int1 h1
 exact⟨⟨l,a,cap,n1⟩,rfl,q1,q2,q3,q4,hn1⟩
theorem open_world {fuel:Nat} {cs:List Value} {x:DataW H × List MemPlace} (h:DataW.trod enc Tryz.prog W 0 sp held fuel 30 cs=some x):∃z:WorV,cs=[.slice z.sa z.sizes.length z.sc,.slice z.fa z.funs.length z.fc]∧WorR W z:=by
 obtain⟨xs,n,rfl,rfl,hlen,hxs,hf⟩:=DataW.trod_struct Tryz.underlying30 h
 rw[zDm] at hlen
 clear h
 obtain⟨c0,c1,rfl⟩:=list2 hlen
 obtain⟨y0,y1,rfl⟩:=list2 (show xs.length=2 from hxs)
 have h0:=hf 0 ({ name := "Sizes", type:=27,offset:=0,embedded:=false,tag := "", pkgPath := "", byteOffset:=0 }) rfl
 have h1:=hf 1 ({ name := "Funs", type:=28,offset:=1,embedded:=false,tag := "", pkgPath := "", byteOffset:=24 }) rfl
 simp only[zCg,zDn,List.drop_zero,List.take_succ_cons,List.take_zero,List.drop_succ_cons,List.getElem?_cons_zero,List.getElem?_cons_succ] at h0 h1
 obtain⟨l,a,cap,rfl,q1,q2,q3,q4⟩:=Tm.open_row (f:=qFb) (n:=1) (Q:=I64) (by decide) qA2 Tryz.underlying27 cInt (fun fuel cs x h=>by
  obtain⟨k,e,_,hw⟩:=DataW.trod_int Tryz.underlying3 h
  exact⟨k,e,i64_wf hw⟩) h0
 obtain⟨m,b,bc,rfl,r1,r2,r3,r4⟩:=Tm.open_row (f:=fvL) (n:=2) (Q:=FvOk W W.heap.size) (by decide) qDx Tryz.underlying28 cFv (fun fuel cs x h=>qXm h) h1
 exact⟨⟨l,a,cap,m,b,bc⟩,rfl,q1,q2,q3,q4,r1,r2,r3,r4⟩
end
end Go.Proofs.YtfgpimhdjlmapaaGreatDoor
