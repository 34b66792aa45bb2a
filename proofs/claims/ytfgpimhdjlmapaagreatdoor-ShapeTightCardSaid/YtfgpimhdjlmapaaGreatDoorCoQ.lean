/- Core: the walk's row of what must come first, in memory. -/
import Derived.Laws.CopyOwn
import Derived.ScopeJumps
import Derived.WalkMore
import Derived.Test.YtfgpimhdjlmapaaGreatDoorCoH
import Derived.Test.YtfgpimhdjlmapaaGreatDoorTyC
import Derived.Deep.AppendLies
import Derived.Deep.RegionLaw
import Derived.WalkSmall
namespace Go.Proofs.YtfgpimhdjlmapaaGreatDoor.Tm
open Go.RowKit
set_option linter.unusedVariables false
def qH5 (l:List NodeA) (n:NodeA) (k:Nat):List Int:=(List.range k).map (fun j=>(qAd l (qBc n j)).sort)
def qWc (l:List NodeA) (n:NodeA):Int × Int:=opA n.op (qH5 l n n.len.toNat)
def qV5 (l:List NodeA) (n:NodeA):Bool:=if n.op=13 then false else !decide ((qWc l n).2=0) || !decide ((qWc l n).1=n.sort)
structure InA (l:List NodeA) (n:NodeA):Prop where
 lo:0≤n.len
 hi:n.len≤3
 arg:∀j:Nat,(j:Int)<n.len→0≤qBc n j∧qBc n j<(l.length:Int)
theorem qN2 {w:World} {base:Nat} {xs:List Int} {a:Option Addr} {c:Nat} (h:w.ownsRow base 3 1 (.slice a xs.length c) xs.length (xs.map (Value.int .i64))) (hok:∀x∈xs,I64 x):IntsR w xs a c:=by
 obtain⟨a',c',e,h1,h2,h3,_⟩:=own_at h
 cases e
 exact⟨h1,h2,h3,hok⟩
theorem qEr {V:World} {b:Nat} {n:NodeA} (h:V.heap[b]? = some (.cells #[.int .i8 n.op,.int .i8 n.len,.int .i64 n.a0,.int .i64 n.a1,.int .i64 n.a2,.int .i64 n.sort,.int .i64 n.fn,.int .i64 n.num] 54 (0,0))) (k:Nat) (hk:k<3):V.cell? ⟨b,2+k,none⟩=some (.int .i64 (qBc n k)):=by
 obtain⟨_,_,n2,n3,n4,_⟩:=qSd h
 have hc:k=0∨k=1∨k=2:=by omega
 rcases hc with rfl|rfl|rfl
 ·exact n2
 ·exact n3
 ·exact n4
theorem qFi {W V V2:World} {o:Obj} {B:Nat} {e:TypeId} {size n:Nat} {v:Value} {xs:List Value} (hB:W.heap.size≤B) (h:Below W.heap.size W V) (hown:V.ownsRow B e size v n xs) (hg:(V.alloc o).grownBy V2 v.ownBlock):Below W.heap.size W V2:=by
 have h3:=hg.size
 have h4:=h.size
 have h2:(V.alloc o).heap.size=V.heap.size+1:=by simp
 exact⟨hg.os.trans h.os,hg.tape.trans h.tape,hg.output.trans h.output,by omega,fun k hk=>(hg.block k (by omega) (fun e'=>by have:=(qD7 hown e'.symm).1;omega)).trans ((Below.heap_alloc V o k (by omega)).trans (h.block k hk))⟩
def imA (im:List Int) (i:Int):Int:=im.getD i.toNat (-1)
def qV6 (im:List Int) (n:NodeA) (k:Nat):NodeA:={ n with a0:=if 0<k then imA im n.a0 else n.a0,a1:=if 1<k then imA im n.a1 else n.a1,a2:=if 2<k then imA im n.a2 else n.a2 }
theorem qJo (im:List Int) (n:NodeA) (k j:Nat) (hj:j<3):qBc (qV6 im n k) j=if j<k then imA im (qBc n j) else qBc n j:=by
 have hc:j=0∨j=1∨j=2:=by omega
 rcases hc with rfl|rfl|rfl<;>rfl
structure PkR (w:World) (P:Nat→Prop) (B0 X I:Nat) (l:List NodeA) (a:Option Addr) (c:Nat):Prop where
 old:∀k,k<B0→P k
 px:P X
 pi:P I
 low:At w B0 (l.flatMap qC8) a
 le:l.length≤c
 cap:c≤maxLen
 ok:∀n∈l,NodeOk n
theorem PkR.keep {w V:World} {P:Nat→Prop} {B0 X I:Nat} {l:List NodeA} {a:Option Addr} {c:Nat} (h:PkR w P B0 X I l a c) (hk:Kp P w V) (hB:B0≤w.heap.size):PkR V P B0 X I l a c∧TabR V l a c:=by
 have hl:At V B0 (l.flatMap qC8) a:=by
  intro h0
  obtain⟨g,o,e,hg,hc⟩:=h.low h0
  exact⟨g,o,e,hg,fun i v hv=>(hk.cell (h.old g hg)).trans (hc i v hv)⟩
 exact⟨⟨h.old,h.px,h.pi,hl,h.le,h.cap,h.ok⟩,⟨h.le,h.cap,hl.more (Nat.le_trans hB hk.size),h.ok⟩⟩
def ImP (s:MkS) (im:List Int):Prop:=∀x∈im,x=-1∨PlA s x
theorem ImP.at {s:MkS} {im:List Int} (h:ImP s im) {i:Int} (hi:¬imA im i=-1):PlA s (imA im i):=by
 unfold imA at hi ⊢
 rw[List.getD_eq_getElem?_getD] at hi ⊢
 cases e:im[i.toNat]? with
 | none=>rw[e] at hi;exact absurd rfl hi
 | some x =>
  rw[e] at hi
  rcases h x (List.mem_of_getElem? e) with h1|h1
  ·exact absurd h1 hi
  ·exact h1
theorem qEs {l:List NodeA} {s:MkS} {im:List Int} {n:NodeA} {k:Nat} (h:standsB n k=true) (hs:ImP s im) (ha:∀j:Nat,(j:Int)<n.len→¬imA im (qBc n j)=-1):standsB (qV6 im n n.len.toNat) s.l.length=true:=by
 refine qVw ((qCg _ _).1 ?_)
 have hst:=(qCg n k).2 ((qCg n k).1 (by unfold standsB at h;exact of_decide_eq_true h))
 obtain⟨hf,hsrt,h0,h1,h2⟩:=hst
 have one:∀j:Nat,j<3→qBr n.len (qBc n j) j k→qBr n.len (qBc (qV6 im n n.len.toNat) j) j s.l.length:=fun j hj ha'=>by
  rw[qJo _ _ _ _ hj]
  by_cases hjl:(j:Int)<n.len
  ·rw[if_pos (by omega)]
   exact qBr.ins hjl (hs.at (ha j hjl))
  ·rw[if_neg (by omega),ha'.2 (by omega)]
   exact qBr.out (by omega)
 exact⟨hf,hsrt,one 0 (by decide) h0,one 1 (by decide) h1,one 2 (by decide) h2⟩
theorem qPl {s:MkS} {im:List Int} {n:NodeA} (hn:NodeOk n) (him:∀x∈im,I64 x) (k:Nat):NodeOk (qV6 im n k):=by
 have hi:∀i,I64 (imA im i):=fun i=>by
  unfold imA
  rw[List.getD_eq_getElem?_getD]
  cases e:im[i.toNat]? with
  | none=>exact l64 (by show -9223372036854775808≤(-1:Int)∧(-1:Int)≤9223372036854775807;decide)
  | some x=>exact him x (List.mem_of_getElem? e)
 refine⟨hn.op,hn.len,?_,?_,?_,hn.sort,hn.fn,hn.num⟩
 ·show I64 (if _ then _ else _);split;exact hi _;exact hn.a0
 ·show I64 (if _ then _ else _);split;exact hi _;exact hn.a1
 ·show I64 (if _ then _ else _);split;exact hi _;exact hn.a2
structure StP (N:Nat) (root:Int) (im st:List Int):Prop where
 rng:∀x∈st,0≤x∧x<(N:Int)
 fall:st.Pairwise (fun x y=>y<x)
 bot:st≠[]→st.head? = some root
 fin:st=[]→¬imA im root=-1
 non:∀x∈st.tail,imA im x=-1
def zC5 (st:List Int):Nat:=match st.getLast? with|none=>0|some x=>x.toNat+1
def qLy (N:Nat) (im st:List Int):Nat:=im.count (-1)*(N+1)+zC5 st
theorem qKv (st:List Int) (x:Int):zC5 (st++[x])=x.toNat+1:=by simp[zC5]
theorem StP.start {N:Nat} {root:Int} {im:List Int} (h:0≤root∧root<(N:Int)):StP N root im [root] :=
 ⟨fun x hx=>by rw[List.mem_singleton.1 hx];exact h,List.pairwise_singleton _ _,fun _=>rfl,fun e=>absurd e (by simp),fun x hx=>absurd hx (by simp)⟩
theorem qHv {im:List Int} {k:Nat} {v x:Int} (hx:0≤x) (hk:k<im.length):imA (im.set k v) x=if x=(k:Int) then v else imA im x:=by
 unfold imA
 rw[List.getD_eq_getElem?_getD,List.getD_eq_getElem?_getD,List.getElem?_set]
 by_cases e:x=(k:Int)
 ·rw[if_pos e,if_pos (by omega),if_pos (by omega)];rfl
 ·rw[if_neg e,if_neg (by omega)]
theorem StP.push {N:Nat} {root:Int} {im st:List Int} {id a:Int} (h:StP N root im (st++[id])) (h0:0≤a) (h1:a<id) (hz:imA im a=-1):StP N root im ((st++[id])++[a])∧qLy N im ((st++[id])++[a])<qLy N im (st++[id]):=by
 have hid:=h.rng id (by simp)
 refine⟨⟨fun x hx=>?_,?_,fun _=>?_,fun e=>absurd e (by simp),fun x hx=>?_⟩,?_⟩
 ·rcases List.mem_append.1 hx with hx|hx
  ·exact h.rng x hx
  ·rw[List.mem_singleton.1 hx];omega
 ·refine List.pairwise_append.2 ⟨h.fall,List.pairwise_singleton _ _,fun x hx y hy=>?_⟩
  rw[List.mem_singleton.1 hy]
  rcases List.mem_append.1 hx with hx|hx
  ·have:=(List.pairwise_append.1 h.fall).2.2 x hx id (by simp)
   omega
  ·rw[List.mem_singleton.1 hx];exact h1
 ·have:=h.bot (by simp)
  cases st with
  | nil=>simpa using this
  | cons s t=>simpa using this
 ·have hx':x∈(st++[id]).tail++[a]:=by
   cases st with
   | nil=>simpa using hx
   | cons s t=>simpa using hx
  rcases List.mem_append.1 hx' with hx|hx
  ·exact h.non x hx
  ·rw[List.mem_singleton.1 hx];exact hz
 ·unfold qLy
  rw[qKv,qKv]
  omega
def qDu (most:Int) (s:MkS) (im:List Int) (n:NodeA):MkS × Int:=qCs most s (qV6 im n n.len.toNat)
structure WkS (Q:MkS→List Int→Prop) (l:List NodeA) (s:MkS) (im:List Int):Prop where
 q:Q s im
 inv:MkI s
 ok:s.e=0
 imp:ImP s im
 len:im.length=l.length
theorem WkS.x {Q:MkS→List Int→Prop} {l:List NodeA} {s:MkS} {im:List Int} (h:WkS Q l s im):∀x∈im,I64 x:=fun x hx=>by
 rcases h.imp x hx with rfl|h1
 ·exact l64 (by show -9223372036854775808≤(-1:Int)∧(-1:Int)≤9223372036854775807;decide)
 ·exact h1.i64 h.inv.len
def qJp (im:List Int) (n:NodeA):Prop:=∀j:Nat,(j:Int)<n.len→¬imA im (qBc n j)=-1
def qLz (Q:MkS→List Int→Prop) (most:Int) (l:List NodeA):Prop:=∀(s:MkS) (im:List Int) (k:Nat) (n:NodeA),WkS Q l s im→l[k]? = some n→qJp im n→(qDu most s im n).1.e=0→Q (qDu most s im n).1 (im.set k (qDu most s im n).2)
def qSe (Q:MkS→List Int→Prop) (most:Int) (l:List NodeA) (s':MkS):Prop:=¬s'.e=0∧∃(s:MkS) (im:List Int) (k:Nat) (n:NodeA),WkS Q l s im∧l[k]? = some n∧qJp im n∧s'=(qDu most s im n).1
theorem qSf {Q:MkS→List Int→Prop} {most:Int} {l:List NodeA} {s:MkS} {im:List Int} {k:Nat} {n:NodeA} (hQ:qLz Q most l) (h:WkS Q l s im) (hk:l[k]? = some n) (ha:qJp im n) (hm:most≤2000) (hn:NodeOk n) (hst:standsB n k=true) :
  Out most s (qDu most s im n)∧((qDu most s im n).1.e=0→WkS Q l (qDu most s im n).1 (im.set k (qDu most s im n).2)):=by
 have ho:Out most s (qDu most s im n):=qLx h.inv hm (qPl (s:=s) hn h.x _) (qEs (l:=l) hst h.imp ha)
 refine⟨ho,fun he=>⟨hQ s im k n h hk ha he,ho.inv,he,fun x hx=>?_,by simpa using h.len⟩⟩
 rcases List.mem_or_eq_of_mem_set hx with h1|h1
 ·rcases h.imp x h1 with h2|h2
  ·exact .inl h2
  ·exact .inr (h2.up ho.pre)
 ·rw[h1];exact .inr ho.pl
end Go.Proofs.YtfgpimhdjlmapaaGreatDoor.Tm
