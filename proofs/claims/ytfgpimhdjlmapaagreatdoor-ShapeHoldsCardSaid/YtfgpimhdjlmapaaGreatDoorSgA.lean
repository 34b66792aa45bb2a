/- Signatures as plain data, and what it is that a value reads as one. -/
import Derived.ProofKit
import Derived.BigQuiet
import Derived.WalkKit
import Derived.Outline
import Derived.LoopTactic
import Derived.Handy
import Derived.Lib.Hide
import Derived.Below
import Derived.OneCell
import Derived.OpenShut
import Derived.Test.YtfgpimhdjlmapaaGreatDoorProg
import Derived.Test.YtfgpimhdjlmapaaGreatDoorNumMay
namespace Go.Proofs.YtfgpimhdjlmapaaGreatDoor
def qCe (c:UInt8):Bool:=c==32 || c==9 || c==10 || c==13
def zC3 (c:UInt8):Bool:=decide (48≤c.toNat)&&decide (c.toNat≤57)
def qCc (c:UInt8):Bool:=zC3 c || (decide (65≤c.toNat)&&decide (c.toNat≤90)) || (decide (97≤c.toNat)&&decide (c.toNat≤122)) ||
 [126,33,64,36,37,94,38,42,95,45,43,61,60,62,46,63,47].contains c.toNat
def qFd (c:UInt8):Bool:=(qCe c || (decide (32≤c.toNat)&&decide (c.toNat≤126)))&&c != 124&&c != 92
structure Tok where
 kind:Nat
 text:List UInt8
 pos:Nat
 stop:Nat
deriving DecidableEq
structure Nxt where
 tok:Tok
 ok:Bool
 err:Nat
deriving DecidableEq
theorem qMi (c:UInt8):qCe c=(decide (c.toNat=32) || decide (c.toNat=9) || decide (c.toNat=10) || decide (c.toNat=13)):=by
 have key:∀n:Fin 256,qCe (UInt8.ofNat n.val)=(decide (n.val=32) || decide (n.val=9) || decide (n.val=10) || decide (n.val=13)):=by decide +kernel
 have:=key ⟨c.toNat,c.toNat_lt⟩
 simpa only [UInt8.ofNat_toNat] using this
theorem qR3 (c:UInt8):qFd c=((!decide (c.toNat=124))&&(!decide (c.toNat=92))&&((decide (32≤c.toNat)&&decide (c.toNat≤126)) || qCe c)):=by
 have key:∀n:Fin 256,qFd (UInt8.ofNat n.val)=((!decide (n.val=124))&&(!decide (n.val=92))&&((decide (32≤n.val)&&decide (n.val≤126)) || qCe (UInt8.ofNat n.val))):=by decide +kernel
 have:=key ⟨c.toNat,c.toNat_lt⟩
 simpa only [UInt8.ofNat_toNat] using this
def qR4 (l:List UInt8):Bool:=l == [95] || l == [33] || l == [97,115] || l == [108,101,116] || l == [101,120,105,115,116,115] || l == [102,111,114,97,108,108] || l == [109,97,116,99,104] || l == [112,97,114]
open Go.RowKit
def qA8 (t:List UInt8):ByteArray:=⟨t.toArray⟩
inductive Tree where
 | node (k:Int) (s:List UInt8) (l:List Tree):Tree
namespace Tree
def kind:Tree→Int|node k _ _=>k
def text:Tree→List UInt8|node _ s _=>s
def kids:Tree→List Tree|node _ _ l=>l
end Tree
mutual
def szT:Tree→Nat
 | .node _ _ l=>szL l+1
def szL:List Tree→Nat
 | []=>0
 | t :: r=>szT t+szL r
end
mutual
def Rd (w:World) (bad:Nat→Prop):Tree→Value→Prop
 | .node k s l,v=>∃a cap,v=.agg #[.int .i8 k,.string (qA8 s),.slice a l.length cap]∧l.length≤cap∧cap≤maxLen∧s.length≤maxLen∧RdL w bad l a
def RdL (w:World) (bad:Nat→Prop):List Tree→Option Addr→Prop
 | [],_=>True
 | t :: l,a=>∃g o v0 v1 v2,a=some ⟨g,o,none⟩∧¬bad g∧w.frozen? ⟨g,o,none⟩=false∧w.cell? ⟨g,o,none⟩=some v0∧w.cell? ⟨g,o+1,none⟩=some v1∧w.cell? ⟨g,o+1+1,none⟩=some v2∧Rd w bad t (.agg #[v0,v1,v2])∧RdL w bad l (some ⟨g,o+3,none⟩)
end
mutual
theorem Rd.keep {w w':World} {bad:Nat→Prop} (hk:∀b,¬bad b→b<w.heap.size→w'.heap[b]? = w.heap[b]?):∀(t:Tree) (v:Value),Rd w bad t v→Rd w' bad t v
 | .node k s l,v,h=>by
  obtain⟨a,cap,e,h1,h2,h3,h4⟩:=h
  exact⟨a,cap,e,h1,h2,h3,RdL.keep hk l a h4⟩
theorem RdL.keep {w w':World} {bad:Nat→Prop} (hk:∀b,¬bad b→b<w.heap.size→w'.heap[b]? = w.heap[b]?):∀(l:List Tree) (a:Option Addr),RdL w bad l a→RdL w' bad l a
 | [],_,_=>trivial
 | t :: l,a,h=>by
  obtain⟨g,o,v0,v1,v2,e,hb,fz,c0,c1,c2,ht,hl⟩:=h
  have hlt:g<w.heap.size:=World.block_lt_of_cell? w ⟨g,o,none⟩ c0
  have f:∀j,w'.cell? ⟨g,j,none⟩=w.cell? ⟨g,j,none⟩:=fun j=>World.cell?_of_block (hk g hb hlt)
  exact⟨g,o,v0,v1,v2,e,hb,(World.frozen?_of_block (a:=⟨g,o,none⟩) (hk g hb hlt)).trans fz,(f _).trans c0,(f _).trans c1,(f _).trans c2,Rd.keep hk t _ ht,RdL.keep hk l _ hl⟩
end
mutual
theorem Rd.mono {w:World} {bad bad':Nat→Prop} (hk:∀b,b<w.heap.size→bad' b→bad b):∀(t:Tree) (v:Value),Rd w bad t v→Rd w bad' t v
 | .node k s l,v,h=>by
  obtain⟨a,cap,e,h1,h2,h3,h4⟩:=h
  exact⟨a,cap,e,h1,h2,h3,RdL.mono hk l a h4⟩
theorem RdL.mono {w:World} {bad bad':Nat→Prop} (hk:∀b,b<w.heap.size→bad' b→bad b):∀(l:List Tree) (a:Option Addr),RdL w bad l a→RdL w bad' l a
 | [],_,_=>trivial
 | t :: l,a,h=>by
  obtain⟨g,o,v0,v1,v2,e,hb,fz,c0,c1,c2,ht,hl⟩:=h
  have hlt:g<w.heap.size:=World.block_lt_of_cell? w ⟨g,o,none⟩ c0
  exact⟨g,o,v0,v1,v2,e,fun h=>hb (hk g hlt h),fz,c0,c1,c2,Rd.mono hk t _ ht,RdL.mono hk l _ hl⟩
end
theorem qOm {a b:List UInt8} (h:qA8 a=qA8 b):a=b:=by
 have:=congrArg (fun x=>x.data.toList) h
 simpa [qA8] using this
theorem qMj (s:ByteArray):qA8 s.data.toList=s:=by
 apply ByteArray.ext
 simp[qA8]
mutual
theorem Rd.one {w:World} {bad bad':Nat→Prop}:∀(t t':Tree) (v:Value),Rd w bad t v→Rd w bad' t' v→t=t'
 | .node k s l,.node k' s' l',v,h,h'=>by
  obtain⟨a,cap,e,_,_,_,h4⟩:=h
  obtain⟨a',cap',e',_,_,_,h4'⟩:=h'
  rw[e] at e'
  simp only[Value.agg.injEq,Array.mk.injEq,List.cons.injEq,Value.int.injEq,Value.string.injEq,Value.slice.injEq,and_true,true_and] at e'
  obtain⟨rfl,es,rfl,el,_⟩:=e'
  rw[qOm es,RdL.one l l' a el h4 h4']
theorem RdL.one {w:World} {bad bad':Nat→Prop}:∀(l l':List Tree) (a:Option Addr),l.length=l'.length→RdL w bad l a→RdL w bad' l' a→l=l'
 | [],[],_,_,_,_=>rfl
 | [],_ :: _,_,hl,_,_=>by simp at hl
 | _ :: _,[],_,hl,_,_=>by simp at hl
 | t :: l,t' :: l',a,hn,h,h'=>by
  obtain⟨g,o,v0,v1,v2,e,_,_,c0,c1,c2,ht,hl⟩:=h
  obtain⟨g',o',v0',v1',v2',e',_,_,c0',c1',c2',ht',hl'⟩:=h'
  rw[e] at e'
  simp only[Option.some.injEq,Addr.mk.injEq,and_true] at e'
  obtain⟨rfl,rfl⟩:=e'
  rw[c0] at c0'
  rw[c1] at c1'
  rw[c2] at c2'
  cases c0';cases c1';cases c2'
  rw[Rd.one t t' _ ht ht',RdL.one l l' _ (by simpa using hn) hl hl']
end
def Sx (w:World) (t:Tree) (v:Value):Prop:=Rd w (fun b=>w.heap.size≤b) t v
def SxL (w:World) (l:List Tree) (a:Option Addr):Prop:=RdL w (fun b=>w.heap.size≤b) l a
theorem Rd.sx {w:World} {bad:Nat→Prop} {t:Tree} {v:Value} (h:Rd w bad t v):Sx w t v:=Rd.mono (fun b hb hs=>by omega) t v h
theorem RdL.sx {w:World} {bad:Nat→Prop} {l:List Tree} {a:Option Addr} (h:RdL w bad l a):SxL w l a:=RdL.mono (fun b hb hs=>by omega) l a h
theorem Sx.below {w w':World} {t:Tree} {v:Value} (h:Sx w t v) (hb:Below w.heap.size w w'):Sx w' t v :=
 (Rd.keep (w':=w') (fun b hn _=>hb.block b (by omega)) t v h).sx
theorem SxL.below {w w':World} {l:List Tree} {a:Option Addr} (h:SxL w l a) (hb:Below w.heap.size w w'):SxL w' l a :=
 (RdL.keep (w':=w') (fun b hn _=>hb.block b (by omega)) l a h).sx
theorem Sx.at {w:World} {t:Tree} {v:Value} (h:Sx w t v):Rd w (fun b=>w.heap.size≤b) t v:=h
theorem Rd.below {w w':World} {B:Nat} {t:Tree} {v:Value} (h:Rd w (fun b=>B≤b) t v) (hb:Below B w w'):Rd w' (fun b=>B≤b) t v :=
 Rd.keep (fun b hn _=>hb.block b (by omega)) t v h
theorem RdL.below {w w':World} {B:Nat} {l:List Tree} {a:Option Addr} (h:RdL w (fun b=>B≤b) l a) (hb:Below B w w'):RdL w' (fun b=>B≤b) l a :=
 RdL.keep (fun b hn _=>hb.block b (by omega)) l a h
theorem Rd.parts {w:World} {bad:Nat→Prop} {t:Tree} {v:Value} (h:Rd w bad t v):∃a cap,v=.agg #[.int .i8 t.kind,.string (qA8 t.text),.slice a t.kids.length cap]∧t.kids.length≤cap∧cap≤maxLen∧t.text.length≤maxLen∧RdL w bad t.kids a:=by
 cases t with
 | node k s l=>exact h
theorem RdL.get {w:World} {bad:Nat→Prop}:∀(l:List Tree) (g o:Nat) (i:Nat) (t:Tree),RdL w bad l (some ⟨g,o,none⟩)→l[i]? = some t →
  ¬bad g∧∃v0 v1 v2,w.cell? ⟨g,o+i*3,none⟩=some v0∧w.cell? ⟨g,o+i*3+1,none⟩=some v1∧w.cell? ⟨g,o+i*3+1+1,none⟩=some v2∧Rd w bad t (.agg #[v0,v1,v2])
 | [],_,_,_,_,_,h=>by simp at h
 | t' :: l,g,o,0,t,h,hi=>by
  obtain⟨g',o',v0,v1,v2,e,hb,fz,c0,c1,c2,ht,_⟩:=h
  simp only[Option.some.injEq,Addr.mk.injEq,and_true] at e
  obtain⟨rfl,rfl⟩:=e
  simp at hi
  subst hi
  exact⟨hb,v0,v1,v2,by simpa using c0,by simpa using c1,by simpa using c2,ht⟩
 | t' :: l,g,o,i+1,t,h,hi=>by
  obtain⟨g',o',v0,v1,v2,e,hb,fz,c0,c1,c2,_,hl⟩:=h
  simp only[Option.some.injEq,Addr.mk.injEq,and_true] at e
  obtain⟨rfl,rfl⟩:=e
  have:=RdL.get l g (o+3) i t hl (by simpa using hi)
  have e:o+3+i*3=o+(i+1)*3:=by omega
  rw[e] at this
  exact this
theorem RdL.addr {w:World} {bad:Nat→Prop} {l:List Tree} {a:Option Addr} (h:RdL w bad l a) (h0:0<l.length):∃g o,a=some ⟨g,o,none⟩∧¬bad g∧g<w.heap.size∧w.frozen? ⟨g,o,none⟩=false∧∃v,w.cell? ⟨g,o,none⟩=some v:=by
 cases l with
 | nil=>simp at h0
 | cons t l =>
  obtain⟨g,o,v0,v1,v2,e,hb,fz,c0,_⟩:=h
  exact⟨g,o,e,hb,World.block_lt_of_cell? w ⟨g,o,none⟩ c0,fz,v0,c0⟩
theorem RdL.drop {w:World} {bad:Nat→Prop}:∀(l:List Tree) (g o:Nat) (i:Nat),RdL w bad l (some ⟨g,o,none⟩)→RdL w bad (l.drop i) (some ⟨g,o+i*3,none⟩)
 | l,g,o,0,h=>by simpa using h
 | [],_,_,_+1,_=>by simp[RdL]
 | t' :: l,g,o,i+1,h=>by
  obtain⟨g',o',v0,v1,v2,e,hb,fz,c0,c1,c2,_,hl⟩:=h
  simp only[Option.some.injEq,Addr.mk.injEq,and_true] at e
  obtain⟨rfl,rfl⟩:=e
  have:=RdL.drop l g (o+3) i hl
  have e:o+3+i*3=o+(i+1)*3:=by omega
  rw[e] at this
  simpa using this
def zCi (w:World) (bad:Nat→Prop):Prop:=∀b,¬bad b→b<w.heap.size→∃cs ty,w.heap[b]? = some (.cells cs ty (0,0))
theorem qTv (k:Int) (s:List UInt8) (l:List Tree):szT (.node k s l)=szL l+1:=by simp[szT]
theorem qF3 (t:Tree):szT t=szL t.kids+1:=by cases t with|node k s l=>exact qTv k s l
theorem qMk {l:List Tree} {t:Tree} (h:t∈l):szT t≤szL l:=by
 induction l with
 | nil=>simp at h
 | cons a r ih =>
  simp only[szL]
  rcases List.mem_cons.1 h with rfl|h
  ·omega
  ·have:=ih h;omega
open Go.RowKit
def At (w:World) (B:Nat) (L:List Value) (a:Option Addr):Prop :=
 0<L.length→∃g o:Nat,a=some ⟨g,o,none⟩∧g<B∧∀(i:Nat) (v:Value),L[i]? = some v→w.cell? ⟨g,o+i,none⟩=some v
theorem At.below {w w':World} {B:Nat} {L:List Value} {a:Option Addr} (h:At w B L a) (hb:Below B w w'):At w' B L a:=by
 intro h0
 obtain⟨g,o,e,hg,hc⟩:=h h0
 exact⟨g,o,e,hg,fun i v hv=>(hb.cell (p:=⟨g,o+i,none⟩) hg).trans (hc i v hv)⟩
theorem At.more {w:World} {B B':Nat} {L:List Value} {a:Option Addr} (h:At w B L a) (hB:B≤B'):At w B' L a:=by
 intro h0
 obtain⟨g,o,e,hg,hc⟩:=h h0
 exact⟨g,o,e,by omega,hc⟩
theorem At.low {w:World} {B:Nat} {L:List Value} {a:Option Addr} (h:At w B L a):At w w.heap.size L a:=by
 intro h0
 obtain⟨g,o,e,hg,hc⟩:=h h0
 exact⟨g,o,e,World.block_lt_of_cell? (a:=⟨g,o+0,none⟩) w (hc 0 _ (List.getElem?_eq_getElem h0)),hc⟩
theorem At.take {w:World} {B:Nat} {L:List Value} {a:Option Addr} (h:At w B L a) (k:Nat):At w B (L.take k) a:=by
 intro h0
 obtain⟨g,o,e,hg,hc⟩:=h (by simp at h0;omega)
 refine⟨g,o,e,hg,fun i v hv=>hc i v ?_⟩
 rw[List.getElem?_take] at hv
 split at hv
 ·exact hv
 ·cases hv
theorem At.heap {w w':World} {B:Nat} {L:List Value} {a:Option Addr} (h:At w B L a) (hk:∀g o,a=some ⟨g,o,none⟩→w'.heap[g]? = w.heap[g]?):At w' B L a:=by
 intro h0
 obtain⟨g,o,e,hg,hc⟩:=h h0
 exact⟨g,o,e,hg,fun i v hv=>(World.cell?_of_block (a:=⟨g,o+i,none⟩) (hk g o e)).trans (hc i v hv)⟩
theorem get_flat {α:Type} {f:α→List Value} {n:Nat} (hn:∀x,(f x).length=n):∀(l:List α) (k j:Nat) (x:α),l[k]? = some x→j<n→(l.flatMap f)[k*n+j]? = (f x)[j]?
 | [],k,j,x,h,_=>by simp at h
 | y :: r,0,j,x,h,hj=>by
  simp at h
  subst h
  simp only[List.flatMap_cons,Nat.zero_mul,Nat.zero_add]
  exact List.getElem?_append_left (by rw[hn];exact hj)
 | y :: r,k+1,j,x,h,hj=>by
  simp only[List.flatMap_cons]
  rw[List.getElem?_append_right (by rw[hn,Nat.succ_mul];omega),hn]
  have e:(k+1)*n+j-n=k*n+j:=by rw[Nat.succ_mul];omega
  rw[e]
  exact get_flat hn r k j x (by simpa using h) hj
theorem len_flat {α:Type} {f:α→List Value} {n:Nat} (hn:∀x,(f x).length=n):∀(l:List α),(l.flatMap f).length=l.length*n
 | []=>by simp
 | y :: r=>by simp only[List.flatMap_cons,List.length_append,hn,len_flat hn r,List.length_cons,Nat.succ_mul];omega
structure FunA where
 name:ByteArray
 len:Int
 a0:Int
 a1:Int
 a2:Int
 res:Int
structure ParA where
 name:ByteArray
 sort:Int
structure MacA where
 name:ByteArray
 params:List ParA
 res:Int
 body:Tree
structure SigA where
 sorts:List ByteArray
 funs:List FunA
 macros:List MacA
def qP5 (s:ByteArray):List Value:=[.string s]
def qOn (f:FunA):List Value:=[.string f.name,.int .i64 f.len,.int .i64 f.a0,.int .i64 f.a1,.int .i64 f.a2,.int .i64 f.res]
def zAx (p:ParA):List Value:=[.string p.name,.int .i64 p.sort]
structure MacV where
 m:MacA
 pa:Option Addr
 pc:Nat
 ba:Option Addr
 bc:Nat
def qXx (x:MacV):Value:=.agg #[.int .i8 x.m.body.kind,.string (qA8 x.m.body.text),.slice x.ba x.m.body.kids.length x.bc]
def qOo (x:MacV):List Value:=[.string x.m.name,.slice x.pa x.m.params.length x.pc,.int .i64 x.m.res,.int .i8 x.m.body.kind,.string (qA8 x.m.body.text),.slice x.ba x.m.body.kids.length x.bc]
theorem qDz (s:ByteArray):(qP5 s).length=1:=rfl
theorem qAj (f:FunA):(qOn f).length=6:=rfl
theorem qF4 (f:ParA):(zAx f).length=2:=rfl
theorem qBn (f:MacV):(qOo f).length=6:=rfl
structure SigV where
 sorts:List ByteArray
 sa:Option Addr
 sc:Nat
 funs:List FunA
 fa:Option Addr
 fc:Nat
 macs:List MacV
 ma:Option Addr
 mc:Nat
def SigV.a (x:SigV):SigA:=⟨x.sorts,x.funs,x.macs.map (·.m)⟩
def SigV.c0 (x:SigV):Value:=.slice x.sa x.sorts.length x.sc
def SigV.c1 (x:SigV):Value:=.slice x.fa x.funs.length x.fc
def SigV.c2 (x:SigV):Value:=.slice x.ma x.macs.length x.mc
def SxK (w:World) (t:Tree) (v:Value):Prop:=∃bad:Nat→Prop,(∀b,¬bad b→b<w.heap.size)∧Rd w bad t v∧zCi w bad
theorem SxK.below {w w':World} {t:Tree} {v:Value} (h:SxK w t v) (hb:Below w.heap.size w w'):SxK w' t v:=by
 obtain⟨bad,h1,h2,h3⟩:=h
 refine⟨bad,fun b hb'=>Nat.lt_of_lt_of_le (h1 b hb') hb.size,Rd.keep (fun b hb' _=>hb.block b (h1 b hb')) t v h2,fun b hb' _=>?_⟩
 obtain⟨cs,ty,hc⟩:=h3 b hb' (h1 b hb')
 exact⟨cs,ty,(hb.block b (h1 b hb')).trans hc⟩
structure ParOk (p:ParA):Prop where
 name:p.name.size≤maxLen
 sort:I64 p.sort
structure FunOk (f:FunA):Prop where
 name:f.name.size≤maxLen
 len:I64 f.len
 a0:I64 f.a0
 a1:I64 f.a1
 a2:I64 f.a2
 res:I64 f.res
structure MacOk (w:World) (B:Nat) (x:MacV):Prop where
 name:x.m.name.size≤maxLen
 plen:x.m.params.length≤x.pc
 pcap:x.pc≤maxLen
 pat:At w B (x.m.params.flatMap zAx) x.pa
 pok:∀p∈x.m.params,ParOk p
 res:I64 x.m.res
 body:Sx w x.m.body (qXx x)
theorem MacOk.below {w w':World} {x:MacV} (h:MacOk w w.heap.size x) (hb:Below w.heap.size w w'):MacOk w' w.heap.size x :=
 ⟨h.name,h.plen,h.pcap,h.pat.below hb,h.pok,h.res,h.body.below hb⟩
structure SigR (w:World) (x:SigV):Prop where
 sl:x.sorts.length≤x.sc
 sm:x.sc≤maxLen
 sat:At w w.heap.size (x.sorts.flatMap qP5) x.sa
 sok:∀s∈x.sorts,s.size≤maxLen
 fl:x.funs.length≤x.fc
 fm:x.fc≤maxLen
 fat:At w w.heap.size (x.funs.flatMap qOn) x.fa
 fok:∀f∈x.funs,FunOk f
 ml:x.macs.length≤x.mc
 mm:x.mc≤maxLen
 mat:At w w.heap.size (x.macs.flatMap qOo) x.ma
 mok:∀m∈x.macs,MacOk w w.heap.size m
theorem SigR.below {w w':World} {x:SigV} (h:SigR w x) (hb:Below w.heap.size w w'):SigR w' x :=
 ⟨h.sl,h.sm,(h.sat.below hb).more hb.size,h.sok,h.fl,h.fm,(h.fat.below hb).more hb.size,h.fok,h.ml,h.mm,(h.mat.below hb).more hb.size,fun m hm=>by
  have:=(h.mok m hm).below hb
  exact⟨this.name,this.plen,this.pcap,this.pat.more hb.size,this.pok,this.res,this.body⟩⟩
def zCj (w:World) (x:SigV):Prop:=∀m∈x.macs,SxK w m.m.body (qXx m)
theorem zCj.below {w w':World} {x:SigV} (h:zCj w x) (hb:Below w.heap.size w w'):zCj w' x:=fun m hm=>(h m hm).below hb
def fnd (l:List ByteArray) (s:ByteArray):Nat:=l.findIdx (fun x=>decide (x=s))
end Go.Proofs.YtfgpimhdjlmapaaGreatDoor
