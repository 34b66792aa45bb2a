/- Nodes and tables as plain data, and what it is that memory reads as one. -/
import Derived.Test.YtfgpimhdjlmapaaGreatDoorProg
import Derived.Test.YtfgpimhdjlmapaaGreatDoorNumMay
namespace Go.Proofs.YtfgpimhdjlmapaaGreatDoor.Tm
open Go.RowKit
def At (w:World) (B:Nat) (L:List Value) (a:Option Addr):Prop :=
 0<L.length→∃g o:Nat,a=some ⟨g,o,none⟩∧g<B∧∀(i:Nat) (v:Value),L[i]? = some v→w.cell? ⟨g,o+i,none⟩=some v
theorem At.below {w w':World} {B:Nat} {L:List Value} {a:Option Addr} (h:At w B L a) (hb:Below B w w'):At w' B L a:=by
 intro h0
 obtain⟨g,o,e,hg,hc⟩:=h h0
 exact⟨g,o,e,hg,fun i v hv=>(hb.cell (p:=⟨g,o+i,none⟩) hg).trans (hc i v hv)⟩
theorem At.more {w:World} {B B':Nat} {L:List Value} {a:Option Addr} (h:At w B L a) (hB:B≤B'):At w B' L a:=by
 intro h0
 obtain⟨g,o,e,hg,hc⟩:=h h0
 exact⟨g,o,e,by omega,hc⟩
theorem At.take {w:World} {B:Nat} {L:List Value} {a:Option Addr} (h:At w B L a) (k:Nat):At w B (L.take k) a:=by
 intro h0
 obtain⟨g,o,e,hg,hc⟩:=h (by simp at h0;omega)
 refine⟨g,o,e,hg,fun i v hv=>hc i v ?_⟩
 rw[List.getElem?_take] at hv
 split at hv
 ·exact hv
 ·cases hv
theorem At.heap {w w':World} {B:Nat} {L:List Value} {a:Option Addr} (h:At w B L a) (hk:∀g o,a=some ⟨g,o,none⟩→w'.heap[g]? = w.heap[g]?):At w' B L a:=by
 intro h0
 obtain⟨g,o,e,hg,hc⟩:=h h0
 exact⟨g,o,e,hg,fun i v hv=>(World.cell?_of_block (a:=⟨g,o+i,none⟩) (hk g o e)).trans (hc i v hv)⟩
theorem get_flat {α:Type} {f:α→List Value} {n:Nat} (hn:∀x,(f x).length=n):∀(l:List α) (k j:Nat) (x:α),l[k]? = some x→j<n→(l.flatMap f)[k*n+j]? = (f x)[j]?
 | [],k,j,x,h,_=>by simp at h
 | y :: r,0,j,x,h,hj=>by
  simp at h
  subst h
  simp only[List.flatMap_cons,Nat.zero_mul,Nat.zero_add]
  exact List.getElem?_append_left (by rw[hn];exact hj)
 | y :: r,k+1,j,x,h,hj=>by
  simp only[List.flatMap_cons]
  rw[List.getElem?_append_right (by rw[hn,Nat.succ_mul];omega),hn]
  have e:(k+1)*n+j-n=k*n+j:=by rw[Nat.succ_mul];omega
  rw[e]
  exact get_flat hn r k j x (by simpa using h) hj
theorem len_flat {α:Type} {f:α→List Value} {n:Nat} (hn:∀x,(f x).length=n):∀(l:List α),(l.flatMap f).length=l.length*n
 | []=>by simp
 | y :: r=>by simp only[List.flatMap_cons,List.length_append,hn,len_flat hn r,List.length_cons,Nat.succ_mul];omega
theorem qLn {α:Type} {f:α→List Value} {n:Nat} (hn:∀x,(f x).length=n):∀(l:List α) (k:Nat),(l.take k).flatMap f=(l.flatMap f).take (k*n)
 | [],k=>by simp
 | y :: r,0=>by simp
 | y :: r,k+1=>by
  simp only[List.take_succ_cons,List.flatMap_cons]
  rw[qLn hn r k,List.take_append,hn]
  have e:(k+1)*n-n=k*n:=by rw[Nat.succ_mul];omega
  have e2:(f y).take ((k+1)*n)=f y:=List.take_of_length_le (by rw[hn,Nat.succ_mul];omega)
  rw[e,e2]
structure NodeA where
 op:Int
 len:Int
 a0:Int
 a1:Int
 a2:Int
 sort:Int
 fn:Int
 num:Int
theorem NodeA.same {x y:NodeA} (h0:x.op=y.op) (h1:x.len=y.len) (h2:x.a0=y.a0) (h3:x.a1=y.a1) (h4:x.a2=y.a2) (h5:x.sort=y.sort) (h6:x.fn=y.fn) (h7:x.num=y.num):x=y:=by
 cases x;cases y;simp_all
instance:DecidableEq NodeA:=fun x y=>decidable_of_iff (x.op=y.op∧x.len=y.len∧x.a0=y.a0∧x.a1=y.a1∧x.a2=y.a2∧x.sort=y.sort∧x.fn=y.fn∧x.num=y.num)
 ⟨fun ⟨h0,h1,h2,h3,h4,h5,h6,h7⟩=>NodeA.same h0 h1 h2 h3 h4 h5 h6 h7,fun h=>by subst h;exact⟨rfl,rfl,rfl,rfl,rfl,rfl,rfl,rfl⟩⟩
def qC8 (n:NodeA):List Value:=[.int .i8 n.op,.int .i8 n.len,.int .i64 n.a0,.int .i64 n.a1,.int .i64 n.a2,.int .i64 n.sort,.int .i64 n.fn,.int .i64 n.num]
theorem qBb (n:NodeA):(qC8 n).length=8:=rfl
def I8 (x:Int):Prop:=-128≤x∧x≤127
structure NodeOk (n:NodeA):Prop where
 op:I8 n.op
 len:I8 n.len
 a0:I64 n.a0
 a1:I64 n.a1
 a2:I64 n.a2
 sort:I64 n.sort
 fn:I64 n.fn
 num:I64 n.num
structure TabR (w:World) (l:List NodeA) (a:Option Addr) (c:Nat):Prop where
 le:l.length≤c
 cap:c≤maxLen
 tat:At w w.heap.size (l.flatMap qC8) a
 ok:∀n∈l,NodeOk n
theorem TabR.below {w w':World} {l:List NodeA} {a:Option Addr} {c:Nat} (h:TabR w l a c) (hb:Below w.heap.size w w'):TabR w' l a c :=
 ⟨h.le,h.cap,(h.tat.below hb).more hb.size,h.ok⟩
theorem TabR.node {w:World} {l:List NodeA} {a:Option Addr} {c k:Nat} {n:NodeA} (h:TabR w l a c) (hk:l[k]? = some n):∃g o:Nat,a=some ⟨g,o,none⟩∧g<w.heap.size ∧
  w.cell? ⟨g,o+k*8,none⟩=some (.int .i8 n.op)∧w.cell? ⟨g,o+k*8+1,none⟩=some (.int .i8 n.len)∧w.cell? ⟨g,o+k*8+2,none⟩=some (.int .i64 n.a0)∧w.cell? ⟨g,o+k*8+3,none⟩=some (.int .i64 n.a1)∧w.cell? ⟨g,o+k*8+4,none⟩=some (.int .i64 n.a2)∧w.cell? ⟨g,o+k*8+5,none⟩=some (.int .i64 n.sort)∧w.cell? ⟨g,o+k*8+6,none⟩=some (.int .i64 n.fn)∧w.cell? ⟨g,o+k*8+7,none⟩=some (.int .i64 n.num):=by
 have hlt:=(List.getElem?_eq_some_iff.1 hk).1
 obtain⟨g,o,e,hg,hc⟩:=h.tat (by rw[len_flat qBb];omega)
 have c0:=hc _ _ ((get_flat qBb l k 0 n hk (by omega)).trans rfl)
 have c1:=hc _ _ ((get_flat qBb l k 1 n hk (by omega)).trans rfl)
 have c2:=hc _ _ ((get_flat qBb l k 2 n hk (by omega)).trans rfl)
 have c3:=hc _ _ ((get_flat qBb l k 3 n hk (by omega)).trans rfl)
 have c4:=hc _ _ ((get_flat qBb l k 4 n hk (by omega)).trans rfl)
 have c5:=hc _ _ ((get_flat qBb l k 5 n hk (by omega)).trans rfl)
 have c6:=hc _ _ ((get_flat qBb l k 6 n hk (by omega)).trans rfl)
 have c7:=hc _ _ ((get_flat qBb l k 7 n hk (by omega)).trans rfl)
 exact⟨g,o,e,hg,c0,c1,c2,c3,c4,c5,c6,c7⟩
def arityA (op:Int):Int:=if op=0∨op=10 then 0 else if op=1∨op=11 then 1 else if op=2∨op=3∨op=4∨op=5∨op=6∨op=8∨op=9∨op=12 then 2 else if op=7 then 3 else if op=13 then -1 else -2
def qOx:List Int:=[0,1,2,2,2,2,2,3,2,2,0,1,2,3]
def qEo (n:NodeA):Prop :=
 0≤n.op∧n.op<14∧(if n.op=13 then 0≤n.len∧n.len≤3∧0≤n.fn∧n.fn<12∧n.num=0
  else if n.op=10∨n.op=11∨n.op=12 then n.len=arityA n.op∧n.fn=0∧qAn n.num=true
  else n.len=arityA n.op∧n.fn=0∧n.num=0)
instance (n:NodeA):Decidable (qEo n):=by unfold qEo;infer_instance
def qBr (len a:Int) (i:Nat) (at_:Nat):Prop:=((i:Int)<len→0≤a∧a<at_)∧(len≤i→a=0)
instance (len a:Int) (i at_:Nat):Decidable (qBr len a i at_):=by unfold qBr;infer_instance
def qH2 (n:NodeA) (at_:Nat):Prop:=qEo n∧(0≤n.sort∧n.sort<6)∧qBr n.len n.a0 0 at_∧qBr n.len n.a1 1 at_∧qBr n.len n.a2 2 at_
instance (n:NodeA) (at_:Nat):Decidable (qH2 n at_):=by unfold qH2;infer_instance
def standsB (n:NodeA) (at_:Nat):Bool:=decide (qH2 n at_)
def trueN:NodeA:=⟨0,0,0,0,0,0,0,0⟩
def qD5:NodeA:=⟨10,0,0,0,0,1,0,0⟩
def qE9:List NodeA:=[trueN,qD5]
def qB1 (ahead:List NodeA):List NodeA→Bool
 | []=>true
 | y :: r=>standsB y ahead.length&&(!decide (y∈ahead)&&qB1 (ahead++[y]) r)
def qBu (l:List NodeA):Bool:=decide (l.take 2=qE9)&&qB1 [] l
theorem qE2:∀(l m a:List NodeA),qB1 a (l++m)=(qB1 a l&&qB1 (a++l) m)
 | [],m,a=>by simp[qB1]
 | y :: r,m,a=>by
  simp only[List.cons_append,qB1]
  rw[qE2 r m,List.append_assoc]
  simp only[Bool.and_assoc];rfl
theorem qIo (l:List NodeA) (y:NodeA):qB1 [] (l++[y])=(qB1 [] l&&(standsB y l.length && !decide (y∈l))):=by
 rw[qE2];simp[qB1]
theorem qMv {l:List NodeA} (h:qB1 [] l=true) (k:Nat):qB1 [] (l.take k)=true:=by
 have:qB1 [] (l.take k++l.drop k)=true:=by rw[List.take_append_drop];exact h
 rw[qE2,Bool.and_eq_true] at this
 exact this.1
theorem qYz {l:List NodeA} {k:Nat} (h:qB1 [] (l.take k)=false):qB1 [] l=false:=by
 cases hl:qB1 [] l with
 | false=>rfl
 | true=>rw[qMv hl k] at h;cases h
theorem qGj {α:Type} {l:List α} {k:Nat} {y:α} (h:l[k]? = some y):l.take (k+1)=l.take k++[y]:=by
 rw[List.take_add_one,h];rfl
theorem qMw {l:List NodeA} {k:Nat} {y:NodeA} (hk:l[k]? = some y) (h:qB1 [] (l.take k)=true):qB1 [] (l.take (k+1))=(standsB y k && !decide (y∈l.take k)):=by
 have hlt:=(List.getElem?_eq_some_iff.1 hk).1
 rw[qGj hk,qIo,h,Bool.true_and,List.length_take,Nat.min_eq_left (by omega)]
theorem ok_at {l:List NodeA} (h:qB1 [] l=true) {k:Nat} {y:NodeA} (hk:l[k]? = some y):standsB y k=true∧∀j,j<k→l[j]?≠some y:=by
 have h1:=qMv h (k+1)
 rw[qMw hk (qMv h k),Bool.and_eq_true] at h1
 refine⟨h1.1,fun j hj e=>?_⟩
 have:y∈l.take k:=by
  refine List.mem_of_getElem? (i:=j) ?_
  rw[List.getElem?_take,if_pos hj];exact e
 simp[this] at h1
def qD2 (l:List NodeA) (n:NodeA):Nat:=l.findIdx (fun x=>decide (x=n))
theorem qCn {l:List NodeA} {n:NodeA}:n∈l↔qD2 l n<l.length:=by
 unfold qD2
 rw[List.findIdx_lt_length]
 simp
theorem qBk {l:List NodeA} {n:NodeA} (h:n∈l):l[qD2 l n]? = some n:=by
 have hlt:=qCn.1 h
 rw[List.getElem?_eq_getElem hlt]
 have:=List.findIdx_getElem (w:=hlt)
 rw[decide_eq_true_eq] at this
 exact congrArg some this
theorem mayT_ok {l:List NodeA} (h:qBu l=true):l.take 2=qE9∧qB1 [] l=true:=by
 unfold qBu at h
 rw[Bool.and_eq_true,decide_eq_true_eq] at h
 exact h
theorem qE3 {l:List NodeA} (h:qBu l=true):2≤l.length:=by
 have:=congrArg List.length (mayT_ok h).1
 rw[List.length_take] at this
 have e:qE9.length=2:=rfl
 omega
theorem qRr {l:List NodeA} {n:NodeA} (h:qBu l=true) (hs:standsB n l.length=true) (hn:n ∉ l):qBu (l++[n])=true:=by
 have hl:=qE3 h
 obtain⟨h1,h2⟩:=mayT_ok h
 unfold qBu
 rw[qIo,h2,hs,List.take_append_of_le_length hl,h1]
 simp[hn]
end Go.Proofs.YtfgpimhdjlmapaaGreatDoor.Tm
