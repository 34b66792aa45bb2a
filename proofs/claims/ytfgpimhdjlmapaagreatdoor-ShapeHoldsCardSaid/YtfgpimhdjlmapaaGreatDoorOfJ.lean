/- Tables in order: the document's answer. -/
import Derived.Deep.RegionHeld3
import Derived.Test.YtfgpimhdjlmapaaGreatDoorTmM
import Derived.BigQuiet
import Derived.Test.YtfgpimhdjlmapaaGreatDoorNumMay
import Derived.ScopeJumps
import Derived.WalkMore
import Derived.DeepKeys4
import Derived.WalkArith
import Derived.Maps.OwnSet
import Derived.Maps.OwnIn
import Derived.Maps.AppendAt
import Derived.Deep.CutRange
import Derived.Laws.Cover3
import Derived.Laws.Append
import Derived.Maps.Ext
import Derived.Carry
import Derived.Test.YtfgpimhdjlmapaaGreatDoorTmA
namespace Go.Proofs.YtfgpimhdjlmapaaGreatDoor.Tm
open Go.RowKit
set_option linter.unusedVariables false
def zDo (b:Bool):Int:=if b=true then 0 else 2
theorem qG9 (l:List NodeA) (a:Option Addr) (c:Nat) (r:Int) (w:World) (hG:GT w) (hA:TabR w l a c) (hl:l.length≤3000) (hr:zDo (qBu l)=r) :
  Calls Tryz.prog 23 #[.agg #[.slice a l.length c]] w fun e w'=>e=.returned (.int .i64 r)∧Below w.heap.size w w':=by
 obtain⟨W0,hW0⟩:∃W0,W0=w.alloc (.cells #[.slice a l.length c] 33):=⟨_,rfl⟩
 have hB0:Below w.heap.size w W0:=by rw[hW0];exact(Below.refl _ w).alloc (Nat.le_refl _) _
 have HI:Hid (Calls Tryz.prog 37 #[.agg #[.slice a l.length c]] W0 fun e w'=>(∃v,e=.returned (.tuple #[v,.bool (qBu l)]))∧Below W0.heap.size W0 w'):=by
  refine(qS0 l a c W0 (hG.below hB0) (hA.below hB0) hl).mono ?_
  rintro e w' ⟨hb,⟨hm,b,rfl,_⟩|⟨hm,rfl⟩⟩
  ·rw[hm];exact⟨⟨_,rfl⟩,hb⟩
  ·rw[hm];exact⟨⟨_,rfl⟩,hb⟩
 have HB0:=Lib.hid hB0
 clear hG hA hB0
 cases hm:qBu l with
 | true =>
  rw[hm] at HI hr
  have h0:(0:Int)=r:=hr
  subst h0
  clear hm hr
  go_enter Tryz.func23,Tryz.ntmps23
  go_wp2_with (go_at_call 37;rw[←hW0];clear hW0;refine HI.out.mono ?_;rintro e w1 ⟨⟨v,rfl⟩,hb1⟩)
  go_ret
  exact⟨rfl,HB0.out.trans (hb1.mono HB0.out.size)⟩
 | false =>
  rw[hm] at HI hr
  have h0:(2:Int)=r:=hr
  subst h0
  clear hm hr
  go_enter Tryz.func23,Tryz.ntmps23
  go_wp2_with (go_at_call 37;rw[←hW0];clear hW0;refine HI.out.mono ?_;rintro e w1 ⟨⟨v,rfl⟩,hb1⟩)
  go_ret
  exact⟨rfl,HB0.out.trans (hb1.mono HB0.out.size)⟩
structure OnceP (l:List NodeA) (n:NodeA) (L:List NodeA) (k:Nat):Prop where
 may:qBu L=true
 take:L.take l.length=l
 at_:L[k]? = some n
 le:l.length≤L.length
 ge:L.length≤l.length+1
 lt:k<L.length
 st:standsB n L.length=true
 fnd:qD2 L n=k
structure But (b:Nat) (w w':World):Prop where
 os:w'.os=w.os
 tape:w'.tape=w.tape
 output:w'.output=w.output
 size:w.heap.size≤w'.heap.size
 block:∀k,k<w.heap.size→k≠b→w'.heap[k]? = w.heap[k]?
theorem But.refl (b:Nat) (w:World):But b w w:=⟨rfl,rfl,rfl,Nat.le_refl _,fun _ _ _=>rfl⟩
theorem But.of {b:Nat} {w w':World} (h:Below w.heap.size w w'):But b w w':=⟨h.os,h.tape,h.output,h.size,fun k hk _=>h.block k hk⟩
theorem But.trans {b:Nat} {u v w:World} (h:But b u v) (k:But b v w):But b u w :=
 ⟨k.os.trans h.os,k.tape.trans h.tape,k.output.trans h.output,Nat.le_trans h.size k.size,fun i hi hb=>(k.block i (Nat.lt_of_lt_of_le hi h.size) hb).trans (h.block i hi hb)⟩
theorem But.set {b o:Nat} {u w:World} {v:Value} (h:But b u w):But b u (w.setCell ⟨b,o,none⟩ v) :=
 ⟨h.os,h.tape,h.output,by simpa using h.size,fun i hi hb=>(Below.heap_setCell _ _ _ _ hb).trans (h.block i hi hb)⟩
theorem But.alloc {b:Nat} {u w:World} (h:But b u w) (o:Obj):But b u (w.alloc o) :=
 ⟨h.os,h.tape,h.output,by simpa using Nat.le_succ_of_le h.size,fun i hi hb=>(Below.heap_alloc _ _ _ (Nat.lt_of_lt_of_le hi h.size)).trans (h.block i hi hb)⟩
theorem But.drew {b:Nat} {u w:World} (h:But b u w):But b u w.drew:=⟨h.os,h.tape,h.output,h.size,h.block⟩
theorem But.below {b:Nat} {u w w':World} (hb:Below b u w) (h:But b w w') (hs:b≤u.heap.size):Below b u w' :=
 ⟨h.os.trans hb.os,h.tape.trans hb.tape,h.output.trans hb.output,Nat.le_trans hb.size h.size,fun k hk=>(h.block k (Nat.lt_of_lt_of_le (Nat.lt_of_lt_of_le hk hs) hb.size) (by omega)).trans (hb.block k hk)⟩
def qCk (s:Int × Int) (b:Int):Int × Int:=if s.2=0 then (qC6 s.1 b,qC4 s.1 b) else s
def qHc (s:Int × Int) (b:Int):Int × Int:=if s.2=0 then (qFc s.1 b,qFs s.1 b) else s
theorem qGa {n:Int} {b:Int}:qCk (n,0) b=(qC6 n b,qC4 n b):=rfl
theorem qKb {n:Int} {b:Int}:qHc (n,0) b=(qFc n b,qFs n b):=rfl
theorem qQx {s:Int × Int} {b:Int} (h:s.2≠0):qCk s b=s:=if_neg h
theorem qQy {s:Int × Int} {b:Int} (h:s.2≠0):qHc s b=s:=if_neg h
theorem qTs {a b:Int}:I64 (qC6 a b):=by
 unfold qC6
 split
 ·rename_i h
  have:=qB5.1 h
  exact⟨by omega,by omega⟩
 ·exact⟨by omega,by omega⟩
theorem qTt {a b:Int}:I64 (qFc a b):=by
 unfold qFc
 split
 ·rename_i h
  have:=qB5.1 h
  exact⟨by omega,by omega⟩
 ·exact⟨by omega,by omega⟩
def qE5 (l:List NodeA):Nat→Nat→Int × Int→Nat × (Int × Int)
 | 0,k,s=>(k,s)
 | f+1,k,s=>match l[k]? with
  | none=>(k,s)
  | some n=>if n.op=10 then (1,qCk s n.num) else if n.op=11 then qE5 l f n.a0.toNat (qCk s n.num) else (k,s)
theorem qIa {l:List NodeA} {f k:Nat} {s:Int × Int} {n:NodeA} (h:l[k]? = some n) (ho:n.op=10):qE5 l (f+1) k s=(1,qCk s n.num):=by
 simp only[qE5,h];rw[if_pos ho]
theorem qIb {l:List NodeA} {f k:Nat} {s:Int × Int} {n:NodeA} (h:l[k]? = some n) (ho:n.op=11):qE5 l (f+1) k s=qE5 l f n.a0.toNat (qCk s n.num):=by
 simp only[qE5,h];rw[if_neg (by omega),if_pos ho]
theorem qGb {l:List NodeA} {f k:Nat} {s:Int × Int} {n:NodeA} (h:l[k]? = some n) (h0:¬n.op=10) (h1:¬n.op=11):qE5 l (f+1) k s=(k,s):=by
 simp only[qE5,h];rw[if_neg h0,if_neg h1]
theorem qDn {s:Int × Int} {b:Int} (h:I64 s.1):I64 (qCk s b).1:=by
 unfold qCk
 split
 ·exact qTs
 ·exact h
theorem qCt {n:NodeA} {k:Nat} (h:standsB n k=true) (ho:n.op=11):0≤n.a0∧n.a0<k∧qAn n.num=true∧n.len=1∧n.a1=0∧n.a2=0∧n.fn=0:=by
 unfold standsB at h
 rw[decide_eq_true_eq] at h
 obtain⟨⟨_,_,h3⟩,_,h4,h5,h6⟩:=h
 rw[if_neg (by omega),if_pos (by omega)] at h3
 obtain⟨h7,h8,h9⟩:=h3
 have h10:n.len=1:=by rw[h7];unfold arityA;rw[if_neg (by omega),if_pos (by omega)]
 have:=h4.1 (by omega)
 exact⟨this.1,this.2,h9,h10,h5.2 (by omega),h6.2 (by omega),h8⟩
theorem qOl {n:NodeA} {k:Nat} (h:standsB n k=true) (ho:n.op=10):qAn n.num=true∧n.len=0∧n.a0=0∧n.a1=0∧n.a2=0∧n.fn=0:=by
 unfold standsB at h
 rw[decide_eq_true_eq] at h
 obtain⟨⟨_,_,h3⟩,_,h4,h5,h6⟩:=h
 rw[if_neg (by omega),if_pos (by omega)] at h3
 obtain⟨h7,h8,h9⟩:=h3
 have h10:n.len=0:=by rw[h7];unfold arityA;rw[if_pos (by omega)]
 exact⟨h9,h10,h4.2 (by omega),h5.2 (by omega),h6.2 (by omega),h8⟩
theorem qGx {l:List NodeA} (hok:qB1 [] l=true):∀(f g k:Nat) (s:Int × Int),k<f→k<g→qE5 l f k s=qE5 l g k s
 | 0,g,k,s,h,_=>by omega
 | f+1,0,k,s,_,h=>by omega
 | f+1,g+1,k,s,hf,hg=>by
  unfold qE5
  cases hn:l[k]? with
  | none=>rfl
  | some n =>
   simp only
   by_cases h0:n.op=10
   ·rw[if_pos h0,if_pos h0]
   rw[if_neg h0,if_neg h0]
   by_cases h1:n.op=11
   ·rw[if_pos h1,if_pos h1]
    have:=qCt (ok_at hok hn).1 h1
    exact qGx hok f g _ _ (by omega) (by omega)
   ·rw[if_neg h1,if_neg h1]
def qC3 (l:List NodeA) (k:Nat):Nat × (Int × Int):=qE5 l (k+1) k (0,0)
def ofP (l:List NodeA) (id:Int):Int × Int × Int :=
 if id<0∨l.length≤id then (0,0,2) else match l[id.toNat]? with
  | none=>(0,0,2)
  | some n=>if n.sort=1 then (if (qC3 l id.toNat).2.2=0 then ((qC3 l id.toNat).1,(qC3 l id.toNat).2.1,0) else (0,0,(qC3 l id.toNat).2.2)) else (0,0,33)
theorem qQz {l:List NodeA} {id:Int} (h:id<0∨l.length≤id):ofP l id=(0,0,2):=if_pos h
theorem qTu {l:List NodeA} {k:Nat} {n:NodeA} (h:l[k]? = some n) (hs:¬n.sort=1):ofP l k=(0,0,33):=by
 have hlt:=(List.getElem?_eq_some_iff.1 h).1
 unfold ofP
 rw[if_neg (by omega),Int.toNat_natCast,h]
 exact if_neg hs
theorem qXu {l:List NodeA} {k:Nat} {n:NodeA} (h:l[k]? = some n) (hs:n.sort=1) (he:¬(qC3 l k).2.2=0):ofP l k=(0,0,(qC3 l k).2.2):=by
 have hlt:=(List.getElem?_eq_some_iff.1 h).1
 unfold ofP
 rw[if_neg (by omega),Int.toNat_natCast,h]
 simp only
 rw[if_pos hs,if_neg he]
theorem qVp {l:List NodeA} {k:Nat} {n:NodeA} (h:l[k]? = some n) (hs:n.sort=1) (he:(qC3 l k).2.2=0):ofP l k=(((qC3 l k).1:Int),(qC3 l k).2.1,0):=by
 have hlt:=(List.getElem?_eq_some_iff.1 h).1
 unfold ofP
 rw[if_neg (by omega),Int.toNat_natCast,h]
 simp only
 rw[if_pos hs,if_pos he]
def OfP (l:List NodeA) (id:Int):Int × Int × Int:=if qBu l=true then ofP l id else (0,0,2)
theorem qL7 (l:List NodeA):∀(f k:Nat) (s:Int × Int),I64 s.1→I64 (qE5 l f k s).2.1
 | 0,k,s,h=>h
 | f+1,k,s,h=>by
  unfold qE5
  split
  ·exact h
  ·split
   ·exact qDn h
   ·split
    ·exact qL7 l f _ _ (qDn h)
    ·exact h
theorem qF2:I64 0:=⟨by decide,by decide⟩
theorem qR0 (l:List NodeA) (k:Nat):I64 (qC3 l k).2.1:=qL7 l _ _ _ qF2
theorem qR1 (l:List NodeA) (id:Int):I64 (ofP l id).2.1:=by
 unfold ofP
 split
 ·exact qF2
 ·split
  ·exact qF2
  ·split
   ·split
    ·exact qR0 _ _
    ·exact qF2
   ·exact qF2
theorem qXv (l:List NodeA) (id:Int):I64 (OfP l id).2.1:=by
 unfold OfP
 split
 ·exact qR1 _ _
 ·exact qF2
theorem qR2 {s:Int × Int} {b:Int} (h:I64 s.1):I64 (qHc s b).1:=by
 unfold qHc
 split
 ·exact qTt
 ·exact h
theorem qXw {l:List NodeA} {id:Int} (h:(OfP l id).2.2=0):qBu l=true:=by
 cases hm:qBu l with
 | true=>rfl
 | false=>unfold OfP at h;rw[if_neg (by rw[hm];decide)] at h;cases h
theorem zAw {l:List NodeA} {id:Int} (h:qBu l=true):OfP l id=ofP l id:=if_pos h
def qL8 (l:List NodeA) (a b c:Int):Int × Int:=qCk (qHc (c,(ofP l b).2.2) (OfP l a).2.1) (ofP l b).2.1
def qMh (l:List NodeA) (a b c:Int):Int × Int × Int × Int :=
 if (OfP l a).2.2=0 then (if (qL8 l a b c).2=0 then ((OfP l a).1,(ofP l b).1,(qL8 l a b c).1,0) else (0,0,0,(qL8 l a b c).2)) else (0,0,0,(OfP l a).2.2)
theorem TabR.box {w:World} {l:List NodeA} {a x:Option Addr} {c b n m:Nat} {ty:TypeId} (h:TabR w l a c) (hb:w.heap[b]? = some (.cells #[.slice x n m] ty (0,0))) (v:Value):TabR (w.setCell ⟨b,0,none⟩ v) l a c:=by
 refine⟨h.le,h.cap,?_,h.ok⟩
 cases l with
 | nil=>exact fun h0=>absurd h0 (by simp)
 | cons y r =>
  obtain⟨g,o,rfl,hg,q0,_⟩:=h.node (k:=0) (n:=y) rfl
  have hne:g≠b:=fun e=>by
   subst e
   rw[cell_of_row _ _ _ _ _ _ hb] at q0
   cases o with
   | zero=>simp at q0
   | succ o=>simp at q0
  have hs:(w.setCell ⟨b,0,none⟩ v).heap.size=w.heap.size:=by simp
  rw[hs]
  exact h.tat.heap (fun g' o' e=>by cases e;exact Below.heap_setCell _ _ _ _ hne)
theorem qL9 {w:World} {b:Nat} {v:Value} {T:TypeId} (h:w.heap[b]? = some (.cells #[v] T (0,0))):w.cell? ⟨b,0,none⟩=some v∧w.frozen? ⟨b,0,none⟩=false∧b<w.heap.size :=
 ⟨(cell_of_row _ _ 0 _ _ _ h).trans rfl,by simp[World.frozen?,h],(Array.getElem?_eq_some_iff.1 h).1⟩
def zDa (l:List NodeA) (n:NodeA):Int:=(l.getD n.a0.toNat trueN).op
def zCh (l:List NodeA) (n:NodeA):Bool:=decide (n.op=11)&&(decide (n.num=0) || (decide (zDa l n=11) || decide (zDa l n=10)))
def zDp (l:List NodeA):Bool:=qBu l && !l.any (zCh l)
theorem bad_no {l:List NodeA} {n:NodeA} (h:¬n.op=11):zCh l n=false:=by unfold zCh;rw[decide_eq_false h];rfl
end Go.Proofs.YtfgpimhdjlmapaaGreatDoor.Tm
