/- Core: the sum of an image and a number. -/
import Derived.Deep.RegionHeld3
import Derived.BigQuiet
import Derived.DeepKeys4
import Derived.WalkArith
import Derived.Maps.OwnSet
import Derived.Maps.OwnIn
import Derived.Maps.AppendAt
import Derived.Deep.CutRange
import Derived.Laws.Cover3
import Derived.Laws.Append
import Derived.Maps.Ext
import Derived.Carry
import Derived.Test.YtfgpimhdjlmapaaGreatDoorTmA
import Derived.Test.YtfgpimhdjlmapaaGreatDoorTmM
import Derived.Deep.AppendLies
import Derived.Deep.RegionLaw
import Derived.Laws.CopyOwn
namespace Go.Proofs.YtfgpimhdjlmapaaGreatDoor.Tm
open Go.RowKit
set_option linter.unusedVariables false
theorem l64 {n:Int} (h:-9223372036854775808≤n∧n≤9223372036854775807):I64 n:=h
theorem z64:I64 0:=⟨by decide,by decide⟩
structure MkS where
 l:List NodeA
 e:Int
def qAd (l:List NodeA) (i:Int):NodeA:=l.getD i.toNat trueN
def qMz (op a:Int):NodeA:=⟨op,1,a,0,0,0,0,0⟩
def qAk (op a b num:Int):NodeA:=⟨op,2,a,b,0,0,0,num⟩
def qAq (most:Int) (s:MkS) (n:NodeA):MkS × Int :=
 if ¬s.e=0 then (s,0) else if n∈s.l then (s,(qD2 s.l n:Int)) else if most≤(s.l.length:Int) then (⟨s.l,40⟩,0) else (⟨s.l++[n],0⟩,(s.l.length:Int))
def qDr (s:MkS) (n e:Int):MkS × Int:=if e=0 then (s,n) else (if s.e=0 then ⟨s.l,e⟩ else s,0)
def qA0 (l:List NodeA) (i:Int):Int × Int:=if (qAd l i).op=10 then (1,(qAd l i).num) else if (qAd l i).op=11 then ((qAd l i).a0,(qAd l i).num) else (i,0)
def qIu (most:Int) (s:MkS) (n:NodeA):MkS × Int:=if (qAd s.l n.a0).op=1 then (s,(qAd s.l n.a0).a0) else qAq most s n
def qDg (most:Int) (s:MkS) (i:Int):MkS × Int:=qIu most s (qMz 1 i)
def qPf (most:Int) (s:MkS) (n:NodeA):MkS × Int:=qAq most (qDg most s n.a0).1 (qAk 3 (qDg most s n.a0).2 n.a1 0)
def qBd (s:MkS) (a b c:Int):MkS × Int :=
 qDr (qDr s (qFc c (qA0 s.l a).2) (qFs c (qA0 s.l a).2)).1 (qC6 (qDr s (qFc c (qA0 s.l a).2) (qFs c (qA0 s.l a).2)).2 (qA0 s.l b).2) (qC4 (qDr s (qFc c (qA0 s.l a).2) (qFs c (qA0 s.l a).2)).2 (qA0 s.l b).2)
def leM (most:Int) (s:MkS) (a b c:Int):MkS × Int :=
 if ¬(qA0 s.l a).1=(qA0 s.l b).1 then qAq most (qBd s a b c).1 (qAk 12 (qA0 s.l a).1 (qA0 s.l b).1 (qBd s a b c).2)
 else if 0≤(qBd s a b c).2 then ((qBd s a b c).1,0) else qDg most (qBd s a b c).1 0
def eqI (most:Int) (s:MkS) (a b:Int):MkS × Int :=
 qAq most (leM most (leM most s a b 0).1 b a 0).1 (qAk 2 (leM most s a b 0).2 (leM most (leM most s a b 0).1 b a 0).2 0)
def eqM (most:Int) (s:MkS) (n:NodeA):MkS × Int :=
 if (qAd s.l n.a0).sort=0 then qAq most s n else if (qAd s.l n.a0).sort=1 then eqI most s n.a0 n.a1
 else if n.a0=n.a1 then (s,0) else qAq most s (qAk 6 (min n.a0 n.a1) (max n.a0 n.a1) 0)
def qS2 (most:Int) (s:MkS) (n:NodeA):MkS × Int:=qDg most (eqM most s (qAk 6 n.a0 n.a1 0)).1 (eqM most s (qAk 6 n.a0 n.a1 0)).2
def qCp (most:Int) (s:MkS) (sort it i:Int):MkS :=
 if sort=0 then s else if sort=1 then (leM most (leM most s it i 0).1 i it 0).1 else (eqM most s (qAk 6 it i 0)).1
def qIv (most:Int) (s:MkS) (n:NodeA):MkS × Int :=
 if n.a1=n.a2 then (s,n.a1) else (qCp most (qCp most (qAq most s n).1 n.sort (qAq most s n).2 n.a1) n.sort (qAq most s n).2 n.a2,(qAq most s n).2)
def qIw (most:Int) (s:MkS) (n:NodeA):MkS × Int :=
 let k:=qDr s (qC6 (qA0 s.l n.a0).2 n.num) (qC4 (qA0 s.l n.a0).2 n.num)
 if k.2=0 then (k.1,(qA0 s.l n.a0).1) else if (qA0 s.l n.a0).1=1 then qAq most k.1 ⟨10,0,0,0,0,1,0,k.2⟩ else qAq most k.1 { n with a0:=(qA0 s.l n.a0).1,num:=k.2 }
def qCs (most:Int) (s:MkS) (n:NodeA):MkS × Int :=
 if n.op=1 then qIu most s n else if n.op=4 then qS2 most s n else if n.op=5 then qPf most s n else if n.op=6 then eqM most s n
 else if n.op=7 then qIv most s n else if n.op=8 then leM most s n.a0 n.a1 0 else if n.op=9 then leM most s n.a0 n.a1 (-1) else if n.op=11 then qIw most s n
 else if n.op=12 then leM most s n.a0 n.a1 n.num else qAq most s n
structure MkI (s:MkS):Prop where
 may:qBu s.l=true
 len:s.l.length≤2000
 ok:∀n∈s.l,NodeOk n
 e:s.e=0∨s.e=10∨s.e=40
theorem MkI.le {s:MkS} (h:MkI s):2≤s.l.length:=qE3 h.may
structure Pre (s s':MkS):Prop where
 pre:∃r,s'.l=s.l++r
 e:s'.e=0→s.e=0
theorem Pre.refl (s:MkS):Pre s s:=⟨⟨[],by simp⟩,id⟩
theorem Pre.trans {a b c:MkS} (h:Pre a b) (k:Pre b c):Pre a c:=by
 obtain⟨r,hr⟩:=h.pre
 obtain⟨q,hq⟩:=k.pre
 exact⟨⟨r++q,by rw[hq,hr,List.append_assoc]⟩,fun he=>h.e (k.e he)⟩
theorem Pre.len {a b:MkS} (h:Pre a b):a.l.length≤b.l.length:=by
 obtain⟨r,hr⟩:=h.pre
 rw[hr,List.length_append];omega
theorem Pre.get {a b:MkS} (h:Pre a b) {k:Nat} (hk:k<a.l.length):b.l[k]? = a.l[k]?:=by
 obtain⟨r,hr⟩:=h.pre
 rw[hr,List.getElem?_append_left hk]
def PlA (s:MkS) (i:Int):Prop:=0≤i∧i<(s.l.length:Int)
theorem PlA.up {a b:MkS} {i:Int} (h:PlA a i) (k:Pre a b):PlA b i:=⟨h.1,by have:=k.len;have:=h.2;omega⟩
theorem PlA.i64 {s:MkS} {i:Int} (h:PlA s i) (hl:s.l.length≤2000):I64 i:=⟨by have:=h.1;omega,by have:=h.2;omega⟩
theorem PlA.zero {s:MkS} (h:MkI s):PlA s 0:=⟨Int.le_refl _,by have:=h.le;omega⟩
theorem PlA.one {s:MkS} (h:MkI s):PlA s 1:=⟨by decide,by have:=h.le;omega⟩
theorem nodA_get {l:List NodeA} {k:Nat} (h:k<l.length):l[k]? = some (qAd l k):=by
 unfold qAd
 rw[Int.toNat_natCast,List.getD_eq_getElem?_getD,List.getElem?_eq_getElem h];rfl
theorem qD6 {l:List NodeA} {k:Nat} (h:k<l.length):qAd l k∈l:=List.mem_of_getElem? (nodA_get h)
theorem PlA.nat {s:MkS} {i:Int} (h:PlA s i):∃k:Nat,i=k∧k<s.l.length:=⟨i.toNat,by have:=h.1;omega,by have:=h.1;have:=h.2;omega⟩
theorem MkI.stands {s:MkS} (h:MkI s) {k:Nat} (hk:k<s.l.length):standsB (qAd s.l k) k=true:=(ok_at (mayT_ok h.may).2 (nodA_get hk)).1
structure Out (most:Int) (s:MkS) (r:MkS × Int):Prop where
 pre:Pre s r.1
 inv:MkI r.1
 pl:PlA r.1 r.2
theorem qB8 {most:Int} {s:MkS} {n:NodeA} (h:MkI s) (hm:most≤2000) (hn:NodeOk n) (hs:s.e=0→standsB n s.l.length=true):Out most s (qAq most s n):=by
 unfold qAq
 by_cases he:s.e=0
 ·rw[if_neg (fun h=>h he)]
  by_cases hi:n∈s.l
  ·rw[if_pos hi]
   exact⟨Pre.refl s,h,⟨by simp,by have:=qCn.1 hi;simp only;omega⟩⟩
  ·rw[if_neg hi]
   by_cases hl:most≤(s.l.length:Int)
   ·rw[if_pos hl]
    exact⟨⟨⟨[],by simp⟩,fun h=>by simp at h⟩,⟨h.may,h.len,h.ok,.inr (.inr rfl)⟩,PlA.zero (s:=⟨s.l,40⟩) ⟨h.may,h.len,h.ok,.inr (.inr rfl)⟩⟩
   ·rw[if_neg hl]
    refine⟨⟨⟨[n],rfl⟩,fun _=>he⟩,⟨qRr h.may (hs he) hi,by simp only[List.length_append,List.length_singleton];omega,fun m hm=>?_,.inl rfl⟩,⟨by simp only;omega,by simp only[List.length_append,List.length_singleton];omega⟩⟩
    rcases List.mem_append.1 hm with h1|h1
    ·exact h.ok m h1
    ·rw[List.mem_singleton.1 h1];exact hn
 ·rw[if_pos he]
  exact⟨Pre.refl s,h,PlA.zero h⟩
theorem qCw {n:NodeA} {k:Nat} (h:standsB n k=true) (ho:n.op=1∨n.op=11):0≤n.a0∧n.a0<(k:Int):=by
 unfold standsB at h
 rw[decide_eq_true_eq] at h
 obtain⟨⟨h0,h1,h2⟩,_,⟨a0,_⟩,_⟩:=h
 have hl:n.len=arityA n.op:=by
  rw[if_neg (by omega)] at h2
  split at h2
  ·exact h2.1
  ·exact h2.1
 have:arityA n.op=1:=by unfold arityA;rcases ho with h|h<;>rw[h]<;>decide
 exact a0 (by show ((0:Nat):Int)<n.len;omega)
theorem qB2 {s:MkS} (h:MkI s) {i:Int} (hi:PlA s i):PlA s (qA0 s.l i).1:=by
 obtain⟨k,rfl,hk⟩:=hi.nat
 unfold qA0
 split
 ·exact PlA.one h
 ·split
  ·have:=qCw (h.stands hk) (.inr (by assumption))
   exact⟨this.1,by simp only;omega⟩
  ·exact hi
theorem qGn (s:MkS) (n e:Int):Pre s (qDr s n e).1:=by
 unfold qDr
 split
 ·exact Pre.refl s
 ·by_cases he:s.e=0
  ·rw[if_pos he];exact⟨⟨[],by simp⟩,fun h=>he⟩
  ·rw[if_neg he];exact Pre.refl s
theorem qO4 (s:MkS) (n e:Int):(qDr s n e).1.l=s.l:=by
 unfold qDr
 split
 ·rfl
 ·split<;>rfl
theorem qGo {s:MkS} (h:MkI s) {n e:Int} (he:e=0∨e=10):MkI (qDr s n e).1:=by
 unfold qDr
 split
 ·exact h
 ·split
  ·exact⟨h.may,h.len,h.ok,by rcases he with h|h<;>simp[h]⟩
  ·exact h
theorem qJ6 {s:MkS} {n e:Int} (h:(qDr s n e).1.e=0):e=0∧s.e=0∧(qDr s n e).2=n:=by
 unfold qDr at h ⊢
 by_cases he:e=0
 ·rw[if_pos he] at h ⊢;exact⟨he,h,rfl⟩
 ·rw[if_neg he] at h
  by_cases h0:s.e=0
  ·rw[if_pos h0] at h;exact absurd h he
  ·rw[if_neg h0] at h;exact absurd h h0
theorem qKs (a b:Int):qC4 a b=0∨qC4 a b=10:=by unfold qC4;split<;>simp
theorem qZl (a b:Int):qFs a b=0∨qFs a b=10:=by unfold qFs;split<;>simp
theorem qKt {a b:Int} (h:qC4 a b=0):qAn a=true∧qAn b=true∧qAn (a+b)=true∧qC6 a b=a+b:=by
 unfold qC4 at h
 split at h
 ·rename_i hk
  refine⟨?_,?_,?_,by unfold qC6;rw[if_pos hk]⟩<;>(unfold qD4 at hk;simp only[Bool.and_eq_true] at hk)
  ·exact hk.1
  ·exact hk.2.1
  ·exact hk.2.2
 ·exact absurd h (by decide)
theorem zC4 {a b:Int} (h:qFs a b=0):qAn a=true∧qAn (a-b)=true∧qFc a b=a-b:=by
 unfold qFs at h
 split at h
 ·rename_i hk
  refine⟨?_,?_,by unfold qFc;rw[if_pos hk]⟩<;>(unfold qD4 at hk;simp only[Bool.and_eq_true] at hk)
  ·exact hk.1
  ·have:=hk.2.2;rw[Int.sub_eq_add_neg];exact this
 ·exact absurd h (by decide)
theorem qHt {s:MkS} {a b c:Int} (h:(qBd s a b c).1.e=0):s.e=0∧qAn (qBd s a b c).2=true∧(qBd s a b c).2=c-(qA0 s.l a).2+(qA0 s.l b).2:=by
 unfold qBd at h ⊢
 obtain⟨h1,h2,h3⟩:=qJ6 h
 obtain⟨h4,h5,h6⟩:=qJ6 h2
 obtain⟨_,_,h7⟩:=zC4 h4
 rw[h3]
 rw[h6] at h1 ⊢
 obtain⟨_,_,h8,h9⟩:=qKt h1
 rw[h7] at h1 h8 h9 ⊢
 refine⟨h5,?_,?_⟩
 ·rw[h9];exact h8
 ·rw[h9]
theorem qFt (s:MkS) (a b c:Int):Pre s (qBd s a b c).1:=(qGn _ _ _).trans (qGn _ _ _)
theorem qN0 (s:MkS) (a b c:Int):(qBd s a b c).1.l=s.l:=(qO4 _ _ _).trans (qO4 _ _ _)
theorem qFu {s:MkS} (h:MkI s) (a b c:Int):MkI (qBd s a b c).1:=qGo (qGo h (qZl _ _)) (qKs _ _)
theorem qPg {s:MkS} {n e:Int} (h:I64 n):I64 (qDr s n e).2:=by
 unfold qDr
 split
 ·exact h
 ·exact z64
theorem qLw {n:Int} (h:qAn n=true):I64 n:=by
 have:=qAc.1 h
 exact⟨by omega,by omega⟩
theorem qPh (a b:Int):I64 (qC6 a b):=by
 unfold qC6
 split
 ·rename_i hk
  unfold qD4 at hk
  simp only[Bool.and_eq_true] at hk
  exact qLw hk.2.2
 ·exact⟨by decide,by decide⟩
theorem qN1 (s:MkS) (a b c:Int):I64 (qBd s a b c).2:=qPg (qPh _ _)
theorem qZm {s:MkS} (h:MkI s) {i:Int} (hi:PlA s i) (ho:(qAd s.l i).op=1):PlA s (qAd s.l i).a0:=by
 obtain⟨k,rfl,hk⟩:=hi.nat
 have:=qCw (h.stands hk) (.inl ho)
 exact⟨this.1,by omega⟩
theorem qZn {op a:Int} (ho:I8 op) (ha:I64 a):NodeOk (qMz op a):=⟨ho,⟨by show (-128:Int)≤1;decide,by show (1:Int)≤127;decide⟩,ha,⟨by show _≤(0:Int);decide,by show (0:Int)≤_;decide⟩,⟨by show _≤(0:Int);decide,by show (0:Int)≤_;decide⟩,⟨by show _≤(0:Int);decide,by show (0:Int)≤_;decide⟩,⟨by show _≤(0:Int);decide,by show (0:Int)≤_;decide⟩,⟨by show _≤(0:Int);decide,by show (0:Int)≤_;decide⟩⟩
theorem qH4 {op a b n:Int} (ho:I8 op) (ha:I64 a) (hb:I64 b) (hn:I64 n):NodeOk (qAk op a b n):=⟨ho,⟨by show (-128:Int)≤2;decide,by show (2:Int)≤127;decide⟩,ha,hb,⟨by show _≤(0:Int);decide,by show (0:Int)≤_;decide⟩,⟨by show _≤(0:Int);decide,by show (0:Int)≤_;decide⟩,⟨by show _≤(0:Int);decide,by show (0:Int)≤_;decide⟩,hn⟩
theorem qBr.ins {len a:Int} {i at_:Nat} (h:(i:Int)<len) (h2:0≤a∧a<(at_:Int)):qBr len a i at_:=⟨fun _=>h2,fun h'=>absurd h (by omega)⟩
theorem qBr.out {len:Int} {i at_:Nat} (h:len≤(i:Int)):qBr len 0 i at_:=⟨fun h'=>absurd h' (by omega),fun _=>rfl⟩
theorem qJ7 {op a:Int} {at_:Nat} (ho:op=1) (ha:0≤a∧a<(at_:Int)):standsB (qMz op a) at_=true:=by
 subst ho
 unfold standsB
 rw[decide_eq_true_eq]
 refine⟨⟨by show (0:Int)≤1;decide,by show (1:Int)<14;decide,?_⟩,⟨by show (0:Int)≤0;decide,by show (0:Int)<6;decide⟩,qBr.ins (by show ((0:Nat):Int)<1;decide) ha,qBr.out (by show (1:Int)≤((1:Nat):Int);decide),qBr.out (by show (1:Int)≤((2:Nat):Int);decide)⟩
 show (if (1:Int)=13 then _ else if (1:Int)=10∨(1:Int)=11∨(1:Int)=12 then _ else _)
 rw[if_neg (by decide),if_neg (by decide)]
 exact⟨rfl,rfl,rfl⟩
theorem qBm {op a b n:Int} {at_:Nat} (ho:(op=2∨op=3∨op=6)∧n=0∨op=12∧qAn n=true) (ha:0≤a∧a<(at_:Int)) (hb:0≤b∧b<(at_:Int)):standsB (qAk op a b n) at_=true:=by
 unfold standsB
 rw[decide_eq_true_eq]
 have h13:¬op=13:=by omega
 refine⟨⟨by show 0≤op;omega,by show op<14;omega,?_⟩,⟨by show (0:Int)≤0;decide,by show (0:Int)<6;decide⟩,qBr.ins (by show ((0:Nat):Int)<2;decide) ha,qBr.ins (by show ((1:Nat):Int)<2;decide) hb,qBr.out (by show (2:Int)≤((2:Nat):Int);decide)⟩
 show (if op=13 then _ else if op=10∨op=11∨op=12 then _ else _)
 rw[if_neg h13]
 rcases ho with⟨ho,hn⟩|⟨ho,hn⟩
 ·rw[if_neg (by omega)]
  refine⟨?_,rfl,hn⟩
  show (2:Int)=arityA op
  rcases ho with h|h|h<;>rw[h]<;>decide
 ·rw[if_pos (by omega)]
  refine⟨?_,rfl,hn⟩
  show (2:Int)=arityA op
  rw[ho];decide
theorem qCi {n:Int} (h:-128≤n∧n≤127):I8 n:=h
theorem qPi {most:Int} {s:MkS} {n:NodeA} (h:MkI s) (hm:most≤2000) (hn:NodeOk n) (ha:PlA s n.a0) (hs:s.e=0→standsB n s.l.length=true):Out most s (qIu most s n):=by
 unfold qIu
 split
 ·exact⟨Pre.refl s,h,qZm h ha (by assumption)⟩
 ·exact qB8 h hm hn hs
theorem qDt {most:Int} {s:MkS} {i:Int} (h:MkI s) (hm:most≤2000) (hi:PlA s i):Out most s (qDg most s i) :=
 qPi h hm (qZn (qCi (by decide)) (hi.i64 h.len)) hi (fun _=>qJ7 rfl hi)
theorem qW8 {most:Int} {s:MkS} {n:NodeA} (h:MkI s) (hm:most≤2000) (ha:PlA s n.a0) (hb:PlA s n.a1):Out most s (qPf most s n):=by
 have h1:=qDt h hm ha
 have h2:=qB8 (most:=most) (n:=qAk 3 (qDg most s n.a0).2 n.a1 0) h1.inv hm (qH4 (qCi (by decide)) (h1.pl.i64 h1.inv.len) (hb.i64 h.len) ⟨by decide,by decide⟩) (fun _=>qBm (.inl ⟨by decide,rfl⟩) h1.pl (hb.up h1.pre))
 exact⟨h1.pre.trans h2.pre,h2.inv,h2.pl⟩
theorem qBs {most:Int} {s:MkS} (h:MkI s) (hm:most≤2000) {a b:Int} (ha:PlA s a) (hb:PlA s b) (c:Int):Out most s (leM most s a b c):=by
 have hp:=qFt s a b c
 have hi:=qFu h a b c
 have px:=(qB2 h ha).up hp
 have py:=(qB2 h hb).up hp
 unfold leM
 split
 ·have h2:=qB8 (most:=most) (n:=qAk 12 (qA0 s.l a).1 (qA0 s.l b).1 (qBd s a b c).2) hi hm (qH4 (qCi (by decide)) (px.i64 hi.len) (py.i64 hi.len) (qN1 s a b c)) (fun he=>qBm (.inr ⟨rfl,(qHt he).2.1⟩) px py)
  exact⟨hp.trans h2.pre,h2.inv,h2.pl⟩
 ·split
  ·exact⟨hp,hi,PlA.zero hi⟩
  ·have h2:=qDt hi hm (PlA.zero hi)
   exact⟨hp.trans h2.pre,h2.inv,h2.pl⟩
theorem qW9 {most:Int} {s:MkS} (h:MkI s) (hm:most≤2000) {a b:Int} (ha:PlA s a) (hb:PlA s b):Out most s (eqI most s a b):=by
 have h1:=qBs h hm ha hb 0
 have h2:=qBs h1.inv hm (hb.up h1.pre) (ha.up h1.pre) 0
 have h3:=qB8 (most:=most) (n:=qAk 2 (leM most s a b 0).2 (leM most (leM most s a b 0).1 b a 0).2 0) h2.inv hm (qH4 (qCi (by decide)) (h1.pl.i64 h1.inv.len) (h2.pl.i64 h2.inv.len) ⟨by decide,by decide⟩) (fun _=>qBm (.inl ⟨by decide,rfl⟩) (h1.pl.up h2.pre) h2.pl)
 exact⟨(h1.pre.trans h2.pre).trans h3.pre,h3.inv,h3.pl⟩
theorem qV4 {most:Int} {s:MkS} {n:NodeA} (h:MkI s) (hm:most≤2000) (hn:NodeOk n) (ha:PlA s n.a0) (hb:PlA s n.a1) (hs:s.e=0→standsB n s.l.length=true):Out most s (eqM most s n):=by
 unfold eqM
 split
 ·exact qB8 h hm hn hs
 ·split
  ·exact qW9 h hm ha hb
  ·split
   ·exact⟨Pre.refl s,h,PlA.zero h⟩
   ·have hmn:PlA s (min n.a0 n.a1):=by rcases Int.le_total n.a0 n.a1 with hh|hh<;>simp only[Int.min_eq_left,Int.min_eq_right,hh]<;>assumption
    have hmx:PlA s (max n.a0 n.a1):=by rcases Int.le_total n.a0 n.a1 with hh|hh<;>simp only[Int.max_eq_left,Int.max_eq_right,hh]<;>assumption
    exact qB8 h hm (qH4 (qCi (by decide)) (hmn.i64 h.len) (hmx.i64 h.len) ⟨by decide,by decide⟩) (fun _=>qBm (.inl ⟨by decide,rfl⟩) hmn hmx)
theorem qGp {most:Int} {s:MkS} {a b:Int} (h:MkI s) (hm:most≤2000) (ha:PlA s a) (hb:PlA s b):Out most s (eqM most s (qAk 6 a b 0)) :=
 qV4 h hm (qH4 (qCi (by decide)) (ha.i64 h.len) (hb.i64 h.len) ⟨by decide,by decide⟩) ha hb (fun _=>qBm (.inl ⟨by decide,rfl⟩) ha hb)
theorem qWa {most:Int} {s:MkS} {n:NodeA} (h:MkI s) (hm:most≤2000) (ha:PlA s n.a0) (hb:PlA s n.a1):Out most s (qS2 most s n):=by
 have h1:=qGp (a:=n.a0) (b:=n.a1) h hm ha hb
 have h2:=qDt h1.inv hm h1.pl
 exact⟨h1.pre.trans h2.pre,h2.inv,h2.pl⟩
theorem qDa {most:Int} {s:MkS} {it i:Int} (h:MkI s) (hm:most≤2000) (ha:PlA s it) (hb:PlA s i) (sort:Int):Pre s (qCp most s sort it i)∧MkI (qCp most s sort it i):=by
 unfold qCp
 split
 ·exact⟨Pre.refl s,h⟩
 ·split
  ·have h1:=qBs h hm ha hb 0
   have h2:=qBs h1.inv hm (hb.up h1.pre) (ha.up h1.pre) 0
   exact⟨h1.pre.trans h2.pre,h2.inv⟩
  ·have h1:=qGp h hm ha hb
   exact⟨h1.pre,h1.inv⟩
theorem qWb {most:Int} {s:MkS} {n:NodeA} (h:MkI s) (hm:most≤2000) (hn:NodeOk n) (hb:PlA s n.a1) (hc:PlA s n.a2) (hs:s.e=0→standsB n s.l.length=true):Out most s (qIv most s n):=by
 unfold qIv
 split
 ·exact⟨Pre.refl s,h,hb⟩
 ·have h1:=qB8 (most:=most) h hm hn hs
  have h2:=qDa h1.inv hm h1.pl (hb.up h1.pre) n.sort
  have h3:=qDa h2.2 hm (h1.pl.up h2.1) ((hc.up h1.pre).up h2.1) n.sort
  exact⟨(h1.pre.trans h2.1).trans h3.1,h3.2,(h1.pl.up h2.1).up h3.1⟩
theorem qEq {n:NodeA} {at_:Nat} {a k:Int} (h:standsB n at_=true) (ho:n.op=11) (ha:0≤a∧a<(at_:Int)) (hk:qAn k=true):standsB { n with a0:=a,num:=k } at_=true:=by
 unfold standsB at h ⊢
 rw[decide_eq_true_eq] at h ⊢
 obtain⟨⟨h0,h1,h2⟩,h3,h4,h5,h6⟩:=h
 rw[if_neg (by omega),if_pos (by omega)] at h2
 have hl:n.len=1:=by rw[h2.1,ho];decide
 refine⟨⟨h0,h1,?_⟩,h3,⟨fun _=>ha,fun h=>absurd h (by show ¬n.len≤_;rw[hl];decide)⟩,h5,h6⟩
 show (if n.op=13 then _ else if n.op=10∨n.op=11∨n.op=12 then _ else _)
 rw[if_neg (by omega),if_pos (by omega)]
 exact⟨h2.1,h2.2.1,hk⟩
theorem qHu {k:Int} {at_:Nat} (hk:qAn k=true):standsB ⟨10,0,0,0,0,1,0,k⟩ at_=true:=by
 unfold standsB
 rw[decide_eq_true_eq]
 refine⟨⟨by show (0:Int)≤10;decide,by show (10:Int)<14;decide,?_⟩,⟨by show (0:Int)≤1;decide,by show (1:Int)<6;decide⟩,qBr.out (by show (0:Int)≤((0:Nat):Int);decide),qBr.out (by show (0:Int)≤((1:Nat):Int);decide),qBr.out (by show (0:Int)≤((2:Nat):Int);decide)⟩
 show (if (10:Int)=13 then _ else if (10:Int)=10∨(10:Int)=11∨(10:Int)=12 then _ else _)
 rw[if_neg (by decide),if_pos (by decide)]
 exact⟨rfl,rfl,hk⟩
theorem qPj {most:Int} {s:MkS} {n:NodeA} (h:MkI s) (hm:most≤2000) (hn:NodeOk n) (ho:n.op=11) (ha:PlA s n.a0) (hs:s.e=0→standsB n s.l.length=true):Out most s (qIw most s n):=by
 have hp:=qGn s (qC6 (qA0 s.l n.a0).2 n.num) (qC4 (qA0 s.l n.a0).2 n.num)
 have hi:=qGo h (n:=qC6 (qA0 s.l n.a0).2 n.num) (qKs (qA0 s.l n.a0).2 n.num)
 have hl:=qO4 s (qC6 (qA0 s.l n.a0).2 n.num) (qC4 (qA0 s.l n.a0).2 n.num)
 have hk:(qDr s (qC6 (qA0 s.l n.a0).2 n.num) (qC4 (qA0 s.l n.a0).2 n.num)).1.e=0→s.e=0∧qAn (qDr s (qC6 (qA0 s.l n.a0).2 n.num) (qC4 (qA0 s.l n.a0).2 n.num)).2=true:=fun he=>by
  obtain⟨h1,h2,h3⟩:=qJ6 he
  obtain⟨_,_,h4,h5⟩:=qKt h1
  exact⟨h2,by rw[h3,h5];exact h4⟩
 have h6:I64 (qDr s (qC6 (qA0 s.l n.a0).2 n.num) (qC4 (qA0 s.l n.a0).2 n.num)).2:=qPg (qPh _ _)
 have px:=qB2 h ha
 unfold qIw
 generalize qDr s (qC6 (qA0 s.l n.a0).2 n.num) (qC4 (qA0 s.l n.a0).2 n.num)=k at *
 simp only
 split
 ·exact⟨hp,hi,px.up hp⟩
 ·split
  ·have h2:=qB8 (most:=most) (n:=⟨10,0,0,0,0,1,0,k.2⟩) hi hm ⟨qCi (n:=10) (by decide),qCi (n:=0) (by decide),z64,z64,z64,l64 (n:=1) (by decide),z64,h6⟩ (fun he=>qHu (hk he).2)
   exact⟨hp.trans h2.pre,h2.inv,h2.pl⟩
  ·have h2:=qB8 (most:=most) (n:={ n with a0:=(qA0 s.l n.a0).1,num:=k.2 }) hi hm ⟨hn.op,hn.len,px.i64 h.len,hn.a1,hn.a2,hn.sort,hn.fn,h6⟩ (fun he=>qEq (by rw[hl];exact hs (hk he).1) ho (px.up hp) (hk he).2)
   exact⟨hp.trans h2.pre,h2.inv,h2.pl⟩
theorem qLx {most:Int} {s:MkS} {n:NodeA} (h:MkI s) (hm:most≤2000) (hn:NodeOk n) (hs:standsB n s.l.length=true):Out most s (qCs most s n):=by
 have hs':s.e=0→standsB n s.l.length=true:=fun _=>hs
 have hst:=hs
 unfold standsB at hst
 rw[decide_eq_true_eq] at hst
 obtain⟨⟨h0,h1,h2⟩,_,⟨a0,_⟩,⟨a1,_⟩,⟨a2,_⟩⟩:=hst
 have hl:n.op=13∨n.len=arityA n.op:=by
  by_cases h13:n.op=13
  ·exact .inl h13
  ·rw[if_neg h13] at h2
   split at h2
   ·exact .inr h2.1
   ·exact .inr h2.1
 have p0:(0:Int)<n.len→PlA s n.a0:=fun h=>a0 h
 have p1:(1:Int)<n.len→PlA s n.a1:=fun h=>a1 h
 have p2:(2:Int)<n.len→PlA s n.a2:=fun h=>a2 h
 unfold qCs
 by_cases c1:n.op=1
 ·rw[if_pos c1];exact qPi h hm hn (p0 (by rcases hl with h|h<;>first|omega|(rw[h,c1];decide))) hs'
 rw[if_neg c1]
 by_cases c4:n.op=4
 ·have hl:n.len=2:=by rcases hl with h|h<;>first|omega|(rw[h,c4];decide)
  rw[if_pos c4];exact qWa h hm (p0 (by omega)) (p1 (by omega))
 rw[if_neg c4]
 by_cases c5:n.op=5
 ·have hl:n.len=2:=by rcases hl with h|h<;>first|omega|(rw[h,c5];decide)
  rw[if_pos c5];exact qW8 h hm (p0 (by omega)) (p1 (by omega))
 rw[if_neg c5]
 by_cases c6:n.op=6
 ·have hl:n.len=2:=by rcases hl with h|h<;>first|omega|(rw[h,c6];decide)
  rw[if_pos c6];exact qV4 h hm hn (p0 (by omega)) (p1 (by omega)) hs'
 rw[if_neg c6]
 by_cases c7:n.op=7
 ·have hl:n.len=3:=by rcases hl with h|h<;>first|omega|(rw[h,c7];decide)
  rw[if_pos c7];exact qWb h hm hn (p1 (by omega)) (p2 (by omega)) hs'
 rw[if_neg c7]
 by_cases c8:n.op=8
 ·have hl:n.len=2:=by rcases hl with h|h<;>first|omega|(rw[h,c8];decide)
  rw[if_pos c8];exact qBs h hm (p0 (by omega)) (p1 (by omega)) _
 rw[if_neg c8]
 by_cases c9:n.op=9
 ·have hl:n.len=2:=by rcases hl with h|h<;>first|omega|(rw[h,c9];decide)
  rw[if_pos c9];exact qBs h hm (p0 (by omega)) (p1 (by omega)) _
 rw[if_neg c9]
 by_cases c11:n.op=11
 ·have hl:n.len=1:=by rcases hl with h|h<;>first|omega|(rw[h,c11];decide)
  rw[if_pos c11];exact qPj h hm hn c11 (p0 (by omega)) hs'
 rw[if_neg c11]
 by_cases c12:n.op=12
 ·have hl:n.len=2:=by rcases hl with h|h<;>first|omega|(rw[h,c12];decide)
  rw[if_pos c12];exact qBs h hm (p0 (by omega)) (p1 (by omega)) _
 rw[if_neg c12]
 exact qB8 h hm hn hs'
structure Kp (P:Nat→Prop) (w w':World):Prop where
 os:w'.os=w.os
 tape:w'.tape=w.tape
 output:w'.output=w.output
 size:w.heap.size≤w'.heap.size
 keep:∀k,P k→w'.heap[k]? = w.heap[k]?
theorem Kp.refl (P:Nat→Prop) (w:World):Kp P w w:=⟨rfl,rfl,rfl,Nat.le_refl _,fun _ _=>rfl⟩
theorem Kp.trans {P:Nat→Prop} {u v w:World} (h:Kp P u v) (k:Kp P v w):Kp P u w :=
 ⟨k.os.trans h.os,k.tape.trans h.tape,k.output.trans h.output,Nat.le_trans h.size k.size,fun i hi=>(k.keep i hi).trans (h.keep i hi)⟩
theorem Kp.of {P:Nat→Prop} {w w':World} (h:Below w.heap.size w w') (hP:∀k,P k→k<w.heap.size):Kp P w w':=⟨h.os,h.tape,h.output,h.size,fun k hk=>h.block k (hP k hk)⟩
theorem Kp.less {P Q:Nat→Prop} {w w':World} (h:Kp P w w') (hq:∀k,Q k→P k):Kp Q w w':=⟨h.os,h.tape,h.output,h.size,fun k hk=>h.keep k (hq k hk)⟩
theorem Kp.drew {P:Nat→Prop} {u w:World} (h:Kp P u w):Kp P u w.drew:=⟨h.os,h.tape,h.output,h.size,h.keep⟩
theorem Kp.drewN {P:Nat→Prop} {u w:World} (h:Kp P u w) (n:Nat):Kp P u (w.drewN n):=⟨h.os,h.tape,h.output,h.size,h.keep⟩
theorem Kp.below {P:Nat→Prop} {n:Nat} {w w':World} (h:Kp P w w') (hn:n≤w.heap.size) (hq:∀k,k<n→P k):Below n w w':=⟨h.os,h.tape,h.output,h.size,fun k hk=>h.keep k (hq k hk)⟩
theorem Kp.cell {P:Nat→Prop} {w w':World} (h:Kp P w w') {b o:Nat} (hb:P b):w'.cell? ⟨b,o,none⟩=w.cell? ⟨b,o,none⟩:=World.cell?_of_block (a:=⟨b,o,none⟩) (h.keep b hb)
theorem qMy.heap {w w':World} {b:Nat} {l:List NodeA} (h:qMy w b l) (hk:w'.heap[b]? = w.heap[b]?):qMy w' b l:=by
 obtain⟨D,⟨es,clock,hb,F,hs,hD⟩,h2,h3⟩:=h
 exact⟨D,⟨es,clock,hk.trans hb,F,hs,hD⟩,h2,h3⟩
theorem qMy.lt {w:World} {b:Nat} {l:List NodeA} (h:qMy w b l):b<w.heap.size:=by
 obtain⟨D,h1,_⟩:=h
 exact h1.lt
theorem qD7 {w:World} {base size n:Nat} {E:TypeId} {v:Value} {L:List Value} (h:w.ownsRow base E size v n L) {g:Nat} (hg:v.ownBlock=some g):base≤g∧g<w.heap.size:=by
 rcases h.2 with⟨rfl,_⟩|⟨g',cap,cur,rfl,h1,h2,_⟩
 ·cases hg
 ·obtain rfl:g'=g:=by simpa [Value.ownBlock] using hg
  exact⟨h1,(Array.getElem?_eq_some_iff.1 h2).1⟩
theorem qEb {w w':World} {base size n:Nat} {E:TypeId} {v:Value} {L:List Value} (h:w.ownsRow base E size v n L) (hk:∀g,v.ownBlock=some g→w'.heap[g]? = w.heap[g]?):w'.ownsRow base E size v n L:=by
 refine⟨h.1,?_⟩
 rcases h.2 with h1|⟨g,cap,cur,rfl,h1,h2,h3⟩
 ·exact .inl h1
 ·exact .inr ⟨g,cap,cur,rfl,h1,(hk g (by simp[Value.ownBlock])).trans h2,h3⟩
structure MkC (w:World) (M:Nat) (most:Int) (s:MkS) (a:Option Addr) (c b:Nat):Prop where
 c0:w.cell? ⟨M,0,none⟩=some (.slice a s.l.length c)
 c1:w.cell? ⟨M,1,none⟩=some (.map (some b))
 c2:w.cell? ⟨M,2,none⟩=some (.int .i64 most)
 c17:w.cell? ⟨M,17,none⟩=some (.int .i64 s.e)
 lt:M<w.heap.size
 fz:∀i,w.frozen? ⟨M,i,none⟩=false
theorem qSd {w:World} {n:NodeA} {b:Nat} {ty:TypeId} (h:w.heap[b]? = some (.cells #[.int .i8 n.op,.int .i8 n.len,.int .i64 n.a0,.int .i64 n.a1,.int .i64 n.a2,.int .i64 n.sort,.int .i64 n.fn,.int .i64 n.num] ty (0,0))):w.cell? ⟨b,0,none⟩=some (.int .i8 n.op)∧w.cell? ⟨b,1,none⟩=some (.int .i8 n.len)∧w.cell? ⟨b,2,none⟩=some (.int .i64 n.a0)∧w.cell? ⟨b,3,none⟩=some (.int .i64 n.a1)∧w.cell? ⟨b,4,none⟩=some (.int .i64 n.a2)∧w.cell? ⟨b,5,none⟩=some (.int .i64 n.sort)∧w.cell? ⟨b,6,none⟩=some (.int .i64 n.fn)∧w.cell? ⟨b,7,none⟩=some (.int .i64 n.num)∧b<w.heap.size :=
 ⟨(cell_of_row _ _ 0 _ _ _ h).trans rfl,(cell_of_row _ _ 1 _ _ _ h).trans rfl,(cell_of_row _ _ 2 _ _ _ h).trans rfl,(cell_of_row _ _ 3 _ _ _ h).trans rfl,(cell_of_row _ _ 4 _ _ _ h).trans rfl,(cell_of_row _ _ 5 _ _ _ h).trans rfl,(cell_of_row _ _ 6 _ _ _ h).trans rfl,(cell_of_row _ _ 7 _ _ _ h).trans rfl,(Array.getElem?_eq_some_iff.1 h).1⟩
theorem Kp.box {P:Nat→Prop} {w:World} (o:Obj) (hP:∀k,P k→k<w.heap.size):Kp P w (w.alloc o):=Kp.of ((Below.refl _ w).alloc (Nat.le_refl _) _) hP
theorem qHh {V w9:World} {o:Obj} {row:Option Nat} {k:Nat} (hg:(V.alloc o).drew.grownBy w9 row) (hk:k<V.heap.size) (hne:some k≠row):w9.heap[k]? = V.heap[k]?:=(hg.block k (by show k<(V.alloc o).heap.size;simp;omega) hne).trans (Below.heap_alloc V o k hk)
theorem qKu {K:Exit→Act→World→Prop} {x:Exit} {a:Act} {w:World} (h:∀V,V=w→K x a V):K x a w:=h w rfl
theorem qPk {Q:Program} {c:Code} {R:Exit→Act→World→Prop} {a:Act} {w:World} (h:∀V,V=w→Code.wp Q c R a V):Code.wp Q c R a w:=h w rfl
theorem Kp.set {P:Nat→Prop} {w:World} {b o:Nat} (h:∀k,P k→k≠b) (v:Value):Kp P w (w.setCell ⟨b,o,none⟩ v):=⟨rfl,rfl,rfl,by simp,fun k hk=>Below.heap_setCell _ _ _ _ (h k hk)⟩
end Go.Proofs.YtfgpimhdjlmapaaGreatDoor.Tm
