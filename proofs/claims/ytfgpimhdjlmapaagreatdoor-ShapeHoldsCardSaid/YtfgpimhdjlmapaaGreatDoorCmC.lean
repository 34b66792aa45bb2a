/- CoreMeans: rows that are well sorted; what Of gives, in a world. -/
import Derived.Test.YtfgpimhdjlmapaaGreatDoorHdV
import Derived.Laws.CopyOwn
import Derived.Deep.LoopGhost
import Derived.Laws.MakeOwn
import Derived.Laws.EntriesVeiled
import Derived.ScopeJumps
import Derived.WalkMore
import Derived.Test.YtfgpimhdjlmapaaGreatDoorCqF
import Derived.Test.YtfgpimhdjlmapaaGreatDoorCpT
import Derived.Test.YtfgpimhdjlmapaaGreatDoorOfJ
import Derived.Laws.Bits128
namespace Go.Proofs.YtfgpimhdjlmapaaGreatDoor
open Go.RowKit
open Tm (NodeA NodeOk TabR qBu qB1 standsB)
set_option linter.unusedVariables false
theorem Tm.may_in {n:Int} (h:qAn n=true):-4611686018427387904≤n∧n≤4611686018427387904:=qAc.1 h
theorem qP6 {x:SigV} {y:WorV} {L M:List (Int × Bool)} {n:NodeA} (hl:0≤n.len) (h:∀j:Nat,(j:Int)<n.len→atV L (qBx n j)=atV M (qBx n j)):qCb x y L n=qCb x y M n:=by
 have hb:∀k:Nat,(k:Int)≤n.len→qG4 L n k=qG4 M n k:=by
  intro k
  induction k with
  | zero=>intro _;rfl
  | succ k ih =>
   intro hk
   show (qG4 L n k || _)=(qG4 M n k || _)
   rw[ih (by omega),h k (by omega)]
 have ha:qBe L n n.len.toNat=qBe M n n.len.toNat:=by
  unfold qBe
  apply List.map_congr_left
  intro j hj
  rw[h j (by have:=List.mem_range.1 hj;omega)]
 unfold qCb
 rw[hb _ (by omega),ha]
structure Vals (x:SigV) (y:WorV) (t:List NodeA) (E:List (Int × Bool)):Prop where
 may:qBu t=true
 wor:qHb x y=true
 row:∀(k:Nat) (n:NodeA),t[k]? = some n→qLu x t n=true
 len:E.length=t.length
 at_:∀(k:Nat) (n:NodeA),t[k]? = some n→atV E (k:Int)=qCb x y E n
theorem qLv {x:SigV} {y:WorV} {t:List NodeA} (h:qOi x y t=0):Vals x y t (evK x y t t.length):=by
 unfold qOi at h
 by_cases hc:qBu t=true∧qHb x y=true
 ·rw[if_pos hc] at h
  have ht:qP1 x t=0:=by
   by_cases h0:qP1 x t=0
   ·exact h0
   ·rw[if_neg h0] at h;cases h
  have hrow:t.all (qLu x t)=true:=by
   unfold qP1 at ht
   by_cases h1:qC1 x.a=true∧qBu t=true
   ·rw[if_pos h1] at ht
    by_cases h2:t.all (qLu x t)=true
    ·exact h2
    ·rw[if_neg h2] at ht;cases ht
   ·rw[if_neg h1] at ht;cases ht
  refine⟨hc.1,hc.2,fun k n hk=>List.all_eq_true.1 hrow n (List.mem_of_getElem? hk),qEj _ _ _ _,fun k n hk=>?_⟩
  have hlt:=(List.getElem?_eq_some_iff.1 hk).1
  have hst:=(Tm.ok_at (Tm.mayT_ok hc.1).2 hk).1
  have hf:=qC0 hst
  have e:atV (evK x y t t.length) (k:Int)=qCb x y (evK x y t k) n:=by
   unfold atV
   rw[Int.toNat_natCast,qK9 x y t hlt,List.getD_eq_getElem?_getD,hk];rfl
  rw[e]
  refine qP6 hf.1 (fun j hj=>?_)
  obtain⟨a0,a1⟩:=qGv hst j hj
  obtain⟨i,hi⟩:∃i:Nat,qBx n j=(i:Int):=⟨(qBx n j).toNat,by omega⟩
  rw[hi]
  unfold atV
  rw[Int.toNat_natCast,qK9 x y t (by omega:i<k),qK9 x y t (by omega:i<t.length)]
 ·rw[if_neg hc] at h;cases h
theorem qP7 {L:List (Int × Bool)} {n:NodeA}:∀ {k:Nat},qG4 L n k=false→∀j:Nat,j<k→(atV L (qBx n j)).2=false
 | 0,_,j,hj=>absurd hj (Nat.not_lt_zero _)
 | k+1,h,j,hj=>by
  have h':(qG4 L n k || (atV L (qBx n k)).2)=false:=h
  rw[Bool.or_eq_false_iff] at h'
  by_cases e:j=k
  ·subst e;exact h'.2
  ·exact qP7 h'.1 j (by omega)
structure Fine1 (x:SigV) (y:WorV) (E:List (Int × Bool)) (n:NodeA) (v:Int):Prop where
 args:∀j:Nat,(j:Int)<n.len→(atV E (qBx n j)).2=false
 ok:(ndV x y n (qBe E n n.len.toNat)).2=true
 val:v=(ndV x y n (qBe E n n.len.toNat)).1
theorem Vals.fine {x:SigV} {y:WorV} {t:List NodeA} {E:List (Int × Bool)} (h:Vals x y t E) {k:Nat} {n:NodeA} (hk:t[k]? = some n) (ho:(atV E (k:Int)).2=false):Fine1 x y E n (atV E (k:Int)).1:=by
 rw[h.at_ k n hk] at ho ⊢
 unfold qCb at ho ⊢
 by_cases hb:qG4 E n n.len.toNat=true
 ·rw[if_pos hb] at ho;cases ho
 ·rw[if_neg hb] at ho ⊢
  by_cases h2:(ndV x y n (qBe E n n.len.toNat)).2=true
  ·rw[if_pos h2]
   exact⟨fun j hj=>qP7 (Bool.eq_false_iff.2 hb) j (by omega),h2,rfl⟩
  ·rw[if_neg h2] at ho;cases ho
theorem qKq {E:List (Int × Bool)} {n:NodeA} {m j:Nat} (h:j<m):(qBe E n m).getD j 0=(atV E (qBx n j)).1:=by
 unfold qBe
 rw[List.getD_eq_getElem?_getD,List.getElem?_map,List.getElem?_range h];rfl
theorem qCr {t:List NodeA} {n:NodeA} {j:Nat} (h:(j:Int)<n.len):(qAe t n).getD j 0=qDs t (qBx n j):=by
 unfold qAe
 rw[List.getD_eq_getElem?_getD,List.getElem?_map,List.getElem?_range (by omega)];rfl
theorem qW0 {t:List NodeA} {k:Nat} {n:NodeA} (h:t[k]? = some n):qDs t (k:Int)=n.sort:=by
 unfold qDs
 rw[Int.toNat_natCast,h];rfl
theorem qGl {x:SigV} {y:WorV} (h:qHb x y=true):y.sizes.length=x.sorts.length:=by
 unfold qHb at h
 simp only[Bool.and_eq_true,decide_eq_true_eq] at h
 exact h.2.1
theorem qBz {n:Nat} {z:List Int} (hz:z.length=n) (v:Int):isB n z 0 v=decide (v=0∨v=1):=by
 rw[qI3 hz (by decide) (by omega)];rfl
theorem qJm {n:Nat} {z:List Int} (hz:z.length=n) (v:Int):isB n z 1 v=qAn v:=by
 rw[qI3 hz (by decide) (by omega)];rfl
theorem qGm (q:Bool):qIs q=0∨qIs q=1:=by cases q<;>simp[qIs]
theorem qJn {op:Int} {l:List Int} (h:opE op l=0):(l.length:Int)=qBq op∧∃s,opO op l=some s∧opV op l=s:=by
 have hh:=h
 unfold opE at h
 by_cases h1:qBq op<0∨¬(l.length:Int)=qBq op
 ·rw[if_pos h1] at h;cases h
 rw[if_neg h1] at h
 by_cases h2:l.any (fun s=>decide (s<0))=true
 ·rw[if_pos h2] at h;cases h
 rw[if_neg h2] at h
 by_cases h3:(opO op l).isSome=true
 ·obtain⟨s,hs⟩:=Option.isSome_iff_exists.1 h3
  refine⟨by omega,s,hs,?_⟩
  unfold opV
  rw[if_pos hh,hs];rfl
 ·rw[if_neg h3] at h;cases h
theorem qBi {l:List Int} {n s:Int} (h:alikeB l n s=true) {j:Nat} (hj:(j:Int)<n):l.getD j 0=s:=by
 unfold alikeB at h
 simp only[Bool.and_eq_true,decide_eq_true_eq] at h
 have hlt:j<l.length:=by omega
 rw[List.getD_eq_getElem?_getD,List.getElem?_eq_getElem hlt]
 have:=List.all_eq_true.1 h.1 l[j] (List.getElem_mem hlt)
 simpa using this
theorem qHs {x:SigV} {t:List NodeA} {n:NodeA} (h:qLu x t n=true):qLs x t n=0∧qLt x t n=n.sort:=by
 unfold qLu at h
 simp only[Bool.and_eq_true,decide_eq_true_eq] at h
 exact h
theorem qS9 {α:Type} {one:List α→α→Bool} {l:List α} (h:qE7 one [] l=true) {p:α} (hp:p∈l):∃k,one (l.take k) p=true:=by
 obtain⟨k,hk⟩:=List.getElem?_of_mem hp
 exact⟨k,qMc h hk⟩
theorem qZk {α β:Type} {l:List α} {m:List β} {k:Nat} {a:α} {b:β} (ha:l[k]? = some a) (hb:m[k]? = some b):(a,b)∈l.zip m:=by
 apply List.mem_of_getElem? (i:=k)
 rw[List.getElem?_zip_eq_some]
 exact⟨ha,hb⟩
theorem qSa {x:SigV} {y:WorV} {f:Int} {l:List Int} (hw:qHb x y=true) (h:qK5 x y f l=0):isB x.sorts.length y.sizes (fnA x f).res (qD8 x y f l)=true:=by
 obtain⟨_,f0,f1,_⟩:=qL2 h
 have hl:=qNk hw
 obtain⟨k,rfl⟩:∃k:Nat,f=k:=⟨f.toNat,by omega⟩
 have hk:k<x.funs.length:=by omega
 have e1:x.funs[k]? = some (fnA x k):=by unfold fnA;rw[Int.toNat_natCast,List.getElem?_eq_getElem hk];rfl
 have e2:y.funs[k]? = some (fvA y k):=by unfold fvA;rw[Int.toNat_natCast,List.getElem?_eq_getElem (by omega)];rfl
 have hz:fvQ x.sorts.length y.sizes (fnA x k) (fvA y k)=true:=by
  unfold qHb at hw
  simp only[Bool.and_eq_true] at hw
  exact List.all_eq_true.1 hw.2.2.2.2 _ (qZk e1 e2)
 unfold fvQ at hz
 simp only[Bool.and_eq_true] at hz
 unfold qD8
 rw[if_pos h]
 unfold rowV
 cases hf:(fvA y k).rows.find? (fun s=>qE4 s ⟨l.getD 0 0,l.getD 1 0,l.getD 2 0,0⟩) with
 | none=>exact hz.2.1
 | some r =>
  obtain⟨j,hj⟩:=qS9 hz.2.2 (List.mem_of_find?_eq_some hf)
  unfold qIr at hj
  simp only[Bool.and_eq_true] at hj
  exact hj.2.1
theorem qW1 {a b:Int} (ha:a=0∨a=1) (hb:b=0∨b=1):max a b=0∨max a b=1:=by
 rcases ha with rfl|rfl<;>rcases hb with rfl|rfl<;>decide
theorem qW2 {a b:Int} (ha:a=0∨a=1) (hb:b=0∨b=1):wrap64 (a*b)=0∨wrap64 (a*b)=1:=by
 rcases ha with rfl|rfl<;>rcases hb with rfl|rfl<;>(unfold wrap64;omega)
theorem qW3 {a:Int} (ha:a=0∨a=1):wrap64 (1-a)=0∨wrap64 (1-a)=1:=by
 rcases ha with rfl|rfl<;>(unfold wrap64;omega)
theorem Vals.arg {x:SigV} {y:WorV} {t:List NodeA} {E:List (Int × Bool)} (h:Vals x y t E) {k:Nat} {n:NodeA} (hk:t[k]? = some n) {j:Nat} (hj:(j:Int)<n.len):∃(i:Nat) (m:NodeA),qBx n j=(i:Int)∧i<k∧t[i]? = some m∧qDs t (qBx n j)=m.sort:=by
 have hlt:=(List.getElem?_eq_some_iff.1 hk).1
 have hst:=(Tm.ok_at (Tm.mayT_ok h.may).2 hk).1
 obtain⟨a0,a1⟩:=qGv hst j hj
 obtain⟨i,hi⟩:∃i:Nat,qBx n j=(i:Int):=⟨(qBx n j).toNat,by omega⟩
 refine⟨i,t[i]'(by omega),hi,by omega,List.getElem?_eq_getElem (by omega),?_⟩
 rw[hi]
 exact qW0 (List.getElem?_eq_getElem (by omega))
theorem qW4 {n:Nat} {z:List Int} {f:FunA} {b0 b1 b2:Int} (h0:(0:Int)<f.len→isB n z f.a0 b0=true) (z0:¬(0:Int)<f.len→b0=0) (h1:(1:Int)<f.len→isB n z f.a1 b1=true) (z1:¬(1:Int)<f.len→b1=0) (h2:(2:Int)<f.len→isB n z f.a2 b2=true) (z2:¬(2:Int)<f.len→b2=0):fitB n z f b0 b1 b2=true:=by
 have one:∀(k:Nat) (b:Int),((k:Int)<f.len→isB n z (qNg f k) b=true)→(¬(k:Int)<f.len→b=0)→qD3 n z f b k=true:=fun k b h z=>by
  unfold qD3
  by_cases hk:(k:Int)<f.len
  ·rw[if_pos hk];exact h hk
  ·rw[if_neg hk];exact decide_eq_true (z hk)
 unfold fitB
 rw[one 0 b0 h0 z0,one 1 b1 h1 z1,one 2 b2 h2 z2];rfl
theorem qP8 {n:NodeA} {k:Nat} (h:standsB n k=true) (ho:n.op=10∨n.op=11∨n.op=12):qAn n.num=true:=by
 unfold Tm.standsB at h
 rw[decide_eq_true_eq] at h
 obtain⟨⟨h0,h1,h2⟩,_⟩:=h
 rw[if_neg (by omega),if_pos ho] at h2
 exact h2.2.2
theorem qKr (E:List (Int × Bool)) (n:NodeA) (k:Nat):(qBe E n k).length=k:=by unfold qBe;rw[List.length_map,List.length_range]
theorem qDh (t:List NodeA) (n:NodeA):(qAe t n).length=n.len.toNat:=by unfold qAe;rw[List.length_map,List.length_range]
theorem Vals.is {x:SigV} {y:WorV} {t:List NodeA} {E:List (Int × Bool)} (h:Vals x y t E):∀(K k:Nat) (n:NodeA),k<K→t[k]? = some n→(atV E (k:Int)).2=false→isB x.sorts.length y.sizes n.sort (atV E (k:Int)).1=true
 | 0,k,n,hK,_,_=>absurd hK (Nat.not_lt_zero _)
 | K+1,k,n,hK,hk,ho=>by
  have hst:=(Tm.ok_at (Tm.mayT_ok h.may).2 hk).1
  have hf:=qC0 hst
  obtain⟨fa,fo,fv⟩:=h.fine hk ho
  obtain⟨r0,r1⟩:=qHs (h.row k n hk)
  have hz:=qGl h.wor
  have IH:∀j:Nat,(j:Int)<n.len→isB x.sorts.length y.sizes (qDs t (qBx n j)) ((qBe E n n.len.toNat).getD j 0)=true:=fun j hj=>by
   obtain⟨i,m,e1,e2,e3,e4⟩:=h.arg hk hj
   rw[qKq (by omega),e4,e1]
   exact Vals.is h K i m (by omega) e3 (by have:=fa j hj;rw[e1] at this;exact this)
  rw[fv]
  by_cases h13:n.op=13
  ·have e:ndV x y n (qBe E n n.len.toNat)=(qD8 x y n.fn (qBe E n n.len.toNat),true):=by unfold ndV;rw[h13];rfl
   rw[e]
   unfold qLs at r0
   unfold qLt at r1
   rw[if_pos h13] at r0 r1
   have ha:qNl x n.fn (qAe t n)=0:=by
    by_cases hh:qNl x n.fn (qAe t n)=0
    ·exact hh
    ·rw[if_neg hh] at r0;cases r0
   have hs:(fnA x n.fn).res=n.sort:=by
    unfold qS7 at r1
    rw[if_pos ha] at r1
    exact r1
   rw[←hs]
   refine qSa h.wor ?_
   unfold qNl at ha
   by_cases hc:qC1 x.a=true∧0≤n.fn∧n.fn<(x.funs.length:Int)∧((qAe t n).length:Int)=(fnA x n.fn).len
   ·rw[if_pos hc] at ha
    obtain⟨_,c1,c2,c3⟩:=hc
    rw[qDh] at c3
    have hab:qK6 (fnA x n.fn) (qAe t n)=true:=by
     by_cases hh:qK6 (fnA x n.fn) (qAe t n)=true
     ·exact hh
     ·rw[if_neg hh] at ha;cases ha
    have hsr:∀j:Nat,(j:Int)<n.len→qDs t (qBx n j)=qNg (fnA x n.fn) j:=fun j hj=>by
     unfold qK6 at hab
     have:=List.all_eq_true.1 hab j (List.mem_range.2 (by rw[qDh];omega))
     rw[decide_eq_true_eq,qCr hj] at this
     exact this
    unfold qK5
    rw[if_pos ⟨h.wor,c1,c2,by rw[qKr];exact c3⟩,if_pos]
    have one:∀j:Nat,(j:Int)<(fnA x n.fn).len→isB x.sorts.length y.sizes (qNg (fnA x n.fn) j) ((qBe E n n.len.toNat).getD j 0)=true:=fun j hj=>by
     rw[←hsr j (by omega)];exact IH j (by omega)
    have non:∀j:Nat,¬(j:Int)<(fnA x n.fn).len→(qBe E n n.len.toNat).getD j 0=0:=fun j hj=>by
     rw[List.getD_eq_getElem?_getD,List.getElem?_eq_none (by rw[qKr];omega)];rfl
    exact qW4 (fun hj=>one 0 hj) (fun hj=>non 0 hj) (fun hj=>one 1 hj) (fun hj=>non 1 hj) (fun hj=>one 2 hj) (fun hj=>non 2 hj)
   ·rw[if_neg hc] at ha;cases ha
  ·unfold qLs at r0
   unfold qLt at r1
   rw[if_neg h13] at r0 r1
   obtain⟨hm,s,hs,hs2⟩:=qJn r0
   rw[hs2] at r1
   subst r1
   rw[qDh] at hm
   have g0:(0:Int)<n.len→(qAe t n).getD 0 0=qDs t (qBx n 0):=fun h=>qCr h
   have g1:(1:Int)<n.len→(qAe t n).getD 1 0=qDs t (qBx n 1):=fun h=>qCr h
   have g2:(2:Int)<n.len→(qAe t n).getD 2 0=qDs t (qBx n 2):=fun h=>qCr h
   have hop:n.op=0∨n.op=1∨n.op=2∨n.op=3∨n.op=4∨n.op=5∨n.op=6∨n.op=7∨n.op=8∨n.op=9∨n.op=10∨n.op=11∨n.op=12:=by omega
   have bool1:∀j:Nat,(j:Int)<n.len→qDs t (qBx n j)=0→(qBe E n n.len.toNat).getD j 0=0∨(qBe E n n.len.toNat).getD j 0=1:=fun j hj hs=>by
    have:=IH j hj
    rw[hs,qBz hz,decide_eq_true_eq] at this
    exact this
   have int1:∀j:Nat,(j:Int)<n.len→qDs t (qBx n j)=1→qAn ((qBe E n n.len.toNat).getD j 0)=true:=fun j hj hs=>by
    have:=IH j hj
    rw[hs,qJm hz] at this
    exact this
   unfold ndV at fo ⊢
   rcases hop with ho'|ho'|ho'|ho'|ho'|ho'|ho'|ho'|ho'|ho'|ho'|ho'|ho'<;>rw[ho'] at hs fo ⊢ hm<;>simp only[opO,Option.some.injEq,Int.reduceEq,or_self,or_false,or_true,ite_false,ite_true] at hs fo ⊢
   ·rw[←hs,qBz hz];decide
   ·have hl:n.len=1:=by have:qBq 1=1:=rfl;omega
    split at hs
    ·rename_i hal
     have s0:qDs t (qBx n 0)=0:=by rw[←g0 (by omega)];exact qBi hal (j:=0) (by decide)
     rw[←Option.some.inj hs,qBz hz,decide_eq_true_eq]
     exact qW3 (bool1 0 (by omega) s0)
    ·cases hs
   ·have hl:n.len=2:=by have:qBq 2=2:=rfl;omega
    split at hs
    ·rename_i hal
     have s0:qDs t (qBx n 0)=0:=by rw[←g0 (by omega)];exact qBi hal (j:=0) (by decide)
     have s1:qDs t (qBx n 1)=0:=by rw[←g1 (by omega)];exact qBi hal (j:=1) (by decide)
     rw[←Option.some.inj hs,qBz hz,decide_eq_true_eq]
     exact qW2 (bool1 0 (by omega) s0) (bool1 1 (by omega) s1)
    ·cases hs
   ·have hl:n.len=2:=by have:qBq 3=2:=rfl;omega
    split at hs
    ·rename_i hal
     have s0:qDs t (qBx n 0)=0:=by rw[←g0 (by omega)];exact qBi hal (j:=0) (by decide)
     have s1:qDs t (qBx n 1)=0:=by rw[←g1 (by omega)];exact qBi hal (j:=1) (by decide)
     rw[←Option.some.inj hs,qBz hz,decide_eq_true_eq]
     exact qW1 (bool1 0 (by omega) s0) (bool1 1 (by omega) s1)
    ·cases hs
   ·have hl:n.len=2:=by have:qBq 4=2:=rfl;omega
    split at hs
    ·rename_i hal
     have s0:qDs t (qBx n 0)=0:=by rw[←g0 (by omega)];exact qBi hal (j:=0) (by decide)
     have s1:qDs t (qBx n 1)=0:=by rw[←g1 (by omega)];exact qBi hal (j:=1) (by decide)
     rw[←Option.some.inj hs,qBz hz,decide_eq_true_eq]
     exact qGm _
    ·cases hs
   ·have hl:n.len=2:=by have:qBq 5=2:=rfl;omega
    split at hs
    ·rename_i hal
     have s0:qDs t (qBx n 0)=0:=by rw[←g0 (by omega)];exact qBi hal (j:=0) (by decide)
     have s1:qDs t (qBx n 1)=0:=by rw[←g1 (by omega)];exact qBi hal (j:=1) (by decide)
     rw[←Option.some.inj hs,qBz hz,decide_eq_true_eq]
     exact qGm _
    ·cases hs
   ·split at hs
    ·rw[←Option.some.inj hs,qBz hz,decide_eq_true_eq]
     exact qGm _
    ·cases hs
   ·have hl:n.len=3:=by have:qBq 7=3:=rfl;omega
    split at hs
    ·rename_i hal
     rw[←Option.some.inj hs]
     split
     ·rw[g1 (by omega)];exact IH 1 (by omega)
     ·rw[hal.2,g2 (by omega)];exact IH 2 (by omega)
    ·cases hs
   ·split at hs
    ·rw[←Option.some.inj hs,qBz hz,decide_eq_true_eq]
     exact qGm _
    ·cases hs
   ·split at hs
    ·rw[←Option.some.inj hs,qBz hz,decide_eq_true_eq]
     exact qGm _
    ·cases hs
   ·rw[←hs,qJm hz]
    exact qP8 hst (.inl ho')
   ·split at hs
    ·rw[←Option.some.inj hs,qJm hz]
     split at fo
     ·cases fo
     ·rw[if_neg (by assumption)];exact fo
    ·cases hs
   ·split at hs
    ·rw[←Option.some.inj hs,qBz hz,decide_eq_true_eq]
     exact qGm _
    ·cases hs
theorem Vals.int {x:SigV} {y:WorV} {t:List NodeA} {E:List (Int × Bool)} (h:Vals x y t E) {k:Nat} {n:NodeA} (hk:t[k]? = some n) (hs:n.sort=1) (ho:(atV E (k:Int)).2=false):qAn (atV E (k:Int)).1=true:=by
 have:=h.is (k+1) k n (by omega) hk ho
 rw[hs,qJm (qGl h.wor)] at this
 exact this
theorem Vals.add {x:SigV} {y:WorV} {t:List NodeA} {E:List (Int × Bool)} (h:Vals x y t E) {k:Nat} {n:NodeA} (hk:t[k]? = some n) (hop:n.op=11) (ho:(atV E (k:Int)).2=false):∃(i:Nat) (m:NodeA),n.a0=(i:Int)∧i<k∧t[i]? = some m∧m.sort=1∧(atV E (i:Int)).2=false∧(atV E (k:Int)).1=(atV E (i:Int)).1+n.num:=by
 have hst:=(Tm.ok_at (Tm.mayT_ok h.may).2 hk).1
 have hf:=qC0 hst
 obtain⟨fa,fo,fv⟩:=h.fine hk ho
 obtain⟨r0,r1⟩:=qHs (h.row k n hk)
 have hl:n.len=1:=by rcases hf.2.2.2.2 with e|e;· omega
                     ·rw[e,hop];rfl
 obtain⟨i,m,e1,e2,e3,e4⟩:=h.arg hk (j:=0) (by omega)
 have e1':n.a0=(i:Int):=e1
 have hms:m.sort=1:=by
  unfold qLs at r0
  rw[if_neg (by omega)] at r0
  obtain⟨hm,s,hs,hs2⟩:=qJn r0
  rw[hop] at hs
  simp only[opO,Int.reduceEq,ite_false,ite_true] at hs
  split at hs
  ·rename_i hal
   rw[←e4,←qCr (by omega)]
   exact qBi hal (j:=0) (by decide)
  ·cases hs
 have hio:(atV E (i:Int)).2=false:=by have:=fa 0 (by omega);rw[e1] at this;exact this
 refine⟨i,m,e1',e2,e3,hms,hio,?_⟩
 have hv:(qBe E n n.len.toNat).getD 0 0=(atV E (i:Int)).1:=by rw[qKq (by omega),e1]
 have b0:=Tm.may_in (h.int e3 hms hio)
 have b1:=Tm.may_in (qP8 hst (.inr (.inl hop)))
 rw[fv]
 unfold ndV at fo ⊢
 rw[hop,hv] at fo ⊢
 simp only[Int.reduceEq,ite_false,ite_true] at fo ⊢
 split at fo
 ·cases fo
 ·rw[if_neg (by assumption)]
  have b2:=Tm.may_in fo
  show wrap64 _=_
  unfold wrap64 at b2 ⊢
  omega
theorem Vals.num {x:SigV} {y:WorV} {t:List NodeA} {E:List (Int × Bool)} (h:Vals x y t E) {k:Nat} {n:NodeA} (hk:t[k]? = some n) (hop:n.op=10):(atV E (k:Int)).2=false∧(atV E (k:Int)).1=n.num:=by
 have hst:=(Tm.ok_at (Tm.mayT_ok h.may).2 hk).1
 have hf:=qC0 hst
 have hl:n.len=0:=by rcases hf.2.2.2.2 with e|e;· omega
                     ·rw[e,hop];rfl
 rw[h.at_ k n hk]
 unfold qCb
 have hb:qG4 E n n.len.toNat=false:=by rw[hl];rfl
 have hn:ndV x y n (qBe E n n.len.toNat)=(n.num,true):=by unfold ndV;rw[hop];rfl
 rw[hb,hn]
 exact⟨rfl,rfl⟩
open Tm (NodeA NodeOk TabR qBu qB1 standsB MkS MkI PlA Pre Out WS srt WsN qAd qAq qDg qPf leM eqM eqI qS2 qCp qIv qIw qCs qA0 qBd qDr qAk qMz qBc)
def OkV (E:List (Int × Bool)) (i v:Int):Prop:=(atV E i).2=false∧(atV E i).1=v
def Ex (s:MkS) (c:List NodeA):Prop:=∃r,c=s.l++r
theorem Ex.up {s s':MkS} {c:List NodeA} (h:Ex s' c) (k:Pre s s'):Ex s c:=by
 obtain⟨r,hr⟩:=h
 obtain⟨q,hq⟩:=k.pre
 exact⟨q++r,by rw[hr,hq,List.append_assoc]⟩
theorem Ex.same {s s':MkS} {c:List NodeA} (h:Ex s' c) (e:s'.l=s.l):Ex s c:=by
 obtain⟨r,hr⟩:=h
 exact⟨r,by rw[hr,e]⟩
theorem Ex.get {s:MkS} {c:List NodeA} (h:Ex s c) {i:Int} (hi:PlA s i):∃k:Nat,i=(k:Int)∧k<s.l.length∧c[k]? = some (qAd s.l i):=by
 obtain⟨k,rfl,hk⟩:=hi.nat
 obtain⟨r,hr⟩:=h
 exact⟨k,rfl,hk,by rw[hr,List.getElem?_append_left hk];exact Tm.nodA_get hk⟩
theorem qP9 {a b n:Int} (ha:qAn a=true) (hb:qAn b=true) (hn:qAn n=true):atM a b n=decide (a-b≤n):=by
 unfold atM
 rw[ha,hb,hn];rfl
section
variable {x:SigV} {y:WorV} {c:List NodeA} {E:List (Int × Bool)} {most:Int} {s:MkS}
theorem Ex.bit (h:Ex s c) (hV:Vals x y c E) {i v:Int} (hi:PlA s i) (hs:srt s.l i=0) (ho:OkV E i v):v=0∨v=1:=by
 obtain⟨k,rfl,hk,hg⟩:=h.get hi
 have:=hV.is (k+1) k _ (by omega) hg ho.1
 have hs':(qAd s.l k).sort=0:=hs
 rw[hs',qBz (qGl hV.wor),ho.2] at this
 exact of_decide_eq_true this
theorem Ex.int (h:Ex s c) (hV:Vals x y c E) {i v:Int} (hi:PlA s i) (hs:srt s.l i=1) (ho:OkV E i v):qAn v=true:=by
 obtain⟨k,rfl,hk,hg⟩:=h.get hi
 have:=hV.int hg hs ho.1
 rw[ho.2] at this
 exact this
theorem bad_no {L:List (Int × Bool)} {n:NodeA}:∀ {k:Nat},(∀j:Nat,j<k→(atV L (qBx n j)).2=false)→qG4 L n k=false
 | 0,_=>rfl
 | k+1,h=>by
  show (qG4 L n k || (atV L (qBx n k)).2)=false
  rw[bad_no fun j hj=>h j (by omega),h k (by omega)];rfl
theorem qW5 (hV:Vals x y c E) {k:Nat} {n:NodeA} {v:Nat→Int} {X:Int} (hk:c[k]? = some n) (hv:∀j:Nat,(j:Int)<n.len→OkV E (qBx n j) (v j)) (hX:ndV x y n ((List.range n.len.toNat).map v)=(X,true)):OkV E k X:=by
 have e:qBe E n n.len.toNat=(List.range n.len.toNat).map v:=by
  unfold qBe
  refine List.map_congr_left fun j hj=>?_
  exact(hv j (by have:=List.mem_range.1 hj;omega)).2
 unfold OkV
 rw[hV.at_ k n hk]
 unfold qCb
 rw[bad_no fun j hj=>(hv j (by omega)).1,e,hX]
 exact⟨rfl,rfl⟩
theorem qSb (hV:Vals x y c E):OkV E 1 0:=hV.num (k:=1) (Tm.mayT_zero hV.may) rfl
theorem qPa (hV:Vals x y c E) (hE:Ex s c) {i:Int} (hi:PlA s i) {v:Int} (h:OkV E i v):OkV E (qA0 s.l i).1 (v-(qA0 s.l i).2):=by
 obtain⟨k,hk,hkl,hg⟩:=hE.get hi
 unfold qA0
 split
 ·rename_i h10
  obtain⟨_,e⟩:=hV.num hg h10
  have z:=qSb hV
  rw[hk] at h
  have e2:=h.2
  rw[e] at e2
  show OkV E 1 (v-(qAd s.l i).num)
  rw[←e2,Int.sub_self];exact z
 ·split
  ·rename_i h11
   rw[hk] at h
   obtain⟨j,m,e1,e2,e3,e4,e5,e6⟩:=hV.add hg h11 h.1
   show OkV E (qAd s.l i).a0 (v-(qAd s.l i).num)
   rw[e1]
   refine⟨e5,?_⟩
   have:=h.2
   omega
  ·show OkV E i (v-0)
   rw[Int.sub_zero];exact h
end
open Tm (NodeA NodeOk TabR qBu qB1 standsB MkS MkI PlA Pre Out WS srt WsN qAd qAq qDg qPf leM eqM eqI qS2 qCp qIv qIw qCs qA0 qBd qDr qAk qMz qBc imA qV6 qDu WkS qLz qJp ImP QC)
section
variable {x:SigV} {y:WorV} {c:List NodeA} {E:List (Int × Bool)} {most:Int} {s:MkS}
end
/-! What is put besides the node itself is no application. -/
section
variable {most:Int} {P:NodeA→Prop}
variable (hP:∀m:NodeA,¬m.op=13→P m)
include hP
end
theorem qCo (t:List NodeA) (i:Int):qDs t i=srt t i:=by
 unfold qDs srt qAd
 rw[List.getD_eq_getElem?_getD]
 cases t[i.toNat]?<;>rfl
theorem qPb (n:NodeA) (j:Nat):qBx n j=qBc n j:=by
 match j with
 | 0=>rfl
 | 1=>rfl
 | k+2 =>
  unfold qBx
  rw[if_neg (by omega),if_neg (by omega)];rfl
open Tm (NodeA NodeOk TabR qBu qB1 standsB MkS MkI PlA Pre Out WS srt WsN qAd qCs qBc imA qV6 qDu WkS qLz qJp ImP QC qV5 qH5 qWc Cl qZg zC6 qSe)
theorem qPc {c:List NodeA} (h:qBu c=true) {i:Int} (h0:0≤i) (hl:i<(c.length:Int)):srt c i=0∨srt c i=1∨srt c i=2∨srt c i=3∨srt c i=4∨srt c i=5:=by
 obtain⟨k,rfl⟩:∃k:Nat,i=(k:Int):=⟨i.toNat,by omega⟩
 have hst:=(Tm.ok_at (Tm.mayT_ok h).2 (Tm.nodA_get (l:=c) (k:=k) (by omega))).1
 unfold Tm.standsB at hst
 rw[decide_eq_true_eq] at hst
 obtain⟨_,s,_⟩:=hst
 unfold srt
 omega
theorem qPd {c:List NodeA} {n:NodeA} (h:n.len=0):qAe c n=[]:=by unfold qAe;rw[h];rfl
theorem qPe {c:List NodeA} {n:NodeA} (h:n.len=1):qAe c n=[srt c n.a0]:=by
 unfold qAe;rw[h]
 show [qDs c n.a0]=_
 rw[qCo]
theorem qEa {c:List NodeA} {n:NodeA} (h:n.len=2):qAe c n=[srt c n.a0,srt c n.a1]:=by
 unfold qAe;rw[h]
 show [qDs c n.a0,qDs c n.a1]=_
 rw[qCo,qCo]
theorem qW6 {c:List NodeA} {n:NodeA} (h:n.len=3):qAe c n=[srt c n.a0,srt c n.a1,srt c n.a2]:=by
 unfold qAe;rw[h]
 show [qDs c n.a0,qDs c n.a1,qDs c n.a2]=_
 rw[qCo,qCo,qCo]
theorem qSc (c:List NodeA) (n:NodeA):qH5 c n n.len.toNat=qAe c n:=by
 unfold qH5 qAe
 refine List.map_congr_left fun j _=>?_
 rw[qPb,qCo];rfl
theorem qW7 {c:List NodeA} (hm:qBu c=true) {n:NodeA} {k:Nat} (hst:standsB n k=true) (hk:k≤c.length) (h13:¬n.op=13) (hw:WsN c n):opE n.op (qAe c n)=0∧opV n.op (qAe c n)=n.sort∧qV5 c n=false:=by
 have hfm:=qC0 hst
 obtain⟨_,hl,ha⟩:=Tm.stands_args hst
 have hlen:=hl.resolve_left h13
 have key:opE n.op (qAe c n)=0∧opV n.op (qAe c n)=n.sort∧Tm.opA n.op (qAe c n)=(n.sort,0):=by
  have hr:n.op=0∨n.op=1∨n.op=2∨n.op=3∨n.op=4∨n.op=5∨n.op=6∨n.op=7∨n.op=8∨n.op=9∨n.op=10∨n.op=11∨n.op=12:=by omega
  rcases hr with ho|ho|ho|ho|ho|ho|ho|ho|ho|ho|ho|ho|ho<;>rw[ho] at hlen ⊢
  ·rw[qPd hlen,hw.s0 ho];exact⟨rfl,rfl,rfl⟩
  ·obtain⟨e0,e1⟩:=hw.s1 ho
   rw[qPe hlen,e0,e1];exact⟨rfl,rfl,rfl⟩
  ·obtain⟨e0,e1,e2⟩:=hw.s2 (by omega)
   rw[qEa hlen,e0,e1,e2];exact⟨rfl,rfl,rfl⟩
  ·obtain⟨e0,e1,e2⟩:=hw.s2 (by omega)
   rw[qEa hlen,e0,e1,e2];exact⟨rfl,rfl,rfl⟩
  ·obtain⟨e0,e1,e2⟩:=hw.s2 (by omega)
   rw[qEa hlen,e0,e1,e2];exact⟨rfl,rfl,rfl⟩
  ·obtain⟨e0,e1,e2⟩:=hw.s2 (by omega)
   rw[qEa hlen,e0,e1,e2];exact⟨rfl,rfl,rfl⟩
  ·obtain⟨e0,e1⟩:=hw.s6 ho
   have hl2:n.len=2:=hlen
   have p:0≤n.a0∧n.a0<(k:Int):=ha 0 (by omega)
   rw[qEa hlen,e0,←e1]
   rcases qPc hm p.1 (by omega) with e|e|e|e|e|e<;>rw[e]<;>exact⟨rfl,rfl,rfl⟩
  ·obtain⟨e0,e1,e2⟩:=hw.s7 ho
   have hl2:n.len=3:=hlen
   have p:0≤n.a1∧n.a1<(k:Int):=ha 1 (by omega)
   rw[qW6 hlen,e0,e2,e1]
   have:=qPc hm p.1 (by omega)
   rw[e1] at this
   rcases this with e|e|e|e|e|e<;>rw[e]<;>exact⟨rfl,rfl,rfl⟩
  ·obtain⟨e0,e1,e2⟩:=hw.s8 (by omega)
   rw[qEa hlen,e0,e1,e2];exact⟨rfl,rfl,rfl⟩
  ·obtain⟨e0,e1,e2⟩:=hw.s8 (by omega)
   rw[qEa hlen,e0,e1,e2];exact⟨rfl,rfl,rfl⟩
  ·rw[qPd hlen,hw.s10 ho];exact⟨rfl,rfl,rfl⟩
  ·obtain⟨e0,e1⟩:=hw.s11 ho
   rw[qPe hlen,e0,e1];exact⟨rfl,rfl,rfl⟩
  ·obtain⟨e0,e1,e2⟩:=hw.s8 (by omega)
   rw[qEa hlen,e0,e1,e2];exact⟨rfl,rfl,rfl⟩
 refine⟨key.1,key.2.1,?_⟩
 unfold qV5
 rw[if_neg h13]
 have e:qWc c n=(n.sort,0):=by unfold qWc;rw[qSc];exact key.2.2
 rw[e];simp
theorem qV3 {x:SigV} {t:List NodeA} {n:NodeA} {k:Nat} (hst:standsB n k=true) (h:qLu x t n=true):WsN t n:=by
 obtain⟨r0,r1⟩:=qHs h
 by_cases h13:n.op=13
 ·exact⟨fun e=>by omega,fun e=>by omega,fun e=>by omega,fun e=>by omega,fun e=>by omega,fun e=>by omega,fun e=>by omega,fun e=>by omega⟩
 unfold qLs at r0
 unfold qLt at r1
 rw[if_neg h13] at r0 r1
 obtain⟨hm,s,hs,hs2⟩:=qJn r0
 rw[hs2] at r1
 subst r1
 rw[qDh] at hm
 have hf:=qC0 hst
 have hl:=hf.2.2.2.2.resolve_left h13
 have g:∀j:Nat,(j:Int)<n.len→(qAe t n).getD j 0=srt t (qBc n j):=fun j hj=>by rw[qCr hj,qCo,qPb]
 have two:n.op=2∨n.op=3∨n.op=4∨n.op=5∨n.op=6∨n.op=8∨n.op=9∨n.op=12→n.len=2:=fun e=>by
  rw[hl];rcases e with e|e|e|e|e|e|e|e<;>rw[e]<;>decide
 refine⟨fun e=>?_,fun e=>?_,fun e=>?_,fun e=>?_,fun e=>?_,fun e=>?_,fun e=>?_,fun e=>?_⟩
 ·rw[e] at hs
  exact(Option.some.inj hs).symm
 ·have hl1:n.len=1:=by rw[hl,e];decide
  rw[e] at hs
  simp only[opO,Int.reduceEq,ite_false,or_self] at hs
  split at hs
  ·rename_i hal
   exact⟨(Option.some.inj hs).symm,(g 0 (by omega)).symm.trans (qBi hal (j:=0) (by decide))⟩
  ·cases hs
 ·have hl2:=two (by omega)
  have hs':(if alikeB (qAe t n) 2 0=true then some (0:Int) else none)=some n.sort:=by
   rcases e with e|e|e|e<;>rw[e] at hs<;>simp only[opO,Int.reduceEq,ite_false,or_self] at hs<;>exact hs
  split at hs'
  ·rename_i hal
   exact⟨(Option.some.inj hs').symm,(g 0 (by omega)).symm.trans (qBi hal (j:=0) (by decide)),(g 1 (by omega)).symm.trans (qBi hal (j:=1) (by decide))⟩
  ·cases hs'
 ·have hl2:=two (by omega)
  rw[e] at hs
  simp only[opO,Int.reduceEq,ite_false,ite_true] at hs
  split at hs
  ·rename_i hal
   exact⟨(Option.some.inj hs).symm,(g 0 (by omega)).symm.trans (hal.trans (g 1 (by omega)))⟩
  ·cases hs
 ·have hl3:n.len=3:=by rw[hl,e];decide
  rw[e] at hs
  simp only[opO,Int.reduceEq,ite_false,ite_true] at hs
  split at hs
  ·rename_i hal
   have e1:=Option.some.inj hs
   have q0:(qAe t n).getD 0 0=srt t n.a0:=g 0 (by omega)
   have q1:(qAe t n).getD 1 0=srt t n.a1:=g 1 (by omega)
   have q2:(qAe t n).getD 2 0=srt t n.a2:=g 2 (by omega)
   exact⟨q0.symm.trans hal.1,q1.symm.trans e1,q2.symm.trans (hal.2.symm.trans e1)⟩
  ·cases hs
 ·have hl2:=two (by omega)
  have hs':(if alikeB (qAe t n) 2 1=true then some (0:Int) else none)=some n.sort:=by
   rcases e with e|e|e<;>rw[e] at hs<;>simp only[opO,Int.reduceEq,ite_false,ite_true,or_self,or_false,or_true] at hs<;>exact hs
  split at hs'
  ·rename_i hal
   exact⟨(Option.some.inj hs').symm,(g 0 (by omega)).symm.trans (qBi hal (j:=0) (by decide)),(g 1 (by omega)).symm.trans (qBi hal (j:=1) (by decide))⟩
  ·cases hs'
 ·rw[e] at hs
  exact(Option.some.inj hs).symm
 ·have hl1:n.len=1:=by rw[hl,e];decide
  rw[e] at hs
  simp only[opO,Int.reduceEq,ite_false,ite_true] at hs
  split at hs
  ·rename_i hal
   exact⟨(Option.some.inj hs).symm,(g 0 (by omega)).symm.trans (qBi hal (j:=0) (by decide))⟩
  ·cases hs
theorem Vals.ws {x:SigV} {y:WorV} {t:List NodeA} {E:List (Int × Bool)} (h:Vals x y t E):∀n∈t,WsN t n:=fun n hn=>by
 obtain⟨k,hk⟩:=List.getElem?_of_mem hn
 exact qV3 (Tm.ok_at (Tm.mayT_ok h.may).2 hk).1 (h.row k n hk)
theorem Vals.good {x:SigV} {y:WorV} {t:List NodeA} {E:List (Int × Bool)} (h:Vals x y t E):t.any (qV5 t)=false:=by
 rw[List.any_eq_false]
 intro n hn
 obtain⟨k,hk⟩:=List.getElem?_of_mem hn
 by_cases h13:n.op=13
 ·unfold qV5;rw[if_pos h13];simp
 ·rw[(qW7 h.may (Tm.ok_at (Tm.mayT_ok h.may).2 hk).1 (Nat.le_of_lt (List.getElem?_eq_some_iff.1 hk).1) h13 (h.ws n hn)).2.2];simp
end Go.Proofs.YtfgpimhdjlmapaaGreatDoor
