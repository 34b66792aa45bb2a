/- ShapeHolds. -/
import Derived.Deep.LoopGhost
import Derived.WalkSpells
import Derived.Shelf.RegionOpen
import Derived.Shelf.AbstractIn
import Derived.RangeFuncCalls
import Derived.RangeFuncNested
import Derived.Test.YtfgpimhdjlmapaaGreatDoorShf
import Derived.Test.YtfgpimhdjlmapaaGreatDoorCmC
import Derived.Test.YtfgpimhdjlmapaaGreatDoorShJ
import Derived.Test.YtfgpimhdjlmapaaGreatDoorShT3
import Derived.Test.YtfgpimhdjlmapaaGreatDoorShH
namespace Go.Proofs.YtfgpimhdjlmapaaGreatDoor.Tm
open Go.RowKit
set_option linter.unusedVariables false
structure WoR (x:SigV) (y:WorV) (c:List NodeA) (E:List (Int × Bool)):Prop where
 cl:Cl c
 vals:Vals x y c E
 no:∀k:Nat,k<c.length→(atV E (k:Int)).2=false
def vA (E:List (Int × Bool)) (k:Nat):Int:=(atV E (k:Int)).1
section
variable {x:SigV} {y:WorV} {c:List NodeA} {E:List (Int × Bool)}
theorem WoR.ok (h:WoR x y c E) {k:Nat} (hk:k<c.length):OkV E k (vA E k):=⟨h.no k hk,rfl⟩
theorem WoR.bit (h:WoR x y c E) {k:Nat} (hk:k<c.length) (hs:(qAd c k).sort=0):vA E k=0∨vA E k=1 :=
 Ex.bit (s:=⟨c,0⟩) ⟨[],by simp⟩ h.vals (i:=(k:Int)) ⟨by omega,by show (k:Int)<(c.length:Int);omega⟩ hs (h.ok hk)
theorem WoR.node (h:WoR x y c E) {k:Nat} {n:NodeA} (hn:c[k]? = some n) {m:Nat} (hl:n.len=m) (v:Nat→Int) (hv:∀j:Nat,j<m→∃i:Nat,qBc n j=(i:Int)∧i<c.length∧v j=vA E i) {X:Int} (hX:ndV x y n ((List.range m).map v)=(X,true)):vA E k=X:=by
 refine(qW5 h.vals hn (v:=v) (fun j hj=>?_) (by rw[hl,Int.toNat_natCast];exact hX)).2
 obtain⟨i,e,hi,e2⟩:=hv j (by omega)
 have ea:qBx n j=qBc n j:=by
  match j with
  | 0=>rfl
  | 1=>rfl
  | q+2=>unfold qBx;rw[if_neg (by omega),if_neg (by omega)];rfl
 rw[ea,e,e2]
 exact h.ok hi
theorem WoR.two (h:WoR x y c E) {k:Nat} {n:NodeA} (hn:c[k]? = some n) (hl:n.len=2) {i j:Nat} (hi:n.a0=i) (hj:n.a1=j) (hic:i<c.length) (hjc:j<c.length) {X:Int} (hX:ndV x y n [vA E i,vA E j]=(X,true)):vA E k=X:=by
 refine h.node hn (m:=2) hl (fun q=>if q=0 then vA E i else vA E j) (fun q hq=>?_) hX
 match q with
 | 0=>exact⟨i,hi,hic,rfl⟩
 | 1=>exact⟨j,hj,hjc,rfl⟩
 | q+2=>omega
theorem WoR.three (h:WoR x y c E) {k:Nat} {n:NodeA} (hn:c[k]? = some n) (hl:n.len=3) {i j l:Nat} (hi:n.a0=i) (hj:n.a1=j) (hl2:n.a2=l) (hic:i<c.length) (hjc:j<c.length) (hlc:l<c.length) {X:Int} (hX:ndV x y n [vA E i,vA E j,vA E l]=(X,true)):vA E k=X:=by
 refine h.node hn (m:=3) hl (fun q=>if q=0 then vA E i else if q=1 then vA E j else vA E l) (fun q hq=>?_) hX
 match q with
 | 0=>exact⟨i,hi,hic,rfl⟩
 | 1=>exact⟨j,hj,hjc,rfl⟩
 | 2=>exact⟨l,hl2,hlc,rfl⟩
 | q+3=>omega
theorem WoR.one (h:WoR x y c E) {k:Nat} {n:NodeA} (hn:c[k]? = some n) (hl:n.len=1) {i:Nat} (hi:n.a0=i) (hic:i<c.length) {X:Int} (hX:ndV x y n [vA E i]=(X,true)):vA E k=X:=by
 refine h.node hn (m:=1) hl (fun q=>vA E i) (fun q hq=>?_) hX
 match q with
 | 0=>exact⟨i,hi,hic,rfl⟩
 | q+1=>omega
theorem qKo (h:WoR x y c E) {m:Nat} (hm:m<c.length) (hs:(qAd c m).sort=0):qE8 (tdL E c) (2*(m:Int))=decide (vA E m=1):=by
 have hb:=h.bit hm hs
 have e1:(2*(m:Int) / 2).toNat=m:=by omega
 have e2:2*(m:Int) % 2=0:=by omega
 unfold qE8
 rw[e1,e2,qJj hm]
 unfold tdV
 rw[if_pos hs]
 unfold vA at hb ⊢
 rcases hb with e|e<;>rw[e]<;>decide
theorem qMs (h:WoR x y c E) {m:Nat} (hm:m<c.length) (hs:(qAd c m).sort=0):qE8 (tdL E c) (2*(m:Int)+1)=decide (vA E m=0):=by
 have hb:=h.bit hm hs
 have e1:((2*(m:Int)+1) / 2).toNat=m:=by omega
 have e2:(2*(m:Int)+1) % 2=1:=by omega
 unfold qE8
 rw[e1,e2,qJj hm]
 unfold tdV
 rw[if_pos hs]
 unfold vA at hb ⊢
 rcases hb with e|e<;>rw[e]<;>decide
theorem qBw (h:WoR x y c E) {k:Nat} (hk:k<c.length) (hs:(qAd c k).sort=0):qE8 (tdL E c) (qAb c k)=decide (vA E k=1):=by
 unfold qAb
 rw[if_pos hs]
 by_cases ho:(qAd c k).op=1
 ·obtain⟨m,h1,h2,_,h4,_⟩:=qHr h.cl hk ho
  have hg:=nodA_get hk
  have hw:=(h.cl.ws _ (qD6 hk)).s1 ho
  have hms:(qAd c m).sort=0:=by have:=hw.2;unfold srt at this;rw[h1] at this;exact this
  have hl:=qGe h.cl hg (by omega)
  have hv:vA E k=wrap64 (1-vA E m):=h.one hg (by rw[hl,ho];decide) h1 (by omega) (by unfold ndV;rw[if_neg (by omega),if_pos ho];rfl)
  rw[h4,qMs h (by omega) hms,hv]
  rcases h.bit (show m<c.length by omega) hms with e|e<;>rw[e]<;>simp[wrap64]
 ·unfold qIe
  rw[if_neg ho]
  exact qKo h hk hs
theorem qYx (m:Nat):ngL (2*(m:Int)+1)=2*(m:Int):=by unfold ngL;rw[if_neg (by omega)];omega
theorem qD9 (h:WoR x y c E) {k:Nat} (hk:k<c.length) (hs:(qAd c k).sort=0):qE8 (tdL E c) (ngL (qAb c k))=decide (vA E k=0):=by
 have h0:=qBw h hk hs
 have hb:=h.bit hk hs
 unfold qAb at h0 ⊢
 rw[if_pos hs] at h0 ⊢
 by_cases ho:(qAd c k).op=1
 ·obtain⟨m,h1,h2,_,h4,_⟩:=qHr h.cl hk ho
  have hw:=(h.cl.ws _ (qD6 hk)).s1 ho
  have hms:(qAd c m).sort=0:=by have:=hw.2;unfold srt at this;rw[h1] at this;exact this
  rw[h4] at h0 ⊢
  rw[qYx,qKo h (by omega) hms]
  rw[qMs h (by omega) hms] at h0
  have hbm:=h.bit (show m<c.length by omega) hms
  have h0':=h0
  rcases hb with e|e<;>rcases hbm with e'|e'<;>rw[e,e'] at h0' ⊢<;>first|rfl|exact absurd h0' (by decide)
 ·unfold qIe at h0 ⊢
  rw[if_neg ho] at h0 ⊢
  rw[qMo]
  exact qMs h hk hs
theorem qMt (xs:List Int) (p:Int→Bool):(clM xs).any p=xs.any p:=by
 rw[Bool.eq_iff_iff,List.any_eq_true,List.any_eq_true]
 constructor
 ·rintro⟨z,h1,h2⟩
  exact⟨z,qEn.1 h1,h2⟩
 ·rintro⟨z,h1,h2⟩
  exact⟨z,qEn.2 h1,h2⟩
theorem qVt (h:WoR x y c E) {k:Nat} {n:NodeA} (hn:c[k]? = some n) (ho:n.op=0):vA E k=1:=by
 have hl:=qGe h.cl hn (by omega)
 refine h.node hn (m:=0) (by rw[hl,ho];decide) (fun _=>0) (fun q hq=>by omega) ?_
 unfold ndV
 rw[if_pos ho]
theorem zBk (h:WoR x y c E) {k:Nat} {n:NodeA} (hn:c[k]? = some n) (ho:n.op=2) {i j:Nat} (hi:n.a0=i) (hj:n.a1=j) (hic:i<c.length) (hjc:j<c.length):vA E k=wrap64 (vA E i*vA E j) :=
 h.two hn (by rw[qGe h.cl hn (by omega),ho];decide) hi hj hic hjc (by unfold ndV;rw[if_neg (by omega),if_neg (by omega),if_pos ho];rfl)
theorem zDf (h:WoR x y c E) {k:Nat} {n:NodeA} (hn:c[k]? = some n) (ho:n.op=3) {i j:Nat} (hi:n.a0=i) (hj:n.a1=j) (hic:i<c.length) (hjc:j<c.length):vA E k=max (vA E i) (vA E j) :=
 h.two hn (by rw[qGe h.cl hn (by omega),ho];decide) hi hj hic hjc (by unfold ndV;rw[if_neg (by omega),if_neg (by omega),if_neg (by omega),if_pos ho];rfl)
theorem zD1 (h:WoR x y c E) {k:Nat} {n:NodeA} (hn:c[k]? = some n) (ho:n.op=6) {i j:Nat} (hi:n.a0=i) (hj:n.a1=j) (hic:i<c.length) (hjc:j<c.length):vA E k=qIs (decide (vA E i=vA E j)) :=
 h.two hn (by rw[qGe h.cl hn (by omega),ho];decide) hi hj hic hjc (by unfold ndV;rw[if_neg (by omega),if_neg (by omega),if_neg (by omega),if_neg (by omega),if_neg (by omega),if_neg (by omega),if_pos ho];rfl)
theorem zBl (h:WoR x y c E) {k:Nat} {n:NodeA} (hn:c[k]? = some n) (ho:n.op=7) {i j l:Nat} (hi:n.a0=i) (hj:n.a1=j) (hl:n.a2=l) (hic:i<c.length) (hjc:j<c.length) (hlc:l<c.length):vA E k=if vA E i=1 then vA E j else vA E l :=
 h.three hn (by rw[qGe h.cl hn (by omega),ho];decide) hi hj hl hic hjc hlc (by unfold ndV;rw[if_neg (by omega),if_neg (by omega),if_neg (by omega),if_neg (by omega),if_neg (by omega),if_neg (by omega),if_neg (by omega),if_pos ho];rfl)
theorem qVu (h:WoR x y c E) {k:Nat} {n:NodeA} (hn:c[k]? = some n) (ho:n.op=12) {i j:Nat} (hi:n.a0=i) (hj:n.a1=j) (hic:i<c.length) (hjc:j<c.length):vA E k=qIs (atM (vA E i) (vA E j) n.num) :=
 h.two hn (by rw[qGe h.cl hn (by omega),ho];decide) hi hj hic hjc (by unfold ndV;rw[if_neg (by omega),if_neg (by omega),if_neg (by omega),if_neg (by omega),if_neg (by omega),if_neg (by omega),if_neg (by omega),if_neg (by omega),if_neg (by omega),if_neg (by omega),if_neg (by omega),if_neg (by omega),if_pos ho];rfl)
theorem qVv (p:Int→Bool) (a b d:Int):(clM [a,b,d]).any p=(p a || (p b || p d)):=by rw[qMt];simp
theorem qS8 (p:Int→Bool) (a b:Int):(clM [a,b]).any p=(p a || p b):=by rw[qMt];simp
theorem zDg (p:Int→Bool) (a:Int):(clM [a]).any p=p a:=by rw[qMt];simp
end
set_option linter.unusedSimpArgs false
section
variable {x:SigV} {y:WorV} {c:List NodeA} {E:List (Int × Bool)}
theorem WoR.may (h:WoR x y c E) {k:Nat} (hk:k<c.length) (hs:(qAd c k).sort=1):qAn (vA E k)=true :=
 Ex.int (s:=⟨c,0⟩) ⟨[],by simp⟩ h.vals (i:=(k:Int)) ⟨by omega,by show (k:Int)<(c.length:Int);omega⟩ hs (h.ok hk)
theorem qUu (h:WoR x y c E) {j:Nat} (hj:j<c.length):∃b:Nat,(qA0 c j).1=(b:Int)∧vA E b=vA E j-(qA0 c j).2∧qAn (qA0 c j).2=true:=by
 obtain⟨z,hz⟩:∃z,c[j]? = some z:=⟨_,List.getElem?_eq_getElem hj⟩
 obtain⟨h1,_,h3⟩:=qCu h.cl hz
 have hs:=qPa h.vals (s:=⟨c,0⟩) ⟨[],by simp⟩ (i:=(j:Int)) ⟨by omega,by show (j:Int)<(c.length:Int);omega⟩ (h.ok hj)
 have hs':OkV E (qA0 c j).1 (vA E j-(qA0 c j).2):=hs
 rw[←h1] at hs' ⊢
 exact⟨_,rfl,hs'.2,h3⟩
theorem qRo (h:WoR x y c E) {n:NodeA} (hn:n∈c) (hs:n.sort=0):qE8 (tdL E c) (fL c n)=decide (vA E (qD2 c n)=1) :=
 qBw h (qCn.1 hn) (by rw[qBf (qBk hn)];exact hs)
theorem qNz (h:WoR x y c E) {k j:Nat} (hk:k<c.length) (hj:j<c.length) (hsk:(qAd c k).sort=1) (hv:vA E k=vA E j) :
  (qAk 12 (k:Nat) (qA0 c j).1 (qA0 c j).2∈c→qE8 (tdL E c) (fL c (qAk 12 (k:Nat) (qA0 c j).1 (qA0 c j).2))=true)∧(qAk 12 (qA0 c j).1 (k:Nat) (-(qA0 c j).2)∈c→qE8 (tdL E c) (fL c (qAk 12 (qA0 c j).1 (k:Nat) (-(qA0 c j).2)))=true):=by
 obtain⟨b,e1,e2,e3⟩:=qUu h hj
 rw[e1]
 have hmk:=h.may hk hsk
 have e3':=qAc.1 e3
 have e3n:qAn (-(qA0 c j).2)=true:=qAc.2 ⟨by omega,by omega⟩
 refine⟨fun hn=>?_,fun hn=>?_⟩
 ·rw[qRo h hn rfl]
  have hg:=qBk hn
  obtain⟨i2,f1,f2⟩:=qIg h.cl hg 1 (by show (1:Int)<2;omega)
  have hb:b<c.length:=by
   have:(b:Int)=(i2:Int):=f1
   have:=(List.getElem?_eq_some_iff.1 hg).1
   omega
  have hw:=(h.cl.ws _ hn).s8 (.inr (.inr rfl))
  have hsb:(qAd c b).sort=1:=hw.2.2
  have hv2:=qVu h hg rfl (i:=k) (j:=b) rfl rfl hk hb
  rw[hv2]
  have hd:vA E k-vA E b≤(qA0 c j).2:=by omega
  show decide (qIs (atM (vA E k) (vA E b) (qA0 c j).2)=1)=true
  rw[qP9 hmk (h.may hb hsb) e3,decide_eq_true hd]
  rfl
 ·rw[qRo h hn rfl]
  have hg:=qBk hn
  obtain⟨i2,f1,f2⟩:=qIg h.cl hg 0 (by show (0:Int)<2;omega)
  have hb:b<c.length:=by
   have:(b:Int)=(i2:Int):=f1
   have:=(List.getElem?_eq_some_iff.1 hg).1
   omega
  have hw:=(h.cl.ws _ hn).s8 (.inr (.inr rfl))
  have hsb:(qAd c b).sort=1:=hw.2.1
  have hv2:=qVu h hg rfl (i:=b) (j:=k) rfl rfl hb hk
  rw[hv2]
  have hd:vA E b-vA E k≤-(qA0 c j).2:=by omega
  show decide (qIs (atM (vA E b) (vA E k) (-(qA0 c j).2))=1)=true
  rw[qP9 (h.may hb hsb) hmk e3n,decide_eq_true hd]
  rfl
theorem qRp (h:WoR x y c E) {k j:Nat} (hk:k<c.length) (hj:j<c.length) (hv:vA E k=vA E j) (hn:qAk 6 (j:Nat) (k:Nat) 0∈c):qE8 (tdL E c) (fL c (qAk 6 (j:Nat) (k:Nat) 0))=true:=by
 rw[qRo h hn rfl]
 have hv2:=zD1 h (qBk hn) rfl (i:=j) (j:=k) rfl rfl hj hk
 rw[hv2,decide_eq_true hv.symm]
 rfl
theorem qUv (h:WoR x y c E) {k:Nat} (hk:k<c.length):∀xs∈qAy c k,xs.any (qE8 (tdL E c))=true:=by
 obtain⟨n,hn⟩:∃n,c[k]? = some n:=⟨_,List.getElem?_eq_getElem hk⟩
 have hnn:=qBf hn
 have hC:=h.cl
 have hw:=hC.ws n (List.mem_of_getElem? hn)
 unfold qAy
 rw[hnn]
 by_cases h0:n.op=0
 ·rw[if_pos h0]
  intro xs hx
  simp only[List.mem_cons,List.not_mem_nil,or_false] at hx
  subst hx
  rw[zDg,qKo h hk (by rw[hnn];exact hw.s0 h0),qVt h hn h0]
  rfl
 rw[if_neg h0]
 by_cases h2:n.op=2
 ·rw[if_pos h2]
  obtain⟨i,j,ei,ej,hi,hj⟩:=qH1 hC hn (.inl h2)
  obtain⟨s1,s2,s3⟩:=hw.s2 (.inl h2)
  unfold srt at s2 s3
  rw[ei] at s2
  rw[ej] at s3
  rw[ei,ej,Int.toNat_natCast,Int.toNat_natCast]
  have s1':(qAd c k).sort=0:=by rw[hnn];exact s1
  have hv:=zBk h hn h2 ei ej (by omega) (by omega)
  have t1:=qBw h hk s1'
  have t2:=qD9 h hk s1'
  have a1:=qBw h (show i<c.length by omega) s2
  have a2:=qD9 h (show i<c.length by omega) s2
  have b1:=qBw h (show j<c.length by omega) s3
  have b2:=qD9 h (show j<c.length by omega) s3
  intro xs hx
  simp only[List.mem_cons,List.not_mem_nil,or_false] at hx
  rcases h.bit (show i<c.length by omega) s2 with e|e<;>rcases h.bit (show j<c.length by omega) s3 with e'|e'<;>rw[e,e'] at hv<;>rcases hx with rfl|rfl|rfl<;>(first|rw[qVv]|rw[qS8])<;>simp[t1,t2,a1,a2,b1,b2,hv,e,e',wrap64]
 rw[if_neg h2]
 by_cases h3:n.op=3
 ·rw[if_pos h3]
  obtain⟨i,j,ei,ej,hi,hj⟩:=qH1 hC hn (.inr (.inl h3))
  obtain⟨s1,s2,s3⟩:=hw.s2 (.inr (.inl h3))
  unfold srt at s2 s3
  rw[ei] at s2
  rw[ej] at s3
  rw[ei,ej,Int.toNat_natCast,Int.toNat_natCast]
  have s1':(qAd c k).sort=0:=by rw[hnn];exact s1
  have hv:=zDf h hn h3 ei ej (by omega) (by omega)
  have t1:=qBw h hk s1'
  have t2:=qD9 h hk s1'
  have a1:=qBw h (show i<c.length by omega) s2
  have a2:=qD9 h (show i<c.length by omega) s2
  have b1:=qBw h (show j<c.length by omega) s3
  have b2:=qD9 h (show j<c.length by omega) s3
  intro xs hx
  simp only[List.mem_cons,List.not_mem_nil,or_false] at hx
  rcases h.bit (show i<c.length by omega) s2 with e|e<;>rcases h.bit (show j<c.length by omega) s3 with e'|e'<;>rw[e,e'] at hv<;>rcases hx with rfl|rfl|rfl<;>(first|rw[qVv]|rw[qS8])<;>(first|(simp[t1,t2,a1,a2,b1,b2,hv,e,e'];done)|(simp[t1,t2,a1,a2,b1,b2,hv,e,e'];decide))
 rw[if_neg h3]
 by_cases h6:n.op=6
 ·rw[if_pos h6]
  obtain⟨i,j,ei,ej,hi,hj⟩:=qH1 hC hn (.inr (.inr h6))
  obtain⟨s1,s2⟩:=hw.s6 h6
  by_cases hs:srt c n.a0=0
  ·rw[if_pos hs]
   have s3:srt c n.a1=0:=by rw[←s2];exact hs
   unfold srt at hs s3
   rw[ei] at hs
   rw[ej] at s3
   rw[ei,ej,Int.toNat_natCast,Int.toNat_natCast]
   have s1':(qAd c k).sort=0:=by rw[hnn];exact s1
   have hv:=zD1 h hn h6 ei ej (by omega) (by omega)
   have t1:=qBw h hk s1'
   have t2:=qD9 h hk s1'
   have a1:=qBw h (show i<c.length by omega) hs
   have a2:=qD9 h (show i<c.length by omega) hs
   have b1:=qBw h (show j<c.length by omega) s3
   have b2:=qD9 h (show j<c.length by omega) s3
   intro xs hx
   simp only[List.mem_cons,List.not_mem_nil,or_false] at hx
   rcases h.bit (show i<c.length by omega) hs with e|e<;>rcases h.bit (show j<c.length by omega) s3 with e'|e'<;>rw[e,e'] at hv<;>rcases hx with rfl|rfl|rfl|rfl<;>rw[qVv]<;>simp[t1,t2,a1,a2,b1,b2,hv,e,e',qIs]
  ·rw[if_neg hs]
   intro xs hx
   simp at hx
 rw[if_neg h6]
 by_cases h7:n.op=7
 ·rw[if_pos h7]
  obtain⟨i,j,l,ei,ej,el,hi,hj,hl⟩:=qUc hC hn h7
  obtain⟨s1,s2,s3⟩:=hw.s7 h7
  obtain⟨g0,g1,g2⟩:=hC.ite k n hn h7
  have hv:=zBl h hn h7 ei ej el (by omega) (by omega) (by omega)
  unfold srt at s1 s2 s3
  rw[ei] at s1
  have c1:=qBw h (show i<c.length by omega) s1
  have c2:=qD9 h (show i<c.length by omega) s1
  by_cases hs:n.sort=0
  ·rw[if_pos hs]
   rw[hs] at s2 s3
   rw[ej] at s2
   rw[el] at s3
   rw[ei,ej,el,Int.toNat_natCast,Int.toNat_natCast,Int.toNat_natCast]
   have s1':(qAd c k).sort=0:=by rw[hnn];exact hs
   have t1:=qBw h hk s1'
   have t2:=qD9 h hk s1'
   have a1:=qBw h (show j<c.length by omega) s2
   have a2:=qD9 h (show j<c.length by omega) s2
   have b1:=qBw h (show l<c.length by omega) s3
   have b2:=qD9 h (show l<c.length by omega) s3
   intro xs hx
   simp only[List.mem_cons,List.not_mem_nil,or_false] at hx
   rcases h.bit (show i<c.length by omega) s1 with e0|e0<;>rcases h.bit (show j<c.length by omega) s2 with e|e<;>rcases h.bit (show l<c.length by omega) s3 with e'|e'<;>rw[e0,e,e'] at hv<;>rcases hx with rfl|rfl|rfl|rfl<;>rw[qVv]<;>simp[t1,t2,a1,a2,b1,b2,c1,c2,hv,e0,e,e']
  rw[if_neg hs]
  by_cases hs1:n.sort=1
  ·rw[if_pos hs1,ei,ej,el,Int.toNat_natCast]
   obtain⟨f1,f2⟩:=g1 hs1 n.a1 (.inl rfl)
   obtain⟨f3,f4⟩:=g1 hs1 n.a2 (.inr rfl)
   rw[ej] at f1 f2
   rw[el] at f3 f4
   have s1':(qAd c k).sort=1:=by rw[hnn];exact hs1
   intro xs hx
   simp only[List.mem_cons,List.not_mem_nil,or_false] at hx
   rcases h.bit (show i<c.length by omega) s1 with e0|e0
   ·rw[e0,if_neg (by decide)] at hv
    obtain⟨d1,d2⟩:=qNz h hk (show l<c.length by omega) s1' hv
    rcases hx with rfl|rfl|rfl|rfl<;>rw[qS8]
    ·simp[c2,e0]
    ·simp[c2,e0]
    ·rw[d1 f3];simp
    ·rw[d2 f4];simp
   ·rw[e0,if_pos rfl] at hv
    obtain⟨d1,d2⟩:=qNz h hk (show j<c.length by omega) s1' hv
    rcases hx with rfl|rfl|rfl|rfl<;>rw[qS8]
    ·rw[d1 f1];simp
    ·rw[d2 f2];simp
    ·simp[c1,e0]
    ·simp[c1,e0]
  ·rw[if_neg hs1,ei,ej,el,Int.toNat_natCast]
   have f1:=g2 hs hs1 n.a1 (.inl rfl)
   have f2:=g2 hs hs1 n.a2 (.inr rfl)
   rw[ej] at f1
   rw[el] at f2
   intro xs hx
   simp only[List.mem_cons,List.not_mem_nil,or_false] at hx
   rcases h.bit (show i<c.length by omega) s1 with e0|e0
   ·rw[e0,if_neg (by decide)] at hv
    rcases hx with rfl|rfl<;>rw[qS8]
    ·simp[c2,e0]
    ·rw[qRp h hk (by omega) hv f2];simp
   ·rw[e0,if_pos rfl] at hv
    rcases hx with rfl|rfl<;>rw[qS8]
    ·rw[qRp h hk (by omega) hv f1];simp
    ·simp[c1,e0]
 ·rw[if_neg h7]
  intro xs hx
  simp at hx
end
theorem qMu {x:SigV} {y:WorV} {c:List NodeA} (h0:qOi x y c=0) {k:Nat} (hk:k<c.length) (hs:(qAd c k).sort=0):(atV (evK x y c c.length) (k:Int)).1=0∨(atV (evK x y c c.length) (k:Int)).1=1:=by
 have hV:=qLv h0
 cases hq:(atV (evK x y c c.length) (k:Int)).2 with
 | false=>exact Ex.bit (s:=⟨c,0⟩) ⟨[],by simp⟩ hV (i:=(k:Int)) ⟨by omega,by show (k:Int)<(c.length:Int);omega⟩ hs ⟨hq,rfl⟩
 | true =>
  have h:=hV.at_ k (qAd c k) (nodA_get hk)
  rw[h] at hq ⊢
  unfold qCb at hq ⊢
  split
  ·exact .inl rfl
  ·rename_i h1
   rw[if_neg h1] at hq
   split
   ·rename_i h2
    rw[if_pos h2] at hq
    cases hq
   ·exact .inl rfl
theorem qO0 {x:SigV} {y:WorV} {c:List NodeA} (h0:qOi x y c=0):∀z∈tdL (evK x y c c.length) c,0≤z∧z≤2:=fun z hz=>by
 unfold tdL at hz
 obtain⟨k,hk,rfl⟩:=List.mem_map.1 hz
 unfold tdV
 split
 ·rename_i hs
  rcases qMu h0 (List.mem_range.1 hk) hs with e|e<;>rw[e]<;>decide
 ·decide
end Go.Proofs.YtfgpimhdjlmapaaGreatDoor.Tm
