/- Core tables: what is so of one; each image keeps it. -/
import Derived.Deep.AppendLies
import Derived.Deep.RegionLaw
import Derived.Laws.CopyOwn
import Derived.WalkSmall
import Derived.Deep.LoopGhost
import Derived.Laws.MakeOwn
import Derived.Laws.EntriesVeiled
import Derived.ScopeJumps
import Derived.WalkMore
import Derived.Maps.Ext
import Derived.Carry
import Derived.Test.YtfgpimhdjlmapaaGreatDoorCpT
import Derived.Test.YtfgpimhdjlmapaaGreatDoorTmJ
import Derived.Test.YtfgpimhdjlmapaaGreatDoorTyC
import Derived.BigQuiet
import Derived.Deep.RegionHeld3
import Derived.DeepKeys4
import Derived.WalkArith
import Derived.Maps.OwnSet
import Derived.Maps.OwnIn
import Derived.Maps.AppendAt
import Derived.Deep.CutRange
import Derived.Laws.Cover3
import Derived.Laws.Append
import Derived.Test.YtfgpimhdjlmapaaGreatDoorTmA
namespace Go.Proofs.YtfgpimhdjlmapaaGreatDoor.Tm
open Go.RowKit
set_option linter.unusedVariables false
theorem qSh (w:World):Calls Tryz.prog 16 #[] w fun e w'=>e=.returned (.agg #[.slice (some ⟨w.heap.size+1,0,none⟩) 2 2])∧w'.heap[w.heap.size+1]? = some (.cells qMx 54 (0,0))∧Below w.heap.size w w':=by
 go_enter Tryz.func16,Tryz.ntmps16
 go_wp2
 have hb:=heap_alloc_new (w.alloc (.cells #[.slice (some ⟨w.heap.size+1,0,none⟩) 2 2] 33)) (.cells qMx 54)
 refine bodyPost_ret (v:=.agg #[.slice (some ⟨w.heap.size+1,0,none⟩) 2 2]) (by simp[results,Tryz.results16,go_sem]) rfl ⟨rfl,?_,?_⟩
 ·rw[World.size_alloc] at hb
  exact hb
 ·exact((Below.refl _ w).alloc (Nat.le_refl _) _).alloc (by simp) _
theorem qWi {w:World} {base g:Nat} (h:w.heap[g]? = some (.cells qMx 54 (0,0))) (hb:base≤g):w.ownsRow base 54 8 (.slice (some ⟨g,0,none⟩) 2 2) 2 qMx.toList:=⟨rfl,.inr ⟨g,2,qMx,rfl,hb,h,Nat.le_refl _,by decide,rfl,rfl⟩⟩
structure CoW (w:World) (l:List NodeA) (a:Option Addr) (c x y:Nat) (b:Option Addr) (d:Nat):Prop where
 tab:TabR w l a c
 row:IntsR w [(x:Int)] b d
 len:l.length=6
 x6:x<6
 op:(qAd l x).op=3
 a0:(qAd l x).a0=(y:Int)
 y6:y<6
 op0:(qAd l y).op=1
 is_:isB l=true
theorem qSi (A:World) (o1 o2:Obj):((A.alloc o1).alloc o2).heap[A.heap.size]? = some o1:=(Below.heap_alloc _ _ _ (by simp)).trans (heap_alloc_new A o1)
theorem mayT_zero {l:List NodeA} (h:qBu l=true):l[1]? = some qD5:=by
 have h1:=(mayT_ok h).1
 have:(l.take 2)[1]? = some qD5:=by rw[h1];rfl
 rwa [List.getElem?_take,if_pos (by decide)] at this
theorem qWj {w W0:World} {v:Value} {T:TypeId} (hW0:W0=w.alloc (.cells #[v] T)):Below w.heap.size w W0∧(∀V,Below W0.heap.size W0 V→V.cell? ⟨w.heap.size,0,none⟩=some v∧w.heap.size<V.heap.size):=by
 have hX0:W0.heap[w.heap.size]? = some (.cells #[v] T (0,0)):=by rw[hW0];exact heap_alloc_new w _
 refine⟨by rw[hW0];exact(Below.refl _ w).alloc (Nat.le_refl _) _,fun V hV=>?_⟩
 have e0:=(hV.block _ (Array.getElem?_eq_some_iff.1 hX0).1).trans hX0
 exact⟨(cell_of_row _ _ 0 _ _ _ e0).trans rfl,(Array.getElem?_eq_some_iff.1 e0).1⟩
theorem qA5 {w w1 w2:World} (h:Below w.heap.size w w1) (k:Below w1.heap.size w1 w2):Below w.heap.size w w2:=h.trans (k.mono h.size)
theorem qWk {l:List NodeA} (h:qB1 [] l=true) {i j:Nat} {x:NodeA} (hi:l[i]? = some x) (hj:l[j]? = some x):i=j:=by
 rcases Nat.lt_trichotomy i j with h1|h1|h1
 ·exact absurd hi ((ok_at h hj).2 i h1)
 ·exact h1
 ·exact absurd hj ((ok_at h hi).2 j h1)
theorem MkI.once {s:MkS} (h:MkI s) {a b:Int} (ha:PlA s a) (hb:PlA s b) (e:qAd s.l a=qAd s.l b):a=b:=by
 obtain⟨i,rfl,hi⟩:=ha.nat
 obtain⟨j,rfl,hj⟩:=hb.nat
 have h1:=nodA_get hi
 have h2:=nodA_get hj
 rw[←e] at h2
 rw[qWk (mayT_ok h.may).2 h1 h2]
theorem qCh {n:NodeA} {k:Nat} (h:standsB n k=true) (hk:k≤2000):NodeOk n:=by
 unfold standsB at h
 rw[decide_eq_true_eq] at h
 obtain⟨⟨o1,o2,o3⟩,⟨s1,s2⟩,a0,a1,a2⟩:=h
 have hl:0≤n.len∧n.len≤3∧(0≤n.fn∧n.fn<12)∧qAn n.num=true:=by
  split at o3
  ·exact⟨o3.1,o3.2.1,⟨o3.2.2.1,o3.2.2.2.1⟩,by rw[o3.2.2.2.2];rfl⟩
  ·rename_i h13
   have ha:0≤arityA n.op∧arityA n.op≤3:=by
    have hr:n.op=0∨n.op=1∨n.op=2∨n.op=3∨n.op=4∨n.op=5∨n.op=6∨n.op=7∨n.op=8∨n.op=9∨n.op=10∨n.op=11∨n.op=12:=by omega
    rcases hr with h|h|h|h|h|h|h|h|h|h|h|h|h<;>rw[h]<;>decide
   split at o3
   ·exact⟨by omega,by omega,by rw[o3.2.1];decide,o3.2.2⟩
   ·exact⟨by omega,by omega,by rw[o3.2.1];decide,by rw[o3.2.2];rfl⟩
 have arg:∀(x:Int) (i:Nat),qBr n.len x i k→I64 x:=fun x i h=>by
  by_cases hi:(i:Int)<n.len
  ·have:=h.1 hi;exact⟨by omega,by omega⟩
  ·rw[h.2 (by omega)];exact z64
 exact⟨⟨by omega,by omega⟩,⟨by omega,by omega⟩,arg _ 0 a0,arg _ 1 a1,arg _ 2 a2,⟨by omega,by omega⟩,⟨by omega,by omega⟩,qLw hl.2.2.2⟩
structure Cl (c:List NodeA):Prop where
 may:qBu c=true
 len:c.length≤2000
 qo:QO c
 ws:WS c
 no4:∀n∈c,¬n.op=4∧¬n.op=5∧¬n.op=8∧¬n.op=9
 nn:∀n∈c,n.op=1→¬(qAd c n.a0).op=1
 eq:∀n∈c,n.op=6→¬srt c n.a0=1∧(¬srt c n.a0=0→n.a0<n.a1)
 ite:∀(k:Nat) (n:NodeA),c[k]? = some n→n.op=7→¬n.a1=n.a2 ∧
  (n.sort=1→∀i,i=n.a1∨i=n.a2→qAk 12 k (qA0 c i).1 (qA0 c i).2∈c∧qAk 12 (qA0 c i).1 k (-(qA0 c i).2)∈c) ∧
  (¬n.sort=0→¬n.sort=1→∀i,i=n.a1∨i=n.a2→qAk 6 i k 0∈c)
theorem Cl.st {c:List NodeA} (h:Cl c) {k:Nat} {n:NodeA} (hk:c[k]? = some n):standsB n k=true:=(ok_at (mayT_ok h.may).2 hk).1
theorem Cl.fits {c:List NodeA} (h:Cl c) {k:Nat} {n:NodeA} (hk:c[k]? = some n):qH2 n k:=by
 have:=h.st hk
 unfold standsB at this
 exact of_decide_eq_true this
theorem qPu {a b:MkS} {i:Int} (h:PlA a i) (k:Pre a b):qAd b.l i=qAd a.l i:=by
 obtain⟨r,hr⟩:=k.pre
 rw[hr];exact qEt r h.1 h.2
theorem Cl.zero {c:List NodeA} (h:Cl c):qAd c 1=qD5:=by
 have h1:=mayT_zero h.may
 have h2:=qE3 h.may
 exact Option.some.inj ((nodA_get (l:=c) (k:=1) (by omega)).symm.trans h1)
theorem Cl.arg {c:List NodeA} (h:Cl c) {k:Nat} (hk:k<c.length) {j:Nat} (hj:(j:Int)<(qAd c k).len):∃m:Nat,qBc (qAd c k) j=(m:Int)∧m<k:=by
 obtain⟨_,_,ha⟩:=stands_args (h.st (nodA_get hk))
 have:=ha j hj
 exact⟨(qBc (qAd c k) j).toNat,by omega,by omega⟩
def qPv (l:List NodeA) (k:Int) (n:NodeA):Prop:=¬n.a1=n.a2 ∧
  (n.sort=1→∀i,i=n.a1∨i=n.a2→qAk 12 k (qA0 l i).1 (qA0 l i).2∈l∧qAk 12 (qA0 l i).1 k (-(qA0 l i).2)∈l) ∧
  (¬n.sort=0→¬n.sort=1→∀i,i=n.a1∨i=n.a2→qAk 6 i k 0∈l)
structure okC (l:List NodeA) (k:Int) (n:NodeA):Prop where
 no4:¬n.op=4∧¬n.op=5∧¬n.op=8∧¬n.op=9
 nn:n.op=1→¬(qAd l n.a0).op=1
 eq:n.op=6→¬srt l n.a0=1∧(¬srt l n.a0=0→n.a0<n.a1)
 ite:n.op=7→qPv l k n
theorem qFx {l:List NodeA} {k:Int} {n:NodeA} (h4:¬n.op=4) (h5:¬n.op=5) (h8:¬n.op=8) (h9:¬n.op=9) (h1:¬n.op=1) (h6:¬n.op=6) (h7:¬n.op=7):okC l k n :=
 ⟨⟨h4,h5,h8,h9⟩,fun e=>absurd e h1,fun e=>absurd e h6,fun e=>absurd e h7⟩
theorem qHw {l:List NodeA} (r:List NodeA) {i:Int} (h0:0≤i) (h:i<(l.length:Int)):qA0 (l++r) i=qA0 l i:=by unfold qA0;rw[qEt r h0 h]
theorem qPv.up {l:List NodeA} (r:List NodeA) {k:Int} {n:NodeA} (h:qPv l k n) (h1:0≤n.a1∧n.a1<(l.length:Int)) (h2:0≤n.a2∧n.a2<(l.length:Int)):qPv (l++r) k n:=by
 have hs:∀i,i=n.a1∨i=n.a2→qA0 (l++r) i=qA0 l i:=fun i hi=>by
  rcases hi with rfl|rfl
  ·exact qHw r h1.1 h1.2
  ·exact qHw r h2.1 h2.2
 exact⟨h.1,fun e i hi=>by rw[hs i hi];exact⟨List.mem_append_left _ (h.2.1 e i hi).1,List.mem_append_left _ (h.2.1 e i hi).2⟩,fun e e' i hi=>List.mem_append_left _ (h.2.2 e e' i hi)⟩
theorem okC.up {l:List NodeA} (r:List NodeA) {k:Int} {q:Nat} {n:NodeA} (h:okC l k n) (hst:standsB n q=true) (hq:q≤l.length):okC (l++r) k n:=by
 obtain⟨_,hl,ha⟩:=stands_args hst
 have lens:∀o,n.op=o→¬o=13→n.len=arityA o:=fun o e h13=>by
  rcases hl with h|h
  ·omega
  ·rw[h,e]
 have pl:∀j:Nat,(j:Int)<n.len→0≤qBc n j∧qBc n j<(l.length:Int):=fun j hj=>⟨(ha j hj).1,by have:=(ha j hj).2;omega⟩
 refine⟨h.no4,fun e=>?_,fun e=>?_,fun e=>?_⟩
 ·have p:=pl 0 (by rw[lens 1 e (by decide)];decide)
  have p:0≤n.a0∧n.a0<(l.length:Int):=p
  rw[qEt r p.1 p.2];exact h.nn e
 ·have p:=pl 0 (by rw[lens 6 e (by decide)];decide)
  have p:0≤n.a0∧n.a0<(l.length:Int):=p
  rw[qM1 r p.1 p.2];exact h.eq e
 ·exact(h.ite e).up r (pl 1 (by rw[lens 7 e (by decide)];decide)) (pl 2 (by rw[lens 7 e (by decide)];decide))
def CCx (p:Int) (l:List NodeA):Prop:=∀(k:Nat) (n:NodeA),l[k]? = some n→¬(k:Int)=p→okC l k n
theorem qFe {p:Int} {most:Int} {s:MkS} {n:NodeA} (h:MkI s) (hC:CCx p s.l) (hs:s.e=0→standsB n s.l.length=true) (hn:s.e=0→okC s.l s.l.length n∨(s.l.length:Int)=p):CCx p (qAq most s n).1.l:=by
 unfold qAq
 by_cases he:s.e=0
 ·rw[if_neg (fun h=>h he)]
  by_cases hi:n∈s.l
  ·rw[if_pos hi];exact hC
  ·rw[if_neg hi]
   by_cases hl:most≤(s.l.length:Int)
   ·rw[if_pos hl];exact hC
   ·rw[if_neg hl]
    intro k x hx hk
    rcases Nat.lt_trichotomy k s.l.length with h1|h1|h1
    ·rw[List.getElem?_append_left h1] at hx
     exact(hC k x hx hk).up [n] (ok_at (mayT_ok h.may).2 hx).1 (Nat.le_of_lt h1)
    ·subst h1
     rw[List.getElem?_append_right (Nat.le_refl _),Nat.sub_self] at hx
     obtain rfl:n=x:=by simpa using hx
     exact((hn he).resolve_right hk).up [n] (hs he) (Nat.le_refl _)
    ·have:=(List.getElem?_eq_some_iff.1 hx).1
     simp at this
     omega
 ·rw[if_pos he];exact hC
theorem qVc {p:Int} {most:Int} {s:MkS} {n:NodeA} (h:MkI s) (hC:CCx p s.l) (ho:n.op=1) (hs:s.e=0→standsB n s.l.length=true):CCx p (qIu most s n).1.l:=by
 unfold qIu
 split
 ·exact hC
 ·rename_i hne
  exact qFe h hC hs (fun _=>.inl ⟨by omega,fun _=>hne,fun e=>by omega,fun e=>by omega⟩)
theorem qPw {p:Int} {most:Int} {s:MkS} {i:Int} (h:MkI s) (hC:CCx p s.l) (hi:PlA s i):CCx p (qDg most s i).1.l:=qVc h hC rfl (fun _=>qJ7 rfl hi)
theorem qM2 {l:List NodeA} {k op a b d:Int} (ho:op=2∨op=3∨op=12):okC l k (qAk op a b d):=by
 have e:(qAk op a b d).op=op:=rfl
 exact qFx (by omega) (by omega) (by omega) (by omega) (by omega) (by omega) (by omega)
theorem zA9 {p:Int} {most:Int} {s:MkS} {n:NodeA} (h:MkI s) (hm:most≤2000) (hC:CCx p s.l) (ha:PlA s n.a0) (hb:PlA s n.a1):CCx p (qPf most s n).1.l:=by
 have h1:=qDt (most:=most) h hm ha
 exact qFe h1.inv (qPw h hC ha) (fun _=>qBm (.inl ⟨by decide,rfl⟩) h1.pl (hb.up h1.pre)) (fun _=>.inl (qM2 (by omega)))
theorem qM3 {p:Int} {most:Int} {s:MkS} (h:MkI s) (hm:most≤2000) (hC:CCx p s.l) {a b:Int} (ha:PlA s a) (hb:PlA s b) (c:Int):CCx p (leM most s a b c).1.l:=by
 have hp:=qFt s a b c
 have hi:=qFu h a b c
 have hd:=qN0 s a b c
 have px:=(qB2 h ha).up hp
 have py:=(qB2 h hb).up hp
 have hCd:CCx p (qBd s a b c).1.l:=by rw[hd];exact hC
 unfold leM
 split
 ·exact qFe hi hCd (fun he=>qBm (.inr ⟨rfl,(qHt he).2.1⟩) px py) (fun _=>.inl (qM2 (by omega)))
 ·split
  ·exact hCd
  ·exact qPw hi hCd (PlA.zero hi)
theorem zAa {p:Int} {most:Int} {s:MkS} (h:MkI s) (hm:most≤2000) (hC:CCx p s.l) {a b:Int} (ha:PlA s a) (hb:PlA s b):CCx p (eqI most s a b).1.l:=by
 have h1:=qBs h hm ha hb 0
 have h2:=qBs h1.inv hm (hb.up h1.pre) (ha.up h1.pre) 0
 exact qFe h2.inv (qM3 h1.inv hm (qM3 h hm hC ha hb 0) (hb.up h1.pre) (ha.up h1.pre) 0) (fun _=>qBm (.inl ⟨by decide,rfl⟩) (h1.pl.up h2.pre) h2.pl) (fun _=>.inl (qM2 (by omega)))
theorem zAb {p:Int} {most:Int} {s:MkS} {n:NodeA} (h:MkI s) (hm:most≤2000) (hC:CCx p s.l) (ho:n.op=6) (ha:PlA s n.a0) (hb:PlA s n.a1) (hs:s.e=0→standsB n s.l.length=true) (hsr:s.e=0→srt s.l n.a0=srt s.l n.a1):CCx p (eqM most s n).1.l:=by
 unfold eqM
 split
 ·rename_i z
  have z:srt s.l n.a0=0:=z
  exact qFe h hC hs (fun _=>.inl ⟨by omega,fun e=>by omega,fun _=>⟨by omega,fun hz=>absurd z hz⟩,fun e=>by omega⟩)
 ·rename_i z
  have z:¬srt s.l n.a0=0:=z
  split
  ·exact zAa h hm hC ha hb
  ·rename_i z1
   have z1:¬srt s.l n.a0=1:=z1
   split
   ·exact hC
   ·rename_i hab
    have hmn:PlA s (min n.a0 n.a1):=by rcases Int.le_total n.a0 n.a1 with hh|hh<;>simp only[Int.min_eq_left,Int.min_eq_right,hh]<;>assumption
    have hmx:PlA s (max n.a0 n.a1):=by rcases Int.le_total n.a0 n.a1 with hh|hh<;>simp only[Int.max_eq_left,Int.max_eq_right,hh]<;>assumption
    refine qFe h hC (fun _=>qBm (.inl ⟨by decide,rfl⟩) hmn hmx) (fun he=>.inl ⟨by show ¬(6:Int)=4∧¬(6:Int)=5∧¬(6:Int)=8∧¬(6:Int)=9;decide,fun e=>absurd e (by show ¬(6:Int)=1;decide),fun _=>?_,fun e=>absurd e (by show ¬(6:Int)=7;decide)⟩)
    have hsm:srt s.l (min n.a0 n.a1)=srt s.l n.a0:=by
     rcases Int.le_total n.a0 n.a1 with hh|hh
     ·rw[Int.min_eq_left hh]
     ·rw[Int.min_eq_right hh];exact(hsr he).symm
    refine⟨?_,fun _=>?_⟩
    ·show ¬srt s.l (min n.a0 n.a1)=1
     rw[hsm];exact z1
    ·show min n.a0 n.a1<max n.a0 n.a1
     omega
theorem qVd {p:Int} {most:Int} {s:MkS} {a b:Int} (h:MkI s) (hm:most≤2000) (hC:CCx p s.l) (ha:PlA s a) (hb:PlA s b) (hsr:s.e=0→srt s.l a=srt s.l b):CCx p (eqM most s (qAk 6 a b 0)).1.l :=
 zAb h hm hC rfl ha hb (fun _=>qBm (.inl ⟨by decide,rfl⟩) ha hb) hsr
theorem zAc {p:Int} {most:Int} {s:MkS} {n:NodeA} (h:MkI s) (hm:most≤2000) (hC:CCx p s.l) (ha:PlA s n.a0) (hb:PlA s n.a1) (hsr:s.e=0→srt s.l n.a0=srt s.l n.a1):CCx p (qS2 most s n).1.l:=by
 have h1:=qGp (a:=n.a0) (b:=n.a1) h hm ha hb
 exact qPw h1.inv (qVd h hm hC ha hb hsr) h1.pl
theorem qVe {p:Int} {most:Int} {s:MkS} {it i:Int} (h:MkI s) (hm:most≤2000) (hC:CCx p s.l) (ha:PlA s it) (hb:PlA s i) (sort:Int) (hsr:s.e=0→srt s.l it=srt s.l i):CCx p (qCp most s sort it i).l:=by
 unfold qCp
 split
 ·exact hC
 ·split
  ·have h1:=qBs h hm ha hb 0
   exact qM3 h1.inv hm (qM3 h hm hC ha hb 0) (hb.up h1.pre) (ha.up h1.pre) 0
  ·exact qVd h hm hC ha hb hsr
theorem qM4 {most:Int} {s:MkS} {n:NodeA} (he:(qAq most s n).1.e=0):n∈(qAq most s n).1.l∧qAd (qAq most s n).1.l (qAq most s n).2=n:=by
 unfold qAq at he ⊢
 by_cases h0:s.e=0
 ·rw[if_neg (fun h=>h h0)] at he ⊢
  by_cases hi:n∈s.l
  ·rw[if_pos hi]
   exact⟨hi,Option.some.inj ((nodA_get (qCn.1 hi)).symm.trans (qBk hi))⟩
  ·rw[if_neg hi] at he ⊢
   by_cases hl:most≤(s.l.length:Int)
   ·rw[if_pos hl] at he;exact absurd he (show ¬(40:Int)=0 by decide)
   ·rw[if_neg hl]
    have h1:(s.l++[n])[s.l.length]? = some n:=by rw[List.getElem?_append_right (Nat.le_refl _),Nat.sub_self];rfl
    exact⟨List.mem_append_right _ (List.mem_singleton.2 rfl),Option.some.inj ((nodA_get (l:=s.l++[n]) (k:=s.l.length) (by simp)).symm.trans h1)⟩
 ·rw[if_pos h0] at he;exact absurd he h0
theorem qVf {most:Int} {s:MkS} {a b c:Int} (h:MkI s) (hm:most≤2000) (ha:PlA s a) (hb:PlA s b) (he:(leM most s a b c).1.e=0) (hne:¬(qA0 s.l a).1=(qA0 s.l b).1):qAk 12 (qA0 s.l a).1 (qA0 s.l b).1 (c-(qA0 s.l a).2+(qA0 s.l b).2)∈(leM most s a b c).1.l:=by
 have hp:=qFt s a b c
 unfold leM at he ⊢
 rw[if_pos hne] at he ⊢
 have hd:(qBd s a b c).1.e=0:=(qB8 (most:=most) (n:=qAk 12 (qA0 s.l a).1 (qA0 s.l b).1 (qBd s a b c).2) (qFu h a b c) hm (qH4 (qCi (by decide)) ((qB2 h ha).i64 h.len) ((qB2 h hb).i64 h.len) (qN1 s a b c)) (fun e=>qBm (.inr ⟨rfl,(qHt e).2.1⟩) ((qB2 h ha).up hp) ((qB2 h hb).up hp))).pre.e he
 have:=(qM4 he).1
 rw[(qHt hd).2.2] at this ⊢
 exact this
theorem Pre.mem {a b:MkS} (h:Pre a b) {n:NodeA} (hn:n∈a.l):n∈b.l:=by
 obtain⟨r,hr⟩:=h.pre
 rw[hr];exact List.mem_append_left _ hn
theorem qDv {a b:MkS} {i:Int} (h:PlA a i) (k:Pre a b):qA0 b.l i=qA0 a.l i:=by
 obtain⟨r,hr⟩:=k.pre
 rw[hr];exact qHw r h.1 h.2
theorem qPx {most:Int} {s:MkS} {it i sort:Int} (h:MkI s) (hm:most≤2000) (ha:PlA s it) (hb:PlA s i) (he:(qCp most s sort it i).e=0) (hs:qA0 s.l it=(it,0)) (hne:¬(qA0 s.l i).1=it) (hlt:i<it) (hsi:srt s.l it=sort) :
  (sort=1→qAk 12 it (qA0 s.l i).1 (qA0 s.l i).2∈(qCp most s sort it i).l∧qAk 12 (qA0 s.l i).1 it (-(qA0 s.l i).2)∈(qCp most s sort it i).l)∧(¬sort=0→¬sort=1→qAk 6 i it 0∈(qCp most s sort it i).l):=by
 unfold qCp at he ⊢
 by_cases s0:sort=0
 ·exact⟨fun e=>by omega,fun e=>absurd s0 e⟩
 rw[if_neg s0] at he ⊢
 by_cases s1:sort=1
 ·rw[if_pos s1] at he ⊢
  refine⟨fun _=>?_,fun _ e=>absurd s1 e⟩
  have o1:=qBs h hm ha hb 0
  have o2:=qBs o1.inv hm (hb.up o1.pre) (ha.up o1.pre) 0
  have x1:=qDv hb o1.pre
  have x2:=qDv ha o1.pre
  have m1:=qVf h hm ha hb (o2.pre.e he) (by rw[hs];exact fun e=>hne e.symm)
  have m2:=qVf o1.inv hm (hb.up o1.pre) (ha.up o1.pre) he (by rw[x1,x2,hs];exact hne)
  rw[hs] at m1
  rw[x1,x2,hs] at m2
  have e1:(0:Int)-(it,(0:Int)).2+(qA0 s.l i).2=(qA0 s.l i).2:=by show (0:Int)-0+_=_;omega
  have e2:(0:Int)-(qA0 s.l i).2+(it,(0:Int)).2=-(qA0 s.l i).2:=by show (0:Int)-_+0=_;omega
  rw[e1] at m1
  rw[e2] at m2
  exact⟨o2.pre.mem m1,m2⟩
 ·rw[if_neg s1] at he ⊢
  refine⟨fun e=>absurd e s1,fun _ _=>?_⟩
  unfold eqM at he ⊢
  have e0:(qAd s.l (qAk 6 it i 0).a0).sort=sort:=hsi
  have hmm:qAk 6 (min (qAk 6 it i 0).a0 (qAk 6 it i 0).a1) (max (qAk 6 it i 0).a0 (qAk 6 it i 0).a1) 0=qAk 6 i it 0:=by
   show qAk 6 (min it i) (max it i) 0=_
   rw[Int.min_eq_right (by omega),Int.max_eq_left (by omega)]
  have hii:¬(qAk 6 it i 0).a0=(qAk 6 it i 0).a1:=by show ¬it=i;omega
  rw[e0,if_neg s0,if_neg s1,if_neg hii,hmm] at he ⊢
  exact(qM4 he).1
theorem qWl {s:MkS} (h:MkI s) {k b:Nat} (hk:k<s.l.length) (hb:b<k) (ho:(qAd s.l k).op=7):¬(qA0 s.l b).1=(k:Int):=by
 unfold qA0
 split
 ·intro e
  have e:(1:Int)=(k:Int):=e
  have:k=1:=by omega
  subst this
  have hz:=qM0 h
  have:(qAd s.l 1).op=7:=ho
  rw[hz] at this
  exact absurd this (by decide)
 ·split
  ·rename_i h11
   have:=qCw (h.stands (k:=b) (by omega)) (.inr h11)
   intro e
   have e:(qAd s.l b).a0=(k:Int):=e
   omega
  ·intro e
   have e:(b:Int)=(k:Int):=e
   omega
theorem qO5 {most:Int} {s:MkS} {n:NodeA} (h:MkI s) (hC:CCx (-1) s.l) (hs:s.e=0→standsB n s.l.length=true):CCx (qAq most s n).2 (qAq most s n).1.l:=by
 have weak:∀p,CCx p s.l:=fun p k x hx _=>hC k x hx (by omega)
 by_cases hl:(qAq most s n).2=(s.l.length:Int)
 ·rw[hl];exact qFe h (weak _) hs (fun _=>.inr rfl)
 ·have e:(qAq most s n).1.l=s.l:=by
   unfold qAq at hl ⊢
   by_cases he:s.e=0
   ·rw[if_neg (fun h=>h he)] at hl ⊢
    by_cases hi:n∈s.l
    ·rw[if_pos hi]
    ·rw[if_neg hi] at hl ⊢
     by_cases hm:most≤(s.l.length:Int)
     ·rw[if_pos hm]
     ·rw[if_neg hm] at hl;exact absurd rfl hl
   ·rw[if_pos he]
  rw[e];exact weak _
theorem zAd {most:Int} {s:MkS} {n:NodeA} (h:MkI s) (hm:most≤2000) (hC:CCx (-1) s.l) (hn:NodeOk n) (ho:n.op=7) (hb:PlA s n.a1) (hc:PlA s n.a2) (hs:s.e=0→standsB n s.l.length=true) (hw:WsN s.l n) (he:(qIv most s n).1.e=0):CCx (-1) (qIv most s n).1.l:=by
 obtain⟨_,w1,w2⟩:=hw.s7 ho
 unfold qIv at he ⊢
 by_cases h12:n.a1=n.a2
 ·rw[if_pos h12];exact hC
 rw[if_neg h12] at he ⊢
 have o1:=qB8 (most:=most) h hm hn hs
 have c1:=qO5 (most:=most) h hC hs
 have pm:(qAq most s n).1.e=0→n∈(qAq most s n).1.l∧qAd (qAq most s n).1.l (qAq most s n).2=n:=qM4
 generalize qAq most s n=P at he o1 c1 pm ⊢
 have hb1:=hb.up o1.pre
 have hc1:=hc.up o1.pre
 have o2:=qDa o1.inv hm o1.pl hb1 n.sort
 have o3:=qDa o2.2 hm (o1.pl.up o2.1) (hc1.up o2.1) n.sort
 have he3:(qCp most (qCp most P.1 n.sort P.2 n.a1) n.sort P.2 n.a2).e=0:=he
 have he2:=o3.1.e he3
 have he1:=o2.1.e he2
 have hnod:=(pm he1).2
 have sp:srt P.1.l P.2=n.sort:=by unfold srt;rw[hnod]
 have s1:srt P.1.l n.a1=n.sort:=(qBa hb o1.pre).trans w1
 have s2:srt P.1.l n.a2=n.sort:=(qBa hc o1.pre).trans w2
 have c2:=qVe o1.inv hm c1 o1.pl hb1 n.sort (fun _=>by rw[sp,s1])
 have sp2:srt (qCp most P.1 n.sort P.2 n.a1).l P.2=n.sort:=(qBa o1.pl o2.1).trans sp
 have s22:srt (qCp most P.1 n.sort P.2 n.a1).l n.a2=n.sort:=(qBa hc1 o2.1).trans s2
 have c3:=qVe o2.2 hm c2 (o1.pl.up o2.1) (hc1.up o2.1) n.sort (fun _=>by rw[sp2,s22])
 -- the ite itself
 obtain⟨p,hp,hpl⟩:=o1.pl.nat
 have hst:standsB n p=true:=by
  have:=o1.inv.stands hpl
  rw[←hp,hnod] at this;exact this
 obtain⟨_,hl,ha⟩:=stands_args hst
 have hlen:n.len=3:=by
  rcases hl with h|h
  ·omega
  ·rw[h,ho];decide
 have a1:0≤n.a1∧n.a1<(p:Int):=ha 1 (by omega)
 have a2:0≤n.a2∧n.a2<(p:Int):=ha 2 (by omega)
 have op7:(qAd P.1.l p).op=7:=by rw[←hp,hnod];exact ho
 have spl:qA0 P.1.l P.2=(P.2,0):=by
  unfold qA0
  rw[hnod,ho,if_neg (by decide),if_neg (by decide)]
 have bne:∀i,0≤i→i<(p:Int)→¬(qA0 P.1.l i).1=P.2:=fun i h0 h1=>by
  obtain⟨b,rfl⟩:∃b:Nat,i=(b:Int):=⟨i.toNat,by omega⟩
  rw[hp]
  exact qWl o1.inv hpl (by omega) op7
 obtain⟨m1,m2⟩:=qPx o1.inv hm o1.pl hb1 he2 spl (bne _ a1.1 a1.2) (by rw[hp];exact a1.2) sp
 have spl2:qA0 (qCp most P.1 n.sort P.2 n.a1).l P.2=(P.2,0):=(qDv o1.pl o2.1).trans spl
 have e2:qA0 (qCp most P.1 n.sort P.2 n.a1).l n.a2=qA0 P.1.l n.a2:=qDv hc1 o2.1
 obtain⟨m3,m4⟩:=qPx o2.2 hm (o1.pl.up o2.1) (hc1.up o2.1) he3 spl2 (by rw[e2];exact bne _ a2.1 a2.2) (by rw[hp];exact a2.2) sp2
 rw[e2] at m3
 have f1:qA0 (qCp most (qCp most P.1 n.sort P.2 n.a1) n.sort P.2 n.a2).l n.a1=qA0 P.1.l n.a1:=(qDv (hb1.up o2.1) o3.1).trans (qDv hb1 o2.1)
 have f2:qA0 (qCp most (qCp most P.1 n.sort P.2 n.a1) n.sort P.2 n.a2).l n.a2=qA0 P.1.l n.a2:=(qDv (hc1.up o2.1) o3.1).trans e2
 have hok:qPv (qCp most (qCp most P.1 n.sort P.2 n.a1) n.sort P.2 n.a2).l P.2 n:=by
  refine⟨h12,fun hs i hi=>?_,fun hs hs' i hi=>?_⟩
  ·rcases hi with rfl|rfl
   ·rw[f1];exact⟨o3.1.mem (m1 hs).1,o3.1.mem (m1 hs).2⟩
   ·rw[f2];exact m3 hs
  ·rcases hi with rfl|rfl
   ·exact o3.1.mem (m2 hs hs')
   ·exact m4 hs hs'
 intro k x hx _
 by_cases hk:(k:Int)=P.2
 ·have hxn:x=n:=by
   have h1:=nodA_get (List.getElem?_eq_some_iff.1 hx).1
   have h2:=Option.some.inj (hx.symm.trans h1)
   rw[h2,hk]
   exact(qPu (o1.pl.up o2.1) o3.1).trans ((qPu o1.pl o2.1).trans hnod)
  rw[hxn,hk]
  exact⟨by omega,fun e=>by omega,fun e=>by omega,fun _=>hok⟩
 ·exact c3 k x hx hk
theorem zAe {most:Int} {s:MkS} {n:NodeA} (h:MkI s) (hm:most≤2000) (hC:CCx (-1) s.l) (ho:n.op=11) (ha:PlA s n.a0) (hs:s.e=0→standsB n s.l.length=true):CCx (-1) (qIw most s n).1.l:=by
 have hp:=qGn s (qC6 (qA0 s.l n.a0).2 n.num) (qC4 (qA0 s.l n.a0).2 n.num)
 have hi:=qGo h (n:=qC6 (qA0 s.l n.a0).2 n.num) (qKs (qA0 s.l n.a0).2 n.num)
 have hl:=qO4 s (qC6 (qA0 s.l n.a0).2 n.num) (qC4 (qA0 s.l n.a0).2 n.num)
 have hk:(qDr s (qC6 (qA0 s.l n.a0).2 n.num) (qC4 (qA0 s.l n.a0).2 n.num)).1.e=0→s.e=0∧qAn (qDr s (qC6 (qA0 s.l n.a0).2 n.num) (qC4 (qA0 s.l n.a0).2 n.num)).2=true:=fun he=>by
  obtain⟨h1,h2,h3⟩:=qJ6 he
  obtain⟨_,_,h4,h5⟩:=qKt h1
  exact⟨h2,by rw[h3,h5];exact h4⟩
 have px:=qB2 h ha
 unfold qIw
 generalize qDr s (qC6 (qA0 s.l n.a0).2 n.num) (qC4 (qA0 s.l n.a0).2 n.num)=k at *
 simp only
 have hCk:CCx (-1) k.1.l:=by rw[hl];exact hC
 split
 ·exact hCk
 ·split
  ·exact qFe hi hCk (fun he=>qHu (hk he).2) (fun _=>.inl (qFx (by show ¬(10:Int)=4;decide) (by show ¬(10:Int)=5;decide) (by show ¬(10:Int)=8;decide) (by show ¬(10:Int)=9;decide) (by show ¬(10:Int)=1;decide) (by show ¬(10:Int)=6;decide) (by show ¬(10:Int)=7;decide)))
  ·exact qFe hi hCk (fun he=>qEq (by rw[hl];exact hs (hk he).1) ho (px.up hp) (hk he).2) (fun _=>.inl (qFx (by show ¬n.op=4;omega) (by show ¬n.op=5;omega) (by show ¬n.op=8;omega) (by show ¬n.op=9;omega) (by show ¬n.op=1;omega) (by show ¬n.op=6;omega) (by show ¬n.op=7;omega)))
theorem zAf {most:Int} {s:MkS} {n:NodeA} (h:MkI s) (hm:most≤2000) (hC:CCx (-1) s.l) (hn:NodeOk n) (hs:standsB n s.l.length=true) (hw:WsN s.l n) (he:(qCs most s n).1.e=0):CCx (-1) (qCs most s n).1.l:=by
 have hs':s.e=0→standsB n s.l.length=true:=fun _=>hs
 obtain⟨_,hl,ha⟩:=stands_args hs
 have p0:(0:Int)<n.len→PlA s n.a0:=fun h=>ha 0 h
 have p1:(1:Int)<n.len→PlA s n.a1:=fun h=>ha 1 h
 have p2:(2:Int)<n.len→PlA s n.a2:=fun h=>ha 2 h
 unfold qCs at he ⊢
 by_cases c1:n.op=1
 ·rw[if_pos c1];exact qVc h hC c1 hs'
 rw[if_neg c1] at he ⊢
 by_cases c4:n.op=4
 ·have hl:n.len=2:=by rcases hl with h|h<;>first|omega|(rw[h,c4];decide)
  obtain⟨_,h1,h2⟩:=hw.s2 (by omega)
  rw[if_pos c4];exact zAc h hm hC (p0 (by omega)) (p1 (by omega)) (fun _=>h1.trans h2.symm)
 rw[if_neg c4] at he ⊢
 by_cases c5:n.op=5
 ·have hl:n.len=2:=by rcases hl with h|h<;>first|omega|(rw[h,c5];decide)
  rw[if_pos c5];exact zA9 h hm hC (p0 (by omega)) (p1 (by omega))
 rw[if_neg c5] at he ⊢
 by_cases c6:n.op=6
 ·have hl:n.len=2:=by rcases hl with h|h<;>first|omega|(rw[h,c6];decide)
  rw[if_pos c6];exact zAb h hm hC c6 (p0 (by omega)) (p1 (by omega)) hs' (fun _=>(hw.s6 c6).2)
 rw[if_neg c6] at he ⊢
 by_cases c7:n.op=7
 ·have hl:n.len=3:=by rcases hl with h|h<;>first|omega|(rw[h,c7];decide)
  rw[if_pos c7] at he ⊢;exact zAd h hm hC hn c7 (p1 (by omega)) (p2 (by omega)) hs' hw he
 rw[if_neg c7] at he ⊢
 by_cases c8:n.op=8
 ·have hl:n.len=2:=by rcases hl with h|h<;>first|omega|(rw[h,c8];decide)
  rw[if_pos c8];exact qM3 h hm hC (p0 (by omega)) (p1 (by omega)) _
 rw[if_neg c8] at he ⊢
 by_cases c9:n.op=9
 ·have hl:n.len=2:=by rcases hl with h|h<;>first|omega|(rw[h,c9];decide)
  rw[if_pos c9];exact qM3 h hm hC (p0 (by omega)) (p1 (by omega)) _
 rw[if_neg c9] at he ⊢
 by_cases c11:n.op=11
 ·have hl:n.len=1:=by rcases hl with h|h<;>first|omega|(rw[h,c11];decide)
  rw[if_pos c11];exact zAe h hm hC c11 (p0 (by omega)) hs'
 rw[if_neg c11] at he ⊢
 by_cases c12:n.op=12
 ·have hl:n.len=2:=by rcases hl with h|h<;>first|omega|(rw[h,c12];decide)
  rw[if_pos c12];exact qM3 h hm hC (p0 (by omega)) (p1 (by omega)) _
 rw[if_neg c12]
 exact qFe h hC hs' (fun _=>.inl (qFx c4 c5 c8 c9 c1 c6 c7))
def QC (l0:List NodeA) (s:MkS) (im:List Int):Prop:=QW l0 s im∧CCx (-1) s.l
theorem zAg (l0:List NodeA):QC l0 ⟨qE9,0⟩ (List.replicate l0.length (-1)):=⟨zA8 l0,fun k n hk _=>by
 have hm:=List.mem_of_getElem? hk
 simp only[qE9,List.mem_cons,List.not_mem_nil,or_false] at hm
 rcases hm with rfl|rfl<;>exact qFx (by decide) (by decide) (by decide) (by decide) (by decide) (by decide) (by decide)⟩
theorem qWm {most:Int} {l:List NodeA} (hm:most≤2000) (hok:∀n∈l,NodeOk n) (hst:∀(k:Nat) (n:NodeA),l[k]? = some n→standsB n k=true) (hws:∀n∈l,WsN l n):qLz (QC l) most l:=fun s im k n hw hk ha he=>by
 have hw':WkS (QW l) l s im:=hw.less hw.q.1
 have hsn:=qPl (s:=s) (hok n (List.mem_of_getElem? hk)) hw.x n.len.toNat
 have hss:=qEs (l:=l) (hst k n hk) hw.imp ha
 have hwn:=qPt hw.q.1 hk (hst k n hk) ha (hws n (List.mem_of_getElem? hk))
 exact⟨qWh hm hok hst hws s im k n hw' hk ha he,zAf hw.inv hm hw.q.2 hsn hss hwn he⟩
theorem zC9 {s:MkS} (h:MkI s) (hQ:QO s.l) (hW:WS s.l) (hC:CCx (-1) s.l):Cl s.l:=by
 have ok:∀n∈s.l,∃k:Int,okC s.l k n:=fun n hn=>by
  obtain⟨k,hk⟩:=List.getElem?_of_mem hn
  exact⟨k,hC k n hk (by omega)⟩
 exact⟨h.may,h.len,hQ,hW,fun n hn=>(ok n hn).elim fun _ h=>h.no4,fun n hn=>(ok n hn).elim fun _ h=>h.nn,fun n hn=>(ok n hn).elim fun _ h=>h.eq,fun k n hk ho=>(hC k n hk (by omega)).ite ho⟩
theorem Cl.rng {c:List NodeA} (h:Cl c) {i:Int} (h0:0≤i) (hl:i<(c.length:Int)):srt c i=0∨srt c i=1∨srt c i=2∨srt c i=3∨srt c i=4∨srt c i=5:=by
 obtain⟨k,rfl⟩:∃k:Nat,i=(k:Int):=⟨i.toNat,by omega⟩
 obtain⟨_,s,_⟩:=h.fits (nodA_get (l:=c) (k:=k) (by omega))
 unfold srt
 omega
theorem Cl.good {c:List NodeA} (h:Cl c) {n:NodeA} (hn:n∈c):qV5 c n=false:=by
 obtain⟨k,hk⟩:=List.getElem?_of_mem hn
 have hkl:=(List.getElem?_eq_some_iff.1 hk).1
 have hw:=h.ws n hn
 obtain⟨⟨o1,o2,_⟩,_⟩:=h.fits hk
 obtain⟨_,hl,ha⟩:=stands_args (h.st hk)
 unfold qV5
 by_cases h13:n.op=13
 ·rw[if_pos h13]
 rw[if_neg h13]
 have hlen:=hl.resolve_left h13
 have s1:n.len=1→qH5 c n n.len.toNat=[srt c n.a0]:=fun h=>by rw[h];rfl
 have s2:n.len=2→qH5 c n n.len.toNat=[srt c n.a0,srt c n.a1]:=fun h=>by rw[h];rfl
 have s3:n.len=3→qH5 c n n.len.toNat=[srt c n.a0,srt c n.a1,srt c n.a2]:=fun h=>by rw[h];rfl
 have s0:n.len=0→qH5 c n n.len.toNat=[]:=fun h=>by rw[h];rfl
 have key:qWc c n=(n.sort,0):=by
  obtain⟨g4,g5,g8,g9⟩:=h.no4 n hn
  have hr:n.op=0∨n.op=1∨n.op=2∨n.op=3∨n.op=6∨n.op=7∨n.op=10∨n.op=11∨n.op=12:=by omega
  unfold qWc
  rcases hr with ho|ho|ho|ho|ho|ho|ho|ho|ho<;>rw[ho] at hlen ⊢
  ·rw[s0 hlen,hw.s0 ho];rfl
  ·obtain⟨e0,e1⟩:=hw.s1 ho
   rw[s1 hlen,e0,e1];rfl
  ·obtain⟨e0,e1,e2⟩:=hw.s2 (by omega)
   rw[s2 hlen,e0,e1,e2];rfl
  ·obtain⟨e0,e1,e2⟩:=hw.s2 (by omega)
   rw[s2 hlen,e0,e1,e2];rfl
  ·obtain⟨e0,e1⟩:=hw.s6 ho
   have hl2:n.len=2:=hlen
   have p:=ha 0 (by omega)
   have p:0≤n.a0∧n.a0<(k:Int):=p
   rw[s2 hlen,e0,←e1]
   rcases h.rng p.1 (by omega) with e|e|e|e|e|e<;>rw[e]<;>rfl
  ·obtain⟨e0,e1,e2⟩:=hw.s7 ho
   have hl2:n.len=3:=hlen
   have p:=ha 1 (by omega)
   have p:0≤n.a1∧n.a1<(k:Int):=p
   rw[s3 hlen,e0,e2,e1]
   have:=h.rng p.1 (by omega)
   rw[e1] at this
   rcases this with e|e|e|e|e|e<;>rw[e]<;>rfl
  ·rw[s0 hlen,hw.s10 ho];rfl
  ·obtain⟨e0,e1⟩:=hw.s11 ho
   rw[s1 hlen,e0,e1];rfl
  ·obtain⟨e0,e1,e2⟩:=hw.s8 (by omega)
   rw[s2 hlen,e0,e1,e2];rfl
 rw[key]
 simp
end Go.Proofs.YtfgpimhdjlmapaaGreatDoor.Tm
