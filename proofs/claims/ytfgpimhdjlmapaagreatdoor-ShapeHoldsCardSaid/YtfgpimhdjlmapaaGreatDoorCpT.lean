/- Core: images are well sorted, step by step. -/
import Derived.Laws.CopyOwn
import Derived.Laws.MakeOwn
import Derived.Laws.EntriesVeiled
import Derived.WalkKit
import Derived.ProofKit
import Derived.Outline
import Derived.LoopTactic
import Derived.Handy
import Derived.Lib.Hide
import Derived.Below
import Derived.OneCell
import Derived.OpenShut
import Derived.BigQuiet
import Derived.Deep.AppendLies
import Derived.Deep.RegionLaw
import Derived.Deep.RegionHeld3
import Derived.WalkSmall
import Derived.Deep.LoopGhost
import Derived.Laws.Strings
import Derived.ScopeJumps
import Derived.WalkMore
import Derived.DeepKeys4
import Derived.WalkArith
import Derived.Maps.OwnSet
import Derived.Maps.OwnIn
import Derived.Maps.AppendAt
import Derived.Deep.CutRange
import Derived.Laws.Cover3
import Derived.Laws.Append
import Derived.Maps.Ext
import Derived.Carry
import Derived.Test.YtfgpimhdjlmapaaGreatDoorProg
import Derived.Test.YtfgpimhdjlmapaaGreatDoorCoQ
import Derived.Test.YtfgpimhdjlmapaaGreatDoorCoH
import Derived.Test.YtfgpimhdjlmapaaGreatDoorTmC
import Derived.Test.YtfgpimhdjlmapaaGreatDoorOfJ
import Derived.Test.YtfgpimhdjlmapaaGreatDoorTmM
namespace Go.Proofs.YtfgpimhdjlmapaaGreatDoor.Tm
open Go.RowKit
set_option linter.unusedVariables false
set_option maxRecDepth 100000
theorem qAg {n b i:Nat} {w V:World} {v:Value} (h:Below n w V) (hb:n≤b):Below n w (V.setCell ⟨b,i,none⟩ v):=h.setCell (p:=⟨b,i,none⟩) hb v
def zDj (N:Nat) (x:Int):Bool:=if x<0 then true else decide ((N:Int)≤x)
theorem qA4 {P:Program} {fn:Func} {p u v:Tmp} {ty:TypeId} (h:fn.results=#[.cell p ty,.tmp u,.tmp v]) (tmps:Array Value) (w:World) (g:Nat) (t:TypeId) (cs:Array Value) (fr:Nat × Nat) (d:TypeDesc)
  (hp:tmps.getD p undef=.pointer (some ⟨g,0,none⟩)) (hg:w.heap[g]? = some (.cells cs t fr))
  (hu:P.underlying ty=some d) (hd:(match d with|.struct _|.array _ _=>true|_=>false)=true) (hi:(P.info? ty).map (·.size)=some cs.size) :
  (results fn tmps).run P w=.ok (.tuple #[.agg cs,tmps.getD u undef,tmps.getD v undef]) w:=by
 have hp':tmps[p]?.getD undef=.pointer (some ⟨g,0,none⟩):=by simpa using hp
 simp[results,h,hp',asAddr,run_loadVar_row w g t ty cs fr d hg hu hd hi]
theorem qA3:(Tryz.prog.info? 33).map (·.size)=some 1:=by kernel_rfl
theorem qAf {w:World} {b:Nat} {t:TypeId} {z v:Value} (h:w.heap[b]? = some (.cells #[z] t (0,0))):(w.setCell ⟨b,0,none⟩ v).heap[b]? = some (.cells #[v] t (0,0)):=by
 simp[World.setCell,Array.getElem?_modify,h]
def zC6 (Q:MkS→List Int→Prop) (most:Int) (l:List NodeA) (roots:List Int) (err:Int):Prop :=
 (err=2∧(qBu l=false∨roots.any (zDj l.length)=true))∨(err=33∧qBu l=true∧l.any (qV5 l)=true)∨(∃s',err=s'.e∧MkI s'∧qSe Q most l s')
def qZg (Q:MkS→List Int→Prop) (l:List NodeA) (roots:List Int) (s:MkS) (ims:List Int):Prop :=
 ∀(j:Nat) (x r:Int),ims[j]? = some x→roots[j]? = some r→∃(s0:MkS) (im0:List Int),WkS Q l s0 im0∧imA im0 r=x∧¬x=-1∧Pre s0 s
theorem qZg.up {Q:MkS→List Int→Prop} {l:List NodeA} {roots:List Int} {s s':MkS} {ims:List Int} (h:qZg Q l roots s ims) (hp:Pre s s'):qZg Q l roots s' ims:=fun j x r hx hr=>by
 obtain⟨s0,im0,h1,h2,h3,h4⟩:=h j x r hx hr
 exact⟨s0,im0,h1,h2,h3,h4.trans hp⟩
theorem qZg.pl {Q:MkS→List Int→Prop} {l:List NodeA} {roots:List Int} {s:MkS} {ims:List Int} (h:qZg Q l roots s ims) {j:Nat} {x r:Int} (hx:ims[j]? = some x) (hr:roots[j]? = some r):PlA s x:=by
 obtain⟨s0,im0,h1,h2,h3,h4⟩:=h j x r hx hr
 rw[←h2] at h3 ⊢
 exact(h1.imp.at h3).up h4
theorem WkS.less {Q Q':MkS→List Int→Prop} {l:List NodeA} {s:MkS} {im:List Int} (h:WkS Q l s im) (hq:Q' s im):WkS Q' l s im:=⟨hq,h.inv,h.ok,h.imp,h.len⟩
theorem stands_in {l:List NodeA} {k:Nat} {n:NodeA} (h:qB1 [] l=true) (hk:l[k]? = some n):InA l n:=by
 have hlt:=(List.getElem?_eq_some_iff.1 hk).1
 have h2:=(ok_at h hk).1
 unfold standsB at h2
 rw[decide_eq_true_eq] at h2
 have h4:=(qCg n k).1 h2
 refine⟨h4.1.2.2.1,h4.1.2.2.2,fun j hj=>?_⟩
 have h5:=(h4.2.1 j (by have:=h4.1.2.2.2;omega)).1 hj
 omega
def qS3 (l:List NodeA) (i:Int):Prop:=¬(qAd l i).op=11∧((qAd l i).op=10→i=1)
def okN (l:List NodeA) (n:NodeA):Prop:=(n.op=11→¬n.num=0∧¬(qAd l n.a0).op=11∧¬(qAd l n.a0).op=10)∧(n.op=12→¬n.a0=n.a1∧qS3 l n.a0∧qS3 l n.a1)
def QO (l:List NodeA):Prop:=∀n∈l,okN l n
theorem qEt {l:List NodeA} (r:List NodeA) {i:Int} (h0:0≤i) (h:i<(l.length:Int)):qAd (l++r) i=qAd l i:=by
 unfold qAd
 rw[List.getD_eq_getElem?_getD,List.getD_eq_getElem?_getD,List.getElem?_append_left (by omega)]
theorem qPm {l:List NodeA} (r:List NodeA) {i:Int} (h0:0≤i) (h1:i<(l.length:Int)) (h:qS3 l i):qS3 (l++r) i:=by
 unfold qS3
 rw[qEt r h0 h1];exact h
theorem qBv {l:List NodeA} {n:NodeA} (h:¬n.op=11) (h2:¬n.op=12):okN l n:=⟨fun e=>absurd e h,fun e=>absurd e h2⟩
theorem stands_args {n:NodeA} {k:Nat} (h:standsB n k=true):n.len≤3∧(n.op=13∨n.len=arityA n.op)∧∀j:Nat,(j:Int)<n.len→0≤qBc n j∧qBc n j<(k:Int):=by
 unfold standsB at h
 rw[decide_eq_true_eq] at h
 have h4:=(qCg n k).1 h
 obtain⟨⟨_,_,h2⟩,_⟩:=h
 refine⟨h4.1.2.2.2,?_,fun j hj=>(h4.2.1 j (by have:=h4.1.2.2.2;omega)).1 hj⟩
 by_cases h13:n.op=13
 ·exact .inl h13
 ·rw[if_neg h13] at h2
  split at h2
  ·exact .inr h2.1
  ·exact .inr h2.1
theorem qV7 {l:List NodeA} (r:List NodeA) {n:NodeA} (h:okN l n) (h1:n.op=11→0≤n.a0∧n.a0<(l.length:Int)) (h2:n.op=12→(0≤n.a0∧n.a0<(l.length:Int))∧(0≤n.a1∧n.a1<(l.length:Int))):okN (l++r) n:=by
 refine⟨fun e=>?_,fun e=>?_⟩
 ·obtain⟨a,b⟩:=h1 e
  rw[qEt r a b];exact h.1 e
 ·obtain⟨⟨a,b⟩,⟨c,d⟩⟩:=h2 e
  obtain⟨h3,h4,h5⟩:=h.2 e
  exact⟨h3,qPm r a b h4,qPm r c d h5⟩
theorem qJq {n:NodeA} {k:Nat} (h:standsB n k=true) (e:n.op=11):0≤n.a0∧n.a0<(k:Int):=by
 obtain⟨_,hl,ha⟩:=stands_args h
 have:n.len=1:=by rcases hl with h|h<;>first|omega|(rw[h,e];decide)
 exact ha 0 (by omega)
theorem qPn {n:NodeA} {k:Nat} (h:standsB n k=true) (e:n.op=12):(0≤n.a0∧n.a0<(k:Int))∧(0≤n.a1∧n.a1<(k:Int)):=by
 obtain⟨_,hl,ha⟩:=stands_args h
 have:n.len=2:=by rcases hl with h|h<;>first|omega|(rw[h,e];decide)
 exact⟨ha 0 (by omega),ha 1 (by omega)⟩
theorem qZo {s:MkS} (h:MkI s) (r:List NodeA) {n:NodeA} (hn:n∈s.l) (hk:okN s.l n):okN (s.l++r) n:=by
 obtain⟨k,hg⟩:=List.getElem?_of_mem hn
 have hlt:=(List.getElem?_eq_some_iff.1 hg).1
 have hst:=(ok_at (mayT_ok h.may).2 hg).1
 refine qV7 r hk (fun e=>?_) (fun e=>?_)
 ·have:=qJq hst e;omega
 ·have:=qPn hst e;omega
theorem qEc {most:Int} {s:MkS} {n:NodeA} (h:MkI s) (hQ:QO s.l) (hs:s.e=0→standsB n s.l.length=true) (hn:s.e=0→okN s.l n):QO (qAq most s n).1.l:=by
 unfold qAq
 by_cases he:s.e=0
 ·rw[if_neg (fun h=>h he)]
  by_cases hi:n∈s.l
  ·rw[if_pos hi];exact hQ
  ·rw[if_neg hi]
   by_cases hl:most≤(s.l.length:Int)
   ·rw[if_pos hl];exact hQ
   ·rw[if_neg hl]
    intro x hx
    rcases List.mem_append.1 hx with h1|h1
    ·exact qZo h [n] h1 (hQ x h1)
    ·rw[List.mem_singleton.1 h1]
     exact qV7 [n] (hn he) (fun e=>qJq (hs he) e) (fun e=>qPn (hs he) e)
 ·rw[if_pos he];exact hQ
theorem qM0 {s:MkS} (h:MkI s):qAd s.l 1=qD5:=by
 have h2:=(mayT_ok h.may).1
 have:=congrArg (fun z:List NodeA=>z[1]?) h2
 simp only[List.getElem?_take] at this
 rw[if_pos (by omega)] at this
 exact nodA_at' this
where
 nodA_at' {l:List NodeA} (h:l[1]? = qE9[1]?):qAd l 1=qD5:=by
  unfold qAd
  rw[List.getD_eq_getElem?_getD,show (1:Int).toNat=1 from rfl,h];rfl
theorem qWd {s:MkS} (h:MkI s):qS3 s.l 1:=by
 unfold qS3
 rw[qM0 h]
 exact⟨by decide,fun _=>rfl⟩
theorem qFv {s:MkS} (h:MkI s) (hQ:QO s.l) {i:Int} (hi:PlA s i):qS3 s.l (qA0 s.l i).1:=by
 obtain⟨k,rfl,hk⟩:=hi.nat
 unfold qA0
 split
 ·exact qWd h
 ·rename_i h10
  split
  ·rename_i h11
   have h1:=(hQ _ (qD6 hk)).1 h11
   exact⟨h1.2.1,fun e=>absurd e h1.2.2⟩
  ·rename_i h11
   exact⟨h11,fun e=>absurd e h10⟩
theorem qV8 {most:Int} {s:MkS} {n:NodeA} (h:MkI s) (hQ:QO s.l) (ho:n.op=1) (hs:s.e=0→standsB n s.l.length=true):QO (qIu most s n).1.l:=by
 unfold qIu
 split
 ·exact hQ
 ·exact qEc h hQ hs (fun _=>qBv (by omega) (by omega))
theorem qPo {most:Int} {s:MkS} {i:Int} (h:MkI s) (hQ:QO s.l) (hi:PlA s i):QO (qDg most s i).1.l:=qV8 h hQ rfl (fun _=>qJ7 rfl hi)
theorem qZp {most:Int} {s:MkS} {n:NodeA} (h:MkI s) (hm:most≤2000) (hQ:QO s.l) (ha:PlA s n.a0) (hb:PlA s n.a1):QO (qPf most s n).1.l:=by
 have h1:=qDt (most:=most) h hm ha
 exact qEc h1.inv (qPo h hQ ha) (fun _=>qBm (.inl ⟨by decide,rfl⟩) h1.pl (hb.up h1.pre)) (fun _=>qBv (by show ¬(3:Int)=11;decide) (by show ¬(3:Int)=12;decide))
theorem qJr {most:Int} {s:MkS} (h:MkI s) (hm:most≤2000) (hQ:QO s.l) {a b:Int} (ha:PlA s a) (hb:PlA s b) (c:Int):QO (leM most s a b c).1.l:=by
 have hp:=qFt s a b c
 have hi:=qFu h a b c
 have hd:=qN0 s a b c
 have px:=(qB2 h ha).up hp
 have py:=(qB2 h hb).up hp
 have hQd:QO (qBd s a b c).1.l:=by rw[hd];exact hQ
 have bx:qS3 (qBd s a b c).1.l (qA0 s.l a).1:=by rw[hd];exact qFv h hQ ha
 have bY:qS3 (qBd s a b c).1.l (qA0 s.l b).1:=by rw[hd];exact qFv h hQ hb
 unfold leM
 split
 ·rename_i hne
  exact qEc hi hQd (fun he=>qBm (.inr ⟨rfl,(qHt he).2.1⟩) px py) (fun _=>⟨fun e=>absurd e (by show ¬(12:Int)=11;decide),fun _=>⟨hne,bx,bY⟩⟩)
 ·split
  ·exact hQd
  ·exact qPo hi hQd (PlA.zero hi)
theorem qZq {most:Int} {s:MkS} (h:MkI s) (hm:most≤2000) (hQ:QO s.l) {a b:Int} (ha:PlA s a) (hb:PlA s b):QO (eqI most s a b).1.l:=by
 have h1:=qBs h hm ha hb 0
 have h2:=qBs h1.inv hm (hb.up h1.pre) (ha.up h1.pre) 0
 exact qEc h2.inv (qJr h1.inv hm (qJr h hm hQ ha hb 0) (hb.up h1.pre) (ha.up h1.pre) 0) (fun _=>qBm (.inl ⟨by decide,rfl⟩) (h1.pl.up h2.pre) h2.pl) (fun _=>qBv (by show ¬(2:Int)=11;decide) (by show ¬(2:Int)=12;decide))
theorem qZr {most:Int} {s:MkS} {n:NodeA} (h:MkI s) (hm:most≤2000) (hQ:QO s.l) (ho:n.op=6) (ha:PlA s n.a0) (hb:PlA s n.a1) (hs:s.e=0→standsB n s.l.length=true):QO (eqM most s n).1.l:=by
 unfold eqM
 split
 ·exact qEc h hQ hs (fun _=>qBv (by omega) (by omega))
 ·split
  ·exact qZq h hm hQ ha hb
  ·split
   ·exact hQ
   ·have hmn:PlA s (min n.a0 n.a1):=by rcases Int.le_total n.a0 n.a1 with hh|hh<;>simp only[Int.min_eq_left,Int.min_eq_right,hh]<;>assumption
    have hmx:PlA s (max n.a0 n.a1):=by rcases Int.le_total n.a0 n.a1 with hh|hh<;>simp only[Int.max_eq_left,Int.max_eq_right,hh]<;>assumption
    exact qEc h hQ (fun _=>qBm (.inl ⟨by decide,rfl⟩) hmn hmx) (fun _=>qBv (by show ¬(6:Int)=11;decide) (by show ¬(6:Int)=12;decide))
theorem qV9 {most:Int} {s:MkS} {a b:Int} (h:MkI s) (hm:most≤2000) (hQ:QO s.l) (ha:PlA s a) (hb:PlA s b):QO (eqM most s (qAk 6 a b 0)).1.l :=
 qZr h hm hQ rfl ha hb (fun _=>qBm (.inl ⟨by decide,rfl⟩) ha hb)
theorem qZs {most:Int} {s:MkS} {n:NodeA} (h:MkI s) (hm:most≤2000) (hQ:QO s.l) (ha:PlA s n.a0) (hb:PlA s n.a1):QO (qS2 most s n).1.l:=by
 have h1:=qGp (a:=n.a0) (b:=n.a1) h hm ha hb
 exact qPo h1.inv (qV9 h hm hQ ha hb) h1.pl
theorem qPp {most:Int} {s:MkS} {it i:Int} (h:MkI s) (hm:most≤2000) (hQ:QO s.l) (ha:PlA s it) (hb:PlA s i) (sort:Int):QO (qCp most s sort it i).l:=by
 unfold qCp
 split
 ·exact hQ
 ·split
  ·have h1:=qBs h hm ha hb 0
   exact qJr h1.inv hm (qJr h hm hQ ha hb 0) (hb.up h1.pre) (ha.up h1.pre) 0
  ·exact qV9 h hm hQ ha hb
theorem qZt {most:Int} {s:MkS} {n:NodeA} (h:MkI s) (hm:most≤2000) (hQ:QO s.l) (hn:NodeOk n) (ho:n.op=7) (hb:PlA s n.a1) (hc:PlA s n.a2) (hs:s.e=0→standsB n s.l.length=true):QO (qIv most s n).1.l:=by
 unfold qIv
 split
 ·exact hQ
 ·have h1:=qB8 (most:=most) h hm hn hs
  have q1:=qEc (most:=most) h hQ hs (fun _=>qBv (by omega) (by omega))
  have h2:=qDa h1.inv hm h1.pl (hb.up h1.pre) n.sort
  have q2:=qPp h1.inv hm q1 h1.pl (hb.up h1.pre) n.sort
  exact qPp h2.2 hm q2 (h1.pl.up h2.1) ((hc.up h1.pre).up h2.1) n.sort
theorem qZu {most:Int} {s:MkS} {n:NodeA} (h:MkI s) (hm:most≤2000) (hQ:QO s.l) (ho:n.op=11) (ha:PlA s n.a0) (hs:s.e=0→standsB n s.l.length=true):QO (qIw most s n).1.l:=by
 have hp:=qGn s (qC6 (qA0 s.l n.a0).2 n.num) (qC4 (qA0 s.l n.a0).2 n.num)
 have hi:=qGo h (n:=qC6 (qA0 s.l n.a0).2 n.num) (qKs (qA0 s.l n.a0).2 n.num)
 have hl:=qO4 s (qC6 (qA0 s.l n.a0).2 n.num) (qC4 (qA0 s.l n.a0).2 n.num)
 have hk:(qDr s (qC6 (qA0 s.l n.a0).2 n.num) (qC4 (qA0 s.l n.a0).2 n.num)).1.e=0→s.e=0∧qAn (qDr s (qC6 (qA0 s.l n.a0).2 n.num) (qC4 (qA0 s.l n.a0).2 n.num)).2=true:=fun he=>by
  obtain⟨h1,h2,h3⟩:=qJ6 he
  obtain⟨_,_,h4,h5⟩:=qKt h1
  exact⟨h2,by rw[h3,h5];exact h4⟩
 have px:=qB2 h ha
 have bx:=qFv h hQ ha
 unfold qIw
 generalize qDr s (qC6 (qA0 s.l n.a0).2 n.num) (qC4 (qA0 s.l n.a0).2 n.num)=k at *
 simp only
 have hQk:QO k.1.l:=by rw[hl];exact hQ
 split
 ·exact hQk
 ·rename_i hk0
  split
  ·exact qEc hi hQk (fun he=>qHu (hk he).2) (fun _=>qBv (by show ¬(10:Int)=11;decide) (by show ¬(10:Int)=12;decide))
  ·rename_i h1
   refine qEc hi hQk (fun he=>qEq (by rw[hl];exact hs (hk he).1) ho (px.up hp) (hk he).2) (fun _=>⟨fun _=>⟨hk0,?_,fun e=>?_⟩,fun e=>absurd (ho.symm.trans e) (by decide)⟩)
   ·show ¬(qAd k.1.l (qA0 s.l n.a0).1).op=11
    rw[hl];exact bx.1
   ·have e':(qAd s.l (qA0 s.l n.a0).1).op=10:=by
     have e2:(qAd k.1.l (qA0 s.l n.a0).1).op=10:=e
     rw[hl] at e2;exact e2
    exact h1 (bx.2 e')
theorem qZv {most:Int} {s:MkS} {n:NodeA} (h:MkI s) (hm:most≤2000) (hQ:QO s.l) (hn:NodeOk n) (hs:standsB n s.l.length=true):QO (qCs most s n).1.l:=by
 have hs':s.e=0→standsB n s.l.length=true:=fun _=>hs
 obtain⟨_,hl,ha⟩:=stands_args hs
 have p0:(0:Int)<n.len→PlA s n.a0:=fun h=>ha 0 h
 have p1:(1:Int)<n.len→PlA s n.a1:=fun h=>ha 1 h
 have p2:(2:Int)<n.len→PlA s n.a2:=fun h=>ha 2 h
 unfold qCs
 by_cases c1:n.op=1
 ·rw[if_pos c1];exact qV8 h hQ c1 hs'
 rw[if_neg c1]
 by_cases c4:n.op=4
 ·have hl:n.len=2:=by rcases hl with h|h<;>first|omega|(rw[h,c4];decide)
  rw[if_pos c4];exact qZs h hm hQ (p0 (by omega)) (p1 (by omega))
 rw[if_neg c4]
 by_cases c5:n.op=5
 ·have hl:n.len=2:=by rcases hl with h|h<;>first|omega|(rw[h,c5];decide)
  rw[if_pos c5];exact qZp h hm hQ (p0 (by omega)) (p1 (by omega))
 rw[if_neg c5]
 by_cases c6:n.op=6
 ·have hl:n.len=2:=by rcases hl with h|h<;>first|omega|(rw[h,c6];decide)
  rw[if_pos c6];exact qZr h hm hQ c6 (p0 (by omega)) (p1 (by omega)) hs'
 rw[if_neg c6]
 by_cases c7:n.op=7
 ·have hl:n.len=3:=by rcases hl with h|h<;>first|omega|(rw[h,c7];decide)
  rw[if_pos c7];exact qZt h hm hQ hn c7 (p1 (by omega)) (p2 (by omega)) hs'
 rw[if_neg c7]
 by_cases c8:n.op=8
 ·have hl:n.len=2:=by rcases hl with h|h<;>first|omega|(rw[h,c8];decide)
  rw[if_pos c8];exact qJr h hm hQ (p0 (by omega)) (p1 (by omega)) _
 rw[if_neg c8]
 by_cases c9:n.op=9
 ·have hl:n.len=2:=by rcases hl with h|h<;>first|omega|(rw[h,c9];decide)
  rw[if_pos c9];exact qJr h hm hQ (p0 (by omega)) (p1 (by omega)) _
 rw[if_neg c9]
 by_cases c11:n.op=11
 ·have hl:n.len=1:=by rcases hl with h|h<;>first|omega|(rw[h,c11];decide)
  rw[if_pos c11];exact qZu h hm hQ c11 (p0 (by omega)) hs'
 rw[if_neg c11]
 by_cases c12:n.op=12
 ·have hl:n.len=2:=by rcases hl with h|h<;>first|omega|(rw[h,c12];decide)
  rw[if_pos c12];exact qJr h hm hQ (p0 (by omega)) (p1 (by omega)) _
 rw[if_neg c12]
 exact qEc h hQ hs' (fun _=>qBv c11 c12)
theorem qZw:QO qE9:=fun n hn=>by
 simp only[qE9,List.mem_cons,List.not_mem_nil,or_false] at hn
 rcases hn with rfl|rfl
 ·exact qBv (by decide) (by decide)
 ·exact qBv (by decide) (by decide)
end Go.Proofs.YtfgpimhdjlmapaaGreatDoor.Tm
namespace Go.Proofs.YtfgpimhdjlmapaaGreatDoor
open Go.RowKit
set_option linter.unusedVariables false
theorem qHi (a b:Int) (w:World) :
  Calls Tryz.prog 75 #[.int .i64 a,.int .i64 b] w fun e w'=>e=.returned (.tuple #[.int .i64 (qC6 a b),.int .i64 (qC4 a b)])∧w=w':=by
 cases hok:qD4 a b with
 | true =>
  obtain⟨⟨p1,p2⟩,⟨p3,p4⟩,p5,p6⟩:=qB5.1 hok
  have m1:=Lib.hid (qAc.2 ⟨p1,p2⟩)
  have m2:=Lib.hid ((qAc (n:=b)).2 ⟨by omega,by omega⟩)
  have m3:=Lib.hid ((qAc (n:=a+b)).2 ⟨by omega,by omega⟩)
  have HK:=Lib.hid hok;clear hok
  go_enter Tryz.func75,Tryz.ntmps75
  go_wp2_with (go_at_call 44;refine(qDy _ _).mono ?_;rintro e w' ⟨rfl,rfl⟩)
  ·have h:(!qAn (a+b))=true:=by assumption
   rw[m3.out] at h;cases h
  ·go_ret2
   exact⟨qBl (qAt (by simp[qC6,HK.out])) (qAt (by simp[qC4,HK.out])),rfl⟩
 | false =>
  have hno:=Lib.hid (qKa hok)
  have HK:=Lib.hid hok;clear hok
  go_enter Tryz.func75,Tryz.ntmps75
  go_wp2_with (go_at_call 44;refine(qDy _ _).mono ?_;rintro e w' ⟨rfl,rfl⟩)
  all_goals first
   | (exfalso;have:=hno.out;simp_all;done)
   | (go_ret2;exact⟨qBl (qAt (by simp[qC6,HK.out])) (qAt (by simp[qC4,HK.out])),rfl⟩)
end Go.Proofs.YtfgpimhdjlmapaaGreatDoor
namespace Go.Proofs.YtfgpimhdjlmapaaGreatDoor.Tm
open Go.RowKit
set_option linter.unusedVariables false
theorem qWe (w:World):Calls Tryz.prog 75 #[.int .i64 0,.int .i64 0] w fun e w'=>e=.returned (.tuple #[.int .i64 0,.int .i64 0])∧w=w':=qHi 0 0 w
set_option maxHeartbeats 4000000 in
theorem qSg (l:List NodeA) (a:Option Addr) (c i:Nat) (n:NodeA) (w:World) (hA:TabR w l a c) (hl:l.length≤3000) (hm:qBu l=true) (hn:l[i]? = some n) (hs:n.sort=1) (h11:¬n.op=11) (h10:n.op=10→i=1∧n.num=0) :
  Calls Tryz.prog 74 #[.agg #[.slice a l.length c],.int .i64 i] w fun e w'=>e=.returned (.tuple #[.int .i64 i,.int .i64 0,.int .i64 0])∧Below w.heap.size w w':=by
 obtain⟨W0,hW0⟩:∃W0,W0=w.alloc (.cells #[.slice a l.length c] 33):=⟨_,rfl⟩
 have HB0:Hid (Below w.heap.size w W0):=by show Below _ _ _;rw[hW0];exact(Below.refl _ w).alloc (Nat.le_refl _) _
 have HXR:Hid (∀V,Below W0.heap.size W0 V→V.heap[w.heap.size]? = some (.cells #[.slice a l.length c] 33 (0,0))):=fun V hV=>by
  have hx0:W0.heap[w.heap.size]? = some (.cells #[.slice a l.length c] 33 (0,0)):=by rw[hW0];exact heap_alloc_new w _
  exact(hV.block _ (Array.getElem?_eq_some_iff.1 hx0).1).trans hx0
 have HC:Hid (Calls Tryz.prog 19 #[.agg #[.slice a l.length c]] W0 fun e w'=>e=.returned (.int .i64 0)∧Below W0.heap.size W0 w'):=RCheck_any l a c 0 W0 (hA.below HB0.out) hl (by rw[hm];rfl)
 have HA:=Lib.hid hA
 have HN:=Lib.hid hn
 have hcap:=hA.le
 have hil:=(List.getElem?_eq_some_iff.1 hn).1
 have hii:(i:Int)<(l.length:Int):=by omega
 have hi0:(0:Int)≤(i:Int):=by omega
 have hmx:l.length≤9223372036854775807:=by omega
 have e1:=ne_f hs
 have e11:=qB7 h11
 have HS:=Lib.hid hs
 clear hA hm hn hs
 obtain⟨x0,_,xz⟩:=qL9 (HXR.out W0 (Below.refl _ _))
 clear x0 xz
 have HR:Hid (∀V,Below W0.heap.size W0 V→V.cell? ⟨w.heap.size,0,none⟩=some (.slice a l.length c)∧V.frozen? ⟨w.heap.size,0,none⟩=false∧w.heap.size<V.heap.size):=fun V hV=>qL9 (HXR.out V hV)
 have HND:Hid (∀V,Below W0.heap.size W0 V→∃g o:Nat,a=some ⟨g,o,none⟩∧g<V.heap.size∧V.cell? ⟨g,o+i*8,none⟩=some (.int .i8 n.op)∧V.cell? ⟨g,o+i*8+5,none⟩=some (.int .i64 n.sort)∧V.cell? ⟨g,o+i*8+7,none⟩=some (.int .i64 n.num)):=fun V hV=>by
  obtain⟨g,o,h,hg,q0,q1,q2,q3,q4,q5,q6,q7⟩:=(HA.out.below (HB0.out.trans (hV.mono HB0.out.size))).node HN.out
  exact⟨g,o,h,hg,q0,q5,q7⟩
 obtain⟨g,o,rfl,_⟩:=HND.out W0 (Below.refl _ _)
 have HND2:Hid (∀V,Below W0.heap.size W0 V→g<V.heap.size∧V.cell? ⟨g,o+i*8,none⟩=some (.int .i8 n.op)∧V.cell? ⟨g,o+i*8+5,none⟩=some (.int .i64 n.sort)∧V.cell? ⟨g,o+i*8+7,none⟩=some (.int .i64 n.num)):=fun V hV=>by
  obtain⟨g',o',h,r⟩:=HND.out V hV
  cases h;exact r
 clear HND
 by_cases ht:n.op=10
 ·obtain⟨rfl,hnum⟩:=h10 ht
  have e10:=qC9 ht
  rw[hnum] at HND2
  clear hnum ht h11 h10
  go_enter Tryz.func74,Tryz.ntmps74
  go_wp2_with (first
   | (go_at_call 19;rw[←hW0];clear hW0;refine HC.out.mono ?_;rintro e w1 ⟨rfl,hb1⟩;have HB1:=Lib.hid hb1;clear hb1;obtain⟨x0,_,xz⟩:=HR.out w1 HB1.out;obtain⟨gz,q0,q5,q7⟩:=HND2.out w1 HB1.out)
   | fail)
  go_loopw [1,7] (fun v i' wr=>v=.int .i64 ((1:Nat):Int)∧i'=.int .i64 0∧Hid (Below W0.heap.size W0 wr)) (fun _ _ _=>0)
  case atStart=>exact⟨rfl,rfl,HB1⟩
  case round =>
   obtain⟨rfl,rfl,HW⟩:=hrel
   clear x0 xz gz q0 q5 q7
   obtain⟨x0,_,xz⟩:=HR.out wr HW.out
   obtain⟨gz,q0,q5,q7⟩:=HND2.out wr HW.out
   have HWw:Hid (Below w.heap.size w wr):=HB0.out.trans (HW.out.mono HB0.out.size)
   go_wp2_with (first|(go_at_call 75;refine(qWe _).mono ?_;rintro e w2 ⟨rfl,rfl⟩)|fail)
   refine bodyPost_ret (v:=.tuple #[.int .i64 ((1:Nat):Int),.int .i64 0,.int .i64 0]) (by simp[results,Tryz.results74,go_sem]) rfl ⟨rfl,HWw.out⟩
 ·have e10:=qB7 ht
  clear ht h11 h10
  go_enter Tryz.func74,Tryz.ntmps74
  go_wp2_with (first
   | (go_at_call 19;rw[←hW0];clear hW0;refine HC.out.mono ?_;rintro e w1 ⟨rfl,hb1⟩;have HB1:=Lib.hid hb1;clear hb1;obtain⟨x0,_,xz⟩:=HR.out w1 HB1.out;obtain⟨gz,q0,q5,q7⟩:=HND2.out w1 HB1.out)
   | fail)
  go_loopw [1,7] (fun v i' wr=>v=.int .i64 i∧i'=.int .i64 0∧Hid (Below W0.heap.size W0 wr)) (fun _ _ _=>0)
  case atStart=>exact⟨rfl,rfl,HB1⟩
  case round =>
   obtain⟨rfl,rfl,HW⟩:=hrel
   clear x0 xz gz q0 q5 q7
   obtain⟨x0,_,xz⟩:=HR.out wr HW.out
   obtain⟨gz,q0,q5,q7⟩:=HND2.out wr HW.out
   have HWw:Hid (Below w.heap.size w wr):=HB0.out.trans (HW.out.mono HB0.out.size)
   go_wp2
   refine bodyPost_ret (v:=.tuple #[.int .i64 i,.int .i64 0,.int .i64 0]) (by simp[results,Tryz.results74,go_sem]) rfl ⟨rfl,HWw.out⟩
def qZx (l:List NodeA) (i:Int):Bool:=decide ((qA0 l i).1=i)&&decide ((qAd l i).sort=1)
def zC7 (l:List NodeA) (n:NodeA):Bool :=
 if n.op=4∨n.op=5∨n.op=8∨n.op=9 then false
 else if n.op=1 then !decide ((qAd l n.a0).op=1)
 else if n.op=6 then !(decide ((qAd l n.a0).sort=1)&&decide ((qAd l n.a1).sort=1))&&(!decide (n.a0=n.a1) || decide ((qAd l n.a0).sort=0))
 else if n.op=12 then !decide (n.a0=n.a1)&&qZx l n.a0&&qZx l n.a1
 else true
def zDk (l:List NodeA) (n:NodeA):Bool:=!zC7 l n
def isB (l:List NodeA):Bool:=zDp l && !l.any (zDk l)
def srt (l:List NodeA) (i:Int):Int:=(qAd l i).sort
structure WsN (l:List NodeA) (n:NodeA):Prop where
 s0:n.op=0→n.sort=0
 s1:n.op=1→n.sort=0∧srt l n.a0=0
 s2:n.op=2∨n.op=3∨n.op=4∨n.op=5→n.sort=0∧srt l n.a0=0∧srt l n.a1=0
 s6:n.op=6→n.sort=0∧srt l n.a0=srt l n.a1
 s7:n.op=7→srt l n.a0=0∧srt l n.a1=n.sort∧srt l n.a2=n.sort
 s8:n.op=8∨n.op=9∨n.op=12→n.sort=0∧srt l n.a0=1∧srt l n.a1=1
 s10:n.op=10→n.sort=1
 s11:n.op=11→n.sort=1∧srt l n.a0=1
def WS (l:List NodeA):Prop:=∀n∈l,WsN l n
theorem qPq {l:List NodeA} {n:NodeA} (h:n.op=2∨n.op=3∨n.op=4∨n.op=5) (h0:n.sort=0) (h1:srt l n.a0=0) (h2:srt l n.a1=0):WsN l n :=
 ⟨fun e=>by omega,fun e=>by omega,fun _=>⟨h0,h1,h2⟩,fun e=>by omega,fun e=>by omega,fun e=>by omega,fun e=>by omega,fun e=>by omega⟩
theorem qZy {l:List NodeA} {n:NodeA} (h:n.op=1) (h0:n.sort=0) (h1:srt l n.a0=0):WsN l n :=
 ⟨fun e=>by omega,fun _=>⟨h0,h1⟩,fun e=>by omega,fun e=>by omega,fun e=>by omega,fun e=>by omega,fun e=>by omega,fun e=>by omega⟩
theorem qZz {l:List NodeA} {n:NodeA} (h:n.op=6) (h0:n.sort=0) (h1:srt l n.a0=srt l n.a1):WsN l n :=
 ⟨fun e=>by omega,fun e=>by omega,fun e=>by omega,fun _=>⟨h0,h1⟩,fun e=>by omega,fun e=>by omega,fun e=>by omega,fun e=>by omega⟩
theorem qWf {l:List NodeA} {n:NodeA} (h:n.op=12) (h0:n.sort=0) (h1:srt l n.a0=1) (h2:srt l n.a1=1):WsN l n :=
 ⟨fun e=>by omega,fun e=>by omega,fun e=>by omega,fun e=>by omega,fun e=>by omega,fun _=>⟨h0,h1,h2⟩,fun e=>by omega,fun e=>by omega⟩
theorem qVa {l:List NodeA} {n:NodeA} (h:n.op=10) (h0:n.sort=1):WsN l n :=
 ⟨fun e=>by omega,fun e=>by omega,fun e=>by omega,fun e=>by omega,fun e=>by omega,fun e=>by omega,fun _=>h0,fun e=>by omega⟩
theorem zA0 {l:List NodeA} {n:NodeA} (h:n.op=11) (h0:n.sort=1) (h1:srt l n.a0=1):WsN l n :=
 ⟨fun e=>by omega,fun e=>by omega,fun e=>by omega,fun e=>by omega,fun e=>by omega,fun e=>by omega,fun e=>by omega,fun _=>⟨h0,h1⟩⟩
theorem qWg {l:List NodeA} {n:NodeA} (h:n.op=0) (h0:n.sort=0):WsN l n :=
 ⟨fun _=>h0,fun e=>by omega,fun e=>by omega,fun e=>by omega,fun e=>by omega,fun e=>by omega,fun e=>by omega,fun e=>by omega⟩
theorem qM1 {l:List NodeA} (r:List NodeA) {i:Int} (h0:0≤i) (h:i<(l.length:Int)):srt (l++r) i=srt l i:=by unfold srt;rw[qEt r h0 h]
theorem qBa {a b:MkS} {i:Int} (h:PlA a i) (k:Pre a b):srt b.l i=srt a.l i:=by
 obtain⟨r,hr⟩:=k.pre
 rw[hr];exact qM1 r h.1 h.2
theorem WsN.of_args {l l':List NodeA} {n n':NodeA} (h:WsN l n) (ho:n'.op=n.op) (hs:n'.sort=n.sort) (hl:n.op=13∨n.len=arityA n.op) (ha:∀j:Nat,(j:Int)<n.len→srt l' (qBc n' j)=srt l (qBc n j)):WsN l' n':=by
 have two:n.op=2∨n.op=3∨n.op=4∨n.op=5∨n.op=6∨n.op=8∨n.op=9∨n.op=12→n.len=2:=fun e=>by
  rcases hl with h|h
  ·omega
  ·rw[h];rcases e with e|e|e|e|e|e|e|e<;>rw[e]<;>decide
 have one:n.op=1∨n.op=11→n.len=1:=fun e=>by
  rcases hl with h|h
  ·omega
  ·rw[h];rcases e with e|e<;>rw[e]<;>decide
 have three:n.op=7→n.len=3:=fun e=>by
  rcases hl with h|h
  ·omega
  ·rw[h,e];decide
 have a0:(0:Int)<n.len→srt l' n'.a0=srt l n.a0:=fun h=>ha 0 h
 have a1:(1:Int)<n.len→srt l' n'.a1=srt l n.a1:=fun h=>ha 1 h
 have a2:(2:Int)<n.len→srt l' n'.a2=srt l n.a2:=fun h=>ha 2 h
 refine⟨fun e=>?_,fun e=>?_,fun e=>?_,fun e=>?_,fun e=>?_,fun e=>?_,fun e=>?_,fun e=>?_⟩<;>rw[ho] at e<;>rw[hs]
 ·exact h.s0 e
 ·have:=one (.inl e);rw[a0 (by omega)];exact h.s1 e
 ·have:=two (by omega);rw[a0 (by omega),a1 (by omega)];exact h.s2 e
 ·have:=two (by omega);rw[a0 (by omega),a1 (by omega)];exact h.s6 e
 ·have:=three e;rw[a0 (by omega),a1 (by omega),a2 (by omega)];exact h.s7 e
 ·have:=two (by omega);rw[a0 (by omega),a1 (by omega)];exact h.s8 e
 ·exact h.s10 e
 ·have:=one (.inr e);rw[a0 (by omega)];exact h.s11 e
theorem WsN.up {l:List NodeA} (r:List NodeA) {n:NodeA} {k:Nat} (h:WsN l n) (hst:standsB n k=true) (hk:k≤l.length):WsN (l++r) n:=by
 obtain⟨_,hl,ha⟩:=stands_args hst
 exact h.of_args rfl rfl hl fun j hj=>qM1 r (ha j hj).1 (by have:=(ha j hj).2;omega)
theorem qEd {most:Int} {s:MkS} {n:NodeA} (h:MkI s) (hW:WS s.l) (hs:s.e=0→standsB n s.l.length=true) (hn:s.e=0→WsN s.l n) (he:(qAq most s n).1.e=0):WS (qAq most s n).1.l∧srt (qAq most s n).1.l (qAq most s n).2=n.sort:=by
 unfold qAq at he ⊢
 by_cases h0:s.e=0
 ·rw[if_neg (fun h=>h h0)] at he ⊢
  by_cases hi:n∈s.l
  ·rw[if_pos hi] at he ⊢
   refine⟨hW,?_⟩
   show (qAd s.l ((qD2 s.l n:Nat):Int)).sort=n.sort
   rw[Option.some.inj ((nodA_get (qCn.1 hi)).symm.trans (qBk hi))]
  ·rw[if_neg hi] at he ⊢
   by_cases hl:most≤(s.l.length:Int)
   ·rw[if_pos hl] at he;exact absurd he (show ¬(40:Int)=0 by decide)
   ·rw[if_neg hl] at he ⊢
    refine⟨fun x hx=>?_,?_⟩
    ·rcases List.mem_append.1 hx with h1|h1
     ·obtain⟨k,hg⟩:=List.getElem?_of_mem h1
      exact(hW x h1).up [n] (ok_at (mayT_ok h.may).2 hg).1 (Nat.le_of_lt (List.getElem?_eq_some_iff.1 hg).1)
     ·rw[List.mem_singleton.1 h1]
      exact(hn h0).up [n] (hs h0) (Nat.le_refl _)
    ·show (qAd (s.l++[n]) ((s.l.length:Nat):Int)).sort=n.sort
     unfold qAd
     rw[Int.toNat_natCast,List.getD_eq_getElem?_getD,List.getElem?_append_right (Nat.le_refl _),Nat.sub_self];rfl
 ·rw[if_pos h0] at he;exact absurd he h0
theorem zC8 {most:Int} {s:MkS} {n:NodeA} (h:(qAq most s n).1.e=0):s.e=0:=by
 unfold qAq at h
 by_cases h0:s.e=0
 ·exact h0
 ·rw[if_pos h0] at h;exact absurd h h0
theorem qJs {s:MkS} (h:MkI s):srt s.l 0=0:=by
 have h2:=congrArg (fun z:List NodeA=>z[0]?) (mayT_ok h.may).1
 simp only[List.getElem?_take] at h2
 rw[if_pos (by omega)] at h2
 unfold srt qAd
 rw[List.getD_eq_getElem?_getD,show (0:Int).toNat=0 from rfl,h2];rfl
theorem qN3 {most:Int} {s:MkS} {n:NodeA} (h:MkI s) (hW:WS s.l) (ho:n.op=1) (ha:PlA s n.a0) (hs:s.e=0→standsB n s.l.length=true) (hn:s.e=0→WsN s.l n) (h0:n.sort=0) (he:(qIu most s n).1.e=0):WS (qIu most s n).1.l∧srt (qIu most s n).1.l (qIu most s n).2=0:=by
 unfold qIu at he ⊢
 split at he
 ·rename_i h1
  rw[if_pos h1]
  obtain⟨k,hk,hkl⟩:=ha.nat
  have:=hW (qAd s.l n.a0) (by rw[hk];exact qD6 hkl)
  exact⟨hW,(this.s1 h1).2⟩
 ·rename_i h1
  rw[if_neg h1]
  have:=qEd h hW hs hn he
  exact⟨this.1,this.2.trans h0⟩
theorem qN4 {most:Int} {s:MkS} {i:Int} (h:MkI s) (hW:WS s.l) (hi:PlA s i) (h0:s.e=0→srt s.l i=0) (he:(qDg most s i).1.e=0):WS (qDg most s i).1.l∧srt (qDg most s i).1.l (qDg most s i).2=0 :=
 qN3 h hW rfl hi (fun _=>qJ7 rfl hi) (fun e=>qZy rfl rfl (h0 e)) rfl he
theorem qFw {s:MkS} (h:MkI s) (hW:WS s.l) {i:Int} (hi:PlA s i) (h1:srt s.l i=1):srt s.l (qA0 s.l i).1=1:=by
 obtain⟨k,rfl,hk⟩:=hi.nat
 unfold qA0
 split
 ·show (qAd s.l 1).sort=1
  rw[qM0 h];rfl
 ·split
  ·rename_i h11
   exact((hW _ (qD6 hk)).s11 h11).2
  ·exact h1
theorem qIx {most:Int} {s:MkS} (h:MkI s) (hm:most≤2000) (hW:WS s.l) {a b:Int} (ha:PlA s a) (hb:PlA s b) (c:Int) (h1:s.e=0→srt s.l a=1∧srt s.l b=1) (he:(leM most s a b c).1.e=0):WS (leM most s a b c).1.l∧srt (leM most s a b c).1.l (leM most s a b c).2=0:=by
 have hp:=qFt s a b c
 have hi:=qFu h a b c
 have hd:=qN0 s a b c
 have px:=(qB2 h ha).up hp
 have py:=(qB2 h hb).up hp
 have hWd:WS (qBd s a b c).1.l:=by rw[hd];exact hW
 unfold leM at he ⊢
 split at he
 ·rename_i hne
  rw[if_pos hne]
  exact qEd hi hWd (fun he=>qBm (.inr ⟨rfl,(qHt he).2.1⟩) px py) (fun e=>by
   obtain⟨s1,s2⟩:=h1 (hp.e e)
   refine qWf rfl rfl ?_ ?_
   ·show srt (qBd s a b c).1.l (qA0 s.l a).1=1
    rw[hd];exact qFw h hW ha s1
   ·show srt (qBd s a b c).1.l (qA0 s.l b).1=1
    rw[hd];exact qFw h hW hb s2) he
 ·rename_i hne
  rw[if_neg hne]
  split at he
  ·rename_i h0
   rw[if_pos h0]
   exact⟨hWd,qJs hi⟩
  ·rename_i h0
   rw[if_neg h0]
   exact qN4 hi hWd (PlA.zero hi) (fun _=>qJs hi) he
theorem zA1 {most:Int} {s:MkS} {n:NodeA} (h:MkI s) (hm:most≤2000) (hW:WS s.l) (ha:PlA s n.a0) (hb:PlA s n.a1) (hn:s.e=0→srt s.l n.a0=0∧srt s.l n.a1=0) (he:(qPf most s n).1.e=0):WS (qPf most s n).1.l∧srt (qPf most s n).1.l (qPf most s n).2=0:=by
 have h1:=qDt (most:=most) h hm ha
 have hp:Pre (qDg most s n.a0).1 (qPf most s n).1:=(qB8 (most:=most) (n:=qAk 3 (qDg most s n.a0).2 n.a1 0) h1.inv hm (qH4 (qCi (by decide)) (h1.pl.i64 h1.inv.len) (hb.i64 h.len) ⟨by decide,by decide⟩) (fun _=>qBm (.inl ⟨by decide,rfl⟩) h1.pl (hb.up h1.pre))).pre
 have e1:=hp.e he
 have w1:=qN4 h hW ha (fun e=>(hn e).1) e1
 exact qEd h1.inv w1.1 (fun _=>qBm (.inl ⟨by decide,rfl⟩) h1.pl (hb.up h1.pre)) (fun e=>qPq (.inr (.inl rfl)) rfl w1.2 (by
  show srt (qDg most s n.a0).1.l n.a1=0
  rw[qBa hb h1.pre];exact(hn (h1.pre.e e)).2)) he
theorem zA2 {most:Int} {s:MkS} (h:MkI s) (hm:most≤2000) (hW:WS s.l) {a b:Int} (ha:PlA s a) (hb:PlA s b) (h1:s.e=0→srt s.l a=1∧srt s.l b=1) (he:(eqI most s a b).1.e=0):WS (eqI most s a b).1.l∧srt (eqI most s a b).1.l (eqI most s a b).2=0:=by
 have o1:=qBs h hm ha hb 0
 have o2:=qBs o1.inv hm (hb.up o1.pre) (ha.up o1.pre) 0
 have o3:=qB8 (most:=most) (n:=qAk 2 (leM most s a b 0).2 (leM most (leM most s a b 0).1 b a 0).2 0) o2.inv hm (qH4 (qCi (by decide)) (o1.pl.i64 o1.inv.len) (o2.pl.i64 o2.inv.len) ⟨by decide,by decide⟩) (fun _=>qBm (.inl ⟨by decide,rfl⟩) (o1.pl.up o2.pre) o2.pl)
 have e2:=o3.pre.e he
 have e1:=o2.pre.e e2
 have w1:=qIx h hm hW ha hb 0 h1 e1
 have w2:=qIx o1.inv hm w1.1 (hb.up o1.pre) (ha.up o1.pre) 0 (fun e=>by
  obtain⟨s1,s2⟩:=h1 (o1.pre.e e)
  rw[qBa hb o1.pre,qBa ha o1.pre];exact⟨s2,s1⟩) e2
 exact qEd o2.inv w2.1 (fun _=>qBm (.inl ⟨by decide,rfl⟩) (o1.pl.up o2.pre) o2.pl) (fun _=>qPq (.inl rfl) rfl (by
  show srt (leM most (leM most s a b 0).1 b a 0).1.l (leM most s a b 0).2=0
  rw[qBa o1.pl o2.pre];exact w1.2) w2.2) he
theorem qPr {most:Int} {s:MkS} {n:NodeA} (h:MkI s) (hm:most≤2000) (hW:WS s.l) (ho:n.op=6) (ha:PlA s n.a0) (hb:PlA s n.a1) (hs:s.e=0→standsB n s.l.length=true) (hn:s.e=0→WsN s.l n) (h0:n.sort=0) (he:(eqM most s n).1.e=0):WS (eqM most s n).1.l∧srt (eqM most s n).1.l (eqM most s n).2=0:=by
 unfold eqM at he ⊢
 split at he
 ·rename_i c0
  rw[if_pos c0]
  have:=qEd h hW hs hn he
  exact⟨this.1,this.2.trans h0⟩
 ·rename_i c0
  rw[if_neg c0]
  split at he
  ·rename_i c1
   rw[if_pos c1]
   exact zA2 h hm hW ha hb (fun e=>⟨c1,((hn e).s6 ho).2.symm.trans c1⟩) he
  ·rename_i c1
   rw[if_neg c1]
   split at he
   ·rename_i c2
    rw[if_pos c2]
    exact⟨hW,qJs h⟩
   ·rename_i c2
    rw[if_neg c2]
    have hmn:PlA s (min n.a0 n.a1):=by rcases Int.le_total n.a0 n.a1 with hh|hh<;>simp only[Int.min_eq_left,Int.min_eq_right,hh]<;>assumption
    have hmx:PlA s (max n.a0 n.a1):=by rcases Int.le_total n.a0 n.a1 with hh|hh<;>simp only[Int.max_eq_left,Int.max_eq_right,hh]<;>assumption
    exact qEd h hW (fun _=>qBm (.inl ⟨by decide,rfl⟩) hmn hmx) (fun e=>qZz rfl rfl (by
     show srt s.l (min n.a0 n.a1)=srt s.l (max n.a0 n.a1)
     have h6:=((hn e).s6 ho).2
     rcases Int.le_total n.a0 n.a1 with hh|hh
     ·rw[Int.min_eq_left hh,Int.max_eq_right hh];exact h6
     ·rw[Int.min_eq_right hh,Int.max_eq_left hh];exact h6.symm)) he
theorem qPs {most:Int} {s:MkS} {a b:Int} (h:MkI s) (hm:most≤2000) (hW:WS s.l) (ha:PlA s a) (hb:PlA s b) (hn:s.e=0→srt s.l a=srt s.l b) (he:(eqM most s (qAk 6 a b 0)).1.e=0):WS (eqM most s (qAk 6 a b 0)).1.l∧srt (eqM most s (qAk 6 a b 0)).1.l (eqM most s (qAk 6 a b 0)).2=0 :=
 qPr h hm hW rfl ha hb (fun _=>qBm (.inl ⟨by decide,rfl⟩) ha hb) (fun e=>qZz rfl rfl (hn e)) rfl he
theorem zA3 {most:Int} {s:MkS} {n:NodeA} (h:MkI s) (hm:most≤2000) (hW:WS s.l) (ha:PlA s n.a0) (hb:PlA s n.a1) (hn:s.e=0→srt s.l n.a0=srt s.l n.a1) (he:(qS2 most s n).1.e=0):WS (qS2 most s n).1.l∧srt (qS2 most s n).1.l (qS2 most s n).2=0:=by
 have o1:=qGp (a:=n.a0) (b:=n.a1) h hm ha hb
 have o2:=qDt (most:=most) o1.inv hm o1.pl
 have e1:=o2.pre.e he
 have w1:=qPs h hm hW ha hb hn e1
 exact qN4 o1.inv w1.1 o1.pl (fun _=>w1.2) he
theorem qVb {most:Int} {s:MkS} {it i:Int} (h:MkI s) (hm:most≤2000) (hW:WS s.l) (ha:PlA s it) (hb:PlA s i) (sort:Int) (hn:s.e=0→srt s.l it=sort∧srt s.l i=sort) (he:(qCp most s sort it i).e=0):WS (qCp most s sort it i).l:=by
 unfold qCp at he ⊢
 split at he
 ·rename_i c0
  rw[if_pos c0];exact hW
 ·rename_i c0
  rw[if_neg c0]
  split at he
  ·rename_i c1
   rw[if_pos c1]
   have o1:=qBs h hm ha hb 0
   have o2:=qBs o1.inv hm (hb.up o1.pre) (ha.up o1.pre) 0
   have e1:=o2.pre.e he
   have w1:=qIx h hm hW ha hb 0 (fun e=>by obtain⟨s1,s2⟩:=hn e;exact⟨s1.trans c1,s2.trans c1⟩) e1
   exact(qIx o1.inv hm w1.1 (hb.up o1.pre) (ha.up o1.pre) 0 (fun e=>by
    obtain⟨s1,s2⟩:=hn (o1.pre.e e)
    rw[qBa hb o1.pre,qBa ha o1.pre];exact⟨s2.trans c1,s1.trans c1⟩) he).1
  ·rename_i c1
   rw[if_neg c1]
   exact(qPs h hm hW ha hb (fun e=>by obtain⟨s1,s2⟩:=hn e;exact s1.trans s2.symm) he).1
theorem zA4 {most:Int} {s:MkS} {n:NodeA} (h:MkI s) (hm:most≤2000) (hW:WS s.l) (hk:NodeOk n) (ho:n.op=7) (hb:PlA s n.a1) (hc:PlA s n.a2) (hs:s.e=0→standsB n s.l.length=true) (hn:s.e=0→WsN s.l n) (he:(qIv most s n).1.e=0):WS (qIv most s n).1.l∧srt (qIv most s n).1.l (qIv most s n).2=n.sort:=by
 unfold qIv at he ⊢
 split at he
 ·rename_i c0
  rw[if_pos c0]
  exact⟨hW,((hn he).s7 ho).2.1⟩
 ·rename_i c0
  rw[if_neg c0]
  have o1:=qB8 (most:=most) h hm hk hs
  have o2:=qDa (most:=most) o1.inv hm o1.pl (hb.up o1.pre) n.sort
  have o3:=qDa (most:=most) o2.2 hm (o1.pl.up o2.1) ((hc.up o1.pre).up o2.1) n.sort
  have e2:=o3.1.e he
  have e1:=o2.1.e e2
  have w1:=qEd h hW hs hn e1
  have hh:=(hn (o1.pre.e e1)).s7 ho
  have w2:=qVb o1.inv hm w1.1 o1.pl (hb.up o1.pre) n.sort (fun _=>⟨w1.2,by rw[qBa hb o1.pre];exact hh.2.1⟩) e2
  have w3:=qVb o2.2 hm w2 (o1.pl.up o2.1) ((hc.up o1.pre).up o2.1) n.sort (fun _=>⟨by rw[qBa o1.pl o2.1];exact w1.2,by rw[qBa (hc.up o1.pre) o2.1,qBa hc o1.pre];exact hh.2.2⟩) he
  refine⟨w3,?_⟩
  show srt (qCp most (qCp most (qAq most s n).1 n.sort (qAq most s n).2 n.a1) n.sort (qAq most s n).2 n.a2).l (qAq most s n).2=n.sort
  rw[qBa (o1.pl.up o2.1) o3.1,qBa o1.pl o2.1];exact w1.2
theorem zA5 {most:Int} {s:MkS} {n:NodeA} (h:MkI s) (hm:most≤2000) (hW:WS s.l) (ho:n.op=11) (ha:PlA s n.a0) (hs:s.e=0→standsB n s.l.length=true) (hn:s.e=0→WsN s.l n) (he:(qIw most s n).1.e=0):WS (qIw most s n).1.l∧srt (qIw most s n).1.l (qIw most s n).2=1:=by
 have hp:=qGn s (qC6 (qA0 s.l n.a0).2 n.num) (qC4 (qA0 s.l n.a0).2 n.num)
 have hi:=qGo h (n:=qC6 (qA0 s.l n.a0).2 n.num) (qKs (qA0 s.l n.a0).2 n.num)
 have hl:=qO4 s (qC6 (qA0 s.l n.a0).2 n.num) (qC4 (qA0 s.l n.a0).2 n.num)
 have hk:(qDr s (qC6 (qA0 s.l n.a0).2 n.num) (qC4 (qA0 s.l n.a0).2 n.num)).1.e=0→s.e=0∧qAn (qDr s (qC6 (qA0 s.l n.a0).2 n.num) (qC4 (qA0 s.l n.a0).2 n.num)).2=true:=fun he=>by
  obtain⟨h1,h2,h3⟩:=qJ6 he
  obtain⟨_,_,h4,h5⟩:=qKt h1
  exact⟨h2,by rw[h3,h5];exact h4⟩
 have px:=qB2 h ha
 have hx:s.e=0→srt s.l (qA0 s.l n.a0).1=1:=fun e=>qFw h hW ha ((hn e).s11 ho).2
 unfold qIw at he ⊢
 generalize qDr s (qC6 (qA0 s.l n.a0).2 n.num) (qC4 (qA0 s.l n.a0).2 n.num)=k at *
 simp only at he ⊢
 have hWk:WS k.1.l:=by rw[hl];exact hW
 split at he
 ·rename_i c0
  rw[if_pos c0]
  refine⟨hWk,?_⟩
  show srt k.1.l (qA0 s.l n.a0).1=1
  rw[hl];exact hx (hk he).1
 ·rename_i c0
  rw[if_neg c0]
  split at he
  ·rename_i c1
   rw[if_pos c1]
   exact qEd hi hWk (fun he=>qHu (hk he).2) (fun _=>qVa rfl rfl) he
  ·rename_i c1
   rw[if_neg c1]
   have w:=qEd hi hWk (fun he=>qEq (by rw[hl];exact hs (hk he).1) ho (px.up hp) (hk he).2) (fun e=>zA0 ho ((hn (hk e).1).s11 ho).1 (by
    show srt k.1.l (qA0 s.l n.a0).1=1
    rw[hl];exact hx (hk e).1)) he
   refine⟨w.1,w.2.trans ?_⟩
   have he0:s.e=0:=(hk (zC8 he)).1
   exact((hn he0).s11 ho).1
theorem zA6 {most:Int} {s:MkS} {n:NodeA} (h:MkI s) (hm:most≤2000) (hW:WS s.l) (hn:NodeOk n) (hs:standsB n s.l.length=true) (hw:WsN s.l n) (he:(qCs most s n).1.e=0):WS (qCs most s n).1.l∧srt (qCs most s n).1.l (qCs most s n).2=n.sort:=by
 have hs':s.e=0→standsB n s.l.length=true:=fun _=>hs
 have hw':s.e=0→WsN s.l n:=fun _=>hw
 obtain⟨_,hl,ha⟩:=stands_args hs
 have p0:(0:Int)<n.len→PlA s n.a0:=fun h=>ha 0 h
 have p1:(1:Int)<n.len→PlA s n.a1:=fun h=>ha 1 h
 have p2:(2:Int)<n.len→PlA s n.a2:=fun h=>ha 2 h
 unfold qCs at he ⊢
 by_cases c1:n.op=1
 ·have hl:n.len=1:=by rcases hl with h|h<;>first|omega|(rw[h,c1];decide)
  rw[if_pos c1] at he ⊢
  have h0:=(hw.s1 c1).1
  rw[h0];exact qN3 h hW c1 (p0 (by omega)) hs' hw' h0 he
 rw[if_neg c1] at he ⊢
 by_cases c4:n.op=4
 ·have hl:n.len=2:=by rcases hl with h|h<;>first|omega|(rw[h,c4];decide)
  rw[if_pos c4] at he ⊢
  obtain⟨h0,h1,h2⟩:=hw.s2 (by omega)
  rw[h0];exact zA3 h hm hW (p0 (by omega)) (p1 (by omega)) (fun _=>h1.trans h2.symm) he
 rw[if_neg c4] at he ⊢
 by_cases c5:n.op=5
 ·have hl:n.len=2:=by rcases hl with h|h<;>first|omega|(rw[h,c5];decide)
  rw[if_pos c5] at he ⊢
  obtain⟨h0,h1,h2⟩:=hw.s2 (by omega)
  rw[h0];exact zA1 h hm hW (p0 (by omega)) (p1 (by omega)) (fun _=>⟨h1,h2⟩) he
 rw[if_neg c5] at he ⊢
 by_cases c6:n.op=6
 ·have hl:n.len=2:=by rcases hl with h|h<;>first|omega|(rw[h,c6];decide)
  rw[if_pos c6] at he ⊢
  have h0:=(hw.s6 c6).1
  rw[h0];exact qPr h hm hW c6 (p0 (by omega)) (p1 (by omega)) hs' hw' h0 he
 rw[if_neg c6] at he ⊢
 by_cases c7:n.op=7
 ·have hl:n.len=3:=by rcases hl with h|h<;>first|omega|(rw[h,c7];decide)
  rw[if_pos c7] at he ⊢;exact zA4 h hm hW hn c7 (p1 (by omega)) (p2 (by omega)) hs' hw' he
 rw[if_neg c7] at he ⊢
 by_cases c8:n.op=8
 ·have hl:n.len=2:=by rcases hl with h|h<;>first|omega|(rw[h,c8];decide)
  rw[if_pos c8] at he ⊢
  obtain⟨h0,h1,h2⟩:=hw.s8 (by omega)
  rw[h0];exact qIx h hm hW (p0 (by omega)) (p1 (by omega)) _ (fun _=>⟨h1,h2⟩) he
 rw[if_neg c8] at he ⊢
 by_cases c9:n.op=9
 ·have hl:n.len=2:=by rcases hl with h|h<;>first|omega|(rw[h,c9];decide)
  rw[if_pos c9] at he ⊢
  obtain⟨h0,h1,h2⟩:=hw.s8 (by omega)
  rw[h0];exact qIx h hm hW (p0 (by omega)) (p1 (by omega)) _ (fun _=>⟨h1,h2⟩) he
 rw[if_neg c9] at he ⊢
 by_cases c11:n.op=11
 ·have hl:n.len=1:=by rcases hl with h|h<;>first|omega|(rw[h,c11];decide)
  rw[if_pos c11] at he ⊢
  rw[(hw.s11 c11).1];exact zA5 h hm hW c11 (p0 (by omega)) hs' hw' he
 rw[if_neg c11] at he ⊢
 by_cases c12:n.op=12
 ·have hl:n.len=2:=by rcases hl with h|h<;>first|omega|(rw[h,c12];decide)
  rw[if_pos c12] at he ⊢
  obtain⟨h0,h1,h2⟩:=hw.s8 (by omega)
  rw[h0];exact qIx h hm hW (p0 (by omega)) (p1 (by omega)) _ (fun _=>⟨h1,h2⟩) he
 rw[if_neg c12] at he ⊢
 exact qEd h hW hs' hw' he
def QW (l0:List NodeA) (s:MkS) (im:List Int):Prop:=QO s.l∧WS s.l∧∀i:Nat,i<l0.length→¬imA im i=-1→srt s.l (imA im i)=srt l0 i
theorem zA7:WS qE9:=fun n hn=>by
 simp only[qE9,List.mem_cons,List.not_mem_nil,or_false] at hn
 rcases hn with rfl|rfl
 ·exact qWg rfl rfl
 ·exact qVa rfl rfl
theorem zA8 (l0:List NodeA):QW l0 ⟨qE9,0⟩ (List.replicate l0.length (-1)):=⟨qZw,zA7,fun i hi h=>absurd (by unfold imA;rw[List.getD_eq_getElem?_getD,Int.toNat_natCast,List.getElem?_replicate,if_pos hi];rfl) h⟩
theorem qPt {l0:List NodeA} {s:MkS} {im:List Int} {k:Nat} {n:NodeA} (hq:QW l0 s im) (hk:l0[k]? = some n) (hst:standsB n k=true) (ha:qJp im n) (hw:WsN l0 n):WsN s.l (qV6 im n n.len.toNat):=by
 obtain⟨h3,hl,hr⟩:=stands_args hst
 refine hw.of_args rfl rfl hl fun j hj=>?_
 rw[qJo _ _ _ _ (by omega),if_pos (by omega)]
 obtain⟨m,hm⟩:∃m:Nat,qBc n j=(m:Int):=⟨(qBc n j).toNat,by have:=(hr j hj).1;omega⟩
 have hlt:=(List.getElem?_eq_some_iff.1 hk).1
 have h1:=hr j hj
 have h2:=ha j hj
 rw[hm] at h1 h2 ⊢
 exact hq.2.2 m (by omega) h2
theorem qWh {most:Int} {l:List NodeA} (hm:most≤2000) (hok:∀n∈l,NodeOk n) (hst:∀(k:Nat) (n:NodeA),l[k]? = some n→standsB n k=true) (hws:∀n∈l,WsN l n):qLz (QW l) most l:=fun s im k n hw hk ha he=>by
 have hsn:=qPl (s:=s) (hok n (List.mem_of_getElem? hk)) hw.x n.len.toNat
 have hss:=qEs (l:=l) (hst k n hk) hw.imp ha
 have hwn:=qPt hw.q hk (hst k n hk) ha (hws n (List.mem_of_getElem? hk))
 have ho:Out most s (qDu most s im n):=qLx hw.inv hm hsn hss
 obtain⟨w1,w2⟩:=zA6 hw.inv hm hw.q.2.1 hsn hss hwn he
 have hlt:=(List.getElem?_eq_some_iff.1 hk).1
 refine⟨qZv hw.inv hm hw.q.1 hsn hss,w1,fun i hi h=>?_⟩
 rw[qHv (by omega) (by rw[hw.len];exact hlt)] at h ⊢
 by_cases hik:i=k
 ·rw[if_pos (by rw[hik]),hik]
  refine w2.trans ?_
  show n.sort=srt l (k:Nat)
  unfold srt
  rw[Option.some.inj ((nodA_get hlt).symm.trans hk)]
 ·rw[if_neg (by omega)] at h ⊢
  rw[qBa (hw.imp.at h) ho.pre]
  exact hw.q.2.2 i hi h
end Go.Proofs.YtfgpimhdjlmapaaGreatDoor.Tm
