/- The document's Put and Add of a base and a number. -/
import Derived.Laws.CopyOwn
import Derived.Deep.LoopGhost
import Derived.Laws.MakeOwn
import Derived.Laws.EntriesVeiled
import Derived.Test.YtfgpimhdjlmapaaGreatDoorDaD
namespace Go.Proofs.YtfgpimhdjlmapaaGreatDoor.Tm
open Go.RowKit
set_option linter.unusedVariables false
set_option maxRecDepth 100000
theorem qDi {P:Program} {fn:Func} {p u v z:Tmp} {ty:TypeId} (h:fn.results=#[.cell p ty,.tmp u,.tmp v,.tmp z]) (tmps:Array Value) (w:World) (g:Nat) (t:TypeId) (cs:Array Value) (fr:Nat × Nat) (d:TypeDesc)
  (hp:tmps.getD p undef=.pointer (some ⟨g,0,none⟩)) (hg:w.heap[g]? = some (.cells cs t fr))
  (hu:P.underlying ty=some d) (hd:(match d with|.struct _|.array _ _=>true|_=>false)=true) (hi:(P.info? ty).map (·.size)=some cs.size) :
  (results fn tmps).run P w=.ok (.tuple #[.agg cs,tmps.getD u undef,tmps.getD v undef,tmps.getD z undef]) w:=by
 have hp':tmps[p]?.getD undef=.pointer (some ⟨g,0,none⟩):=by simpa using hp
 simp[results,h,hp',asAddr,run_loadVar_row w g t ty cs fr d hg hu hd hi]
theorem TabN.setBox {V:World} {l:List NodeA} {a:Option Addr} {c b:Nat} {t:TypeId} {sa:Option Addr} {n m:Nat} {v:Value} (h:TabN V l a c) (h0:0<l.length) (hb:V.heap[b]? = some (.cells #[.slice sa n m] t (0,0))):TabN (V.setCell ⟨b,0,none⟩ v) l a c:=by
 obtain⟨x,hx⟩:∃x,l[0]? = some x:=⟨_,List.getElem?_eq_getElem h0⟩
 obtain⟨g,o,rfl,hg,q0,_⟩:=h.node hx
 have hne:g≠b:=by
  rintro rfl
  have h1:=cell_of_row V g (o+0*8) _ _ _ hb
  rw[h1] at q0
  cases ho:o+0*8 with
  | zero=>rw[ho] at q0;simp at q0
  | succ j=>rw[ho] at q0;simp at q0
 refine⟨⟨h.le,h.cap,fun hl=>?_,h.ok⟩,h.off⟩
 obtain⟨g2,o2,e,hg2,hc⟩:=h.tat hl
 cases e
 refine⟨g,o,rfl,by simpa using hg2,fun i u hu=>?_⟩
 have hk:(V.setCell ⟨b,0,none⟩ v).heap[g]? = V.heap[g]?:=Below.heap_setCell _ _ _ _ (fun e=>hne (by simpa using e))
 rw[←hc i u hu]
 simp only[World.cell?,hk]
def LeO (W:World) (r:MkS × Int) (e:Ending) (w':World):Prop :=
 Below W.heap.size W w'∧((r.1.e=0∧∃(a:Option Addr) (c:Nat) (q:Bool),e=.returned (.tuple #[.agg #[.slice a r.1.l.length c],.int .i64 r.2,.bool q,.int .i64 0])∧TabN w' r.1.l a c)∨(¬r.1.e=0∧∃q:Bool,e=.returned (.tuple #[.agg #[.slice none 0 0],.int .i64 0,.bool q,.int .i64 r.1.e])))
theorem qGq {w W0:World} {t:Value} (h:W0=(w.alloc (.cells #[t] 33)).alloc (.cells #[.slice none 0 0] 33)):Below w.heap.size w W0∧∀V,Below W0.heap.size W0 V→(V.cell? ⟨w.heap.size,0,none⟩=some t∧w.heap.size<V.heap.size)∧V.heap[w.heap.size+1]? = some (.cells #[.slice none 0 0] 33 (0,0)):=by
 have hB:Below w.heap.size w W0:=by rw[h];exact((Below.refl _ w).alloc (Nat.le_refl _) _).alloc (by simp) _
 have h1:W0.heap[w.heap.size]? = some (.cells #[t] 33 (0,0)):=by rw[h];exact(Below.heap_alloc _ _ _ (by simp)).trans (heap_alloc_new w _)
 have h2:W0.heap[w.heap.size+1]? = some (.cells #[.slice none 0 0] 33 (0,0)):=by
  have:=heap_alloc_new (w.alloc (.cells #[t] 33)) (.cells #[.slice none 0 0] 33)
  rw[World.size_alloc] at this
  rw[h];exact this
 refine⟨hB,fun V hV=>?_⟩
 have e1:=(hV.block _ (Array.getElem?_eq_some_iff.1 h1).1).trans h1
 exact⟨⟨(cell_of_row _ _ 0 _ _ _ e1).trans rfl,(Array.getElem?_eq_some_iff.1 e1).1⟩,(hV.block _ (Array.getElem?_eq_some_iff.1 h2).1).trans h2⟩
theorem qAw {w V:World} {b:Nat} {v:Value} (h:Below w.heap.size w V) (hb:w.heap.size≤b):Below w.heap.size w (V.setCell ⟨b,0,none⟩ v):=h.setCell (p:=⟨b,0,none⟩) hb _
theorem qGr {w V:World} {b:Nat} {v:Value} {t:TypeId} {z:Value} (hV:Below w.heap.size w V) (hwb:w.heap.size≤b) (hb:V.heap[b]? = some (.cells #[z] t (0,0))) (o:Obj):Below w.heap.size w ((V.setCell ⟨b,0,none⟩ v).alloc o)∧((V.setCell ⟨b,0,none⟩ v).alloc o).heap[b]? = some (.cells #[v] t (0,0)):=by
 have hlt:=(Array.getElem?_eq_some_iff.1 hb).1
 have h1:=qAw (v:=v) hV hwb
 exact⟨h1.alloc h1.size o,(Below.heap_alloc _ _ _ (by simpa using hlt)).trans (qAf hb)⟩
set_option maxHeartbeats 8000000 in
theorem qHx {s:MkS} (hI:MkI s) (h0:s.e=0) (hQ:QO s.l) (most:Int) (hm:most≤2000) {x y:Int} (hx:PlA s x) (hy:PlA s y) (sx:srt s.l x=1) (sy:srt s.l y=1) (k:Int) (a:Option Addr) (c:Nat) (w:World) (hA:TabN w s.l a c) :
  Calls Tryz.prog 77 #[.agg #[.slice a s.l.length c],.int .i64 x,.int .i64 y,.int .i64 k,.int .i64 most] w (LeO w (leM most s x y k)):=by
 obtain⟨W0,hW0⟩:∃W0,W0=(w.alloc (.cells #[.slice a s.l.length c] 33)).alloc (.cells #[.slice none 0 0] 33):=⟨_,rfl⟩
 obtain⟨hB0,hXX⟩:=qGq hW0
 have HA:Hid (∀V,Below W0.heap.size W0 V→TabN V s.l a c):=fun V hV=>hA.below (hB0.trans (hV.mono hB0.size))
 have hl2:=hI.le
 obtain⟨D,hD⟩:∃D,qBd s x y k=D:=⟨_,rfl⟩
 obtain⟨X1,hX1⟩:∃X,(qA0 s.l x).1=X:=⟨_,rfl⟩
 obtain⟨Y1,hY1⟩:∃X,(qA0 s.l y).1=X:=⟨_,rfl⟩
 have HDf:Hid (∀V,Below W0.heap.size W0 V→Calls Tryz.prog 92 #[.agg #[.slice a s.l.length c],.int .i64 x,.int .i64 y,.int .i64 k] V fun e w'=>Below V.heap.size V w'∧((¬D.1.e=0∧e=.returned (.tuple #[.int .i64 0,.int .i64 0,.int .i64 0,.int .i64 D.1.e]))∨(D=(s,D.2)∧e=.returned (.tuple #[.int .i64 X1,.int .i64 Y1,.int .i64 D.2,.int .i64 0])))):=fun V hV=>by
  have:=qQ0 hI h0 hQ hx hy sx sy k a c V (HA.out V hV)
  rw[hD,hX1,hY1] at this;exact this
 have hpx:=qB2 hI hx
 have hpy:=qB2 hI hy
 rw[hX1] at hpx
 rw[hY1] at hpy
 have HPut:Hid (∀V,Below W0.heap.size W0 V→qAn D.2=true→Calls Tryz.prog 55 #[.agg #[.slice a s.l.length c],.agg #[.int .i8 12,.int .i8 2,.int .i64 X1,.int .i64 Y1,.int .i64 0,.int .i64 0,.int .i64 0,.int .i64 D.2],.int .i64 most] V (qB4 V (qAq most s (qAk 12 X1 Y1 D.2)))):=fun V hV hd=>qEu hI h0 most hm (qAk 12 X1 Y1 D.2) (qBm (.inr ⟨rfl,hd⟩) hpx hpy) a c V (HA.out V hV)
 have HNeg:Hid (∀V,Below W0.heap.size W0 V→Calls Tryz.prog 55 #[.agg #[.slice a s.l.length c],.agg #[.int .i8 1,.int .i8 1,.int .i64 0,.int .i64 0,.int .i64 0,.int .i64 0,.int .i64 0,.int .i64 0],.int .i64 most] V (qB4 V (qAq most s (qMz 1 0)))):=fun V hV=>qEu hI h0 most hm (qMz 1 0) (qJ7 rfl (PlA.zero hI)) a c V (HA.out V hV)
 have HR1:Hid (¬D.1.e=0→(leM most s x y k).1.e=D.1.e):=fun h=>by
  have hs:∀n,qAq most D.1 n=(D.1,0):=fun n=>by unfold qAq;rw[if_pos h]
  have hz:(qAd D.1.l 0).op=0:=by
   have h3:=qN0 s x y k
   rw[hD] at h3
   rw[h3]
   have ht:s.l[0]? = some trueN:=by
    have h2:(s.l.take 2)[0]? = some trueN:=by rw[(mayT_ok hI.may).1];rfl
    rw[List.getElem?_take] at h2
    simpa using h2
   have h4:=nodA_get (l:=s.l) (k:=0) (by omega)
   rw[ht] at h4
   show (qAd s.l ((0:Nat):Int)).op=0
   rw[←Option.some.inj h4];rfl
  unfold leM
  rw[hD,hX1,hY1]
  by_cases hxy:X1=Y1
  ·rw[if_neg (fun h=>h hxy)]
   by_cases hd:0≤D.2
   ·rw[if_pos hd]
   ·rw[if_neg hd]
    unfold qDg qIu
    rw[if_neg (by show ¬(qAd D.1.l 0).op=1;omega),hs]
  ·rw[if_pos hxy,hs]
 have HR2:Hid (D=(s,D.2)→¬X1=Y1→leM most s x y k=qAq most s (qAk 12 X1 Y1 D.2)∧qAn D.2=true):=fun h hxy=>by
  have hz:=qHt (s:=s) (a:=x) (b:=y) (c:=k) (by rw[hD,h];exact h0)
  rw[hD] at hz
  refine⟨?_,hz.2.1⟩
  unfold leM
  rw[hD,hX1,hY1,if_pos hxy,h]
 have HR3:Hid (D=(s,D.2)→X1=Y1→0≤D.2→leM most s x y k=(s,0)):=fun h hxy hd=>by
  unfold leM
  rw[hD,hX1,hY1,if_neg (fun h=>h hxy),if_pos hd,h]
 have HR4:Hid (D=(s,D.2)→X1=Y1→¬0≤D.2→leM most s x y k=qAq most s (qMz 1 0)):=fun h hxy hd=>by
  unfold leM
  rw[hD,hX1,hY1,if_neg (fun h=>h hxy),if_neg hd,h]
  show qIu most s (qMz 1 0)=_
  unfold qIu
  rw[if_neg]
  show ¬(qAd s.l 0).op=1
  have ht:s.l[0]? = some trueN:=by
   have h2:(s.l.take 2)[0]? = some trueN:=by rw[(mayT_ok hI.may).1];rfl
   rw[List.getElem?_take] at h2
   simpa using h2
  have h4:=nodA_get (l:=s.l) (k:=0) (by omega)
  rw[ht] at h4
  have h5:trueN=qAd s.l 0:=Option.some.inj h4
  rw[←h5];decide
 have HPn:Hid (∀n,standsB n s.l.length=true→(qAq most s n).1.e=0→0<(qAq most s n).1.l.length):=fun n hst he=>by
  have:=(qB8 (most:=most) (n:=n) hI hm (qCh hst hI.len) (fun _=>hst)).inv.le
  omega
 have HLn:Hid ((leM most s x y k).1.e=0→0<(leM most s x y k).1.l.length):=fun _=>by
  have:=(qBs (most:=most) hI hm hx hy k).inv.le
  omega
 have HAw:=Lib.hid hA
 have HB0:=Lib.hid hB0
 have HE0:=Lib.hid h0
 generalize leM most s x y k=R at *
 have HXX:=Lib.hid hXX
 obtain⟨⟨x0,xz⟩,hrb⟩:=hXX _ (Below.refl _ _)
 clear hA hXX hB0 hI hQ hx hy sx sy hpx hpy hD hX1 hY1 hrb h0
 go_enter Tryz.func77,Tryz.ntmps77
 go_wp2_with fail
 rw[←hW0]
 clear hW0
 refine(HDf.out _ (Below.refl _ _)).mono ?_
 rintro e w1 ⟨hb1,⟨hne,rfl⟩|⟨hDs,rfl⟩⟩
 ·have HB1:=Lib.hid hb1
  have e0:=qDf hne
  have h1:=HR1.out hne
  clear hb1 x0 xz
  obtain⟨⟨x0,xz⟩,hrb⟩:=HXX.out w1 HB1.out
  obtain⟨y0,yf,yz⟩:=qA6 hrb
  have HRb:=Lib.hid hrb
  have HP:Hid (LeO w R (.returned (.tuple #[.agg #[.slice none 0 0],.int .i64 0,.bool false,.int .i64 D.1.e])) (w1.setCell ⟨w.heap.size+1,0,none⟩ (.slice none 0 0))):=⟨qAw (qA5 HB0.out HB1.out) (by omega),.inr ⟨by rw[h1];exact hne,false,by rw[h1]⟩⟩
  clear hrb hne h1
  go_wp2_with fail
  refine bodyPost_ret (qDi rfl _ _ (w.heap.size+1) _ _ _ _ rfl (qAf HRb.out) Tryz.underlying33 rfl qA3) rfl ?_
  exact HP.out
 have HB1:=Lib.hid hb1
 clear hb1 x0 xz
 obtain⟨⟨x0,xz⟩,hrb⟩:=HXX.out w1 HB1.out
 obtain⟨y0,yf,yz⟩:=qA6 hrb
 have HRb:=Lib.hid hrb
 clear hrb
 by_cases hxy:X1=Y1
 ·have e1:(X1 != Y1)=false:=ne_f hxy
  by_cases hd:0≤D.2
  ·have e2:decide (0≤D.2)=true:=decide_eq_true hd
   have h1:=HR3.out hDs hxy hd
   have HP:Hid (LeO w R (.returned (.tuple #[.agg #[.slice a s.l.length c],.int .i64 0,.bool false,.int .i64 0])) (w1.setCell ⟨w.heap.size+1,0,none⟩ (.slice a s.l.length c))):=by
    have hb:=qAw (v:=.slice a s.l.length c) (qA5 HB0.out HB1.out) (b:=w.heap.size+1) (by omega)
    refine⟨hb,.inl ⟨by rw[h1];exact HE0.out,a,c,false,by rw[h1],?_⟩⟩
    rw[h1];exact HAw.out.below hb
   clear h1 hxy hd hDs
   go_wp2_with fail
   refine bodyPost_ret (qDi rfl _ _ (w.heap.size+1) _ _ _ _ rfl (qAf HRb.out) Tryz.underlying33 rfl qA3) rfl ?_
   exact HP.out
  have e2:decide (0≤D.2)=false:=decide_eq_false hd
  have h1:=HR4.out hDs hxy (by omega)
  have HLn':=HLn
  rw[h1] at HLn'
  have HEq:=Lib.hid h1
  clear h1 hxy hd hDs
  go_wp2_with fail
  refine(HNeg.out _ HB1.out).mono ?_
  rintro e w2 ⟨hb2,⟨hz,a2,c2,rfl,hT2⟩|⟨hnz,rfl⟩⟩
  ·have HB2:Hid (∀o,Below W0.heap.size W0 (w2.alloc o)):=fun o=>(HB1.out.trans (hb2.mono HB1.out.size)).alloc (by have:=hb2.size;have:=HB1.out.size;omega) o
   have hb12:Below W0.heap.size W0 w2:=HB1.out.trans (hb2.mono HB1.out.size)
   clear x0 xz y0 yf yz
   obtain⟨⟨x0,xz⟩,hrb⟩:=HXX.out w2 hb12
   obtain⟨y0,yf,yz⟩:=qA6 hrb
   obtain⟨P,hP⟩:∃P,qAq most s (qMz 1 0)=P:=⟨_,rfl⟩
   rw[hP] at hz hT2
   rw[hP]
   have HLp:=HLn'.out
   rw[hP] at HLp
   have HP:Hid (∀o,LeO w R (.returned (.tuple #[.agg #[.slice a2 P.1.l.length c2],.int .i64 P.2,.bool false,.int .i64 0])) ((w2.setCell ⟨w.heap.size+1,0,none⟩ (.slice a2 P.1.l.length c2)).alloc o)∧((w2.setCell ⟨w.heap.size+1,0,none⟩ (.slice a2 P.1.l.length c2)).alloc o).heap[w.heap.size+1]? = some (.cells #[.slice a2 P.1.l.length c2] 33 (0,0))):=fun o=>by
    obtain⟨hbo,hr2⟩:=qGr (v:=.slice a2 P.1.l.length c2) (qA5 HB0.out hb12) (b:=w.heap.size+1) (by omega) hrb o
    refine⟨⟨hbo,.inl ⟨by rw[HEq.out,hP];exact hz,a2,c2,false,by rw[HEq.out,hP],?_⟩⟩,hr2⟩
    rw[HEq.out,hP]
    exact(hT2.setBox (HLp hz) hrb).below ((Below.refl _ _).alloc (Nat.le_refl _) o)
   clear hz hT2 hP HLp hb2 hb12 hrb
   go_wp2_with fail
   refine bodyPost_ret (qDi rfl _ _ (w.heap.size+1) _ _ _ _ rfl (HP.out _).2 Tryz.underlying33 rfl qA3) rfl ?_
   exact(HP.out _).1
  ·have HB2:Hid (∀o,Below W0.heap.size W0 (w2.alloc o)):=fun o=>(HB1.out.trans (hb2.mono HB1.out.size)).alloc (by have:=hb2.size;have:=HB1.out.size;omega) o
   have hb12:Below W0.heap.size W0 w2:=HB1.out.trans (hb2.mono HB1.out.size)
   clear x0 xz y0 yf yz
   obtain⟨⟨x0,xz⟩,hrb⟩:=HXX.out w2 hb12
   obtain⟨y0,yf,yz⟩:=qA6 hrb
   obtain⟨P,hP⟩:∃P,qAq most s (qMz 1 0)=P:=⟨_,rfl⟩
   rw[hP] at hnz
   rw[hP]
   have HP:Hid (∀o,LeO w R (.returned (.tuple #[.agg #[.slice none 0 0],.int .i64 0,.bool false,.int .i64 P.1.e])) ((w2.setCell ⟨w.heap.size+1,0,none⟩ (.slice none 0 0)).alloc o)∧((w2.setCell ⟨w.heap.size+1,0,none⟩ (.slice none 0 0)).alloc o).heap[w.heap.size+1]? = some (.cells #[.slice none 0 0] 33 (0,0))):=fun o=>by
    obtain⟨hbo,hr2⟩:=qGr (v:=.slice none 0 0) (qA5 HB0.out hb12) (b:=w.heap.size+1) (by omega) hrb o
    exact⟨⟨hbo,.inr ⟨by rw[HEq.out,hP];exact hnz,false,by rw[HEq.out,hP]⟩⟩,hr2⟩
   clear hnz hP hb2 hb12 hrb
   go_wp2_with fail
   refine bodyPost_ret (qDi rfl _ _ (w.heap.size+1) _ _ _ _ rfl (HP.out _).2 Tryz.underlying33 rfl qA3) rfl ?_
   exact(HP.out _).1
 have e1:(X1 != Y1)=true:=qDf hxy
 obtain⟨h1,hmy⟩:=HR2.out hDs hxy
 have HLn':=HLn
 rw[h1] at HLn'
 have HEq:=Lib.hid h1
 clear h1 hxy hDs
 go_wp2_with fail
 refine(HPut.out _ HB1.out hmy).mono ?_
 rintro e w2 ⟨hb2,⟨hz,a2,c2,rfl,hT2⟩|⟨hnz,rfl⟩⟩
 ·have HB2:Hid (∀o,Below W0.heap.size W0 (w2.alloc o)):=fun o=>(HB1.out.trans (hb2.mono HB1.out.size)).alloc (by have:=hb2.size;have:=HB1.out.size;omega) o
  have hb12:Below W0.heap.size W0 w2:=HB1.out.trans (hb2.mono HB1.out.size)
  clear x0 xz y0 yf yz
  obtain⟨⟨x0,xz⟩,hrb⟩:=HXX.out w2 hb12
  obtain⟨y0,yf,yz⟩:=qA6 hrb
  obtain⟨P,hP⟩:∃P,qAq most s (qAk 12 X1 Y1 D.2)=P:=⟨_,rfl⟩
  rw[hP] at hz hT2
  rw[hP]
  have HLp:=HLn'.out
  rw[hP] at HLp
  have HP:Hid (∀o,LeO w R (.returned (.tuple #[.agg #[.slice a2 P.1.l.length c2],.int .i64 P.2,.bool true,.int .i64 0])) ((w2.setCell ⟨w.heap.size+1,0,none⟩ (.slice a2 P.1.l.length c2)).alloc o)∧((w2.setCell ⟨w.heap.size+1,0,none⟩ (.slice a2 P.1.l.length c2)).alloc o).heap[w.heap.size+1]? = some (.cells #[.slice a2 P.1.l.length c2] 33 (0,0))):=fun o=>by
   obtain⟨hbo,hr2⟩:=qGr (v:=.slice a2 P.1.l.length c2) (qA5 HB0.out hb12) (b:=w.heap.size+1) (by omega) hrb o
   refine⟨⟨hbo,.inl ⟨by rw[HEq.out,hP];exact hz,a2,c2,true,by rw[HEq.out,hP],?_⟩⟩,hr2⟩
   rw[HEq.out,hP]
   exact(hT2.setBox (HLp hz) hrb).below ((Below.refl _ _).alloc (Nat.le_refl _) o)
  clear hz hT2 hP HLp hb2 hb12 hrb
  go_wp2_with fail
  refine bodyPost_ret (qDi rfl _ _ (w.heap.size+1) _ _ _ _ rfl (HP.out _).2 Tryz.underlying33 rfl qA3) rfl ?_
  exact(HP.out _).1
 ·have HB2:Hid (∀o,Below W0.heap.size W0 (w2.alloc o)):=fun o=>(HB1.out.trans (hb2.mono HB1.out.size)).alloc (by have:=hb2.size;have:=HB1.out.size;omega) o
  have hb12:Below W0.heap.size W0 w2:=HB1.out.trans (hb2.mono HB1.out.size)
  clear x0 xz y0 yf yz
  obtain⟨⟨x0,xz⟩,hrb⟩:=HXX.out w2 hb12
  obtain⟨y0,yf,yz⟩:=qA6 hrb
  obtain⟨P,hP⟩:∃P,qAq most s (qAk 12 X1 Y1 D.2)=P:=⟨_,rfl⟩
  rw[hP] at hnz
  rw[hP]
  have ep:(P.1.e==0)=false:=qB7 hnz
  have HP:Hid (∀o,LeO w R (.returned (.tuple #[.agg #[.slice none 0 0],.int .i64 0,.bool false,.int .i64 P.1.e])) ((w2.setCell ⟨w.heap.size+1,0,none⟩ (.slice none 0 0)).alloc o)∧((w2.setCell ⟨w.heap.size+1,0,none⟩ (.slice none 0 0)).alloc o).heap[w.heap.size+1]? = some (.cells #[.slice none 0 0] 33 (0,0))):=fun o=>by
   obtain⟨hbo,hr2⟩:=qGr (v:=.slice none 0 0) (qA5 HB0.out hb12) (b:=w.heap.size+1) (by omega) hrb o
   exact⟨⟨hbo,.inr ⟨by rw[HEq.out,hP];exact hnz,false,by rw[HEq.out,hP]⟩⟩,hr2⟩
  clear hnz hP hb2 hb12 hrb
  go_wp2_with fail
  refine bodyPost_ret (qDi rfl _ _ (w.heap.size+1) _ _ _ _ rfl (HP.out _).2 Tryz.underlying33 rfl qA3) rfl ?_
  exact(HP.out _).1
theorem qAl {w V w2:World} {r:MkS × Int} {e:Ending} {b:Nat} (h:qB4 V r e w2) (hV:Below w.heap.size w V) (hwb:w.heap.size≤b) (hb:V.heap[b]? = some (.cells #[.slice none 0 0] 33 (0,0))) (hl:r.1.e=0→0<r.1.l.length) :
  ∃(va:Option Addr) (n c:Nat) (i er:Int),e=.returned (.tuple #[.agg #[.slice va n c],.int .i64 i,.int .i64 er])∧w2.heap[b]? = some (.cells #[.slice none 0 0] 33 (0,0))∧qB4 w r (.returned (.tuple #[.agg #[.slice va n c],.int .i64 i,.int .i64 er])) (w2.setCell ⟨b,0,none⟩ (.slice va n c)):=by
 obtain⟨hb2,h2⟩:=h
 have hr2:=(hb2.block _ (Array.getElem?_eq_some_iff.1 hb).1).trans hb
 have hw2:Below w.heap.size w w2:=qA5 hV hb2
 rcases h2 with⟨hz,a,c,rfl,hT⟩|⟨hz,rfl⟩
 ·exact⟨a,r.1.l.length,c,r.2,0,rfl,hr2,qAw hw2 hwb,.inl ⟨hz,a,c,rfl,hT.setBox (hl hz) hr2⟩⟩
 ·exact⟨none,0,0,0,r.1.e,rfl,hr2,qAw hw2 hwb,.inr ⟨hz,rfl⟩⟩
theorem qN5 {w V:World} {r:MkS × Int} {b:Nat} {er:Int} (hV:Below w.heap.size w V) (hwb:w.heap.size≤b) (h:r.1.e=er) (h0:¬er=0):qB4 w r (.returned (.tuple #[.agg #[.slice none 0 0],.int .i64 0,.int .i64 er])) (V.setCell ⟨b,0,none⟩ (.slice none 0 0)) :=
 ⟨qAw hV hwb,.inr ⟨by rw[h];exact h0,by rw[h]⟩⟩
theorem qKw {w V:World} {r:MkS × Int} {s:MkS} {i:Int} {a:Option Addr} {c b:Nat} (hA:TabN w s.l a c) (hV:Below w.heap.size w V) (hwb:w.heap.size≤b) (h0:s.e=0) (h:r=(s,i)):qB4 w r (.returned (.tuple #[.agg #[.slice a s.l.length c],.int .i64 i,.int .i64 0])) (V.setCell ⟨b,0,none⟩ (.slice a s.l.length c)):=by
 subst h
 have hb:=qAw (v:=.slice a s.l.length c) hV hwb
 exact⟨hb,.inl ⟨h0,a,c,rfl,hA.below hb⟩⟩
def qFy (most:Int) (s:MkS) (b n:Int):MkS × Int:=if b=1 then qAq most s ⟨10,0,0,0,0,1,0,n⟩ else if n=0 then (s,b) else qAq most s ⟨11,1,b,0,0,1,0,n⟩
theorem qSo {most:Int} {s:MkS} (hI:MkI s) (h0:s.e=0):qAq most s qD5=(s,1):=by
 have hz:=mayT_zero hI.may
 have hm:qD5∈s.l:=List.mem_of_getElem? hz
 have hf:qD2 s.l qD5=1:=by
  have h1:=qBk hm
  rcases Nat.lt_trichotomy (qD2 s.l qD5) 1 with h2|h2|h2
  ·exact absurd h1 ((ok_at (mayT_ok hI.may).2 hz).2 _ h2)
  ·exact h2
  ·exact absurd hz ((ok_at (mayT_ok hI.may).2 h1).2 _ h2)
 unfold qAq
 rw[if_neg (fun h=>h h0),if_pos hm,hf];rfl
theorem qSp {most:Int} {s:MkS} (hI:MkI s) (h0:s.e=0):qAq most s trueN=(s,0):=by
 have hz:s.l[0]? = some trueN:=by
  have h2:(s.l.take 2)[0]? = some trueN:=by rw[(mayT_ok hI.may).1];rfl
  rw[List.getElem?_take] at h2
  simpa using h2
 have hm:trueN∈s.l:=List.mem_of_getElem? hz
 have hf:qD2 s.l trueN=0:=by
  have h1:=qBk hm
  rcases Nat.lt_trichotomy (qD2 s.l trueN) 0 with h2|h2|h2
  ·exact absurd h2 (Nat.not_lt_zero _)
  ·exact h2
  ·exact absurd hz ((ok_at (mayT_ok hI.may).2 h1).2 _ h2)
 unfold qAq
 rw[if_neg (fun h=>h h0),if_pos hm,hf];rfl
theorem zAi {most:Int} {s:MkS} (hI:MkI s) (h0:s.e=0) {i n:Int}:(¬qC4 (qA0 s.l i).2 n=0→(qIw most s ⟨11,1,i,0,0,1,0,n⟩).1.e=qC4 (qA0 s.l i).2 n)∧(qC4 (qA0 s.l i).2 n=0→qIw most s ⟨11,1,i,0,0,1,0,n⟩=qFy most s (qA0 s.l i).1 (qC6 (qA0 s.l i).2 n)):=by
 refine⟨fun h=>?_,fun h=>?_⟩
 ·have hk:qDr s (qC6 (qA0 s.l i).2 n) (qC4 (qA0 s.l i).2 n)=(⟨s.l,qC4 (qA0 s.l i).2 n⟩,0):=by unfold qDr;rw[if_neg h,if_pos h0]
  unfold qIw
  simp only[hk,if_true]
 ·have hk:qDr s (qC6 (qA0 s.l i).2 n) (qC4 (qA0 s.l i).2 n)=(s,qC6 (qA0 s.l i).2 n):=by unfold qDr;rw[if_pos h]
  unfold qIw qFy
  simp only[hk]
  by_cases h1:qC6 (qA0 s.l i).2 n=0
  ·rw[if_pos h1]
   by_cases h2:(qA0 s.l i).1=1
   ·rw[if_pos h2,h1,h2];exact(qSo hI h0).symm
   ·rw[if_neg h2,if_pos h1]
  ·rw[if_neg h1]
   by_cases h2:(qA0 s.l i).1=1
   ·rw[if_pos h2,if_pos h2]
   ·rw[if_neg h2,if_neg h2,if_neg h1]
set_option maxHeartbeats 8000000 in
theorem qKx {s:MkS} (hI:MkI s) (h0:s.e=0) (hQ:QO s.l) (most:Int) (hm:most≤2000) {b n:Int} (hb:PlA s b) (sb:srt s.l b=1) (hsp:(qA0 s.l b).1=b) (hn:qAn n=true) (a:Option Addr) (c:Nat) (w:World) (hA:TabN w s.l a c) :
  Calls Tryz.prog 47 #[.agg #[.slice a s.l.length c],.int .i64 b,.int .i64 n,.int .i64 most] w (qB4 w (qFy most s b n)):=by
 obtain⟨W0,hW0⟩:∃W0,W0=(w.alloc (.cells #[.slice a s.l.length c] 33)).alloc (.cells #[.slice none 0 0] 33):=⟨_,rfl⟩
 obtain⟨hB0,hXX⟩:=qGq hW0
 have HA:Hid (∀V,Below W0.heap.size W0 V→TabN V s.l a c):=fun V hV=>hA.below (hB0.trans (hV.mono hB0.size))
 obtain⟨k2,hk2⟩:∃k,(qA0 s.l b).2=k:=⟨_,rfl⟩
 have HOf:Hid (∀V,Below W0.heap.size W0 V→Calls Tryz.prog 74 #[.agg #[.slice a s.l.length c],.int .i64 b] V fun e w'=>e=.returned (.tuple #[.int .i64 b,.int .i64 k2,.int .i64 0])∧Below V.heap.size V w'):=fun V hV=>by
  have:=qJt hI hQ hb sb a c V (HA.out V hV).r
  rw[hsp,hk2] at this;exact this
 have HMay:Hid (∀V,Calls Tryz.prog 44 #[.int .i64 n] V fun e w'=>e=.returned (.bool true)∧V=w'):=fun V=>by
  have:=qDy n V
  rw[hn] at this;exact this
 have HNum:Hid (∀V,Below W0.heap.size W0 V→Calls Tryz.prog 55 #[.agg #[.slice a s.l.length c],.agg #[.int .i8 10,.int .i8 0,.int .i64 0,.int .i64 0,.int .i64 0,.int .i64 1,.int .i64 0,.int .i64 n],.int .i64 most] V (qB4 V (qAq most s ⟨10,0,0,0,0,1,0,n⟩))):=fun V hV=>qEu hI h0 most hm ⟨10,0,0,0,0,1,0,n⟩ (qHu hn) a c V (HA.out V hV)
 have stA:standsB ⟨11,1,b,0,0,1,0,n⟩ s.l.length=true:=by
  unfold standsB
  rw[decide_eq_true_eq]
  refine⟨⟨by show (0:Int)≤11;decide,by show (11:Int)<14;decide,?_⟩,⟨by show (0:Int)≤1;decide,by show (1:Int)<6;decide⟩,qBr.ins (by show ((0:Nat):Int)<1;decide) hb,qBr.out (by show (1:Int)≤((1:Nat):Int);decide),qBr.out (by show (1:Int)≤((2:Nat):Int);decide)⟩
  show (if (11:Int)=13 then _ else if (11:Int)=10∨(11:Int)=11∨(11:Int)=12 then _ else _)
  rw[if_neg (by decide),if_pos (by decide)]
  exact⟨rfl,rfl,hn⟩
 have HAdd:Hid (∀V,Below W0.heap.size W0 V→Calls Tryz.prog 55 #[.agg #[.slice a s.l.length c],.agg #[.int .i8 11,.int .i8 1,.int .i64 b,.int .i64 0,.int .i64 0,.int .i64 1,.int .i64 0,.int .i64 n],.int .i64 most] V (qB4 V (qAq most s ⟨11,1,b,0,0,1,0,n⟩))):=fun V hV=>qEu hI h0 most hm ⟨11,1,b,0,0,1,0,n⟩ stA a c V (HA.out V hV)
 have HL1:Hid ((qAq most s ⟨10,0,0,0,0,1,0,n⟩).1.e=0→0<(qAq most s ⟨10,0,0,0,0,1,0,n⟩).1.l.length):=fun _=>by
  have:=(qB8 (most:=most) hI hm (qCh (qHu (at_:=s.l.length) hn) hI.len) (fun _=>qHu hn)).inv.le
  omega
 have HL2:Hid ((qAq most s ⟨11,1,b,0,0,1,0,n⟩).1.e=0→0<(qAq most s ⟨11,1,b,0,0,1,0,n⟩).1.l.length):=fun _=>by
  have:=(qB8 (most:=most) hI hm (qCh stA hI.len) (fun _=>stA)).inv.le
  omega
 have HAw:=Lib.hid hA
 have HB0:=Lib.hid hB0
 have HE0:=Lib.hid h0
 have HXX:=Lib.hid hXX
 have eb:(b != b)=false:=by simp
 obtain⟨⟨x0,xz⟩,hrb⟩:=hXX _ (Below.refl _ _)
 by_cases hb1:b=1
 ·have e1:=qC9 hb1
  have HP1:Hid (qFy most s b n=qAq most s ⟨10,0,0,0,0,1,0,n⟩):=by show _=_;unfold qFy;rw[if_pos hb1]
  clear hA hXX hB0 hI hQ hb sb hsp hn stA hrb h0 hb1 hk2
  go_enter Tryz.func47,Tryz.ntmps47
  go_wp2_with fail
  rw[←hW0]
  clear hW0
  refine(HOf.out _ (Below.refl _ _)).mono ?_
  rintro e w1 ⟨rfl,hb1⟩
  have HB1:=Lib.hid hb1
  clear hb1 x0 xz
  obtain⟨⟨x0,xz⟩,hrb⟩:=HXX.out w1 HB1.out
  obtain⟨y0,yf,yz⟩:=qA6 hrb
  have HRb:=Lib.hid hrb
  clear hrb
  go_wp2_with fail
  refine(HMay.out _).mono ?_
  rintro e w2 ⟨rfl,rfl⟩
  go_wp2_with fail
  refine(HNum.out _ HB1.out).mono ?_
  rintro e w2 hO
  obtain⟨va,nn,cc,i,er,rfl,hr2,hO2⟩:=qAl (w:=w) hO (qA5 HB0.out HB1.out) (by omega) HRb.out HL1.out
  rw[←HP1.out] at hO2
  have HO2:=Lib.hid hO2
  have HR2:=Lib.hid hr2
  clear x0 xz y0 yf yz hO hO2
  obtain⟨y0,yf,yz⟩:=qA6 hr2
  clear hr2
  go_wp2_with fail
  refine bodyPost_ret (qA4 rfl _ _ (w.heap.size+1) _ _ _ _ rfl (qAf HR2.out) Tryz.underlying33 rfl qA3) rfl ?_
  exact HO2.out
 have e1:=qB7 hb1
 by_cases hn0:n=0
 ·have e2:=qC9 hn0
  have HP:Hid (∀V,Below W0.heap.size W0 V→qB4 w (qFy most s b n) (.returned (.tuple #[.agg #[.slice a s.l.length c],.int .i64 b,.int .i64 0])) (V.setCell ⟨w.heap.size+1,0,none⟩ (.slice a s.l.length c))):=fun V hV=>qKw HAw.out (qA5 HB0.out hV) (by omega) HE0.out (by unfold qFy;rw[if_neg hb1,if_pos hn0])
  clear hA hXX hB0 hI hQ hb sb hsp hn stA hrb h0 hb1 hn0 hk2
  go_enter Tryz.func47,Tryz.ntmps47
  go_wp2_with fail
  rw[←hW0]
  clear hW0
  refine(HOf.out _ (Below.refl _ _)).mono ?_
  rintro e w1 ⟨rfl,hb1⟩
  have HB1:=Lib.hid hb1
  clear hb1 x0 xz
  obtain⟨⟨x0,xz⟩,hrb⟩:=HXX.out w1 HB1.out
  obtain⟨y0,yf,yz⟩:=qA6 hrb
  have HRb:=Lib.hid hrb
  clear hrb
  go_wp2_with fail
  refine(HMay.out _).mono ?_
  rintro e w2 ⟨rfl,rfl⟩
  go_wp2_with fail
  refine bodyPost_ret (qA4 rfl _ _ (w.heap.size+1) _ _ _ _ rfl (qAf HRb.out) Tryz.underlying33 rfl qA3) rfl ?_
  exact HP.out _ HB1.out
 have e2:=qB7 hn0
 have HP1:Hid (qFy most s b n=qAq most s ⟨11,1,b,0,0,1,0,n⟩):=by show _=_;unfold qFy;rw[if_neg hb1,if_neg hn0]
 clear hA hXX hB0 hI hQ hb sb hsp hn stA hrb h0 hb1 hn0 hk2
 go_enter Tryz.func47,Tryz.ntmps47
 go_wp2_with fail
 rw[←hW0]
 clear hW0
 refine(HOf.out _ (Below.refl _ _)).mono ?_
 rintro e w1 ⟨rfl,hb1⟩
 have HB1:=Lib.hid hb1
 clear hb1 x0 xz
 obtain⟨⟨x0,xz⟩,hrb⟩:=HXX.out w1 HB1.out
 obtain⟨y0,yf,yz⟩:=qA6 hrb
 have HRb:=Lib.hid hrb
 clear hrb
 go_wp2_with fail
 refine(HMay.out _).mono ?_
 rintro e w2 ⟨rfl,rfl⟩
 go_wp2_with fail
 refine(HAdd.out _ HB1.out).mono ?_
 rintro e w2 hO
 obtain⟨va,nn,cc,i,er,rfl,hr2,hO2⟩:=qAl (w:=w) hO (qA5 HB0.out HB1.out) (by omega) HRb.out HL2.out
 rw[←HP1.out] at hO2
 have HO2:=Lib.hid hO2
 have HR2:=Lib.hid hr2
 clear x0 xz y0 yf yz hO hO2
 obtain⟨y0,yf,yz⟩:=qA6 hr2
 clear hr2
 go_wp2_with fail
 refine bodyPost_ret (qA4 rfl _ _ (w.heap.size+1) _ _ _ _ rfl (qAf HR2.out) Tryz.underlying33 rfl qA3) rfl ?_
 exact HO2.out
theorem qO6 {s:MkS} (hI:MkI s) (hQ:QO s.l) {i:Int} (hi:PlA s i):(qA0 s.l (qA0 s.l i).1).1=(qA0 s.l i).1:=by
 have hb:=qFv hI hQ hi
 obtain⟨h1,h2⟩:=hb
 generalize (qA0 s.l i).1=b at *
 unfold qA0
 by_cases h10:(qAd s.l b).op=10
 ·rw[if_pos h10];exact(h2 h10).symm
 ·rw[if_neg h10,if_neg h1]
set_option maxHeartbeats 8000000 in
theorem qQ1 {s:MkS} (hI:MkI s) (h0:s.e=0) (hQ:QO s.l) (hW:WS s.l) (most:Int) (hm:most≤2000) {x n:Int} (hx:PlA s x) (sx:srt s.l x=1) (a:Option Addr) (c:Nat) (w:World) (hA:TabN w s.l a c) :
  Calls Tryz.prog 48 #[.agg #[.slice a s.l.length c],.int .i64 x,.int .i64 n,.int .i64 most] w (qB4 w (qIw most s ⟨11,1,x,0,0,1,0,n⟩)):=by
 obtain⟨W0,hW0⟩:∃W0,W0=(w.alloc (.cells #[.slice a s.l.length c] 33)).alloc (.cells #[.slice none 0 0] 33):=⟨_,rfl⟩
 obtain⟨hB0,hXX⟩:=qGq hW0
 have HA:Hid (∀V,Below W0.heap.size W0 V→TabN V s.l a c):=fun V hV=>hA.below (hB0.trans (hV.mono hB0.size))
 have hsp:=qO6 hI hQ hx
 have hpl:=qB2 hI hx
 have hss:=qFw hI hW hx sx
 obtain⟨hs1,hs2⟩:=zAi (most:=most) hI h0 (i:=x) (n:=n)
 obtain⟨X1,hX1⟩:∃k,(qA0 s.l x).1=k:=⟨_,rfl⟩
 obtain⟨X2,hX2⟩:∃k,(qA0 s.l x).2=k:=⟨_,rfl⟩
 obtain⟨av,hav⟩:∃k,qC6 X2 n=k:=⟨_,rfl⟩
 obtain⟨ae,hae⟩:∃k,qC4 X2 n=k:=⟨_,rfl⟩
 rw[hX1] at hsp hpl hss
 rw[hX1,hX2,hav,hae] at hs2
 rw[hX2,hae] at hs1
 have hmy:ae=0→qAn av=true:=fun h=>by
  rw[←hae] at h
  obtain⟨_,_,h3,h4⟩:=qKt h
  rw[←hav,h4];exact h3
 have HOf:Hid (∀V,Below W0.heap.size W0 V→Calls Tryz.prog 74 #[.agg #[.slice a s.l.length c],.int .i64 x] V fun e w'=>e=.returned (.tuple #[.int .i64 X1,.int .i64 X2,.int .i64 0])∧Below V.heap.size V w'):=fun V hV=>by
  have:=qJt hI hQ hx sx a c V (HA.out V hV).r
  rw[hX1,hX2] at this;exact this
 have HAd:Hid (∀V,Calls Tryz.prog 75 #[.int .i64 X2,.int .i64 n] V fun e w'=>e=.returned (.tuple #[.int .i64 av,.int .i64 ae])∧V=w'):=fun V=>by
  have:=qHi X2 n V
  rw[hav,hae] at this;exact this
 have HPut:Hid (∀V,Below W0.heap.size W0 V→ae=0→Calls Tryz.prog 47 #[.agg #[.slice a s.l.length c],.int .i64 X1,.int .i64 av,.int .i64 most] V (qB4 V (qFy most s X1 av))):=fun V hV h=>qKx hI h0 hQ most hm hpl hss hsp (hmy h) a c V (HA.out V hV)
 have HL:Hid (ae=0→(qFy most s X1 av).1.e=0→0<(qFy most s X1 av).1.l.length):=fun h _=>by
  have h2:=hs2 h
  have hl:=(qPj (most:=most) (n:=⟨11,1,x,0,0,1,0,n⟩) hI hm ⟨qCi (n:=11) (by decide),qCi (n:=1) (by decide),hx.i64 hI.len,z64,z64,l64 (n:=1) (by decide),z64,?_⟩ rfl hx (fun _=>?_)).inv.le
  ·rw[h2] at hl;omega
  ·rw[←hae] at h
   exact qLw (qKt h).2.1
  ·rw[←hae] at h
   have hn:=(qKt h).2.1
   unfold standsB
   rw[decide_eq_true_eq]
   refine⟨⟨by show (0:Int)≤11;decide,by show (11:Int)<14;decide,?_⟩,⟨by show (0:Int)≤1;decide,by show (1:Int)<6;decide⟩,qBr.ins (by show ((0:Nat):Int)<1;decide) hx,qBr.out (by show (1:Int)≤((1:Nat):Int);decide),qBr.out (by show (1:Int)≤((2:Nat):Int);decide)⟩
   show (if (11:Int)=13 then _ else if (11:Int)=10∨(11:Int)=11∨(11:Int)=12 then _ else _)
   rw[if_neg (by decide),if_pos (by decide)]
   exact⟨rfl,rfl,hn⟩
 have HAw:=Lib.hid hA
 have HB0:=Lib.hid hB0
 have HXX:=Lib.hid hXX
 have HS1:=Lib.hid hs1
 have HS2:=Lib.hid hs2
 generalize qIw most s ⟨11,1,x,0,0,1,0,n⟩=R at *
 obtain⟨⟨x0,xz⟩,hrb⟩:=hXX _ (Below.refl _ _)
 clear hA hXX hB0 hI hQ hx sx hsp hpl hss hmy hrb h0 hs1 hs2 hX1 hX2 hav hae hW
 go_enter Tryz.func48,Tryz.ntmps48
 go_wp2_with fail
 rw[←hW0]
 clear hW0
 refine(HOf.out _ (Below.refl _ _)).mono ?_
 rintro e w1 ⟨rfl,hb1⟩
 have HB1:=Lib.hid hb1
 clear hb1 x0 xz
 obtain⟨⟨x0,xz⟩,hrb⟩:=HXX.out w1 HB1.out
 obtain⟨y0,yf,yz⟩:=qA6 hrb
 have HRb:=Lib.hid hrb
 clear hrb
 go_wp2_with fail
 refine(HAd.out _).mono ?_
 rintro e w2 ⟨rfl,rfl⟩
 by_cases h:ae=0
 rotate_left
 ·have e1:=qDf h
  have HP:Hid (qB4 w R (.returned (.tuple #[.agg #[.slice none 0 0],.int .i64 0,.int .i64 ae])) (w1.setCell ⟨w.heap.size+1,0,none⟩ (.slice none 0 0))):=qN5 (qA5 HB0.out HB1.out) (by omega) (HS1.out h) h
  clear h
  go_wp2_with fail
  refine bodyPost_ret (qA4 rfl _ _ (w.heap.size+1) _ _ _ _ rfl (qAf HRb.out) Tryz.underlying33 rfl qA3) rfl ?_
  exact HP.out
 have e1:=ne_f h
 have HH:=Lib.hid h
 clear h
 go_wp2_with fail
 refine(HPut.out _ HB1.out HH.out).mono ?_
 rintro e w2 hO
 obtain⟨va,nn,cc,i,er,rfl,hr2,hO2⟩:=qAl (w:=w) hO (qA5 HB0.out HB1.out) (by omega) HRb.out (HL.out HH.out)
 rw[←HS2.out HH.out] at hO2
 have HO2:=Lib.hid hO2
 have HR2:=Lib.hid hr2
 clear x0 xz y0 yf yz hO hO2
 obtain⟨y0,yf,yz⟩:=qA6 hr2
 clear hr2
 go_wp2_with fail
 refine bodyPost_ret (qA4 rfl _ _ (w.heap.size+1) _ _ _ _ rfl (qAf HR2.out) Tryz.underlying33 rfl qA3) rfl ?_
 exact HO2.out
end Go.Proofs.YtfgpimhdjlmapaaGreatDoor.Tm
