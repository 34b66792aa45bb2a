/- The document's Sub, Diff and Le. -/
import Derived.Laws.CopyOwn
import Derived.Deep.LoopGhost
import Derived.Laws.MakeOwn
import Derived.Laws.EntriesVeiled
import Derived.Test.YtfgpimhdjlmapaaGreatDoorCqF
import Derived.Test.YtfgpimhdjlmapaaGreatDoorDaB
import Derived.Test.YtfgpimhdjlmapaaGreatDoorTmM
namespace Go.Proofs.YtfgpimhdjlmapaaGreatDoor.Tm
open Go.RowKit
set_option linter.unusedVariables false
set_option maxRecDepth 100000
structure TabN (w:World) (l:List NodeA) (a:Option Addr) (c:Nat):Prop where
 r:TabR w l a c
 off:∀g o,a=some ⟨g,o,none⟩→o=0
theorem TabN.le {w:World} {l:List NodeA} {a:Option Addr} {c:Nat} (h:TabN w l a c):l.length≤c:=h.r.le
theorem TabN.cap {w:World} {l:List NodeA} {a:Option Addr} {c:Nat} (h:TabN w l a c):c≤maxLen:=h.r.cap
theorem TabN.ok {w:World} {l:List NodeA} {a:Option Addr} {c:Nat} (h:TabN w l a c):∀n∈l,NodeOk n:=h.r.ok
theorem TabN.tat {w:World} {l:List NodeA} {a:Option Addr} {c:Nat} (h:TabN w l a c):At w w.heap.size (l.flatMap qC8) a:=h.r.tat
theorem TabN.below {w w':World} {l:List NodeA} {a:Option Addr} {c:Nat} (h:TabN w l a c) (hb:Below w.heap.size w w'):TabN w' l a c:=⟨h.r.below hb,h.off⟩
theorem TabN.node {w:World} {l:List NodeA} {a:Option Addr} {c k:Nat} {n:NodeA} (h:TabN w l a c) (hk:l[k]? = some n):∃g o:Nat,a=some ⟨g,o,none⟩∧g<w.heap.size ∧
  w.cell? ⟨g,o+k*8,none⟩=some (.int .i8 n.op)∧w.cell? ⟨g,o+k*8+1,none⟩=some (.int .i8 n.len)∧w.cell? ⟨g,o+k*8+2,none⟩=some (.int .i64 n.a0)∧w.cell? ⟨g,o+k*8+3,none⟩=some (.int .i64 n.a1)∧w.cell? ⟨g,o+k*8+4,none⟩=some (.int .i64 n.a2)∧w.cell? ⟨g,o+k*8+5,none⟩=some (.int .i64 n.sort)∧w.cell? ⟨g,o+k*8+6,none⟩=some (.int .i64 n.fn)∧w.cell? ⟨g,o+k*8+7,none⟩=some (.int .i64 n.num):=h.r.node hk
def qB4 (W:World) (r:MkS × Int) (e:Ending) (w':World):Prop :=
 Below W.heap.size W w'∧((r.1.e=0∧∃(a:Option Addr) (c:Nat),e=.returned (.tuple #[.agg #[.slice a r.1.l.length c],.int .i64 r.2,.int .i64 0])∧TabN w' r.1.l a c)∨(¬r.1.e=0∧e=.returned (.tuple #[.agg #[.slice none 0 0],.int .i64 0,.int .i64 r.1.e])))
theorem qB6 {w W0:World} {t:Value} {n:NodeA} (h:W0=((w.alloc (.cells #[t] 33)).alloc (.cells #[.int .i8 n.op,.int .i8 n.len,.int .i64 n.a0,.int .i64 n.a1,.int .i64 n.a2,.int .i64 n.sort,.int .i64 n.fn,.int .i64 n.num] 54)).alloc (.cells #[.slice none 0 0] 33)):Below w.heap.size w W0∧∀V,Below W0.heap.size W0 V→(V.cell? ⟨w.heap.size,0,none⟩=some t∧w.heap.size<V.heap.size)∧V.heap[w.heap.size+1]? = some (.cells #[.int .i8 n.op,.int .i8 n.len,.int .i64 n.a0,.int .i64 n.a1,.int .i64 n.a2,.int .i64 n.sort,.int .i64 n.fn,.int .i64 n.num] 54 (0,0))∧V.heap[w.heap.size+1+1]? = some (.cells #[.slice none 0 0] 33 (0,0)):=by
 obtain⟨hB,hV⟩:=qM5 (w:=w) (t:=t) (n:=n) rfl
 have hb3:Below w.heap.size w W0:=by rw[h];exact hB.alloc hB.size _
 have h3:W0.heap[w.heap.size+1+1]? = some (.cells #[.slice none 0 0] 33 (0,0)):=by
  have:=heap_alloc_new ((w.alloc (.cells #[t] 33)).alloc (.cells #[.int .i8 n.op,.int .i8 n.len,.int .i64 n.a0,.int .i64 n.a1,.int .i64 n.a2,.int .i64 n.sort,.int .i64 n.fn,.int .i64 n.num] 54)) (.cells #[.slice none 0 0] 33)
  rw[World.size_alloc,World.size_alloc] at this
  rw[h];exact this
 refine⟨hb3,fun V hV'=>?_⟩
 have hb:Below ((w.alloc (.cells #[t] 33)).alloc (.cells #[.int .i8 n.op,.int .i8 n.len,.int .i64 n.a0,.int .i64 n.a1,.int .i64 n.a2,.int .i64 n.sort,.int .i64 n.fn,.int .i64 n.num] 54)).heap.size ((w.alloc (.cells #[t] 33)).alloc (.cells #[.int .i8 n.op,.int .i8 n.len,.int .i64 n.a0,.int .i64 n.a1,.int .i64 n.a2,.int .i64 n.sort,.int .i64 n.fn,.int .i64 n.num] 54)) V:=by
  have h0:Below ((w.alloc (.cells #[t] 33)).alloc (.cells #[.int .i8 n.op,.int .i8 n.len,.int .i64 n.a0,.int .i64 n.a1,.int .i64 n.a2,.int .i64 n.sort,.int .i64 n.fn,.int .i64 n.num] 54)).heap.size ((w.alloc (.cells #[t] 33)).alloc (.cells #[.int .i8 n.op,.int .i8 n.len,.int .i64 n.a0,.int .i64 n.a1,.int .i64 n.a2,.int .i64 n.sort,.int .i64 n.fn,.int .i64 n.num] 54)) W0:=by rw[h];exact(Below.refl _ _).alloc (Nat.le_refl _) _
  exact h0.trans (hV'.mono h0.size)
 obtain⟨e1,e2⟩:=hV V hb
 exact⟨e1,e2,(hV'.block _ (Array.getElem?_eq_some_iff.1 h3).1).trans h3⟩
theorem qA6 {V:World} {b:Nat} {t:TypeId} {z:Value} (h:V.heap[b]? = some (.cells #[z] t (0,0))):V.cell? ⟨b,0,none⟩=some z∧V.frozen? ⟨b,0,none⟩=false∧b<V.heap.size :=
 ⟨(cell_of_row _ _ 0 _ _ _ h).trans rfl,by simp[World.frozen?,h],(Array.getElem?_eq_some_iff.1 h).1⟩
set_option maxHeartbeats 8000000 in
theorem qEu {s:MkS} (hI:MkI s) (he0:s.e=0) (most:Int) (hm:most≤2000) (n:NodeA) (hst:standsB n s.l.length=true) (a:Option Addr) (c:Nat) (w:World) (hA:TabN w s.l a c) :
  Calls Tryz.prog 55 #[.agg #[.slice a s.l.length c],.agg #[.int .i8 n.op,.int .i8 n.len,.int .i64 n.a0,.int .i64 n.a1,.int .i64 n.a2,.int .i64 n.sort,.int .i64 n.fn,.int .i64 n.num],.int .i64 most] w (qB4 w (qAq most s n)):=by
 have hn:NodeOk n:=qCh hst hI.len
 obtain⟨W0,hW0⟩:∃W0,W0=((w.alloc (.cells #[.slice a s.l.length c] 33)).alloc (.cells #[.int .i8 n.op,.int .i8 n.len,.int .i64 n.a0,.int .i64 n.a1,.int .i64 n.a2,.int .i64 n.sort,.int .i64 n.fn,.int .i64 n.num] 54)).alloc (.cells #[.slice none 0 0] 33):=⟨_,rfl⟩
 obtain⟨hB0,hXX⟩:=qB6 hW0
 have hlen:=hI.len
 have hcap:=hA.le
 have hcp:=hA.cap
 have hl2:=hI.le
 have HA:Hid (∀V,Below W0.heap.size W0 V→TabN V s.l a c):=fun V hV=>hA.below (hB0.trans (hV.mono hB0.size))
 have HChk:Hid (∀V,Below W0.heap.size W0 V→Calls Tryz.prog 19 #[.agg #[.slice a s.l.length c]] V fun e w'=>e=.returned (.int .i64 0)∧Below V.heap.size V w'):=fun V hV=>RCheck_any s.l a c 0 V (HA.out V hV).r (by omega) (by rw[hI.may];rfl)
 have HSt:Hid (∀V,Calls Tryz.prog 31 #[.agg #[.int .i8 n.op,.int .i8 n.len,.int .i64 n.a0,.int .i64 n.a1,.int .i64 n.a2,.int .i64 n.sort,.int .i64 n.fn,.int .i64 n.num],.int .i64 s.l.length] V fun e w'=>e=.returned (.bool true)∧Below V.heap.size V w'):=fun V=>by
  have:=qIp n s.l.length V hn (by omega)
  rw[hst] at this;exact this
 obtain⟨r,hr⟩:∃r:Int,(if n∈s.l then (qD2 s.l n:Int) else 0)=r:=⟨_,rfl⟩
 obtain⟨q,hq⟩:∃q:Bool,decide (n∈s.l)=q:=⟨_,rfl⟩
 have HFd:Hid (∀V,Below W0.heap.size W0 V→Calls Tryz.prog 79 #[.agg #[.slice a s.l.length c],.agg #[.int .i8 n.op,.int .i8 n.len,.int .i64 n.a0,.int .i64 n.a1,.int .i64 n.a2,.int .i64 n.sort,.int .i64 n.fn,.int .i64 n.num]] V fun e w'=>e=.returned (.tuple #[.int .i64 r,.bool q])∧Below V.heap.size V w'):=fun V hV=>qPy hI n hn a c r q V (HA.out V hV).r hr hq
 have HXX:=Lib.hid hXX
 have HB0:=Lib.hid hB0
 have HLC:=Lib.hid (And.intro hcap hcp)
 have hlm:s.l.length≤9223372036854775807:=by omega
 obtain⟨⟨x0,xz⟩,hnb,hrb⟩:=hXX _ (Below.refl _ _)
 obtain⟨n0,n1,n2,n3,n4,n5,n6,n7,nz⟩:=qAi hnb
 obtain⟨y0,yf,yz⟩:=qA6 hrb
 have HEnd:Hid (∀(V:World) (v:Value),Below W0.heap.size W0 V→Below w.heap.size w (V.setCell ⟨w.heap.size+1+1,0,none⟩ v)):=fun V v hV=>(hB0.trans (hV.mono hB0.size)).setCell (p:=⟨w.heap.size+1+1,0,none⟩) (by show w.heap.size≤w.heap.size+1+1;omega) _
 have HAw:=Lib.hid hA
 clear hA hXX hB0 hnb hrb hI
 go_enter Tryz.func55,Tryz.ntmps55
 go_wp2_with fail
 rw[←hW0]
 clear hW0
 refine(HChk.out _ (Below.refl _ _)).mono ?_
 rintro e w1 ⟨rfl,hb1⟩
 have HB1:=Lib.hid hb1
 clear hb1 x0 xz n0 n1 n2 n3 n4 n5 n6 n7 nz y0 yf yz
 obtain⟨⟨x0,xz⟩,hnb,hrb⟩:=HXX.out w1 HB1.out
 obtain⟨n0,n1,n2,n3,n4,n5,n6,n7,nz⟩:=qAi hnb
 clear hnb hrb
 go_wp2_with fail
 refine(HSt.out _).mono ?_
 rintro e w2 ⟨rfl,hb2⟩
 have HB2:Hid (Below W0.heap.size W0 w2):=HB1.out.trans (hb2.mono HB1.out.size)
 clear hb2 x0 xz n0 n1 n2 n3 n4 n5 n6 n7 nz
 obtain⟨⟨x0,xz⟩,hnb,hrb⟩:=HXX.out w2 HB2.out
 obtain⟨n0,n1,n2,n3,n4,n5,n6,n7,nz⟩:=qAi hnb
 clear hnb hrb
 go_wp2_with fail
 refine(HFd.out _ HB2.out).mono ?_
 rintro e w3 ⟨rfl,hb3⟩
 have HB3:Hid (Below W0.heap.size W0 w3):=HB2.out.trans (hb3.mono HB2.out.size)
 clear hb3 x0 xz n0 n1 n2 n3 n4 n5 n6 n7 nz
 obtain⟨⟨x0,xz⟩,hnb,hrb⟩:=HXX.out w3 HB3.out
 obtain⟨n0,n1,n2,n3,n4,n5,n6,n7,nz⟩:=qAi hnb
 obtain⟨y0,yf,yz⟩:=qA6 hrb
 have HRb:=Lib.hid hrb
 have yz0:Hid (w.heap.size+1+1<W0.heap.size):=by
  obtain⟨_,_,h3⟩:=HXX.out W0 (Below.refl _ _)
  exact(qA6 h3).2.2
 clear hnb hrb
 cases q with
 | true =>
  have hin:n∈s.l:=of_decide_eq_true hq
  have hpm:qAq most s n=(s,r):=by unfold qAq;rw[if_neg (fun h=>h he0),if_pos hin,←hr,if_pos hin]
  have HPost:Hid (qB4 w (qAq most s n) (.returned (.tuple #[.agg #[.slice a s.l.length c],.int .i64 r,.int .i64 0])) (w3.setCell ⟨w.heap.size+1+1,0,none⟩ (.slice a s.l.length c))):=by
   rw[hpm]
   exact⟨HEnd.out _ _ HB3.out,.inl ⟨he0,a,c,rfl,HAw.out.below (HEnd.out _ _ HB3.out)⟩⟩
  clear hin hr hq hpm
  go_wp2_with fail
  refine bodyPost_ret (qA4 rfl _ _ (w.heap.size+1+1) _ _ _ _ rfl (qAf HRb.out) Tryz.underlying33 rfl qA3) rfl ?_
  exact HPost.out
 | false =>
 have hin:¬n∈s.l:=of_decide_eq_false hq
 by_cases hmany:most≤(s.l.length:Int)
 ·have hpm:qAq most s n=(⟨s.l,40⟩,0):=by unfold qAq;rw[if_neg (fun h=>h he0),if_neg hin,if_pos hmany]
  have em:decide (most≤(s.l.length:Int))=true:=decide_eq_true hmany
  have HPost:Hid (qB4 w (qAq most s n) (.returned (.tuple #[.agg #[.slice none 0 0],.int .i64 0,.int .i64 40])) (w3.setCell ⟨w.heap.size+1+1,0,none⟩ (.slice none 0 0))):=by
   rw[hpm]
   exact⟨HEnd.out _ _ HB3.out,.inr ⟨(by show ¬(40:Int)=0;decide),rfl⟩⟩
  clear hin hr hq hpm hmany
  go_wp2_with fail
  refine bodyPost_ret (qA4 rfl _ _ (w.heap.size+1+1) _ _ _ _ rfl (qAf HRb.out) Tryz.underlying33 rfl qA3) rfl ?_
  exact HPost.out
 have em:decide (most≤(s.l.length:Int))=false:=decide_eq_false hmany
 have hpm:qAq most s n=(⟨s.l++[n],0⟩,(s.l.length:Int)):=by unfold qAq;rw[if_neg (fun h=>h he0),if_neg hin,if_neg hmany]
 obtain⟨g,o,ha,hg,hcell⟩:=HAw.out.tat (by rw[len_flat qBb];omega)
 obtain⟨i0,hi,hz0,hz1,hz2⟩:=info_parts qLr
 have hnok:∀m∈s.l++[n],NodeOk m:=fun m hm=>by
  rcases List.mem_append.1 hm with h1|h1
  ·exact HAw.out.ok m h1
  ·rw[List.mem_singleton.1 h1];exact hn
 have HNok:=Lib.hid hnok
 have hgw:g<w3.heap.size:=by have:=HB3.out.size;have:=yz;omega
 have HC:Hid (∀j u,(s.l.flatMap qC8)[j]? = some u→w3.cell? ((⟨g,o,none⟩:Addr).add j)=some u):=fun j u hu=>by
  rw[Addr.add_lit]
  have hb:Below w.heap.size w w3:=by
   have h1:=HEnd.out w3 (.slice none 0 0) HB3.out
   exact⟨h1.os,h1.tape,h1.output,by have:=h1.size;simpa using this,fun k hk=>by
    have h2:=h1.block k hk
    rwa [Below.heap_setCell _ _ _ _ (fun e=>by simp only at e;omega)] at h2⟩
  exact(hb.cell (p:=⟨g,o+j,none⟩) hg).trans (hcell j u hu)
 have hmx:s.l.length≤maxLen:=by omega
 subst ha
 clear hin hr hq hmany hcell hnok
 go_wp2_with (at_builtin;refine wpList_append_own_at _ rfl _ _ 31 rfl w3.heap.size 54 i0 _ 8 56 Tryz.underlying31 hi hz0 hz1 hz2 rfl (by decide) (.slice none 0 0) 0 [] rfl (World.ownsRow_nil _ _ _ _) ⟨g,o,none⟩ s.l.length c (s.l.flatMap qC8) rfl (len_flat qBb s.l) HC.out (qV1 s.l) (by omega) (by omega) (by simp) ?_;intro v' w4 hown4 hgrow4 hnil4 hloc4;clear hnil4 hloc4)
 have hown5:w4.ownsRow w3.heap.size 54 8 v' s.l.length (s.l.flatMap qC8):=by simpa using hown4
 have HB4:Hid (Below W0.heap.size W0 w4):=HB3.out.grown hgrow4 HB3.out.size (fun k e=>by cases e)
 have h34:w3.heap.size≤w4.heap.size:=hgrow4.size
 have h03:W0.heap.size≤w3.heap.size:=HB3.out.size
 obtain⟨a4,c4,rfl,-,-,-,-⟩:=own_at hown5
 clear x0 xz n0 n1 n2 n3 n4 n5 n6 n7 nz y0 yf yz hown4 hgrow4
 obtain⟨⟨x0,xz⟩,hnb,hrb⟩:=HXX.out w4 HB4.out
 obtain⟨n0,n1,n2,n3,n4,n5,n6,n7,nz⟩:=qAi hnb
 obtain⟨y0,yf,yz⟩:=qA6 hrb
 have HO5:=Lib.hid hown5
 have HEnd9:Hid (∀(g9 c9:Nat) (w9:World) (ob:Obj),w9.ownsRow w3.heap.size 54 8 (.slice (some ⟨g9,0,none⟩) (s.l.length+1) c9) (s.l.length+1) (s.l.flatMap qC8++qC8 n)→(w4.drew.alloc ob).grownBy w9 (Value.slice a4 s.l.length c4).ownBlock→(w9.cell? ⟨w.heap.size,0,none⟩=some (.slice (some ⟨g,o,none⟩) s.l.length c)∧w.heap.size<w9.heap.size)∧w9.heap[w.heap.size+1+1]? = some (.cells #[.slice none 0 0] 33 (0,0))∧qB4 w (qAq most s n) (.returned (.tuple #[.agg #[.slice (some ⟨g9,0,none⟩) (s.l.length+1) c9],.int .i64 s.l.length,.int .i64 0])) (w9.setCell ⟨w.heap.size+1+1,0,none⟩ (.slice (some ⟨g9,0,none⟩) (s.l.length+1) c9))):=fun g9 c9 w9 ob ho hg9=>by
  have hb9:Below W0.heap.size W0 w9:=qFi (V:=w4.drew) h03 HB4.out.drew (show w4.drew.ownsRow w3.heap.size 54 8 (.slice a4 s.l.length c4) s.l.length (s.l.flatMap qC8) from HO5.out) hg9
  obtain⟨e1,_,e3⟩:=HXX.out w9 hb9
  refine⟨e1,e3,?_⟩
  rw[hpm]
  refine⟨HEnd.out _ _ hb9,.inl ⟨rfl,some ⟨g9,0,none⟩,c9,by simp only[List.length_append,List.length_singleton],?_⟩⟩
  have hne:∀k,(Value.slice (some ⟨g9,0,none⟩) (s.l.length+1) c9).ownBlock=some k→(w9.setCell ⟨w.heap.size+1+1,0,none⟩ (.slice (some ⟨g9,0,none⟩) (s.l.length+1) c9)).heap[k]? = w9.heap[k]?:=fun k hk=>by
   have h1:=(qD7 ho hk).1
   have h2:=yz0.out
   exact Below.heap_setCell _ _ _ _ (fun e=>by simp only at e;omega)
  have hrow:=qEb ho hne
  show TabN (w9.setCell ⟨w.heap.size+1+1,0,none⟩ (.slice (some ⟨g9,0,none⟩) (s.l.length+1) c9)) (s.l++[n]) (some ⟨g9,0,none⟩) c9
  generalize w9.setCell ⟨w.heap.size+1+1,0,none⟩ (.slice (some ⟨g9,0,none⟩) (s.l.length+1) c9)=WW at hrow ⊢
  have hfl:s.l.flatMap qC8++qC8 n=(s.l++[n]).flatMap qC8:=by rw[List.flatMap_append];simp
  rw[hfl] at hrow
  have hl1:s.l.length+1=(s.l++[n]).length:=by simp
  rw[hl1] at hrow
  obtain⟨a',c',e,hT⟩:=qZa hrow HNok.out
  rw[←hl1] at e
  cases e
  exact⟨hT,fun _ _ e=>by cases e;rfl⟩
 clear hnb hrb hown5 HC hpm
 go_wp2_with fail
 go_region_law (refine step_append_lies _ rfl (.tmp 43) (.tmp 45) 31 rfl w3.heap.size 54 i0 _ 8 56 Tryz.underlying31 hi hz0 hz1 hz2 rfl (by decide) (Value.slice a4 s.l.length c4) s.l.length (s.l.flatMap qC8) (by rfl) (HO5.out.alloc _) ⟨w4.heap.size,0,none⟩ 1 1 (qC8 n) (by rfl) rfl (World.news_of_block (B:=w4.heap.size) (cs:=#[.int .i8 n.op,.int .i8 n.len,.int .i64 n.a0,.int .i64 n.a1,.int .i64 n.a2,.int .i64 n.sort,.int .i64 n.fn,.int .i64 n.num]) (t:=54) (fr:=(0,0)) (heap_alloc_new w4 _)) (by simp[qC8,Value.oneCell']) (by omega) (by simp only[maxLen];omega) (by omega) (by simp;omega) _ rfl ?_;intro g9 c9 w9 hown9 hgrow9 hat9 hlt9;obtain⟨⟨k0,kz⟩,hb9,hpo⟩:=HEnd9.out _ _ _ _ hown9 hgrow9;have HP9:=Lib.hid hpo;have HB9:=Lib.hid hb9;have k9:=(qA6 hb9).1;have f9:=(qA6 hb9).2.1;have z9:=(qA6 hb9).2.2;clear hown9 hgrow9 hat9 hb9 hpo)
 all_goals
  go_wp2_with fail
  refine bodyPost_ret (qA4 rfl _ _ (w.heap.size+1+1) _ _ _ _ rfl (qAf HB9.out) Tryz.underlying33 rfl qA3) rfl ?_
  exact HP9.out
end Go.Proofs.YtfgpimhdjlmapaaGreatDoor.Tm
namespace Go.Proofs.YtfgpimhdjlmapaaGreatDoor
open Go.RowKit
set_option linter.unusedVariables false
theorem qWn {b:Int}:qAn (-b)=qAn b:=by
 by_cases h:qAn b=true
 ·rw[h];have:=qAc.1 h;exact qAc.2 ⟨by omega,by omega⟩
 ·rw[Bool.eq_false_iff.2 h]
  refine Bool.eq_false_iff.2 fun h2=>h (qAc.2 ?_)
  have:=qAc.1 h2
  exact⟨by omega,by omega⟩
theorem qSl (a b:Int) (w:World) :
  Calls Tryz.prog 106 #[.int .i64 a,.int .i64 b] w fun e w'=>e=.returned (.tuple #[.int .i64 (qFc a b),.int .i64 (qFs a b)])∧w=w':=by
 cases hok:qD4 a (-b) with
 | true =>
  obtain⟨⟨p1,p2⟩,⟨p3,p4⟩,p5,p6⟩:=qB5.1 hok
  have m1:=Lib.hid (qAc.2 ⟨p1,p2⟩)
  have m2:=Lib.hid ((qAc (n:=b)).2 ⟨by omega,by omega⟩)
  have m3:=Lib.hid ((qAc (n:=a-b)).2 ⟨by omega,by omega⟩)
  have HK:=Lib.hid hok;clear hok
  go_enter Tryz.func106,Tryz.ntmps106
  go_wp2_with (go_at_call 44;refine(qDy _ _).mono ?_;rintro e w' ⟨rfl,rfl⟩)
  ·have h:(!qAn (a-b))=true:=by assumption
   rw[m3.out] at h;cases h
  ·go_ret2
   exact⟨qBl (qAt (by simp[qFc,HK.out])) (qAt (by simp[qFs,HK.out])),rfl⟩
 | false =>
  have hno:Hid ((qAn a&&(qAn b&&qAn (wrap64 (a-b))))=false):=by
   have h:=qKa hok
   rw[qWn,←Int.sub_eq_add_neg] at h
   exact h
  have HK:=Lib.hid hok;clear hok
  go_enter Tryz.func106,Tryz.ntmps106
  go_wp2_with (go_at_call 44;refine(qDy _ _).mono ?_;rintro e w' ⟨rfl,rfl⟩)
  all_goals first
   | (exfalso;have:=hno.out;simp_all;done)
   | (go_ret2;exact⟨qBl (qAt (by simp[qFc,HK.out])) (qAt (by simp[qFs,HK.out])),rfl⟩)
end Go.Proofs.YtfgpimhdjlmapaaGreatDoor
namespace Go.Proofs.YtfgpimhdjlmapaaGreatDoor.Tm
open Go.RowKit
set_option linter.unusedVariables false
theorem qSm {s:MkS} {a b k:Int} (h0:s.e=0) (h:¬qFs k (qA0 s.l a).2=0):(qBd s a b k).1.e=qFs k (qA0 s.l a).2:=by
 unfold qBd qDr
 rw[if_neg h,if_pos h0]
 by_cases h2:qC4 (0:Int) (qA0 s.l b).2=0
 ·simp only;rw[if_pos h2]
 ·simp only;rw[if_neg h2,if_neg h]
theorem qSn {s:MkS} {a b k:Int} (h0:s.e=0) (h:qFs k (qA0 s.l a).2=0) (h2:¬qC4 (qFc k (qA0 s.l a).2) (qA0 s.l b).2=0):(qBd s a b k).1.e=qC4 (qFc k (qA0 s.l a).2) (qA0 s.l b).2:=by
 unfold qBd qDr
 simp only[if_pos h]
 rw[if_neg h2,if_pos h0]
theorem qPz {s:MkS} {a b k:Int} (h:qFs k (qA0 s.l a).2=0) (h2:qC4 (qFc k (qA0 s.l a).2) (qA0 s.l b).2=0):qBd s a b k=(s,qC6 (qFc k (qA0 s.l a).2) (qA0 s.l b).2):=by
 unfold qBd qDr
 simp only[if_pos h]
 rw[if_pos h2]
set_option maxHeartbeats 4000000 in
theorem qQ0 {s:MkS} (hI:MkI s) (h0:s.e=0) (hQ:QO s.l) {x y:Int} (hx:PlA s x) (hy:PlA s y) (sx:srt s.l x=1) (sy:srt s.l y=1) (k:Int) (a:Option Addr) (c:Nat) (w:World) (hA:TabN w s.l a c) :
  Calls Tryz.prog 92 #[.agg #[.slice a s.l.length c],.int .i64 x,.int .i64 y,.int .i64 k] w fun e w'=>Below w.heap.size w w'∧((¬(qBd s x y k).1.e=0∧e=.returned (.tuple #[.int .i64 0,.int .i64 0,.int .i64 0,.int .i64 (qBd s x y k).1.e]))∨((qBd s x y k)=(s,(qBd s x y k).2)∧e=.returned (.tuple #[.int .i64 (qA0 s.l x).1,.int .i64 (qA0 s.l y).1,.int .i64 (qBd s x y k).2,.int .i64 0]))):=by
 obtain⟨W0,hW0⟩:∃W0,W0=w.alloc (.cells #[.slice a s.l.length c] 33):=⟨_,rfl⟩
 obtain⟨hB0,hXX⟩:=qWj hW0
 have HA:Hid (∀V,Below W0.heap.size W0 V→TabN V s.l a c):=fun V hV=>hA.below (hB0.trans (hV.mono hB0.size))
 have HX:Hid (∀V,Below W0.heap.size W0 V→Calls Tryz.prog 74 #[.agg #[.slice a s.l.length c],.int .i64 x] V fun e w'=>e=.returned (.tuple #[.int .i64 (qA0 s.l x).1,.int .i64 (qA0 s.l x).2,.int .i64 0])∧Below V.heap.size V w'):=fun V hV=>qJt hI hQ hx sx a c V (HA.out V hV).r
 have HY:Hid (∀V,Below W0.heap.size W0 V→Calls Tryz.prog 74 #[.agg #[.slice a s.l.length c],.int .i64 y] V fun e w'=>e=.returned (.tuple #[.int .i64 (qA0 s.l y).1,.int .i64 (qA0 s.l y).2,.int .i64 0])∧Below V.heap.size V w'):=fun V hV=>qJt hI hQ hy sy a c V (HA.out V hV).r
 have HSub:Hid (∀V,Calls Tryz.prog 106 #[.int .i64 k,.int .i64 (qA0 s.l x).2] V fun e w'=>e=.returned (.tuple #[.int .i64 (qFc k (qA0 s.l x).2),.int .i64 (qFs k (qA0 s.l x).2)])∧V=w'):=fun V=>qSl k (qA0 s.l x).2 V
 have HAdd:Hid (∀V,Calls Tryz.prog 75 #[.int .i64 (qFc k (qA0 s.l x).2),.int .i64 (qA0 s.l y).2] V fun e w'=>e=.returned (.tuple #[.int .i64 (qC6 (qFc k (qA0 s.l x).2) (qA0 s.l y).2),.int .i64 (qC4 (qFc k (qA0 s.l x).2) (qA0 s.l y).2)])∧V=w'):=fun V=>qHi (qFc k (qA0 s.l x).2) (qA0 s.l y).2 V
 have H1:Hid (¬qFs k (qA0 s.l x).2=0→(qBd s x y k).1.e=qFs k (qA0 s.l x).2):=fun h=>qSm h0 h
 have H2:Hid (qFs k (qA0 s.l x).2=0→¬qC4 (qFc k (qA0 s.l x).2) (qA0 s.l y).2=0→(qBd s x y k).1.e=qC4 (qFc k (qA0 s.l x).2) (qA0 s.l y).2):=fun h h'=>qSn h0 h h'
 have H3:Hid (qFs k (qA0 s.l x).2=0→qC4 (qFc k (qA0 s.l x).2) (qA0 s.l y).2=0→qBd s x y k=(s,qC6 (qFc k (qA0 s.l x).2) (qA0 s.l y).2)):=fun h h'=>qPz h h'
 generalize qA0 s.l x=X at *
 generalize qA0 s.l y=Y at *
 generalize qBd s x y k=D at *
 obtain⟨X1,X2⟩:=X
 obtain⟨Y1,Y2⟩:=Y
 generalize qFc k X2=sv at *
 generalize qFs k X2=se at *
 generalize qC6 sv Y2=av at *
 generalize qC4 sv Y2=ae at *
 have HXX:=Lib.hid hXX
 have HB0:=Lib.hid hB0
 obtain⟨x0,xz⟩:=hXX _ (Below.refl _ _)
 clear hA hXX hB0 hI hQ hx hy sx sy h0
 go_enter Tryz.func92,Tryz.ntmps92
 go_wp2_with fail
 rw[←hW0]
 clear hW0
 refine(HX.out _ (Below.refl _ _)).mono ?_
 rintro e w1 ⟨rfl,hb1⟩
 have HB1:=Lib.hid hb1
 clear hb1 x0 xz
 obtain⟨x0,xz⟩:=HXX.out w1 HB1.out
 go_wp2_with fail
 refine(HY.out _ HB1.out).mono ?_
 rintro e w2 ⟨rfl,hb2⟩
 have HB2:Hid (Below w.heap.size w w2):=qA5 (qA5 HB0.out HB1.out) hb2
 clear hb2 x0 xz
 go_wp2_with fail
 refine(HSub.out _).mono ?_
 rintro e w3 ⟨rfl,rfl⟩
 by_cases hse:se=0
 rotate_left
 ·have e0:=qDf hse
  have h1:=H1.out hse
  have HP:Hid (Below w.heap.size w w2∧((¬D.1.e=0∧(Ending.returned (.tuple #[.int .i64 0,.int .i64 0,.int .i64 0,.int .i64 se]))=.returned (.tuple #[.int .i64 0,.int .i64 0,.int .i64 0,.int .i64 D.1.e]))∨(D=(s,D.2)∧(Ending.returned (.tuple #[.int .i64 0,.int .i64 0,.int .i64 0,.int .i64 se]))=.returned (.tuple #[.int .i64 X1,.int .i64 Y1,.int .i64 D.2,.int .i64 0])))):=⟨HB2.out,.inl ⟨by rw[h1];exact hse,by rw[h1]⟩⟩
  clear hse h1
  go_wp2_with fail
  refine bodyPost_ret (v:=.tuple #[.int .i64 0,.int .i64 0,.int .i64 0,.int .i64 se]) (by simp[results,Tryz.results92,go_sem]) rfl ?_
  exact HP.out
 have e0:=ne_f hse
 have HS0:=Lib.hid hse
 clear hse
 go_wp2_with fail
 refine(HAdd.out _).mono ?_
 rintro e w3 ⟨rfl,rfl⟩
 by_cases hae:ae=0
 rotate_left
 ·have e1:=qDf hae
  have h1:=H2.out HS0.out hae
  have HP:Hid (Below w.heap.size w w2∧((¬D.1.e=0∧(Ending.returned (.tuple #[.int .i64 0,.int .i64 0,.int .i64 0,.int .i64 ae]))=.returned (.tuple #[.int .i64 0,.int .i64 0,.int .i64 0,.int .i64 D.1.e]))∨(D=(s,D.2)∧(Ending.returned (.tuple #[.int .i64 0,.int .i64 0,.int .i64 0,.int .i64 ae]))=.returned (.tuple #[.int .i64 X1,.int .i64 Y1,.int .i64 D.2,.int .i64 0])))):=⟨HB2.out,.inl ⟨by rw[h1];exact hae,by rw[h1]⟩⟩
  clear hae h1
  go_wp2_with fail
  refine bodyPost_ret (v:=.tuple #[.int .i64 0,.int .i64 0,.int .i64 0,.int .i64 ae]) (by simp[results,Tryz.results92,go_sem]) rfl ?_
  exact HP.out
 have e1:=ne_f hae
 have h3:=H3.out HS0.out hae
 have HP:Hid (Below w.heap.size w w2∧((¬D.1.e=0∧(Ending.returned (.tuple #[.int .i64 X1,.int .i64 Y1,.int .i64 av,.int .i64 0]))=.returned (.tuple #[.int .i64 0,.int .i64 0,.int .i64 0,.int .i64 D.1.e]))∨(D=(s,D.2)∧(Ending.returned (.tuple #[.int .i64 X1,.int .i64 Y1,.int .i64 av,.int .i64 0]))=.returned (.tuple #[.int .i64 X1,.int .i64 Y1,.int .i64 D.2,.int .i64 0])))):=⟨HB2.out,.inr ⟨by rw[h3],by rw[h3]⟩⟩
 clear hae h3
 go_wp2_with fail
 refine bodyPost_ret (v:=.tuple #[.int .i64 X1,.int .i64 Y1,.int .i64 av,.int .i64 0]) (by simp[results,Tryz.results92,go_sem]) rfl ?_
 exact HP.out
end Go.Proofs.YtfgpimhdjlmapaaGreatDoor.Tm
