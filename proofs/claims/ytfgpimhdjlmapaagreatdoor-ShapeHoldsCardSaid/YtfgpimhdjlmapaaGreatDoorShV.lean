/- ShapeNames. -/
import Derived.Deep.LoopGhost
import Derived.Laws.Bits128
import Derived.Test.YtfgpimhdjlmapaaGreatDoorShf
import Derived.Test.YtfgpimhdjlmapaaGreatDoorCqF
import Derived.Test.YtfgpimhdjlmapaaGreatDoorShN
import Derived.Laws.CopyOwn
import Derived.Laws.EntriesVeiled
import Derived.WalkSpells
import Derived.Shelf.RegionOpen
import Derived.Shelf.AbstractIn
import Derived.RangeFuncCalls
import Derived.RangeFuncNested
import Derived.Test.YtfgpimhdjlmapaaGreatDoorDaU
import Derived.Test.YtfgpimhdjlmapaaGreatDoorShT3
namespace Go.Proofs.YtfgpimhdjlmapaaGreatDoor.Tm
open Go.RowKit
set_option linter.unusedVariables false
set_option maxRecDepth 100000
def wkS:List NodeA:=[trueN,qD5,⟨13,0,0,0,0,0,0,0⟩,⟨13,0,0,0,0,0,1,0⟩,⟨2,2,2,3,0,0,0,0⟩]
theorem zBi:WS wkS:=fun n hn=>by
 simp only[wkS,List.mem_cons,List.not_mem_nil,or_false] at hn
 rcases hn with rfl|rfl|rfl|rfl|rfl<;>(constructor<;>(intro h;first|exact absurd h (by decide)|decide))
theorem qRn:Cl wkS:=by
 refine⟨by decide,by decide,fun n hn=>?_,zBi,fun n hn=>?_,fun n hn h=>?_,fun n hn h=>?_,fun k n hk h=>?_⟩
 ·simp only[wkS,List.mem_cons,List.not_mem_nil,or_false] at hn
  rcases hn with rfl|rfl|rfl|rfl|rfl<;>exact⟨fun h=>absurd h (by decide),fun h=>absurd h (by decide)⟩
 ·simp only[wkS,List.mem_cons,List.not_mem_nil,or_false] at hn
  rcases hn with rfl|rfl|rfl|rfl|rfl<;>decide
 ·simp only[wkS,List.mem_cons,List.not_mem_nil,or_false] at hn
  rcases hn with rfl|rfl|rfl|rfl|rfl<;>exact absurd h (by decide)
 ·simp only[wkS,List.mem_cons,List.not_mem_nil,or_false] at hn
  rcases hn with rfl|rfl|rfl|rfl|rfl<;>exact absurd h (by decide)
 ·have hn:=List.mem_of_getElem? hk
  simp only[wkS,List.mem_cons,List.not_mem_nil,or_false] at hn
  rcases hn with rfl|rfl|rfl|rfl|rfl<;>exact absurd h (by decide)
theorem qGi:∀ {xs ys:List Int},xs.Pairwise (· < ·)→ys.Pairwise (· < ·)→(∀x,x∈xs↔x∈ys)→xs=ys
 | [],[],_,_,_=>rfl
 | [],y :: ys,_,_,h=>absurd ((h y).2 (by simp)) (by simp)
 | x :: xs,[],_,_,h=>absurd ((h x).1 (by simp)) (by simp)
 | x :: xs,y :: ys,h1,h2,h=>by
  rw[List.pairwise_cons] at h1 h2
  have e:x=y:=by
   rcases List.mem_cons.1 ((h x).1 (by simp)) with e|e
   ·exact e
   ·rcases List.mem_cons.1 ((h y).2 (by simp)) with e'|e'
    ·exact e'.symm
    ·have:=h2.1 x e
     have:=h1.1 y e'
     omega
  subst e
  rw[qGi h1.2 h2.2 (fun z=>⟨fun hz=>by
   rcases List.mem_cons.1 ((h z).1 (List.mem_cons_of_mem _ hz)) with e|e
   ·have:=h1.1 z hz
    omega
   ·exact e,fun hz=>by
   rcases List.mem_cons.1 ((h z).2 (List.mem_cons_of_mem _ hz)) with e|e
   ·have:=h2.1 z hz
    omega
   ·exact e⟩)]
theorem zDr:clM [9,4]=[4,9]:=qGi (qF5 _) (by decide) (fun x=>by rw[qEn];simp;omega)
theorem zDs:clM [9,6]=[6,9]:=qGi (qF5 _) (by decide) (fun x=>by rw[qEn];simp;omega)
theorem zCz:clM [8,5,7]=[5,7,8]:=qGi (qF5 _) (by decide) (fun x=>by rw[qEn];simp;omega)
theorem qYt:qAy wkS 4=[[4,9],[6,9],[5,7,8]]:=by
 have e:qAy wkS 4=[clM [9,4],clM [9,6],clM [8,5,7]]:=rfl
 rw[e,zDr,zDs,zCz]
theorem zD0:qAy wkS 2=[]:=rfl
def qKn:List Value:=qC8 ⟨13,0,0,0,0,0,0,0⟩++(qC8 ⟨13,0,0,0,0,0,1,0⟩++qC8 ⟨2,2,2,3,0,0,0,0⟩)
theorem qYu {w:World} {base:Nat} {v:Value} (h:w.ownsRow base 54 8 v (2+3) (qMx.toList++qKn)):∃a c,v=.slice a 5 c∧TabR w wkS a c:=by
 obtain⟨a,c,e,h1,h2,h3,_⟩:=own_at h
 refine⟨a,c,e,h1,h2,h3,fun n hn=>?_⟩
 simp only[wkS,List.mem_cons,List.not_mem_nil,or_false] at hn
 rcases hn with rfl|rfl|rfl|rfl|rfl<;>exact⟨⟨by decide,by decide⟩,⟨by decide,by decide⟩,⟨by decide,by decide⟩,⟨by decide,by decide⟩,⟨by decide,by decide⟩,⟨by decide,by decide⟩,⟨by decide,by decide⟩,⟨by decide,by decide⟩⟩
theorem zBj {w w1 w9:World} {g9 c9:Nat} {o:Obj} (h1:w1.heap[w.heap.size+1]? = some (.cells qMx 54 (0,0))) (hb:Below w.heap.size w w1) (hs:w.heap.size+1<w1.heap.size)
  (ho:w9.ownsRow w.heap.size 54 8 (.slice (some ⟨g9,0,none⟩) 5 c9) (2+3) (qMx.toList++qKn))
  (hg:((w1.alloc (.cells #[.slice (some ⟨w.heap.size+1,0,none⟩) 2 2] 33)).alloc o).grownBy w9 (Value.slice (some ⟨w.heap.size+1,0,none⟩) 2 2).ownBlock) :
  w9.heap[w1.heap.size]? = some (.cells #[.slice (some ⟨w.heap.size+1,0,none⟩) 2 2] 33 (0,0))∧Below w.heap.size w w9∧w9.ownsRow w.heap.size 54 8 (.slice (some ⟨g9,0,none⟩) 5 c9) (2+3) (qMx.toList++qKn):=by
 have hz:((w1.alloc (.cells #[.slice (some ⟨w.heap.size+1,0,none⟩) 2 2] 33)).alloc o).heap.size=w1.heap.size+2:=by simp
 have hb2:Below w.heap.size w ((w1.alloc (.cells #[.slice (some ⟨w.heap.size+1,0,none⟩) 2 2] 33)).alloc o):=(hb.alloc (by omega) _).alloc (by simp;omega) _
 refine⟨(hg.block w1.heap.size (by omega) (fun e=>by simp[Value.ownBlock] at e;omega)).trans (qSi w1 _ _),hb2.grown hg (by omega) (fun k e=>?_),ho⟩
 ·have:w.heap.size+1=k:=by simpa [Value.ownBlock] using e
  omega
theorem qYv {w w1 w9:World} {g9 c9:Nat} (h:w9.heap[w1.heap.size]? = some (.cells #[.slice (some ⟨w.heap.size+1,0,none⟩) 2 2] 33 (0,0))∧Below w.heap.size w w9∧w9.ownsRow w.heap.size 54 8 (.slice (some ⟨g9,0,none⟩) 5 c9) (2+3) (qMx.toList++qKn)) (hs:w.heap.size+1<w1.heap.size) :
  Below w.heap.size w (w9.setCell ⟨w1.heap.size,0,none⟩ (.slice (some ⟨g9,0,none⟩) 5 c9))∧TabR (w9.setCell ⟨w1.heap.size,0,none⟩ (.slice (some ⟨g9,0,none⟩) 5 c9)) wkS (some ⟨g9,0,none⟩) c9∧(w9.setCell ⟨w1.heap.size,0,none⟩ (.slice (some ⟨g9,0,none⟩) 5 c9)).heap[w1.heap.size]? = some (.cells #[.slice (some ⟨g9,0,none⟩) 5 c9] 33 (0,0)):=by
 obtain⟨h1,h2,h3⟩:=h
 have hs2:(w9.setCell ⟨w1.heap.size,0,none⟩ (.slice (some ⟨g9,0,none⟩) 5 c9)).heap[w1.heap.size]? = some (.cells #[.slice (some ⟨g9,0,none⟩) 5 c9] 33 (0,0)):=qAf h1
 have hbs:=h2.setCell (p:=⟨w1.heap.size,0,none⟩) (by show w.heap.size≤w1.heap.size;omega) (.slice (some ⟨g9,0,none⟩) 5 c9)
 have hne:g9≠w1.heap.size:=fun e=>by
  rcases h3.2 with⟨h0,_⟩|⟨g',cap',cur,hv,_,hc,_⟩
  ·cases h0
  ·cases hv
   rw[←e] at h1
   rw[h1] at hc
   simp at hc
 obtain⟨a,c,e,ht⟩:=qYu (qEb h3 (w':=w9.setCell ⟨w1.heap.size,0,none⟩ (.slice (some ⟨g9,0,none⟩) 5 c9)) (fun g hg=>by
  obtain rfl:g9=g:=by simpa [Value.ownBlock] using hg
  exact Below.heap_setCell _ _ _ _ hne))
 cases e
 exact⟨hbs,ht,hs2⟩
set_option maxHeartbeats 8000000 in
theorem qJl (w:World) (hT:GT w):Calls Tryz.prog 8 #[] w fun e w'=>e=.returned (.bool true)∧Below w.heap.size w w':=by
 have HN:Hid (Calls Tryz.prog 16 #[] w fun e w'=>e=.returned (.agg #[.slice (some ⟨w.heap.size+1,0,none⟩) 2 2])∧w'.heap[w.heap.size+1]? = some (.cells qMx 54 (0,0))∧Below w.heap.size w w'):=qSh w
 have HOf:Hid (∀V a c,Below w.heap.size w V→TabR V wkS a c→Calls Tryz.prog 14 #[.agg #[.slice a 5 c],.int .i64 4] V fun e w'=>∃g o d,e=.returned (.tuple #[.slice (some ⟨g,o,none⟩) 3 d,.int .i64 0])∧Hid (g<w'.heap.size∧∃g1 o1 d1,w'.cell? ⟨g,o,none⟩=some (.slice (some ⟨g1,o1,none⟩) 2 d1)∧g1<w'.heap.size∧w'.cell? ⟨g1,o1,none⟩=some (.int .i64 4)∧w'.cell? ⟨g1,o1+1,none⟩=some (.int .i64 9))∧Hid (Below V.heap.size V w')):=fun V a c hV hA=>by
  refine(qKj wkS qRn a c 4 (by decide) V (hT.below hV) hA).mono ?_
  rintro e w' ⟨b,d,rfl,hr,hb⟩
  rw[qYt] at hr
  obtain⟨rs,ra,rc,e1,e2,h3,_⟩:=hr.out
  cases rs with
  | nil=>cases e2
  | cons r rs =>
   rw[List.map_cons,List.cons.injEq] at e2
   obtain⟨g,o,e3,hg,hc⟩:=h3.cell (k:=0) (r:=r) rfl
   have hi:=h3.ok r (by simp)
   rw[e2.1] at hi hc
   obtain⟨g1,o1,e4,hg1,c0⟩:=hi.cell (k:=0) (x:=4) rfl
   obtain⟨g2,o2,e5,_,c1⟩:=hi.cell (k:=1) (x:=9) rfl
   rw[e4] at e5
   cases e5
   have eb:b=ra:=by injection e1
   rw[eb,e3]
   rw[e4] at hc
   exact⟨g,o,d,by rw[qYt];rfl,⟨hg,g1,o1,r.c,hc,hg1,c0,c1⟩,hb⟩
 have HIs:Hid (∀V a c b,Below w.heap.size w V→TabR V wkS a c→IntsR V [5,7,8] b 3→Calls Tryz.prog 17 #[.agg #[.slice a 5 c],.int .i64 4,.slice b 3 3] V fun e w'=>e=.returned (.bool true)∧Hid (Below V.heap.size V w')):=fun V a c b hV hA hI=>by
  refine(qYd wkS qRn a c 4 (by decide) [5,7,8] b 3 V (hT.below hV) hA hI).mono ?_
  rintro e w' ⟨rfl,hb⟩
  exact⟨by rw[qYt];rfl,hb⟩
 have HCo:Hid (∀V a c,Below w.heap.size w V→TabR V wkS a c→Calls Tryz.prog 18 #[.agg #[.slice a 5 c],.int .i64 2] V fun e w'=>e=.returned (.int .i64 0)∧Hid (Below V.heap.size V w')):=fun V a c hV hA=>by
  refine(qOv wkS qRn a c 2 (by decide) V (hT.below hV) hA).mono ?_
  rintro e w' ⟨rfl,hb⟩
  exact⟨by rw[zD0];rfl,hb⟩
 obtain⟨i0,hi,hz1,hz2,hz3⟩:=info_parts qLr
 have one:∀u∈qKn,u.oneCell'=true:=fun u hu=>by
  simp only[qKn,qC8,List.cons_append,List.nil_append,List.mem_cons,List.not_mem_nil,or_false] at hu
  rcases hu with rfl|rfl|rfl|rfl|rfl|rfl|rfl|rfl|rfl|rfl|rfl|rfl|rfl|rfl|rfl|rfl|rfl|rfl|rfl|rfl|rfl|rfl|rfl|rfl<;>rfl
 clear hT
 go_enter Tryz.func8,Tryz.ntmps8
 go_wp2_with fail
 refine HN.out.mono ?_
 rintro e w1 ⟨rfl,hn1,hb1⟩
 have hs1:w.heap.size+1<w1.heap.size:=(Array.getElem?_eq_some_iff.1 hn1).1
 have HN1:=Lib.hid hn1
 have HB1:=Lib.hid hb1
 clear hn1 hb1
 go_wp2_with (at_builtin;refine wpList_append_lies _ rfl _ _ 31 rfl w.heap.size 54 i0 _ 8 56 Tryz.underlying31 hi hz1 hz2 hz3 rfl (by decide) (Value.slice (some ⟨w.heap.size+1,0,none⟩) 2 2) 2 qMx.toList (by rfl) (((qWi HN1.out (by omega)).alloc _).alloc _) ⟨w1.heap.size+1,0,none⟩ 3 3 qKn (by rfl) rfl (World.news_of_block (B:=w1.heap.size+1) (cs:=qKn.toArray) (t:=54) (fr:=(0,0)) (by have:=heap_alloc_new (w1.alloc (.cells #[.slice (some ⟨w.heap.size+1,0,none⟩) 2 2] 33)) (.cells qKn.toArray 54);rw[World.size_alloc] at this;exact this)) one (by omega) (by simp only[maxLen];omega) (by omega) (by first|omega|(simp<;>omega)) _ rfl ?_;intro g9 c9 w9 hown9 hgrow9 hat9 hlt9;have HX9:=Lib.hid (zBj HN1.out HB1.out (by omega) hown9 hgrow9);clear hown9 hgrow9 hat9 hlt9;obtain⟨k0,kf,kz⟩:=qL9 HX9.out.1)
 obtain⟨W9,hW9⟩:∃W9,W9=w9.setCell ⟨w1.heap.size,0,none⟩ (.slice (some ⟨g9,0,none⟩) 5 c9):=⟨_,rfl⟩
 have HX:=Lib.hid (qYv HX9.out (by omega))
 obtain⟨hbX,htX,hkX⟩:=HX.out
 clear HX k0 kf kz HX9
 rw[←hW9] at hbX htX hkX ⊢
 clear hW9
 refine(HOf.out _ _ _ hbX htX).mono ?_
 rintro e w10 ⟨g,o,d,rfl,HR,HB10⟩
 have hB10:Below w.heap.size w w10:=qA5 hbX HB10.out
 have hk10:=(HB10.out.block _ (Array.getElem?_eq_some_iff.1 hkX).1).trans hkX
 have ht10:=htX.below HB10.out
 obtain⟨hg,g1,o1,d1,c0,hg1,c1,c2⟩:=HR.out
 have HK:Hid (∀V,Below w10.heap.size w10 V→V.cell? ⟨w1.heap.size,0,none⟩=some (.slice (some ⟨g9,0,none⟩) 5 c9)∧w1.heap.size<V.heap.size):=fun V hV=>by
  obtain⟨q0,_,qz⟩:=qL9 ((hV.block _ (Array.getElem?_eq_some_iff.1 hk10).1).trans hk10)
  exact⟨q0,qz⟩
 have HI10:Hid (Calls Tryz.prog 17 #[.agg #[.slice (some ⟨g9,0,none⟩) 5 c9],.int .i64 4,.slice (some ⟨w10.heap.size,0,none⟩) 3 3] (w10.alloc (.cells #[.int .i64 5,.int .i64 7,.int .i64 8] 3)) fun e w'=>e=.returned (.bool true)∧Hid (Below w10.heap.size w10 w')):=by
  have hb:=(Below.refl _ w10).alloc (Nat.le_refl _) (.cells #[.int .i64 5,.int .i64 7,.int .i64 8] 3)
  refine(HIs.out _ _ c9 _ (qA5 hB10 hb) (ht10.below hb) ?_).mono fun e w' ⟨h1,h2⟩=>⟨h1,qA5 hb h2.out⟩
  have h:=qNs w10 [5,7,8] (by decide)
  obtain⟨a2,c2,e2,hI⟩:=h.ints (fun x hx=>by simp at hx;rcases hx with rfl|rfl|rfl<;>exact⟨by decide,by decide⟩)
  cases e2
  exact hI
 have HC10:Hid (∀V,Below w10.heap.size w10 V→Calls Tryz.prog 18 #[.agg #[.slice (some ⟨g9,0,none⟩) 5 c9],.int .i64 2] V fun e w'=>e=.returned (.int .i64 0)∧Hid (Below V.heap.size V w')):=fun V hV=>HCo.out V _ c9 (qA5 hB10 hV) (ht10.below hV)
 have HBw:=Lib.hid hB10
 obtain⟨k0,kz⟩:=HK.out _ (Below.refl _ _)
 clear hbX htX hkX hB10 hk10 ht10 HOf HIs HCo
 go_wp2_with (first
  | (go_at_call 17;refine HI10.out.mono ?_;rintro e w11 ⟨rfl,HB11⟩;obtain⟨k1,kz1⟩:=HK.out _ HB11.out)
  | (go_at_call 18;refine(HC10.out _ HB11.out).mono ?_;rintro e w12 ⟨rfl,HB12⟩))
 go_ret
 exact⟨rfl,qA5 (qA5 HBw.out HB11.out) HB12.out⟩
theorem qYw (c:List NodeA) (k:Nat):((List.range k).flatMap (qAy c)).length≤4*k:=by
 have:=qKm c (List.range k)
 rw[List.length_range] at this
 exact this
theorem qLm (l:List NodeA) (hlen:l.length≤3000) (a:Option Addr) (cp:Nat) (xs:List Int) (rb:Option Addr) (rc:Nat) (w:World) (hA:TabR w l a cp) (hX:IntsR w xs rb rc) (hxl:xs.length≤3000) :
  Calls Tryz.prog 9 #[.agg #[.slice a l.length cp],.slice rb xs.length rc,.int .i64 2000] w fun e w'=>Below w.heap.size w w'∧((∃(c:List NodeA) (ac:Option Addr) (cc:Nat) (b:Option Addr) (d:Nat),e=.returned (.tuple #[.agg #[.slice ac c.length cc],.slice b xs.length d,.int .i64 0])∧Cl c∧TabR w' c ac cc)∨(∃er:Int,¬er=0∧e=.returned (.tuple #[.agg #[.slice none 0 0],.slice none 0 0,.int .i64 er]))):=by
 refine(qQ8 (Q:=QC l) (most:=2000) (l:=l) (fun hm hw=>qWm (by omega) hA.ok (fun k n hk=>(ok_at (mayT_ok hm).2 hk).1) hw) (fun s im h=>h.1) (zAg l) (by omega) hlen a cp xs rb rc w hA hX hxl).mono ?_
 rintro e w' ⟨hb,⟨s,im,ac,cc,b,d,rfl,hw,ht,_⟩|h⟩
 ·refine⟨hb,.inl ⟨s.l,ac,cc,b,d,rfl,zC9 hw.inv hw.q.1.1 hw.q.1.2.1 hw.q.2,?_⟩⟩
  first|exact ht|exact ht.1|exact ht.tab|exact ht.r
 ·exact⟨hb,.inr h⟩
end Go.Proofs.YtfgpimhdjlmapaaGreatDoor.Tm
