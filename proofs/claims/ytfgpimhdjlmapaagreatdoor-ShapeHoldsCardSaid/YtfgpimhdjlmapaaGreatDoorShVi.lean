/- ShapeHolds, walked. -/
import Derived.Deep.LoopGhost
import Derived.Test.YtfgpimhdjlmapaaGreatDoorShf
import Derived.Test.YtfgpimhdjlmapaaGreatDoorShR
import Derived.Test.YtfgpimhdjlmapaaGreatDoorShVg
import Derived.Test.YtfgpimhdjlmapaaGreatDoorShV
import Derived.Test.YtfgpimhdjlmapaaGreatDoorHdK
import Derived.Test.YtfgpimhdjlmapaaGreatDoorSgOq
import Derived.Test.YtfgpimhdjlmapaaGreatDoorShT3
namespace Go.Proofs.YtfgpimhdjlmapaaGreatDoor.Tm
open Go.RowKit
set_option linter.unusedVariables false
set_option maxRecDepth 100000
theorem qUw {x:SigV} {y:WorV} {c:List NodeA} {E:List (Int × Bool)} (h:WoR x y c E):qGf (tdL E c) (qH9 c)=true:=by
 unfold qGf qH9
 rw[List.all_eq_true]
 intro xs hxs
 obtain⟨k,hk,hx⟩:=List.mem_flatMap.1 hxs
 exact qUv h (List.mem_range.1 hk) xs hx
theorem qYy {c:List NodeA} (hC:Cl c) {n:Nat} (hn:n=c.length):∀xs∈qH9 c,xs.length≤3∧∀x∈xs,0≤x∧x<2*(n:Int):=fun xs hxs=>by
 subst hn
 unfold qH9 at hxs
 obtain⟨k,hk,hx⟩:=List.mem_flatMap.1 hxs
 obtain⟨_,h2,_,h4⟩:=qCm hC (List.mem_range.1 hk) xs hx
 exact⟨h4,h2⟩
theorem qRq (x:SigV) (y:WorV) (c:List NodeA) (hC:Cl c) (h0:qOi x y c=0) (no:∀k:Nat,k<c.length→(atV (evK x y c c.length) (k:Int)).2=false) (rb:Option Addr) (rd b:Nat) (w:World) (hR:qAm w (.slice rb (qH9 c).length rd) (qH9 c)) (hT:w.heap[b]? = some (.cells (qE1 (tdL (evK x y c c.length) c)) 49 (0,0))) :
  Calls Tryz.prog 12 #[.slice rb (qH9 c).length rd,.slice (some ⟨b,0,none⟩) c.length c.length] w fun e w'=>e=.returned (.bool true)∧Below w.heap.size w w':=by
 have hl:=qFq (evK x y c c.length) c
 have hlen:=hC.len
 have hI:=qRi hT (by omega)
 have hfl:=qYw c c.length
 have hr:=qJi (qH9 c) (tdL (evK x y c c.length) c) rb rd (some ⟨b,0,none⟩) (tdL (evK x y c c.length) c).length w hR hI (qYy hC hl) (qO0 h0) (by omega) (by show ((List.range c.length).flatMap (qAy c)).length≤10000;omega)
 rw[hl,qUw ⟨hC,qLv h0,no⟩] at hr
 exact hr
set_option maxHeartbeats 16000000 in
theorem ShapeHolds_c (w:World) (x:SigV) (hX:SigR w x) (y:WorV) (hY:WorR w y) (l:List NodeA) (ad:Option Addr) (cp:Nat) (hA:TabR w l ad cp) (xs:List Int) (b1:Option Addr) (d1:Nat) (hXs:IntsR w xs b1 d1) (hG:GT w) :
  Calls Tryz.prog 3 #[.agg #[.slice x.sa x.sorts.length x.sc,.slice x.fa x.funs.length x.fc,.slice x.ma x.macs.length x.mc],.agg #[.slice y.sa y.sizes.length y.sc,.slice y.fa y.funs.length y.fc],.agg #[.slice ad l.length cp],.slice b1 xs.length d1] w fun e w'=>e=.returned (.bool true)∧Below w.heap.size w w':=by
 have hlm:l.length≤9223372036854775807:=by have h1:=hA.le;have h2:=hA.cap;simp only[maxLen] at h2;omega
 have hx2:xs.length≤9223372036854775807:=by have h1:=hXs.le;have h2:=hXs.cap;simp only[maxLen] at h2;omega
 obtain⟨W0,hW0⟩:∃W0,W0=((w.alloc (.cells #[.slice x.sa x.sorts.length x.sc,.slice x.fa x.funs.length x.fc,.slice x.ma x.macs.length x.mc] 26)).alloc (.cells #[.slice y.sa y.sizes.length y.sc,.slice y.fa y.funs.length y.fc] 30)).alloc (.cells #[.slice ad l.length cp] 33):=⟨_,rfl⟩
 obtain⟨hB0,hs0,hX0⟩:=qYk hW0
 have HK:=Lib.hid hX0
 have HB0:=Lib.hid hB0
 have HU:Hid (∀V,Below W0.heap.size W0 V→Below w.heap.size w V):=fun V hV=>hB0.trans (hV.mono hB0.size)
 have HWk:Hid (∀V,Below W0.heap.size W0 V→Calls Tryz.prog 8 #[] V fun e w'=>e=.returned (.bool true)∧Hid (Below W0.heap.size W0 w')):=fun V hV=>(qJl V ((hG.below hB0).below hV)).mono fun e w' ⟨h1,h2⟩=>⟨h1,qA5 hV h2⟩
 have HGs:Hid (∀V,Below W0.heap.size W0 V→Calls Tryz.prog 5 #[.agg #[.slice x.sa x.sorts.length x.sc,.slice x.fa x.funs.length x.fc,.slice x.ma x.macs.length x.mc]] V fun e w'=>∃q,e=.returned (.bool q)∧Hid (Below W0.heap.size W0 w')):=fun V hV=>(Go.Proofs.YtfgpimhdjlmapaaGreatDoor.Great_any x V ((hX.below hB0).below hV)).mono fun e w' ⟨⟨q,h1⟩,h2⟩=>⟨q,h1,qA5 hV h2⟩
 have HGw:Hid (∀V,Below W0.heap.size W0 V→Calls Tryz.prog 6 #[.agg #[.slice y.sa y.sizes.length y.sc,.slice y.fa y.funs.length y.fc]] V fun e w'=>∃q,e=.returned (.bool q)∧Hid (Below W0.heap.size W0 w')):=fun V hV=>(qI2 y V ((hY.below hB0).below hV)).mono fun e w' ⟨⟨q,h1⟩,h2⟩=>⟨q,h1,qA5 hV h2⟩
 have HGt:Hid (∀q,decide (300<l.length)=q→∀V,Below W0.heap.size W0 V→Calls Tryz.prog 7 #[.agg #[.slice ad l.length cp]] V fun e w'=>e=.returned (.bool q)∧Hid (Below W0.heap.size W0 w')):=fun q hq V hV=>(Great_any l ad cp q V hlm hq).mono fun e w' ⟨h1,h2⟩=>⟨h1,qA5 hV h2⟩
 have HOf:Hid (l.length≤300→xs.length≤100→∀V,Below W0.heap.size W0 V→Calls Tryz.prog 9 #[.agg #[.slice ad l.length cp],.slice b1 xs.length d1,.int .i64 2000] V fun e w'=>Hid (Below W0.heap.size W0 w')∧((∃(c:List NodeA) (ac:Option Addr) (cc:Nat) (b:Option Addr) (d:Nat),e=.returned (.tuple #[.agg #[.slice ac c.length cc],.slice b xs.length d,.int .i64 0])∧Hid (Cl c)∧Hid (TabR w' c ac cc))∨(∃er:Int,¬er=0∧e=.returned (.tuple #[.agg #[.slice none 0 0],.slice none 0 0,.int .i64 er])))):=fun h1 h2 V hV=>(qLm l (by omega) ad cp xs b1 d1 V ((hA.below hB0).below hV) ((hXs.below hB0).below hV) (by omega)).mono fun e w' ⟨g1,g2⟩=>⟨qA5 hV g1,g2⟩
 have HGT:Hid (∀V,Below W0.heap.size W0 V→GT V):=fun V hV=>(hG.below hB0).below hV
 have HXY:Hid (∀V,Below W0.heap.size W0 V→SigR V x∧WorR V y):=fun V hV=>⟨(hX.below hB0).below hV,(hY.below hB0).below hV⟩
 obtain⟨q,hq⟩:∃q,decide (300<l.length)=q:=⟨_,rfl⟩
 have HGq:=Lib.hid (HGt.out q hq)
 obtain⟨x0,x1,x2,y0,y1,t0,tz⟩:=hX0 W0 (Below.refl _ _)
 have HQ:=Lib.hid hq
 have hA0:=hW0.symm
 clear hW0 hX0 hX hY hA hXs hG hB0 HGt hq hs0
 go_enter Tryz.func3,Tryz.ntmps3
 go_wp2_with fail
 refine(HGs.out _ (Below.refl _ _)).mono ?_
 rintro e w1 ⟨qs,rfl,HB1⟩
 cases qs with
 | true =>
  go_wp2_with (go_at_call 8;refine(HWk.out _ HB1.out).mono ?_;rintro e w2 ⟨rfl,HB2⟩)
  go_ret
  exact⟨rfl,HU.out _ HB2.out⟩
 | false =>
  clear x0 x1 x2 y0 y1 t0 tz
  obtain⟨x0,x1,x2,y0,y1,t0,tz⟩:=HK.out w1 HB1.out
  go_wp2_with fail
  refine(HGw.out _ HB1.out).mono ?_
  rintro e w2 ⟨qw,rfl,HB2⟩
  cases qw with
  | true =>
   go_wp2_with (go_at_call 8;refine(HWk.out _ HB2.out).mono ?_;rintro e w3 ⟨rfl,HB3⟩)
   go_ret
   exact⟨rfl,HU.out _ HB3.out⟩
  | false =>
   clear x0 x1 x2 y0 y1 t0 tz
   obtain⟨x0,x1,x2,y0,y1,t0,tz⟩:=HK.out w2 HB2.out
   go_wp2_with fail
   refine(HGq.out _ HB2.out).mono ?_
   rintro e w3 ⟨rfl,HB3⟩
   cases q with
   | true =>
    go_wp2_with (go_at_call 8;refine(HWk.out _ HB3.out).mono ?_;rintro e w4 ⟨rfl,HB4⟩)
    go_ret
    exact⟨rfl,HU.out _ HB4.out⟩
   | false =>
    clear x0 x1 x2 y0 y1 t0 tz
    obtain⟨x0,x1,x2,y0,y1,t0,tz⟩:=HK.out w3 HB3.out
    by_cases hx:100<xs.length
    ·have hxi:(100:Int)<(xs.length:Int):=by omega
     go_wp2_with (go_at_call 8;refine(HWk.out _ HB3.out).mono ?_;rintro e w4 ⟨rfl,HB4⟩)
     go_ret
     exact⟨rfl,HU.out _ HB4.out⟩
    ·have hxi:¬(100:Int)<(xs.length:Int):=by omega
     have hl3:l.length≤300:=by have:=of_decide_eq_false HQ.out;omega
     have HOq:=Lib.hid (HOf.out hl3 (by omega))
     go_wp2_with fail
     refine(HOq.out _ HB3.out).mono ?_
     rintro e w4 ⟨HB4,⟨c,a,ca,b,d,rfl,HC,HT⟩|⟨er,her,rfl⟩⟩
     ·obtain⟨W3,hW3⟩:∃W3,W3=w4.alloc (.cells #[.slice a c.length ca] 33):=⟨_,rfl⟩
      obtain⟨hb3,hX3⟩:=qAz hW3
      have HB5:Hid (Below W0.heap.size W0 W3):=qA5 HB4.out hb3
      have HK3:Hid (∀V,Below W3.heap.size W3 V→V.cell? ⟨w4.heap.size,0,none⟩=some (.slice a c.length ca)∧w4.heap.size<V.heap.size):=fun V hV=>⟨(cell_of_row _ _ 0 _ _ _ (hX3 V hV).1).trans rfl,(hX3 V hV).2⟩
      have HT3:Hid (TabR W3 c a ca):=HT.out.below hb3
      have hlen:c.length≤2000:=HC.out.len
      have hc0:0<c.length:=by have:=qE3 HC.out.may;omega
      have HTd:Hid (Calls Tryz.prog 10 #[.agg #[.slice x.sa x.sorts.length x.sc,.slice x.fa x.funs.length x.fc,.slice x.ma x.macs.length x.mc],.agg #[.slice y.sa y.sizes.length y.sc,.slice y.fa y.funs.length y.fc],.agg #[.slice a c.length ca]] W3 fun e w'=>Hid (qRj x y c W3 e w')):=qNy x y c a ca W3 (HXY.out _ HB5.out).1 (HXY.out _ HB5.out).2 HT3.out hlen (fun h0 k hk hs=>qMu h0 hk hs)
      have hA3:=hW3.symm
      clear hW3 hb3 hX3 HT x0 x1 x2 y0 y1 t0 tz
      obtain⟨x0,x1,x2,y0,y1,t0,tz⟩:=HK.out W3 HB5.out
      obtain⟨c0,cz⟩:=HK3.out W3 (Below.refl _ _)
      go_wp2_with fail
      refine HTd.out.mono ?_
      rintro e w5 HP
      rcases HP.out with⟨hb5,rfl⟩|⟨h0,no,b5,rfl,hTd⟩
      ·have HB6:Hid (Below W0.heap.size W0 w5):=qA5 HB5.out hb5
       clear hb5
       go_wp2_with (go_at_call 8;refine(HWk.out _ HB6.out).mono ?_;rintro e w6 ⟨rfl,HB7⟩)
       go_ret
       exact⟨rfl,HU.out _ HB7.out⟩
      ·have HB6:Hid (Below W0.heap.size W0 w5):=qA5 HB5.out hTd.bel
       have HAl:Hid (Calls Tryz.prog 11 #[.agg #[.slice a c.length ca]] w5 fun e w'=>∃b d,e=.returned (.tuple #[.slice b (qH9 c).length d,.int .i64 0])∧Hid (qAm w' (.slice b (qH9 c).length d) (qH9 c))∧Hid (Below w5.heap.size w5 w')):=qUp c HC.out a ca w5 (HGT.out _ HB6.out) (HT3.out.below hTd.bel) hc0
       obtain⟨c1,cz1⟩:=HK3.out w5 hTd.bel
       have HHo:Hid (∀V rb rd,Below w5.heap.size w5 V→qAm V (.slice rb (qH9 c).length rd) (qH9 c)→Calls Tryz.prog 12 #[.slice rb (qH9 c).length rd,.slice (some ⟨b5,0,none⟩) c.length c.length] V fun e w'=>e=.returned (.bool true)∧Hid (Below V.heap.size V w')):=fun V rb rd hV hR=>qRq x y c HC.out h0 no rb rd b5 V hR ((hV.block _ (Array.getElem?_eq_some_iff.1 hTd.row).1).trans hTd.row)
       clear hTd h0 no HP
       go_wp2_with (first
        | (go_at_call 11;refine HAl.out.mono ?_;rintro e w6 ⟨rb,rd,rfl,HR6,HB7⟩)
        | (go_at_call 12;refine(HHo.out _ _ _ HB7.out HR6.out).mono ?_;rintro e w7 ⟨rfl,HB8⟩)
        | (go_at_call 8;refine(HWk.out _ (qA5 HB6.out (qA5 HB7.out HB8.out))).mono ?_;rintro e w8 ⟨rfl,HB9⟩))
       go_ret
       exact⟨rfl,HU.out _ HB9.out⟩
     ·have e0:=qDf her
      clear her
      have HBn:Hid (∀ob,Below W0.heap.size W0 (w4.alloc ob)):=fun ob=>HB4.out.alloc HB4.out.size _
      go_wp2_with (go_at_call 8;refine(HWk.out _ (HBn.out _)).mono ?_;rintro e w5 ⟨rfl,HB5⟩)
      go_ret
      exact⟨rfl,HU.out _ HB5.out⟩
end Go.Proofs.YtfgpimhdjlmapaaGreatDoor.Tm
