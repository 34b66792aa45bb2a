/- The document's eval: fits, AtMost, bit. -/
import Derived.Test.YtfgpimhdjlmapaaGreatDoorHdN
import Derived.Laws.Bits128
import Derived.Deep.RegionHeld3
import Derived.BigQuiet
import Derived.Maps.AppendAt
import Derived.Deep.AppendLies
import Derived.Deep.RegionHeldLaw
import Derived.Deep.RegionLaw
import Derived.DeepKeys4
import Derived.WalkArith
import Derived.Maps.OwnSet
import Derived.Maps.OwnIn
import Derived.Deep.CutRange
import Derived.Laws.Cover3
import Derived.Laws.Append
import Derived.Test.YtfgpimhdjlmapaaGreatDoorNumMay
namespace Go.Proofs.YtfgpimhdjlmapaaGreatDoor
open Go.RowKit
set_option linter.unusedVariables false
set_option maxRecDepth 100000
def opO (op:Int) (l:List Int):Option Int :=
 if op=0 then some 0 else if op=10 then some 1 else if op=11 then (if alikeB l 1 1=true then some 1 else none)
 else if op=6 then (if l.getD 0 0=l.getD 1 0 then some 0 else none)
 else if op=7 then (if l.getD 0 0=0∧l.getD 1 0=l.getD 2 0 then some (l.getD 1 0) else none)
 else if op=8∨op=9∨op=12 then (if alikeB l 2 1=true then some 0 else none)
 else (if alikeB l (qBq op) 0=true then some 0 else none)
def opE (op:Int) (l:List Int):Int:=if qBq op<0∨¬(l.length:Int)=qBq op then 2 else if l.any (fun s=>decide (s<0))=true then 33 else if (opO op l).isSome=true then 0 else 33
def opV (op:Int) (l:List Int):Int:=if opE op l=0 then (opO op l).getD 0 else 0
set_option maxHeartbeats 4000000 in
theorem Op_any (op:Int) (l:List Int) (la:Option Addr) (lc:Nat) (V E:Int) (w:World) (hl:At w w.heap.size (l.flatMap qFb) la) (hln:l.length≤3) (hV:opV op l=V) (hE:opE op l=E) :
  Calls Tryz.prog 32 #[.int .i8 op,.slice la l.length lc] w fun e w'=>e=.returned (.tuple #[.int .i64 V,.int .i64 E])∧Below w.heap.size w w':=by
 obtain⟨n,hn⟩:∃n,qBq op=n:=⟨_,rfl⟩
 have HMn:=Lib.hid (qTj op n w hn)
 have HL:=Lib.hid hl
 have hnb:n≤3:=by
  rw[←hn];unfold qBq Tm.arityA
  repeat' split
  all_goals omega
 by_cases h0:n<0
 ·obtain rfl:E=2:=by rw[←hE];unfold opE;rw[if_pos (Or.inl (by omega))]
  obtain rfl:V=0:=by rw[←hV];unfold opV;rw[hE];rfl
  clear hn hV hE hl
  go_enter Tryz.func32,Tryz.ntmps32
  go_wp2_with (go_at_call 45;refine HMn.out.mono ?_;rintro e w1 ⟨rfl,rfl⟩)
  go_ret2
  exact⟨rfl,Below.refl _ _⟩
 by_cases h1:(l.length:Int)=n
 rotate_left
 ·obtain rfl:E=2:=by rw[←hE];unfold opE;rw[if_pos (Or.inr (by rw[hn];exact h1))]
  obtain rfl:V=0:=by rw[←hV];unfold opV;rw[hE];rfl
  have e1:=qAr h1
  clear hn hV hE hl h1
  go_enter Tryz.func32,Tryz.ntmps32
  go_wp2_with (go_at_call 45;refine HMn.out.mono ?_;rintro e w1 ⟨rfl,rfl⟩)
  go_ret2
  exact⟨rfl,Below.refl _ _⟩
 subst h1
 have HN:=Lib.hid hn
 have hE2:opE op l=(if l.any (fun s=>decide (s<0))=true then 33 else if (opO op l).isSome=true then 0 else 33):=by
  unfold opE;rw[if_neg (by rw[hn];omega)]
 have HNeg:Hid (∀(j:Nat) (s:Int),l[j]? = some s→s<0→V=0∧E=33):=fun j s hs h=>by
  have he:opE op l=33:=by rw[hE2,if_pos (qMb hs (decide_eq_true h))]
  refine⟨?_,by rw[←hE,he]⟩
  rw[←hV];unfold opV;rw[he];rfl
 have HPos:Hid ((∀(j:Nat) (s:Int),l[j]? = some s→decide (s<0)=false)→∀o,opO op l=o→V=o.getD 0∧E=(if o.isSome=true then 0 else 33)):=fun h o ho=>by
  have he:opE op l=(if o.isSome=true then 0 else 33):=by rw[hE2,qQe h,ho];rfl
  refine⟨?_,by rw[←hE,he]⟩
  rw[←hV];unfold opV;rw[he,ho]
  cases o<;>rfl
 have hop:op=0∨op=1∨op=2∨op=3∨op=4∨op=5∨op=6∨op=7∨op=8∨op=9∨op=10∨op=11∨op=12:=by
  have h:=hn
  unfold qBq Tm.arityA at h
  repeat' (split at h)
  all_goals omega
 clear hn hV hE hE2 hl
 go_enter Tryz.func32,Tryz.ntmps32
 go_wp2_with (go_at_call 45;refine HMn.out.mono ?_;rintro e w1 ⟨rfl,rfl⟩)
 go_loopw [7] (fun i wr=>∃j:Nat,j≤l.length∧i=.int .i64 j∧Hid (∀(i:Nat) (y:Int),i<j→l[i]? = some y→decide (y<0)=false)∧Hid (Below w.heap.size w wr)) (fun i _=>l.length-(intOf i).toNat)
 case atStart=>exact⟨0,Nat.zero_le _,rfl,fun j _ hj=>absurd hj (Nat.not_lt_zero _),Below.refl _ _⟩
 case round =>
  obtain⟨j,hj,rfl,HNo,HB⟩:=hrel
  by_cases hlt:j<l.length
  ·obtain⟨y,hy⟩:∃y,l[j]? = some y:=⟨_,List.getElem?_eq_getElem hlt⟩
   obtain⟨g,o,ha,hg,hcell⟩:=HL.out.below HB.out (by rw[len_flat qA2];omega)
   have n0:=hcell _ _ ((get_flat qA2 l j 0 y hy (by omega)).trans rfl)
   simp only[Nat.add_zero,Nat.mul_one] at n0
   subst ha
   have hji:(j:Int)<(l.length:Int):=by omega
   by_cases hys:y<0
   ·obtain⟨rfl,rfl⟩:=HNeg.out j y hy hys
    clear hcell hy
    go_wp2
    go_ret2
    exact⟨rfl,HB.out⟩
   ·have HN2:Hid (∀(i:Nat) (z:Int),i<j+1→l[i]? = some z→decide (z<0)=false):=fun i z hi hz=>by
     by_cases hij:i<j
     ·exact HNo.out i z hij hz
     ·obtain rfl:i=j:=by omega
      obtain rfl:y=z:=by rw[hy] at hz;exact Option.some.inj hz
      exact decide_eq_false hys
    clear hcell hy
    go_wp2
    go_roundw
    case rel=>exact⟨j+1,by omega,by go_num,HN2,by first|exact HB|exact HB.out.drew⟩
    case measure=>simp[intOf];omega
  obtain rfl:j=l.length:=by omega
  have HP2:=Lib.hid (HPos.out (fun i s hs=>HNo.out i s (List.getElem?_eq_some_iff.1 hs).1 hs))
  have HLw:Hid (At wr wr.heap.size (l.flatMap qFb) la):=(HL.out.below HB.out).more HB.out.size
  have HAl:Hid (∀(a s:Int) (q:Bool),alikeB l a s=q→Calls Tryz.prog 46 #[.slice la l.length lc,.int .i64 a,.int .i64 s] wr fun e w'=>e=.returned (.bool q)∧wr=w'):=fun a s q hq=>qQi l la lc a s q wr HLw.out hln hq
  clear HPos HNeg HMn
  rcases hop with rfl|rfl|rfl|rfl|rfl|rfl|rfl|rfl|rfl|rfl|rfl|rfl|rfl
  ·obtain⟨rfl,rfl⟩:=HP2.out (some 0) rfl
   go_wp2
   go_ret2
   exact⟨rfl,HB.out⟩
  ·have hlen:(l.length:Int)=1:=by rw[←HN.out];rfl
   cases hq:alikeB l 1 0 with
   | false =>
    obtain⟨rfl,rfl⟩:=HP2.out none (by show (if alikeB l (qBq 1) 0=true then some (0:Int) else none)=_;rw[show qBq 1=1 from rfl,hq];rfl)
    have HC:=Lib.hid (HAl.out _ _ _ hq)
    clear hq
    go_wp2_with (go_at_call 46;refine HC.out.mono ?_;rintro e w5 ⟨rfl,rfl⟩)
    go_ret2
    exact⟨rfl,HB.out⟩
   | true =>
    obtain⟨rfl,rfl⟩:=HP2.out (some 0) (by show (if alikeB l (qBq 1) 0=true then some (0:Int) else none)=_;rw[show qBq 1=1 from rfl,hq];rfl)
    have HC:=Lib.hid (HAl.out _ _ _ hq)
    clear hq
    go_wp2_with (go_at_call 46;refine HC.out.mono ?_;rintro e w5 ⟨rfl,rfl⟩)
    go_ret2
    exact⟨rfl,HB.out⟩
  ·have hlen:(l.length:Int)=2:=by rw[←HN.out];rfl
   cases hq:alikeB l 2 0 with
   | false =>
    obtain⟨rfl,rfl⟩:=HP2.out none (by show (if alikeB l (qBq 2) 0=true then some (0:Int) else none)=_;rw[show qBq 2=2 from rfl,hq];rfl)
    have HC:=Lib.hid (HAl.out _ _ _ hq)
    clear hq
    go_wp2_with (go_at_call 46;refine HC.out.mono ?_;rintro e w5 ⟨rfl,rfl⟩)
    go_ret2
    exact⟨rfl,HB.out⟩
   | true =>
    obtain⟨rfl,rfl⟩:=HP2.out (some 0) (by show (if alikeB l (qBq 2) 0=true then some (0:Int) else none)=_;rw[show qBq 2=2 from rfl,hq];rfl)
    have HC:=Lib.hid (HAl.out _ _ _ hq)
    clear hq
    go_wp2_with (go_at_call 46;refine HC.out.mono ?_;rintro e w5 ⟨rfl,rfl⟩)
    go_ret2
    exact⟨rfl,HB.out⟩
  ·have hlen:(l.length:Int)=2:=by rw[←HN.out];rfl
   cases hq:alikeB l 2 0 with
   | false =>
    obtain⟨rfl,rfl⟩:=HP2.out none (by show (if alikeB l (qBq 3) 0=true then some (0:Int) else none)=_;rw[show qBq 3=2 from rfl,hq];rfl)
    have HC:=Lib.hid (HAl.out _ _ _ hq)
    clear hq
    go_wp2_with (go_at_call 46;refine HC.out.mono ?_;rintro e w5 ⟨rfl,rfl⟩)
    go_ret2
    exact⟨rfl,HB.out⟩
   | true =>
    obtain⟨rfl,rfl⟩:=HP2.out (some 0) (by show (if alikeB l (qBq 3) 0=true then some (0:Int) else none)=_;rw[show qBq 3=2 from rfl,hq];rfl)
    have HC:=Lib.hid (HAl.out _ _ _ hq)
    clear hq
    go_wp2_with (go_at_call 46;refine HC.out.mono ?_;rintro e w5 ⟨rfl,rfl⟩)
    go_ret2
    exact⟨rfl,HB.out⟩
  ·have hlen:(l.length:Int)=2:=by rw[←HN.out];rfl
   cases hq:alikeB l 2 0 with
   | false =>
    obtain⟨rfl,rfl⟩:=HP2.out none (by show (if alikeB l (qBq 4) 0=true then some (0:Int) else none)=_;rw[show qBq 4=2 from rfl,hq];rfl)
    have HC:=Lib.hid (HAl.out _ _ _ hq)
    clear hq
    go_wp2_with (go_at_call 46;refine HC.out.mono ?_;rintro e w5 ⟨rfl,rfl⟩)
    go_ret2
    exact⟨rfl,HB.out⟩
   | true =>
    obtain⟨rfl,rfl⟩:=HP2.out (some 0) (by show (if alikeB l (qBq 4) 0=true then some (0:Int) else none)=_;rw[show qBq 4=2 from rfl,hq];rfl)
    have HC:=Lib.hid (HAl.out _ _ _ hq)
    clear hq
    go_wp2_with (go_at_call 46;refine HC.out.mono ?_;rintro e w5 ⟨rfl,rfl⟩)
    go_ret2
    exact⟨rfl,HB.out⟩
  ·have hlen:(l.length:Int)=2:=by rw[←HN.out];rfl
   cases hq:alikeB l 2 0 with
   | false =>
    obtain⟨rfl,rfl⟩:=HP2.out none (by show (if alikeB l (qBq 5) 0=true then some (0:Int) else none)=_;rw[show qBq 5=2 from rfl,hq];rfl)
    have HC:=Lib.hid (HAl.out _ _ _ hq)
    clear hq
    go_wp2_with (go_at_call 46;refine HC.out.mono ?_;rintro e w5 ⟨rfl,rfl⟩)
    go_ret2
    exact⟨rfl,HB.out⟩
   | true =>
    obtain⟨rfl,rfl⟩:=HP2.out (some 0) (by show (if alikeB l (qBq 5) 0=true then some (0:Int) else none)=_;rw[show qBq 5=2 from rfl,hq];rfl)
    have HC:=Lib.hid (HAl.out _ _ _ hq)
    clear hq
    go_wp2_with (go_at_call 46;refine HC.out.mono ?_;rintro e w5 ⟨rfl,rfl⟩)
    go_ret2
    exact⟨rfl,HB.out⟩
  ·have hlen:(l.length:Int)=2:=by rw[←HN.out];rfl
   obtain⟨g,o,ha,hg,hcell⟩:=HLw.out (by rw[len_flat qA2];omega)
   obtain⟨a,ha_⟩:∃a,l[0]? = some a:=⟨_,List.getElem?_eq_getElem (by omega)⟩
   have ga:l.getD 0 0=a:=by rw[List.getD_eq_getElem?_getD,ha_];rfl
   have na:=hcell _ _ ((get_flat qA2 l 0 0 a ha_ (by omega)).trans rfl)
   have da:(0:Int)<(l.length:Int):=by omega
   obtain⟨b,hb⟩:∃b,l[1]? = some b:=⟨_,List.getElem?_eq_getElem (by omega)⟩
   have gb:l.getD 1 0=b:=by rw[List.getD_eq_getElem?_getD,hb];rfl
   have nb:=hcell _ _ ((get_flat qA2 l 1 0 b hb (by omega)).trans rfl)
   have db:(1:Int)<(l.length:Int):=by omega
   have hO:opO 6 l=(if a=b then some 0 else none):=by
    show (if l.getD 0 0=l.getD 1 0 then some (0:Int) else none)=_
    rw[ga,gb]
   simp only[Nat.add_zero,Nat.mul_one] at na nb
   subst ha
   clear hcell ha_ hb ga gb
   by_cases hab:a=b
   ·obtain⟨rfl,rfl⟩:=HP2.out (some 0) (by rw[hO,if_pos hab])
    have e1:=qAo hab
    clear hO hab
    go_wp2_with fail
    go_quiet (fail)
    go_wp2_with fail
    go_ret2
    exact⟨rfl,qAh HB.out⟩
   ·obtain⟨rfl,rfl⟩:=HP2.out none (by rw[hO,if_neg hab])
    have e1:=qA9 hab
    clear hO hab
    go_wp2_with fail
    go_quiet (fail)
    go_wp2_with fail
    go_ret2
    exact⟨rfl,qAh HB.out⟩
  ·have hlen:(l.length:Int)=3:=by rw[←HN.out];rfl
   obtain⟨g,o,ha,hg,hcell⟩:=HLw.out (by rw[len_flat qA2];omega)
   obtain⟨a,ha_⟩:∃a,l[0]? = some a:=⟨_,List.getElem?_eq_getElem (by omega)⟩
   have ga:l.getD 0 0=a:=by rw[List.getD_eq_getElem?_getD,ha_];rfl
   have na:=hcell _ _ ((get_flat qA2 l 0 0 a ha_ (by omega)).trans rfl)
   have da:(0:Int)<(l.length:Int):=by omega
   obtain⟨b,hb⟩:∃b,l[1]? = some b:=⟨_,List.getElem?_eq_getElem (by omega)⟩
   have gb:l.getD 1 0=b:=by rw[List.getD_eq_getElem?_getD,hb];rfl
   have nb:=hcell _ _ ((get_flat qA2 l 1 0 b hb (by omega)).trans rfl)
   have db:(1:Int)<(l.length:Int):=by omega
   obtain⟨c,hc⟩:∃c,l[2]? = some c:=⟨_,List.getElem?_eq_getElem (by omega)⟩
   have gc:l.getD 2 0=c:=by rw[List.getD_eq_getElem?_getD,hc];rfl
   have nc:=hcell _ _ ((get_flat qA2 l 2 0 c hc (by omega)).trans rfl)
   have dc:(2:Int)<(l.length:Int):=by omega
   have hO:opO 7 l=(if a=0∧b=c then some b else none):=by
    show (if l.getD 0 0=0∧l.getD 1 0=l.getD 2 0 then some (l.getD 1 0) else none)=_
    rw[ga,gb,gc]
   simp only[Nat.add_zero,Nat.mul_one] at na nb nc
   subst ha
   clear hcell ha_ hb hc ga gb gc
   by_cases h0a:a=0
   ·have e0:=qAo h0a
    by_cases hbc:b=c
    ·obtain⟨rfl,rfl⟩:=HP2.out (some b) (by rw[hO,if_pos ⟨h0a,hbc⟩])
     have e1:=qAo hbc
     clear hO hbc h0a
     go_wp2_with fail
     go_quiet (fail)
     go_wp2_with fail
     go_ret2
     exact⟨rfl,qAh HB.out⟩
    ·obtain⟨rfl,rfl⟩:=HP2.out none (by rw[hO,if_neg (fun h=>hbc h.2)])
     have e1:=qA9 hbc
     clear hO hbc h0a
     go_wp2_with fail
     go_quiet (fail)
     go_wp2_with fail
     go_ret2
     exact⟨rfl,qAh HB.out⟩
   ·obtain⟨rfl,rfl⟩:=HP2.out none (by rw[hO,if_neg (fun h=>h0a h.1)])
    have e0:=qA9 h0a
    clear hO h0a
    go_wp2_with fail
    go_quiet (fail)
    go_wp2_with fail
    go_ret2
    exact⟨rfl,qAh HB.out⟩
  ·have hlen:(l.length:Int)=2:=by rw[←HN.out];rfl
   cases hq:alikeB l 2 1 with
   | false =>
    obtain⟨rfl,rfl⟩:=HP2.out none (by show (if alikeB l 2 1=true then some (0:Int) else none)=_;rw[hq];rfl)
    have HC:=Lib.hid (HAl.out _ _ _ hq)
    clear hq
    go_wp2_with (go_at_call 46;refine HC.out.mono ?_;rintro e w5 ⟨rfl,rfl⟩)
    go_ret2
    exact⟨rfl,HB.out⟩
   | true =>
    obtain⟨rfl,rfl⟩:=HP2.out (some 0) (by show (if alikeB l 2 1=true then some (0:Int) else none)=_;rw[hq];rfl)
    have HC:=Lib.hid (HAl.out _ _ _ hq)
    clear hq
    go_wp2_with (go_at_call 46;refine HC.out.mono ?_;rintro e w5 ⟨rfl,rfl⟩)
    go_ret2
    exact⟨rfl,HB.out⟩
  ·have hlen:(l.length:Int)=2:=by rw[←HN.out];rfl
   cases hq:alikeB l 2 1 with
   | false =>
    obtain⟨rfl,rfl⟩:=HP2.out none (by show (if alikeB l 2 1=true then some (0:Int) else none)=_;rw[hq];rfl)
    have HC:=Lib.hid (HAl.out _ _ _ hq)
    clear hq
    go_wp2_with (go_at_call 46;refine HC.out.mono ?_;rintro e w5 ⟨rfl,rfl⟩)
    go_ret2
    exact⟨rfl,HB.out⟩
   | true =>
    obtain⟨rfl,rfl⟩:=HP2.out (some 0) (by show (if alikeB l 2 1=true then some (0:Int) else none)=_;rw[hq];rfl)
    have HC:=Lib.hid (HAl.out _ _ _ hq)
    clear hq
    go_wp2_with (go_at_call 46;refine HC.out.mono ?_;rintro e w5 ⟨rfl,rfl⟩)
    go_ret2
    exact⟨rfl,HB.out⟩
  ·obtain⟨rfl,rfl⟩:=HP2.out (some 1) rfl
   go_wp2
   go_ret2
   exact⟨rfl,HB.out⟩
  ·have hlen:(l.length:Int)=1:=by rw[←HN.out];rfl
   cases hq:alikeB l 1 1 with
   | false =>
    obtain⟨rfl,rfl⟩:=HP2.out none (by show (if alikeB l 1 1=true then some (1:Int) else none)=_;rw[hq];rfl)
    have HC:=Lib.hid (HAl.out _ _ _ hq)
    clear hq
    go_wp2_with (go_at_call 46;refine HC.out.mono ?_;rintro e w5 ⟨rfl,rfl⟩)
    go_ret2
    exact⟨rfl,HB.out⟩
   | true =>
    obtain⟨rfl,rfl⟩:=HP2.out (some 1) (by show (if alikeB l 1 1=true then some (1:Int) else none)=_;rw[hq];rfl)
    have HC:=Lib.hid (HAl.out _ _ _ hq)
    clear hq
    go_wp2_with (go_at_call 46;refine HC.out.mono ?_;rintro e w5 ⟨rfl,rfl⟩)
    go_ret2
    exact⟨rfl,HB.out⟩
  ·have hlen:(l.length:Int)=2:=by rw[←HN.out];rfl
   cases hq:alikeB l 2 1 with
   | false =>
    obtain⟨rfl,rfl⟩:=HP2.out none (by show (if alikeB l 2 1=true then some (0:Int) else none)=_;rw[hq];rfl)
    have HC:=Lib.hid (HAl.out _ _ _ hq)
    clear hq
    go_wp2_with (go_at_call 46;refine HC.out.mono ?_;rintro e w5 ⟨rfl,rfl⟩)
    go_ret2
    exact⟨rfl,HB.out⟩
   | true =>
    obtain⟨rfl,rfl⟩:=HP2.out (some 0) (by show (if alikeB l 2 1=true then some (0:Int) else none)=_;rw[hq];rfl)
    have HC:=Lib.hid (HAl.out _ _ _ hq)
    clear hq
    go_wp2_with (go_at_call 46;refine HC.out.mono ?_;rintro e w5 ⟨rfl,rfl⟩)
    go_ret2
    exact⟨rfl,HB.out⟩
def qK6 (f:FunA) (l:List Int):Bool:=(List.range l.length).all (fun j=>decide (l.getD j 0=qNg f j))
def qNl (x:SigV) (f:Int) (l:List Int):Int:=if qC1 x.a=true∧0≤f∧f<(x.funs.length:Int)∧(l.length:Int)=(fnA x f).len then (if qK6 (fnA x f) l=true then 0 else 33) else 2
def qS7 (x:SigV) (f:Int) (l:List Int):Int:=if qNl x f l=0 then (fnA x f).res else 0
theorem qK7 {x:SigV} {f:Int} {l:List Int} (h:¬(qC1 x.a=true∧0≤f∧f<(x.funs.length:Int)∧(l.length:Int)=(fnA x f).len)):qNl x f l=2∧qS7 x f l=0:=by
 have he:qNl x f l=2:=if_neg h
 refine⟨he,?_⟩
 unfold qS7;rw[he];rfl
theorem qTk {f:FunA} {l:List Int} {j:Nat} (hj:j<l.length) (h:¬l.getD j 0=qNg f j):qK6 f l=false:=by
 unfold qK6
 exact qJb (j:=j) (y:=j) (by rw[List.getElem?_range hj]) (decide_eq_false h)
theorem qQj {f:FunA} {l:List Int} (h:∀j,j<l.length→l.getD j 0=qNg f j):qK6 f l=true:=by
 unfold qK6
 rw[List.all_eq_true]
 intro j hj
 exact decide_eq_true (h j (List.mem_range.1 hj))
theorem qOg {x:SigV} (h:qC1 x.a=true) {k:Nat} {f:FunA} (hf:x.funs[k]? = some f):0≤f.len∧f.len≤3:=by
 have h2:=h
 unfold qC1 at h2
 simp only[Bool.and_eq_true] at h2
 have h3:=qMc h2.2.2.2.2.1 (k:=k) (p:=f) hf
 unfold qS6 qNh at h3
 simp only[Bool.and_eq_true,decide_eq_true_eq] at h3
 exact⟨h3.2.1,h3.2.2.1⟩
set_option maxHeartbeats 4000000 in
theorem qQk (x:SigV) (f:Int) (l:List Int) (la:Option Addr) (lc:Nat) (V E:Int) (w:World) (hX:SigR w x) (hf:I64 f) (hl:At w w.heap.size (l.flatMap qFb) la) (hln:l.length≤3) (hV:qS7 x f l=V) (hE:qNl x f l=E) :
  Calls Tryz.prog 83 #[.agg #[.slice x.sa x.sorts.length x.sc,.slice x.fa x.funs.length x.fc,.slice x.ma x.macs.length x.mc],.int .i64 f,.slice la l.length lc] w fun e w'=>e=.returned (.tuple #[.int .i64 V,.int .i64 E])∧Below w.heap.size w w':=by
 obtain⟨W0,hW0⟩:∃W0,W0=w.alloc (.cells #[.slice x.sa x.sorts.length x.sc,.slice x.fa x.funs.length x.fc,.slice x.ma x.macs.length x.mc] 26):=⟨_,rfl⟩
 have hB0:Below w.heap.size w W0:=by rw[hW0];exact(Below.refl _ _).alloc (Nat.le_refl _) _
 have HB0:=Lib.hid hB0
 have hX0:W0.heap[w.heap.size]? = some (.cells #[.slice x.sa x.sorts.length x.sc,.slice x.fa x.funs.length x.fc,.slice x.ma x.macs.length x.mc] 26 (0,0)):=by rw[hW0];exact heap_alloc_new w _
 have HK:Hid (∀V,Below W0.heap.size W0 V→V.cell? ⟨w.heap.size,0,none⟩=some (.slice x.sa x.sorts.length x.sc)∧V.cell? ⟨w.heap.size,1,none⟩=some (.slice x.fa x.funs.length x.fc)∧V.cell? ⟨w.heap.size,2,none⟩=some (.slice x.ma x.macs.length x.mc)∧w.heap.size<V.heap.size):=fun V hV=>qAx ((hV.block _ (Array.getElem?_eq_some_iff.1 hX0).1).trans hX0)
 have hC:∀q,qC1 x.a=q→Calls Tryz.prog 56 #[.agg #[.slice x.sa x.sorts.length x.sc,.slice x.fa x.funs.length x.fc,.slice x.ma x.macs.length x.mc]] W0 fun e w'=>e=.returned (.int .i64 (if q=true then 0 else 2))∧Below W0.heap.size W0 w':=fun q hq=>qDw x q W0 (hX.below hB0) hq
 have HX:=Lib.hid hX
 have HL:=Lib.hid hl
 obtain⟨f1,f2⟩:=hf
 obtain⟨c0,c1,c2,z0⟩:=HK.out _ (Below.refl _ _)
 clear hX0 hX hl hB0
 cases hq:qC1 x.a with
 | false =>
  obtain⟨h1,h2⟩:=qK7 (x:=x) (f:=f) (l:=l) (fun h=>by rw[hq] at h;cases h.1)
  obtain rfl:E=2:=hE.symm.trans h1
  obtain rfl:V=0:=hV.symm.trans h2
  have HC:=Lib.hid (hC _ hq)
  clear hC hq hE hV h1 h2
  go_enter Tryz.func83,Tryz.ntmps83
  go_wp2_with (go_at_call 56;rw[←hW0];clear hW0;refine HC.out.mono ?_;rintro e w3 ⟨rfl,hb1⟩;have HB1:=Lib.hid hb1;clear hb1 c0 c1 c2 z0;obtain⟨c0,c1,c2,z0⟩:=HK.out _ HB1.out;simp only[reduceIte,Bool.false_eq_true])
  go_ret2
  exact⟨rfl,HB0.out.trans (HB1.out.mono HB0.out.size)⟩
 | true =>
 have HC:=Lib.hid (hC _ hq)
 have HQ:=Lib.hid hq
 obtain⟨l4,l12⟩:=qEx hq
 clear hC hq
 by_cases h0:f<0
 ·obtain⟨h1,h2⟩:=qK7 (x:=x) (f:=f) (l:=l) (fun h=>by have:=h.2.1;omega)
  obtain rfl:E=2:=hE.symm.trans h1
  obtain rfl:V=0:=hV.symm.trans h2
  clear hE hV h1 h2
  go_enter Tryz.func83,Tryz.ntmps83
  go_wp2_with (go_at_call 56;rw[←hW0];clear hW0;refine HC.out.mono ?_;rintro e w3 ⟨rfl,hb1⟩;have HB1:=Lib.hid hb1;clear hb1 c0 c1 c2 z0;obtain⟨c0,c1,c2,z0⟩:=HK.out _ HB1.out;simp only[reduceIte])
  go_ret2
  exact⟨rfl,HB0.out.trans (HB1.out.mono HB0.out.size)⟩
 by_cases h1:(x.funs.length:Int)≤f
 ·obtain⟨h1,h2⟩:=qK7 (x:=x) (f:=f) (l:=l) (fun h=>by have:=h.2.2.1;omega)
  obtain rfl:E=2:=hE.symm.trans h1
  obtain rfl:V=0:=hV.symm.trans h2
  clear hE hV h1 h2
  go_enter Tryz.func83,Tryz.ntmps83
  go_wp2_with (go_at_call 56;rw[←hW0];clear hW0;refine HC.out.mono ?_;rintro e w3 ⟨rfl,hb1⟩;have HB1:=Lib.hid hb1;clear hb1 c0 c1 c2 z0;obtain⟨c0,c1,c2,z0⟩:=HK.out _ HB1.out;simp only[reduceIte])
  go_ret2
  exact⟨rfl,HB0.out.trans (HB1.out.mono HB0.out.size)⟩
 obtain⟨k,rfl⟩:∃k:Nat,f=(k:Int):=⟨f.toNat,by omega⟩
 have hk:k<x.funs.length:=by omega
 obtain⟨fn,hfn⟩:∃fn,x.funs[k]? = some fn:=⟨_,List.getElem?_eq_getElem hk⟩
 have hfA:fnA x (k:Int)=fn:=by unfold fnA;rw[Int.toNat_natCast,hfn];rfl
 obtain⟨m0,m3⟩:=qOg HQ.out hfn
 obtain⟨g,o,ha,hg,hcell⟩:=HX.out.fat (by rw[len_flat qAj];omega)
 have HFn:Hid (∀V,Below w.heap.size w V→V.cell? ⟨g,o+k*6+1,none⟩=some (.int .i64 fn.len)∧V.cell? ⟨g,o+k*6+2,none⟩=some (.int .i64 fn.a0)∧V.cell? ⟨g,o+k*6+3,none⟩=some (.int .i64 fn.a1)∧V.cell? ⟨g,o+k*6+4,none⟩=some (.int .i64 fn.a2)∧V.cell? ⟨g,o+k*6+5,none⟩=some (.int .i64 fn.res)∧g<V.heap.size):=fun V hV=>by
  have q1:=hcell _ _ ((get_flat qAj x.funs k 1 fn hfn (by omega)).trans rfl)
  have q2:=hcell _ _ ((get_flat qAj x.funs k 2 fn hfn (by omega)).trans rfl)
  have q3:=hcell _ _ ((get_flat qAj x.funs k 3 fn hfn (by omega)).trans rfl)
  have q4:=hcell _ _ ((get_flat qAj x.funs k 4 fn hfn (by omega)).trans rfl)
  have q5:=hcell _ _ ((get_flat qAj x.funs k 5 fn hfn (by omega)).trans rfl)
  simp only[←Nat.add_assoc] at q1 q2 q3 q4 q5
  exact⟨(hV.cell (p:=⟨g,o+k*6+1,none⟩) hg).trans q1,(hV.cell (p:=⟨g,o+k*6+2,none⟩) hg).trans q2,(hV.cell (p:=⟨g,o+k*6+3,none⟩) hg).trans q3,(hV.cell (p:=⟨g,o+k*6+4,none⟩) hg).trans q4,(hV.cell (p:=⟨g,o+k*6+5,none⟩) hg).trans q5,Nat.lt_of_lt_of_le hg hV.size⟩
 have HA1:=Lib.hid ha
 have hkx:(k:Int)<(x.funs.length:Int):=by omega
 have hk0:(0:Int)≤(k:Int):=by omega
 clear hcell hfn ha c0 c1 c2 z0
 by_cases h2:(l.length:Int)=fn.len
 rotate_left
 ·obtain⟨h3,h4⟩:=qK7 (x:=x) (f:=(k:Int)) (l:=l) (fun h=>by have:=h.2.2.2;rw[hfA] at this;exact h2 this)
  obtain rfl:E=2:=hE.symm.trans h3
  obtain rfl:V=0:=hV.symm.trans h4
  have e2:=qAr h2
  clear hE hV h3 h4 h2
  go_enter Tryz.func83,Tryz.ntmps83
  go_wp2_with (go_at_call 56;rw[←hW0];clear hW0;refine HC.out.mono ?_;rintro e w3 ⟨rfl,hb1⟩;have HB1:=Lib.hid hb1;clear hb1;obtain⟨c0,c1,c2,z0⟩:=HK.out _ HB1.out;rw[HA1.out] at c1;obtain⟨q1,q2,q3,q4,q5,z1⟩:=HFn.out _ (HB0.out.trans (HB1.out.mono HB0.out.size));simp only[reduceIte])
  go_ret2
  exact⟨rfl,HB0.out.trans (HB1.out.mono HB0.out.size)⟩
 have hEE:qNl x (k:Int) l=(if qK6 fn l=true then 0 else 33):=by
  unfold qNl
  rw[hfA,if_pos ⟨HQ.out,by omega,by omega,h2⟩]
 have HNo:Hid (∀j,j<l.length→¬l.getD j 0=qNg fn j→V=0∧E=33):=fun j hj h=>by
  have he:qNl x (k:Int) l=33:=by rw[hEE,qTk hj h];rfl
  refine⟨?_,by rw[←hE,he]⟩
  rw[←hV];unfold qS7;rw[he];rfl
 have HYes:Hid ((∀j,j<l.length→l.getD j 0=qNg fn j)→V=fn.res∧E=0):=fun h=>by
  have he:qNl x (k:Int) l=0:=by rw[hEE,qQj h];rfl
  refine⟨?_,by rw[←hE,he]⟩
  rw[←hV];unfold qS7;rw[he,if_pos rfl,hfA]
 have e2:((l.length:Int) != fn.len)=false:=qB3 h2
 clear hE hV hEE hfA h2
 go_enter Tryz.func83,Tryz.ntmps83
 go_wp2_with (go_at_call 56;rw[←hW0];clear hW0;refine HC.out.mono ?_;rintro e w3 ⟨rfl,hb1⟩;have HB1:=Lib.hid hb1;clear hb1;obtain⟨c0,c1,c2,z0⟩:=HK.out _ HB1.out;rw[HA1.out] at c1;obtain⟨q1,q2,q3,q4,q5,z1⟩:=HFn.out _ (HB0.out.trans (HB1.out.mono HB0.out.size));simp only[reduceIte])
 clear c0 c1 c2 z0 q1 q2 q3 q4 q5 z1
 go_loopw [8] (fun i wr=>∃j:Nat,j≤l.length∧i=.int .i64 j∧Hid (∀i,i<j→l.getD i 0=qNg fn i)∧Hid (Below W0.heap.size W0 wr)) (fun i _=>l.length-(intOf i).toNat)
 case atStart=>exact⟨0,Nat.zero_le _,rfl,fun j hj=>absurd hj (Nat.not_lt_zero _),HB1⟩
 case round =>
  obtain⟨j,hj,rfl,HN,HB⟩:=hrel
  obtain⟨c0,c1,c2,z0⟩:=HK.out _ HB.out
  rw[HA1.out] at c1
  have HBw:Hid (Below w.heap.size w wr):=HB0.out.trans (HB.out.mono HB0.out.size)
  obtain⟨q1,q2,q3,q4,q5,z1⟩:=HFn.out _ HBw.out
  by_cases hlt:j<l.length
  rotate_left
  ·obtain rfl:j=l.length:=by omega
   obtain⟨rfl,rfl⟩:=HYes.out HN.out
   go_wp2
   go_ret2
   exact⟨rfl,HBw.out⟩
  obtain⟨n,hn⟩:∃n,l[j]? = some n:=⟨_,List.getElem?_eq_getElem hlt⟩
  have hgd:l.getD j 0=n:=by rw[List.getD_eq_getElem?_getD,hn];rfl
  obtain⟨g4,o4,ha4,hg4,hcell4⟩:=HL.out.below HBw.out (by rw[len_flat qA2];omega)
  have n0:=hcell4 _ _ ((get_flat qA2 l j 0 n hn (by omega)).trans rfl)
  simp only[Nat.add_zero,Nat.mul_one] at n0
  subst ha4
  have hjj:(j:Int)<(l.length:Int):=by omega
  have hc:j=0∨j=1∨j=2:=by omega
  have hg4w:g4<wr.heap.size:=Nat.lt_of_lt_of_le hg4 HBw.out.size
  have hNo:=HNo.out j hlt
  have hY2:l.getD j 0=qNg fn j→∀i,i<j+1→l.getD i 0=qNg fn i:=fun h i hi=>by
   by_cases hij:i<j
   ·exact HN.out i hij
   ·obtain rfl:i=j:=by omega
    exact h
  rw[hgd] at hNo hY2
  have HNo2:=Lib.hid hNo
  have HY2:=Lib.hid hY2
  clear hcell4 hn hNo hY2 hgd
  rcases hc with rfl|rfl|rfl
  ·try simp only[Nat.add_zero] at n0
   by_cases hv:n=fn.a0
   ·have HN3:=Lib.hid (HY2.out hv)
    have e1:=qB3 hv
    clear hv
    go_wp2_with fail
    go_quiet (fail)
    go_wp2_with fail
    go_roundw
    case rel=>exact⟨0+1,by omega,by go_num,HN3,qAh HB.out⟩
    case measure=>first|(simp[intOf];done)|(simp[intOf];omega)
   ·obtain⟨rfl,rfl⟩:=HNo2.out hv
    have e1:=qAr hv
    clear hv
    go_wp2_with fail
    go_quiet (fail)
    go_wp2_with fail
    go_ret2
    exact⟨rfl,qAh HBw.out⟩
  ·try simp only[Nat.add_zero] at n0
   by_cases hv:n=fn.a1
   ·have HN3:=Lib.hid (HY2.out hv)
    have e1:=qB3 hv
    clear hv
    go_wp2_with fail
    go_quiet (fail)
    go_wp2_with fail
    go_roundw
    case rel=>exact⟨1+1,by omega,by go_num,HN3,qAh HB.out⟩
    case measure=>first|(simp[intOf];done)|(simp[intOf];omega)
   ·obtain⟨rfl,rfl⟩:=HNo2.out hv
    have e1:=qAr hv
    clear hv
    go_wp2_with fail
    go_quiet (fail)
    go_wp2_with fail
    go_ret2
    exact⟨rfl,qAh HBw.out⟩
  ·try simp only[Nat.add_zero] at n0
   by_cases hv:n=fn.a2
   ·have HN3:=Lib.hid (HY2.out hv)
    have e1:=qB3 hv
    clear hv
    go_wp2_with fail
    go_quiet (fail)
    go_wp2_with fail
    go_roundw
    case rel=>exact⟨2+1,by omega,by go_num,HN3,qAh HB.out⟩
    case measure=>first|(simp[intOf];done)|(simp[intOf];omega)
   ·obtain⟨rfl,rfl⟩:=HNo2.out hv
    have e1:=qAr hv
    clear hv
    go_wp2_with fail
    go_quiet (fail)
    go_wp2_with fail
    go_ret2
    exact⟨rfl,qAh HBw.out⟩
def atM (a b n:Int):Bool:=(qAn a&&(qAn b&&qAn n))&&decide (a-b≤n)

theorem qXi {x:Int} (h:qAn x=true):-4611686018427387904≤x∧x≤4611686018427387904:=qAc.1 h

theorem qK8 (n:Int):bits .and .i64 n 1=n % 2:=by
 have h1:(BitVec.ofInt 64 1).toNat=2 ^ 1-1:=by decide
 have key:(BitVec.ofInt 64 n &&& BitVec.ofInt 64 1).toNat=(n % ((2 ^ 64:Nat):Int)).toNat % 2 ^ 1:=by
  rw[BitVec.toNat_and,BitVec.toNat_ofInt,h1,Nat.and_two_pow_sub_one_eq_mod]
 show IntKind.i64.wrap ((BitVec.ofInt 64 n &&& BitVec.ofInt 64 1).toNat:Nat)=n % 2
 rw[key,IntKind.wrap_i64]
 omega
theorem qL3 (n:Int) (w:World) (hn:I64 n) :
  Calls Tryz.prog 62 #[.int .i64 n] w fun e w'=>e=.returned (.bool (qAn n))∧w=w':=by
 obtain⟨n1,n2⟩:=hn
 by_cases h:-4611686018427387904≤n∧n≤4611686018427387904
 ·have hm:qAn n=true:=qAc.2 h
  rw[hm]
  clear hm
  obtain⟨h1,h2⟩:=h
  go_enter Tryz.func62,Tryz.ntmps62
  go_wp2
  go_ret
  exact⟨rfl,rfl⟩
 ·have hm:qAn n=false:=by
   cases hq:qAn n with
   | true=>exact absurd (qAc.1 hq) h
   | false=>rfl
  rw[hm]
  clear hm
  by_cases h1:-4611686018427387904≤n
  ·have h2:¬n≤4611686018427387904:=fun h2=>h ⟨h1,h2⟩
   clear h
   have h3:decide (n≤4611686018427387904)=false:=decide_eq_false h2
   go_enter Tryz.func62,Tryz.ntmps62
   go_wp2
   go_ret
   exact⟨rfl,rfl⟩
  ·clear h
   go_enter Tryz.func62,Tryz.ntmps62
   go_wp2
   go_ret
   exact⟨rfl,rfl⟩
theorem zAq {p q:Prop} [Decidable p] [Decidable q] {r:Bool} (hr:r=decide q) (h:p↔q):Ending.returned (.bool (decide p))=.returned (.bool r):=by
 rw[hr,decide_eq_decide.2 h]
set_option maxHeartbeats 1000000 in
theorem qI6 (a b n:Int) (r:Bool) (w:World) (ha:I64 a) (hb:I64 b) (hn:I64 n) (hr:atM a b n=r) :
  Calls Tryz.prog 61 #[.int .i64 a,.int .i64 b,.int .i64 n] w fun e w'=>e=.returned (.bool r)∧w=w':=by
 have HM:Hid (∀x q V,I64 x→qAn x=q→Calls Tryz.prog 62 #[.int .i64 x] V fun e w'=>e=.returned (.bool q)∧V=w'):=fun x q V hx hq=>by
  refine(qL3 x V hx).mono ?_
  rintro e w' ⟨rfl,h⟩
  exact⟨by rw[hq],h⟩
 have HA:=Lib.hid ha
 have HB:=Lib.hid hb
 have HN:=Lib.hid hn
 clear ha hb hn
 cases h1:qAn a with
 | false =>
  have e:r=false:=by rw[←hr];unfold atM;rw[h1];rfl
  subst e
  have H1:=Lib.hid h1
  clear hr h1
  go_enter Tryz.func61,Tryz.ntmps61
  go_wp2_with (go_at_call 62;refine(HM.out a false _ HA.out H1.out).mono ?_;rintro e w1 ⟨rfl,rfl⟩)
  go_ret
  exact⟨rfl,rfl⟩
 | true =>
  cases h2:qAn b with
  | false =>
   have e:r=false:=by rw[←hr];unfold atM;rw[h1,h2];rfl
   subst e
   have H1:=Lib.hid h1
   have H2:=Lib.hid h2
   clear hr h1 h2
   go_enter Tryz.func61,Tryz.ntmps61
   go_wp2_with fail
   refine(HM.out a true _ HA.out H1.out).mono ?_
   rintro e w1 ⟨rfl,rfl⟩
   go_wp2_with fail
   refine(HM.out b false _ HB.out H2.out).mono ?_
   rintro e w2 ⟨rfl,rfl⟩
   go_wp2
   go_ret
   exact⟨rfl,rfl⟩
  | true =>
   cases h3:qAn n with
   | false =>
    have e:r=false:=by rw[←hr];unfold atM;rw[h1,h2,h3];rfl
    subst e
    have H1:=Lib.hid h1
    have H2:=Lib.hid h2
    have H3:=Lib.hid h3
    clear hr h1 h2 h3
    go_enter Tryz.func61,Tryz.ntmps61
    go_wp2_with fail
    refine(HM.out a true _ HA.out H1.out).mono ?_
    rintro e w1 ⟨rfl,rfl⟩
    go_wp2_with fail
    refine(HM.out b true _ HB.out H2.out).mono ?_
    rintro e w2 ⟨rfl,rfl⟩
    go_wp2_with fail
    refine(HM.out n false _ HN.out H3.out).mono ?_
    rintro e w3 ⟨rfl,rfl⟩
    go_wp2
    go_ret
    exact⟨rfl,rfl⟩
   | true =>
    have e:r=decide (a-b≤n):=by rw[←hr];unfold atM;rw[h1,h2,h3];rfl
    have HR:=Lib.hid e
    have H1:=Lib.hid h1
    have H2:=Lib.hid h2
    have H3:=Lib.hid h3
    obtain⟨a1,a2⟩:=qXi h1
    obtain⟨b1,b2⟩:=qXi h2
    obtain⟨n1,n2⟩:=qXi h3
    have ea:=qK8 a
    have eb:=qK8 b
    have en:=qK8 n
    clear hr h1 h2 h3 e
    go_enter Tryz.func61,Tryz.ntmps61
    go_wp2_with fail
    refine(HM.out a true _ HA.out H1.out).mono ?_
    rintro e w1 ⟨rfl,rfl⟩
    go_wp2_with fail
    refine(HM.out b true _ HB.out H2.out).mono ?_
    rintro e w2 ⟨rfl,rfl⟩
    go_wp2_with fail
    refine(HM.out n true _ HN.out H3.out).mono ?_
    rintro e w3 ⟨rfl,rfl⟩
    go_wp2
    all_goals (go_ret;exact⟨zAq HR.out (by omega),rfl⟩)
theorem qCj (q:Bool) (w:World):Calls Tryz.prog 60 #[.bool q] w fun e w'=>e=.returned (.int .i64 (if q=true then 1 else 0))∧w=w':=by
 cases q with
 | true =>
  go_enter Tryz.func60,Tryz.ntmps60
  go_wp2
  go_ret
  exact⟨rfl,rfl⟩
 | false =>
  go_enter Tryz.func60,Tryz.ntmps60
  go_wp2
  go_ret
  exact⟨rfl,rfl⟩
end Go.Proofs.YtfgpimhdjlmapaaGreatDoor
