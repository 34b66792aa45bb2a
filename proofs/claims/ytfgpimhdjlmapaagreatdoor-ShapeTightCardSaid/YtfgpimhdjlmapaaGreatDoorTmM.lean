/- The document's Great and Check. -/
import Derived.Maps.Ext
import Derived.Carry
import Derived.Test.YtfgpimhdjlmapaaGreatDoorTmF
import Derived.Test.YtfgpimhdjlmapaaGreatDoorTmJ
import Derived.BigQuiet
import Derived.Test.YtfgpimhdjlmapaaGreatDoorTmC
namespace Go.Proofs.YtfgpimhdjlmapaaGreatDoor.Tm
open Go.RowKit
set_option linter.unusedVariables false
set_option maxRecDepth 100000
theorem qZb (w:World):(zeroValue 3).run Tryz.prog w=.ok (.int .i64 0) w:=by kernel_rfl
theorem qIq:Tryz.prog.underlying 102=some (.map 54 3):=by rw[Tryz.underlying102]
theorem qZc (n:Int) (w:World):(Instr.makeMap 102 (some (.int .i64 n))).run Tryz.prog w=.ok (.map (some w.heap.size)) (w.alloc (.map #[] 0)):=by
 simp[Instr.makeMap,run_underlying qIq]
 rfl
def qMy (w:World) (b:Nat) (l:List NodeA):Prop :=
 ∃D:DataW Unit,w.ownsMap (H:=Unit) Tryz.prog 54 (plainElem Tryz.prog 3) b l.length D∧(∀y,NodeOk y→Maps.has D (kn y)=decide (y∈l))∧∀(k:Nat) y,l[k]? = some y→∀z:DataW Unit,D.atKey (kn y) z=.lit (.int .i64 k)
theorem qMy.below {w w':World} {b:Nat} {l:List NodeA} (h:qMy w b l) (hb:Below w.heap.size w w'):qMy w' b l:=by
 obtain⟨D,h1,h2,h3⟩:=h
 exact⟨D,h1.kept (⟨hb.os,hb.tape,hb.output,hb.size,fun i hi _=>hb.block i hi⟩:w.grownBy w' none) (by simp),h2,h3⟩
theorem qVz (y:NodeA):WideAt.IsKeyLit (kn y):=trivial
theorem qMy.put {w:World} {b:Nat} {l:List NodeA} {y:NodeA} {D:DataW Unit} (hl:∀n∈l,NodeOk n) (hy:NodeOk y) (hno:y ∉ l)
  (h2:∀y,NodeOk y→Maps.has D (kn y)=decide (y∈l)) (h3:∀(k:Nat) y,l[k]? = some y→∀z:DataW Unit,D.atKey (kn y) z=.lit (.int .i64 k)) (hm:Maps.IsMap D)
  (h:w.ownsMap (H:=Unit) Tryz.prog 54 (plainElem Tryz.prog 3) b (l.length+1) (D.put (kn y) (.lit (.int .i64 l.length)))):qMy w b (l++[y]):=by
 refine⟨_,by rw[List.length_append];exact h,fun z hz=>?_,fun k z hk zz=>?_⟩
 ·by_cases hzy:z=y
  ·subst hzy
   rw[Maps.has_put_same hm (qVz _)];simp
  ·rw[Maps.has_put_other (fun e=>hzy (qRw hz hy e)),h2 z hz]
   simp[hzy]
 ·by_cases hkl:k<l.length
  ·rw[List.getElem?_append_left hkl] at hk
   have hzm:z∈l:=List.mem_of_getElem? hk
   rw[Maps.atKey_put_other (fun e=>hno ((qRw (hl z hzm) hy e) ▸ hzm)),h3 k z hk]
  ·have hlt:=(List.getElem?_eq_some_iff.1 hk).1
   simp at hlt
   obtain rfl:k=l.length:=by omega
   rw[List.getElem?_append_right (Nat.le_refl _)] at hk
   simp at hk
   subst hk
   rw[Maps.atKey_put_same hm (qVz _)]
def qZd (w:World) (l:List NodeA) (e:Ending) (w':World):Prop :=
 Below w.heap.size w w'∧((qBu l=true∧∃b,e=.returned (.tuple #[.map (some b),.bool true])∧qMy w' b l)∨(qBu l=false∧e=.returned (.tuple #[.map none,.bool false])))
set_option maxHeartbeats 4000000 in
theorem qS0 (l:List NodeA) (a:Option Addr) (c:Nat) (w:World) (hG:GT w) (hA:TabR w l a c) (hl:l.length≤3000) :
  Calls Tryz.prog 37 #[.agg #[.slice a l.length c]] w (qZd w l):=by
 have hmm:=qZc
 obtain⟨W0,hW0⟩:∃W0,W0=w.alloc (.cells #[.slice a l.length c] 33):=⟨_,rfl⟩
 have hB0:Below w.heap.size w W0:=by rw[hW0];exact(Below.refl _ w).alloc (Nat.le_refl _) _
 have hsz:W0.heap.size=w.heap.size+1:=by rw[hW0];simp
 have hX0:W0.heap[w.heap.size]? = some (.cells #[.slice a l.length c] 33 (0,0)):=by rw[hW0];exact heap_alloc_new w _
 obtain⟨q,hq⟩:∃q,decide (l.take 2=qE9)=q:=⟨_,rfl⟩
 have HC:Hid (Calls Tryz.prog 64 #[.slice a l.length c] W0 fun e w'=>e=.returned (.bool q)∧Below W0.heap.size W0 w'):=by rw[←hq];exact qP0 l a c W0 (hA.below hB0)
 have HS:Hid (∀(n:NodeA) (k:Nat) (V:World),NodeOk n→(k:Int)≤1000000→Below w.heap.size w V→Calls Tryz.prog 65 #[.agg #[.int .i8 n.op,.int .i8 n.len,.int .i64 n.a0,.int .i64 n.a1,.int .i64 n.a2,.int .i64 n.sort,.int .i64 n.fn,.int .i64 n.num],.int .i64 k] V fun e w'=>e=.returned (.bool (standsB n k))∧Below V.heap.size V w'):=fun n k V ho hk hV=>qOy n k V (hG.below hV) ho hk
 have HA:=Lib.hid hA
 have HB0:=Lib.hid hB0
 have HX0:=Lib.hid hX0
 have hcap:=hA.le
 have HM:Hid (qBu l=(q&&qB1 [] l)):=by show _=_;unfold qBu;rw[hq]
 clear hG hA hB0 hX0 hq
 cases q with
 | false =>
  have hmf:qBu l=false:=by rw[HM.out];rfl
  go_enter Tryz.func37,Tryz.ntmps37
  go_wp2_with (go_at_call 64;rw[←hW0];clear hW0;refine HC.out.mono ?_;rintro e w1 ⟨rfl,hb1⟩)
  go_ret2
  exact⟨HB0.out.trans (hb1.mono HB0.out.size),.inr ⟨hmf,rfl⟩⟩
 | true =>
  go_enter Tryz.func37,Tryz.ntmps37
  go_wp2_with (go_at_call 64;rw[←hW0];clear hW0;refine HC.out.mono ?_;rintro e w1 ⟨rfl,hb1⟩;have hx:=(hb1.block _ (by omega)).trans HX0.out;have d0:=cell_of_row _ _ 0 _ _ _ hx;simp only[List.getElem?_toArray,List.getElem?_cons_zero] at d0;have hz1:=(Array.getElem?_eq_some_iff.1 hx).1;clear hx)
  obtain⟨b,hb⟩:∃b,b=w1.heap.size:=⟨_,rfl⟩
  rw[←hb]
  have HMp:Hid (qMy (w1.alloc (.map #[] 0)) b []):=⟨.map [],by rw[hb];exact World.ownsMap_made (H:=Unit) w1 Tryz.prog 54 (plainElem Tryz.prog 3),fun y _=>rfl,fun k y hk=>by simp at hk⟩
  have HB1:Hid (Below w.heap.size w w1):=HB0.out.trans (hb1.mono HB0.out.size)
  have HQ:=Lib.hid hb
  clear HC HX0 hb1 d0 hb
  go_loopw [20] (fun i wr=>∃k:Nat,k≤l.length∧i=.int .i64 k∧Hid (Below b w1 wr)∧Hid (qMy wr b (l.take k))∧Hid (qB1 [] (l.take k)=true)) (fun i _=>l.length-(intOf i).toNat)
  case atStart=>exact⟨0,Nat.zero_le _,rfl,by rw[HQ.out];exact(Below.refl _ _).alloc (Nat.le_refl _) _,HMp,rfl⟩
  case round =>
   obtain⟨k,hkl,rfl,HW,HMI,HOK⟩:=hrel
   have HBw:Hid (Below w.heap.size w wr):=HB1.out.trans (HW.out.mono (by rw[HQ.out];exact HB1.out.size))
   by_cases hlt:k<l.length
   ·obtain⟨y,hy⟩:∃y,l[k]? = some y:=⟨_,List.getElem?_eq_getElem hlt⟩
    obtain⟨g,o,rfl,hg,q0,q1,q2,q3,q4,q5,q6,q7⟩:=(HA.out.below HBw.out).node hy
    have hyo:NodeOk y:=HA.out.ok y (List.mem_of_getElem? hy)
    obtain⟨D,hown,hhas,hat⟩:=HMI.out
    have hbw:b<wr.heap.size:=hown.lt
    have HOw:=Lib.hid hown
    have HO:Hid ((wr.alloc (.cells #[.int .i8 y.op,.int .i8 y.len,.int .i64 y.a0,.int .i64 y.a1,.int .i64 y.a2,.int .i64 y.sort,.int .i64 y.fn,.int .i64 y.num] 54)).ownsMap (H:=Unit) Tryz.prog 54 (plainElem Tryz.prog 3) b (l.take k).length D):=hown.alloc _
    have HK:=Lib.hid (qLq y hyo)
    have HY:=Lib.hid (And.intro hy hyo)
    have HAt:=Lib.hid (And.intro hhas hat)
    have hnx:=qMw hy HOK.out
    have HSt0:Hid (Calls Tryz.prog 65 #[.agg #[.int .i8 y.op,.int .i8 y.len,.int .i64 y.a0,.int .i64 y.a1,.int .i64 y.a2,.int .i64 y.sort,.int .i64 y.fn,.int .i64 y.num],.int .i64 k] (wr.alloc (.cells #[.int .i8 y.op,.int .i8 y.len,.int .i64 y.a0,.int .i64 y.a1,.int .i64 y.a2,.int .i64 y.sort,.int .i64 y.fn,.int .i64 y.num] 54)) fun e w'=>e=.returned (.bool (standsB y k))∧Below (wr.alloc (.cells #[.int .i8 y.op,.int .i8 y.len,.int .i64 y.a0,.int .i64 y.a1,.int .i64 y.a2,.int .i64 y.sort,.int .i64 y.fn,.int .i64 y.num] 54)).heap.size (wr.alloc (.cells #[.int .i8 y.op,.int .i8 y.len,.int .i64 y.a0,.int .i64 y.a1,.int .i64 y.a2,.int .i64 y.sort,.int .i64 y.fn,.int .i64 y.num] 54)) w'):=HS.out y k _ hyo (by omega) (HBw.out.alloc HBw.out.size _)
    have hlen:(l.take k).length=k:=by rw[List.length_take];omega
    have HW64:Hid ((Lit.int .i64 k).wf=true):=zDh ⟨by omega,by omega⟩
    have hx0:=hhas y hyo
    clear hown hhas hat hy hyo
    by_cases hin:y∈l.take k
    ·rw[decide_eq_true hin] at hx0
     have HH:=Lib.hid hx0
     have hmf:qBu l=false:=by rw[HM.out,qYz (k:=k+1) (by rw[hnx];simp[hin])];rfl
     clear hx0 hnx hin
     go_wp2_with (first|(at_lookup;refine wpList_lookup_own_ok_int _ rfl _ _ 102 rfl 54 3 .i64 qUz qIq Tryz.underlying3 (qZb _) b (l.take k).length D rfl HO.out _ _ rfl HK.out ?_;intro c0 hat hwc;clear hat hwc;rw[HH.out]))
     go_ret2
     exact⟨HBw.out.alloc HBw.out.size _,.inr ⟨hmf,rfl⟩⟩
    ·rw[decide_eq_false hin] at hx0
     have HH:=Lib.hid hx0
     rw[decide_eq_false hin,Bool.not_false,Bool.and_true] at hnx
     cases hst:standsB y k with
     | false =>
      rw[hst] at HSt0
      have hmf:qBu l=false:=by rw[HM.out,qYz (k:=k+1) (by rw[hnx,hst])];rfl
      have HSt:=HSt0
      clear hx0 hnx hin hst
      go_wp2_with (first|(at_lookup;refine wpList_lookup_own_ok_int _ rfl _ _ 102 rfl 54 3 .i64 qUz qIq Tryz.underlying3 (qZb _) b (l.take k).length D rfl HO.out _ _ rfl HK.out ?_;intro c0 hat hwc;clear hat hwc;rw[HH.out])|(go_at_call 65;refine HSt.out.mono ?_;rintro e w3 ⟨rfl,hb3⟩;obtain⟨hc3,hf3⟩:=qMf hb3))
      go_ret2
      exact⟨(HBw.out.alloc HBw.out.size _).trans (hb3.mono (by have:=HBw.out.size;simp;omega)),.inr ⟨hmf,rfl⟩⟩
     | true =>
      rw[hst] at HSt0 hnx
      have HN:=Lib.hid (And.intro hnx hin)
      have HSt:=HSt0
      have HOb:Hid (∀V,Below (wr.alloc (.cells #[.int .i8 y.op,.int .i8 y.len,.int .i64 y.a0,.int .i64 y.a1,.int .i64 y.a2,.int .i64 y.sort,.int .i64 y.fn,.int .i64 y.num] 54)).heap.size (wr.alloc (.cells #[.int .i8 y.op,.int .i8 y.len,.int .i64 y.a0,.int .i64 y.a1,.int .i64 y.a2,.int .i64 y.sort,.int .i64 y.fn,.int .i64 y.num] 54)) V→V.ownsMap (H:=Unit) Tryz.prog 54 (plainElem Tryz.prog 3) b (l.take k).length D):=fun V hV=>HO.out.kept (⟨hV.os,hV.tape,hV.output,hV.size,fun i hi _=>hV.block i hi⟩:World.grownBy _ V none) (by simp)
      clear hx0 hnx hin hst
      go_wp2_with (first|(at_lookup;refine wpList_lookup_own_ok_int _ rfl _ _ 102 rfl 54 3 .i64 qUz qIq Tryz.underlying3 (qZb _) b (l.take k).length D rfl HO.out _ _ rfl HK.out ?_;intro c0 hat hwc;clear hat hwc;rw[HH.out])|(go_at_call 65;refine HSt.out.mono ?_;rintro e w3 ⟨rfl,hb3⟩;obtain⟨hc3,hf3⟩:=qMf hb3)|(at_mapUpdate;refine wpList_mapUpdate_own _ rfl _ _ _ 102 rfl 54 3 qUz qIq _ b (l.take k).length D rfl (HOb.out _ hb3) (by simp only[maxLen];omega) _ _ _ rfl rfl HK.out _ [] (plainElem_int Tryz.underlying3 HW64.out) ?_;intro w4 hown4 hgrow4))
      go_roundw
      case rel =>
       refine⟨k+1,by omega,by go_num,?_,?_,HN.out.1⟩
       ·exact((HW.out.alloc (by omega) _).trans (hb3.mono (by simp;omega))).grown hgrow4 (by have:=hb3.size;simp at this;omega) (fun j e=>by cases e;exact Nat.le_refl _)
       ·rw[qGj HY.out.1]
        refine qMy.put (fun n hn=>HA.out.ok n (List.mem_of_mem_take hn)) HY.out.2 HN.out.2 HAt.out.1 HAt.out.2 (HOw.out.isMap) ?_
        rw[hlen]
        rw[hlen] at hown4
        exact hown4
      case measure=>simp[intOf];omega
   ·obtain rfl:k=l.length:=by omega
    have hmt:qBu l=true:=by rw[HM.out];have:=HOK.out;rw[List.take_length] at this;rw[this];rfl
    have HMl:Hid (qMy wr b l):=by have:=HMI.out;rw[List.take_length] at this;exact this
    go_wp2
    go_ret2
    exact⟨HBw.out,.inl ⟨hmt,b,rfl,HMl.out⟩⟩
theorem Great_any (l:List NodeA) (a:Option Addr) (c:Nat) (r:Bool) (w:World) (hl:l.length≤9223372036854775807) (hr:decide (300<l.length)=r) :
  Calls Tryz.prog 7 #[.agg #[.slice a l.length c]] w fun e w'=>e=.returned (.bool r)∧Below w.heap.size w w':=by
 have HB0:Hid (Below w.heap.size w (w.alloc (.cells #[.slice a l.length c] 33))):=(Below.refl _ w).alloc (Nat.le_refl _) _
 have HR:Hid (decide (300<(l.length:Int))=r):=by
  show _=_
  rw[←hr]
  by_cases h:300<l.length
  ·rw[decide_eq_true h,decide_eq_true (by omega)]
  ·rw[decide_eq_false h,decide_eq_false (by omega)]
 clear hr
 go_enter Tryz.func7,Tryz.ntmps7
 go_wp2
 go_ret
 exact⟨qAa HR.out,HB0.out⟩
def errB2 (b:Bool):Int:=if b=true then 0 else 2
theorem zD5 {l:List NodeA} {x y:NodeA} (h0:l[0]? = some x) (h1:l[1]? = some y):l.take 2=[x,y]:=by
 match l,h0,h1 with
 | a :: b :: r,h0,h1=>simp at h0 h1;subst h0 h1;simp
theorem qZe {l:List NodeA} {x:NodeA} (h0:l[0]? = some x) (h:¬x=trueN):qBu l=false:=by
 cases hm:qBu l with
 | false=>rfl
 | true =>
  have:=congrArg (fun z:List NodeA=>z[0]?) (mayT_ok hm).1
  simp only[List.getElem?_take] at this
  rw[if_pos (by omega),h0] at this
  simp[qE9] at this
  exact absurd this h
theorem qZf {l:List NodeA} {x:NodeA} (h0:l[1]? = some x) (h:¬x=qD5):qBu l=false:=by
 cases hm:qBu l with
 | false=>rfl
 | true =>
  have:=congrArg (fun z:List NodeA=>z[1]?) (mayT_ok hm).1
  simp only[List.getElem?_take] at this
  rw[if_pos (by omega),h0] at this
  simp[qE9] at this
  exact absurd this h
theorem qS1 {l:List NodeA} {k:Nat} (h:qB1 [] (l.take k)=false):qBu l=false:=by
 unfold qBu
 rw[qYz h,Bool.and_false]
set_option maxHeartbeats 4000000 in
theorem RCheck_any (l:List NodeA) (a:Option Addr) (c:Nat) (r:Int) (w:World) (hA:TabR w l a c) (hl:l.length≤3000) (hr:errB2 (qBu l)=r) :
  Calls Tryz.prog 19 #[.agg #[.slice a l.length c]] w fun e w'=>e=.returned (.int .i64 r)∧Below w.heap.size w w':=by
 have HYes:Hid (qBu l=true→r=0):=fun h=>by rw[←hr,h];rfl
 have HNo:Hid (qBu l=false→r=2):=fun h=>by rw[←hr,h];rfl
 obtain⟨W0,hW0⟩:∃W0,W0=w.alloc (.cells #[.slice a l.length c] 33):=⟨_,rfl⟩
 have hB0:Below w.heap.size w W0:=by rw[hW0];exact(Below.refl _ w).alloc (Nat.le_refl _) _
 have hsz:W0.heap.size=w.heap.size+1:=by rw[hW0];simp
 have hX0:W0.heap[w.heap.size]? = some (.cells #[.slice a l.length c] 33 (0,0)):=by rw[hW0];exact heap_alloc_new w _
 have HN:Hid (Calls Tryz.prog 16 #[] W0 fun e w'=>e=.returned (.agg #[.slice (some ⟨W0.heap.size+1,0,none⟩) 2 2])∧TabR w' qE9 (some ⟨W0.heap.size+1,0,none⟩) 2∧Below W0.heap.size W0 w'):=qO2 W0
 have HS:Hid (∀(n:NodeA) (k:Nat) (V:World),NodeOk n→(k:Int)≤1000000→Calls Tryz.prog 31 #[.agg #[.int .i8 n.op,.int .i8 n.len,.int .i64 n.a0,.int .i64 n.a1,.int .i64 n.a2,.int .i64 n.sort,.int .i64 n.fn,.int .i64 n.num],.int .i64 k] V fun e w'=>e=.returned (.bool (standsB n k))∧Below V.heap.size V w'):=fun n k V ho hk=>qIp n k V ho hk
 have HA:=Lib.hid hA
 have HB0:=Lib.hid hB0
 have hcap:=hA.le
 have HX:Hid (∀V,Below W0.heap.size W0 V→V.cell? ⟨w.heap.size,0,none⟩=some (.slice a l.length c)∧w.heap.size<V.heap.size):=fun V hV=>by
  have e0:=(hV.block _ (by omega)).trans hX0
  exact⟨(cell_of_row _ _ 0 _ _ _ e0).trans rfl,(Array.getElem?_eq_some_iff.1 e0).1⟩
 have hlm:l.length≤9223372036854775807:=by omega
 clear hr hA hB0 hX0 hsz
 go_enter Tryz.func19,Tryz.ntmps19
 go_wp2_with (go_at_call 16;rw[←hW0];clear hW0;refine HN.out.mono ?_;rintro e w1 ⟨rfl,ht1,hb1⟩;have HT:=Lib.hid ht1;clear ht1)
 obtain⟨W2,hW2⟩:∃W2,W2=w1.alloc (.cells #[.slice (some ⟨W0.heap.size+1,0,none⟩) 2 2] 33):=⟨_,rfl⟩
 rw[←hW2]
 have hb2:Below W0.heap.size W0 W2:=by rw[hW2];exact hb1.alloc hb1.size _
 have hs12:w1.heap.size<W2.heap.size:=by rw[hW2];simp
 have hb12:Below w1.heap.size w1 W2:=by rw[hW2];exact(Below.refl _ _).alloc (Nat.le_refl _) _
 have hT2:TabR W2 qE9 (some ⟨W0.heap.size+1,0,none⟩) 2:=HT.out.below hb12
 have hy2:W2.heap[w1.heap.size]? = some (.cells #[.slice (some ⟨W0.heap.size+1,0,none⟩) 2 2] 33 (0,0)):=by rw[hW2];exact heap_alloc_new w1 _
 have y0:W2.cell? ⟨w1.heap.size,0,none⟩=some (.slice (some ⟨W0.heap.size+1,0,none⟩) 2 2):=(cell_of_row _ _ 0 _ _ _ hy2).trans rfl
 have HBx:Hid (Below w.heap.size w W2):=HB0.out.trans (hb2.mono HB0.out.size)
 obtain⟨x0,xz⟩:=HX.out _ hb2
 have HB2:=Lib.hid hb2
 obtain⟨g1,o1,he,hg1,n0,n1,n2,n3,n4,n5,n6,n7⟩:=hT2.node (k:=0) (n:=trueN) rfl
 cases he
 obtain⟨g1,o1,he,hg2,m0,m1,m2,m3,m4,m5,m6,m7⟩:=hT2.node (k:=1) (n:=qD5) rfl
 cases he
 simp only[trueN,Nat.zero_mul,Nat.zero_add,Nat.add_zero] at n0 n1 n2 n3 n4 n5 n6 n7
 simp only[qD5,Nat.one_mul,Nat.zero_add,Nat.reduceAdd] at m0 m1 m2 m3 m4 m5 m6 m7
 clear hW2 hb1 hb12 hT2 hy2 hb2 HN
 by_cases hl2:(l.length:Int)<2
 ·obtain rfl:r=2:=HNo.out (by
   cases hm:qBu l with
   | false=>rfl
   | true=>have:=qE3 hm;omega)
  have d1:decide ((l.length:Int)<2)=true:=decide_eq_true hl2
  have d2:decide (l.length<2)=true:=decide_eq_true (by omega)
  go_quiet (fail)
  go_wp2
  go_ret
  exact⟨rfl,qA1 HBx.out⟩
 have d1:decide ((l.length:Int)<2)=false:=decide_eq_false hl2
 have d2:decide (l.length<2)=false:=decide_eq_false (by omega)
 obtain⟨x,hx⟩:∃x,l[0]? = some x:=⟨_,List.getElem?_eq_getElem (by omega)⟩
 obtain⟨y,hy⟩:∃y,l[1]? = some y:=⟨_,List.getElem?_eq_getElem (by omega)⟩
 have hTA:TabR W2 l a c:=HA.out.below HBx.out
 obtain⟨g,o,he,hg,q0,q1,q2,q3,q4,q5,q6,q7⟩:=hTA.node hx
 cases he
 obtain⟨g,o,he,hg',r0,r1,r2,r3,r4,r5,r6,r7⟩:=hTA.node hy
 cases he
 simp only[Nat.zero_mul,Nat.add_zero] at q0 q1 q2 q3 q4 q5 q6 q7
 simp only[Nat.one_mul] at r0 r1 r2 r3 r4 r5 r6 r7
 have hxo:=HA.out.ok x (List.mem_of_getElem? hx)
 have hyo:=HA.out.ok y (List.mem_of_getElem? hy)
 have hto:NodeOk trueN:=⟨⟨by decide,by decide⟩,⟨by decide,by decide⟩,⟨by decide,by decide⟩,⟨by decide,by decide⟩,⟨by decide,by decide⟩,⟨by decide,by decide⟩,⟨by decide,by decide⟩,⟨by decide,by decide⟩⟩
 have hzo:NodeOk qD5:=⟨⟨by decide,by decide⟩,⟨by decide,by decide⟩,⟨by decide,by decide⟩,⟨by decide,by decide⟩,⟨by decide,by decide⟩,⟨by decide,by decide⟩,⟨by decide,by decide⟩,⟨by decide,by decide⟩⟩
 have e0:=qFr x trueN hxo hto
 have f0:=qFa x trueN hxo hto
 have e1:=qFr y qD5 hyo hzo
 have f1:=qFa y qD5 hyo hzo
 have HXY:=Lib.hid (And.intro hx hy)
 clear hx hy hTA hxo hyo hto hzo
 by_cases hxt:x=trueN
 rotate_left
 ·obtain rfl:r=2:=HNo.out (qZe HXY.out.1 hxt)
  rw[decide_eq_false hxt] at e0 f0
  simp only[trueN] at e0 f0
  clear hxt e1 f1
  go_quiet (fail)
  go_wp2
  go_ret
  exact⟨rfl,qA1 HBx.out⟩
 rw[decide_eq_true hxt] at e0 f0
 simp only[trueN] at e0 f0
 by_cases hyz:y=qD5
 rotate_left
 ·obtain rfl:r=2:=HNo.out (qZf HXY.out.2 hyz)
  rw[decide_eq_false hyz] at e1 f1
  simp only[qD5] at e1 f1
  clear hxt hyz
  go_quiet (fail)
  go_wp2
  go_ret
  exact⟨rfl,qA1 HBx.out⟩
 rw[decide_eq_true hyz] at e1 f1
 simp only[qD5] at e1 f1
 have HMT:Hid (qBu l=qB1 [] l):=by
  show _=_
  unfold qBu
  rw[zD5 HXY.out.1 HXY.out.2,hxt,hyz]
  rfl
 clear hxt hyz HXY
 go_quiet (fail)
 clear q0 q1 q2 q3 q4 q5 q6 q7 r0 r1 r2 r3 r4 r5 r6 r7 n0 n1 n2 n3 n4 n5 n6 n7 m0 m1 m2 m3 m4 m5 m6 m7 e0 f0 e1 f1 y0
 go_wp2
 have HBq:Hid (Below W2.heap.size W2 (W2.drewN nq)):=qA1 (Below.refl _ _)
 generalize W2.drewN nq=W3 at HBq ⊢
 go_loopw [4] (fun i wr=>∃k:Nat,k≤l.length∧i=.int .i64 k∧Hid (Below W2.heap.size W2 wr)∧Hid (qB1 [] (l.take k)=true)) (fun i _=>l.length-(intOf i).toNat)
 case atStart=>exact⟨0,Nat.zero_le _,rfl,HBq,rfl⟩
 case round =>
  obtain⟨k,hkl,rfl,HW,HOK⟩:=hrel
  have HWw:Hid (Below w.heap.size w wr):=HBx.out.trans (HW.out.mono HBx.out.size)
  have HW0:Hid (Below W0.heap.size W0 wr):=HB2.out.trans (HW.out.mono HB2.out.size)
  clear x0 xz
  obtain⟨x0,xz⟩:=HX.out _ HW0.out
  by_cases hlt:k<l.length
  ·obtain⟨y,hy⟩:∃y,l[k]? = some y:=⟨_,List.getElem?_eq_getElem hlt⟩
   obtain⟨g2,o2,he,hg2,q0,q1,q2,q3,q4,q5,q6,q7⟩:=(HA.out.below HWw.out).node hy
   cases he
   have hyo:=HA.out.ok y (List.mem_of_getElem? hy)
   have hnx:=qMw hy HOK.out
   have HY:=Lib.hid (And.intro hy hyo)
   obtain⟨s,hs⟩:∃s,standsB y k=s:=⟨_,rfl⟩
   have HSt:Hid (∀V,Calls Tryz.prog 31 #[.agg #[.int .i8 y.op,.int .i8 y.len,.int .i64 y.a0,.int .i64 y.a1,.int .i64 y.a2,.int .i64 y.sort,.int .i64 y.fn,.int .i64 y.num],.int .i64 k] V fun e w'=>e=.returned (.bool s)∧Below V.heap.size V w'):=fun V=>by rw[←hs];exact HS.out y k V hyo (by omega)
   rw[hs] at hnx
   clear hy hyo hs
   cases s with
   | false =>
    obtain rfl:r=2:=HNo.out (qS1 (k:=k+1) (by rw[hnx];rfl))
    clear hnx
    go_wp2_with (go_at_call 31;refine(HSt.out _).mono ?_;rintro e w3 ⟨rfl,hb3⟩)
    go_ret
    exact⟨rfl,HWw.out.trans (hb3.mono HWw.out.size)⟩
   | true =>
    rw[Bool.true_and] at hnx
    have HNX:=Lib.hid hnx
    clear hnx
    go_wp2_with (go_at_call 31;refine(HSt.out _).mono ?_;rintro e w3 ⟨rfl,hb3⟩)
    have HW3:Hid (Below W2.heap.size W2 w3):=HW.out.trans (hb3.mono HW.out.size)
    clear q0 q1 q2 q3 q4 q5 q6 q7 x0 xz hb3
    go_loopw [5] (fun i wr=>∃j:Nat,j≤k∧i=.int .i64 j∧Hid (Below W2.heap.size W2 wr)∧Hid (∀i,i<j→l[i]?≠some y)) (fun i _=>k-(intOf i).toNat)
    case atStart=>exact⟨0,Nat.zero_le _,rfl,HW3,fun i hi=>by omega⟩
    case round =>
     obtain⟨j,hjk,rfl,HV,HNO⟩:=hrel
     have HVw:Hid (Below w.heap.size w wr):=HBx.out.trans (HV.out.mono HBx.out.size)
     have HV0:Hid (Below W0.heap.size W0 wr):=HB2.out.trans (HV.out.mono HB2.out.size)
     obtain⟨x0,xz⟩:=HX.out _ HV0.out
     by_cases hjl:j<k
     ·obtain⟨z,hz⟩:∃z,l[j]? = some z:=⟨_,List.getElem?_eq_getElem (by omega)⟩
      obtain⟨g3,o3,he,hg3,q0,q1,q2,q3,q4,q5,q6,q7⟩:=(HA.out.below HVw.out).node HY.out.1
      cases he
      obtain⟨g4,o4,he,hg4,r0,r1,r2,r3,r4,r5,r6,r7⟩:=(HA.out.below HVw.out).node hz
      cases he
      have e0:=qFr z y (HA.out.ok z (List.mem_of_getElem? hz)) HY.out.2
      have f0:=qFa z y (HA.out.ok z (List.mem_of_getElem? hz)) HY.out.2
      have HZ:=Lib.hid hz
      clear hz
      by_cases hzy:z=y
      ·rw[decide_eq_true hzy] at e0 f0
       have hin:y∈l.take k:=by
        refine List.mem_of_getElem? (i:=j) ?_
        rw[List.getElem?_take,if_pos hjl,HZ.out,hzy]
       obtain rfl:r=2:=HNo.out (qS1 (k:=k+1) (by rw[HNX.out,decide_eq_true hin];rfl))
       clear hzy hin
       go_wp2
       go_quiet (fail)
       go_wp2
       go_ret
       exact⟨rfl,qA1 HVw.out⟩
      ·rw[decide_eq_false hzy] at e0 f0
       have HNO2:Hid (∀i,i<j+1→l[i]?≠some y):=fun i hi=>by
        by_cases hij:i<j
        ·exact HNO.out i hij
        ·obtain rfl:i=j:=by omega
         rw[HZ.out]
         exact fun e=>hzy (Option.some.inj e)
       clear hzy
       go_wp2
       go_quiet (fail)
       go_wp2
       go_roundw
       case rel=>exact⟨j+1,by omega,by go_num,qA1 HV.out,HNO2⟩
       case measure=>simp[intOf];omega
     ·obtain rfl:j=k:=by omega
      have hin:¬y∈l.take j:=fun h=>by
       obtain⟨i,hi⟩:=List.getElem?_of_mem h
       rw[List.getElem?_take] at hi
       split at hi
       ·rename_i hij
        exact HNO.out i hij hi
       ·cases hi
      have HO2:Hid (qB1 [] (l.take (j+1))=true):=by show _=_;rw[HNX.out,decide_eq_false hin];rfl
      clear hin
      go_wp2
      go_roundw
      case rel=>exact⟨j+1,by omega,by go_num,HV,HO2⟩
      case measure=>simp[intOf];omega
  ·obtain rfl:k=l.length:=by omega
   obtain rfl:r=0:=HYes.out (by rw[HMT.out];have:=HOK.out;rw[List.take_length] at this;exact this)
   go_wp2
   go_ret
   exact⟨rfl,HWw.out⟩
end Go.Proofs.YtfgpimhdjlmapaaGreatDoor.Tm
