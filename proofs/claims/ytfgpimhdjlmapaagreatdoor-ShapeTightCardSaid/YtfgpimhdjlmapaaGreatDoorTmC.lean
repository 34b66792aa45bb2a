/- The document's stands. -/
import Derived.Test.YtfgpimhdjlmapaaGreatDoorTmA
import Derived.Test.YtfgpimhdjlmapaaGreatDoorNumMay
namespace Go.Proofs.YtfgpimhdjlmapaaGreatDoor.Tm
open Go.RowKit
set_option linter.unusedVariables false
set_option maxRecDepth 100000
theorem qC9 {a b:Int} (h:a=b):(a==b)=true:=by simp[h]
theorem qB7 {a b:Int} (h:¬a=b):(a==b)=false:=by simp[h]
theorem qDf {a b:Int} (h:¬a=b):(a != b)=true:=by simp[h]
theorem ne_f {a b:Int} (h:a=b):(a != b)=false:=by simp[h]
theorem qRs (op:Int) (w:World):Calls Tryz.prog 43 #[.int .i8 op] w fun e w'=>e=.returned (.int .i64 (arityA op))∧w=w':=by
 obtain⟨k,hk⟩:∃k,arityA op=k:=⟨_,rfl⟩
 rw[hk]
 by_cases h:op=0∨op=1∨op=2∨op=3∨op=4∨op=5∨op=6∨op=7∨op=8∨op=9∨op=10∨op=11∨op=12∨op=13
 ·rcases h with rfl|rfl|rfl|rfl|rfl|rfl|rfl|rfl|rfl|rfl|rfl|rfl|rfl|rfl <;>
  ·obtain rfl:_=k:=(show _=k from hk)
   go_enter Tryz.func43,Tryz.ntmps43
   go_wp2
   go_ret
   exact⟨rfl,rfl⟩
 ·have hk2:k=-2:=by rw[←hk];unfold arityA;repeat (rw[if_neg (by omega)])
  subst hk2
  have e0:=qB7 (a:=op) (b:=0) (by omega)
  have e1:=qB7 (a:=op) (b:=1) (by omega)
  have e2:=qB7 (a:=op) (b:=2) (by omega)
  have e3:=qB7 (a:=op) (b:=3) (by omega)
  have e4:=qB7 (a:=op) (b:=4) (by omega)
  have e5:=qB7 (a:=op) (b:=5) (by omega)
  have e6:=qB7 (a:=op) (b:=6) (by omega)
  have e7:=qB7 (a:=op) (b:=7) (by omega)
  have e8:=qB7 (a:=op) (b:=8) (by omega)
  have e9:=qB7 (a:=op) (b:=9) (by omega)
  have e10:=qB7 (a:=op) (b:=10) (by omega)
  have e11:=qB7 (a:=op) (b:=11) (by omega)
  have e12:=qB7 (a:=op) (b:=12) (by omega)
  have e13:=qB7 (a:=op) (b:=13) (by omega)
  clear hk h
  go_enter Tryz.func43,Tryz.ntmps43
  go_wp2
  go_ret
  exact⟨rfl,rfl⟩
def qBc (n:NodeA):Nat→Int
 | 0=>n.a0
 | 1=>n.a1
 | _=>n.a2
def RSt (n:NodeA) (at_:Nat):Prop :=
 (arityA n.op≠-2∧(0≤arityA n.op→n.len=arityA n.op)∧0≤n.len∧n.len≤3)∧(∀j,j<3→qBr n.len (qBc n j) j at_) ∧
 (0≤n.sort∧n.sort<6∧0≤n.fn∧n.fn<12∧(n.op≠13→n.fn=0))∧(if n.op=10∨n.op=11∨n.op=12 then qAn n.num=true else n.num=0)
theorem qKp (op:Int):(op=0∨op=1∨op=2∨op=3∨op=4∨op=5∨op=6∨op=7∨op=8∨op=9∨op=10∨op=11∨op=12∨op=13)∨(op<0∨14≤op):=by omega
theorem qLo {op:Int} (h:op<0∨14≤op):arityA op=-2:=by unfold arityA;repeat (rw[if_neg (by omega)])
theorem qH3 (n:NodeA) (at_:Nat):(∀j,j<3→qBr n.len (qBc n j) j at_)↔(qBr n.len n.a0 0 at_∧qBr n.len n.a1 1 at_∧qBr n.len n.a2 2 at_) :=
 ⟨fun h=>⟨h 0 (by omega),h 1 (by omega),h 2 (by omega)⟩,fun ⟨h0,h1,h2⟩ j hj=>by
  match j,hj with
  | 0,_=>exact h0
  | 1,_=>exact h1
  | 2,_=>exact h2⟩
theorem qCg (n:NodeA) (at_:Nat):qH2 n at_↔RSt n at_:=by
 unfold RSt
 rw[qH3]
 unfold qH2 qEo
 generalize qBr n.len n.a0 0 at_=A0
 generalize qBr n.len n.a1 1 at_=A1
 generalize qBr n.len n.a2 2 at_=A2
 generalize (qAn n.num=true)=M
 generalize n.num=num
 generalize n.fn=fn
 generalize n.sort=sort
 generalize n.len=len
 generalize n.op=op
 rcases qKp op with h|h
 ·rcases h with rfl|rfl|rfl|rfl|rfl|rfl|rfl|rfl|rfl|rfl|rfl|rfl|rfl|rfl <;>
  (simp[arityA];grind)
 ·rw[qLo h]
  constructor
  ·intro hs
   have h1:=hs.1.1
   have h2:=hs.1.2.1
   omega
  ·intro hs
   exact absurd rfl hs.1.1
theorem qRt (op:Int):-2≤arityA op∧arityA op≤3:=by
 rcases qKp op with h|h
 ·rcases h with rfl|rfl|rfl|rfl|rfl|rfl|rfl|rfl|rfl|rfl|rfl|rfl|rfl|rfl<;>simp[arityA]
 ·rw[qLo h];omega
theorem zD2 {n:NodeA} {at_:Nat} (h:¬RSt n at_):standsB n at_=false:=by
 unfold standsB
 rw[decide_eq_false_iff_not,qCg];exact h
theorem qVw {n:NodeA} {at_:Nat} (h:RSt n at_):standsB n at_=true:=by
 unfold standsB
 rw[decide_eq_true_eq,qCg];exact h
set_option maxHeartbeats 4000000 in
theorem qIp (n:NodeA) (at_:Nat) (w:World) (ho:NodeOk n) (hat:(at_:Int)≤1000000) :
  Calls Tryz.prog 31 #[.agg #[.int .i8 n.op,.int .i8 n.len,.int .i64 n.a0,.int .i64 n.a1,.int .i64 n.a2,.int .i64 n.sort,.int .i64 n.fn,.int .i64 n.num],.int .i64 at_] w fun e w'=>e=.returned (.bool (standsB n at_))∧Below w.heap.size w w':=by
 obtain⟨r,hr⟩:∃r,standsB n at_=r:=⟨_,rfl⟩
 rw[hr]
 have HNo:Hid (¬RSt n at_→r=false):=fun h=>by rw[←hr];exact zD2 h
 have HYes:Hid (RSt n at_→r=true):=fun h=>by rw[←hr];exact qVw h
 obtain⟨k,hk⟩:∃k,arityA n.op=k:=⟨_,rfl⟩
 have hk3:=qRt n.op
 rw[hk] at hk3
 have HK:=Lib.hid hk
 have HC:Hid (∀W,Calls Tryz.prog 43 #[.int .i8 n.op] W fun e w'=>e=.returned (.int .i64 k)∧W=w'):=fun W=>by rw[←hk];exact qRs n.op W
 have HM:Hid (∀W,Calls Tryz.prog 44 #[.int .i64 n.num] W fun e w'=>e=.returned (.bool (qAn n.num))∧W=w'):=fun W=>qDy n.num W
 obtain⟨⟨p1,p2⟩,⟨p3,p4⟩,⟨p5,p6⟩,⟨p7,p8⟩,⟨p9,p10⟩,⟨p11,p12⟩,⟨p13,p14⟩,⟨p15,p16⟩⟩:=ho
 clear hr hk
 have HB0:Hid (Below w.heap.size w (w.alloc (.cells #[.int .i8 n.op,.int .i8 n.len,.int .i64 n.a0,.int .i64 n.a1,.int .i64 n.a2,.int .i64 n.sort,.int .i64 n.fn,.int .i64 n.num] 54))):=(Below.refl _ w).alloc (Nat.le_refl _) _
 by_cases c1:k=-2
 ·have hf:r=false:=HNo.out (fun h=>h.1.1 (HK.out.trans c1))
  subst hf
  subst c1
  go_enter Tryz.func31,Tryz.ntmps31
  go_wp2_with (go_at_call 43;refine(HC.out _).mono ?_;rintro e w1 ⟨rfl,rfl⟩)
  go_ret
  exact⟨rfl,HB0.out⟩
 have e1:=qB7 c1
 by_cases c2:0≤k∧¬n.len=k
 ·obtain⟨c2,c3⟩:=c2
  have hf:r=false:=HNo.out (fun h=>c3 ((h.1.2.1 (by rw[HK.out];exact c2)).trans HK.out))
  subst hf
  have e2:=qDf c3
  go_enter Tryz.func31,Tryz.ntmps31
  go_wp2_with (go_at_call 43;refine(HC.out _).mono ?_;rintro e w1 ⟨rfl,rfl⟩)
  go_ret
  exact⟨rfl,HB0.out⟩
 by_cases c3:n.len<0
 ·have hf:r=false:=HNo.out (fun h=>by have:=h.1.2.2.1;omega)
  subst hf
  have c4:k<0:=by omega
  go_enter Tryz.func31,Tryz.ntmps31
  go_wp2_with (go_at_call 43;refine(HC.out _).mono ?_;rintro e w1 ⟨rfl,rfl⟩)
  go_ret
  exact⟨rfl,HB0.out⟩
 by_cases c4:3<n.len
 ·have hf:r=false:=HNo.out (fun h=>by have:=h.1.2.2.2;omega)
  subst hf
  have c5:k<0:=by omega
  go_enter Tryz.func31,Tryz.ntmps31
  go_wp2_with (go_at_call 43;refine(HC.out _).mono ?_;rintro e w1 ⟨rfl,rfl⟩)
  go_ret
  exact⟨rfl,HB0.out⟩
 have HP:Hid (k≠-2∧(0≤k→n.len=k)∧0≤n.len∧n.len≤3):=⟨c1,fun h=>Classical.byContradiction fun g=>c2 ⟨h,g⟩,by omega,by omega⟩
 have hcase:k<0∨(0≤k∧(n.len != k)=false):=by
  by_cases h:k<0
  ·exact .inl h
  ·exact .inr ⟨by omega,ne_f (Classical.byContradiction fun g=>c2 ⟨by omega,g⟩)⟩
 clear c2
 rcases hcase with c2|⟨c2,e2⟩
 all_goals
  go_enter Tryz.func31,Tryz.ntmps31
  go_wp2_with (go_at_call 43;refine(HC.out _).mono ?_;rintro e w1 ⟨rfl,rfl⟩)
  go_loop [6] (fun i=>∃m:Nat,m≤3∧i=.int .i64 m∧Hid (∀j,j<m→qBr n.len (qBc n j) j at_)) (fun i=>3-(intOf i).toNat)
  case atStart=>exact⟨0,by omega,rfl,fun j hj=>by omega⟩
  case round =>
   obtain⟨m,hm3,rfl,HA⟩:=hrel
   have hm:m=0∨m=1∨m=2∨m=3:=by omega
   clear hm3
   rcases hm with rfl|rfl|rfl|rfl
   ·by_cases d1:(0:Int)<n.len
    ·by_cases d2:n.a0<0
     ·have hf:r=false:=HNo.out (fun h=>by have:=h.2.1 0 (by omega);unfold qBr qBc at this;simp only at this;omega)
      subst hf
      go_wp2
      go_ret
      exact⟨rfl,HB0.out⟩
     by_cases d3:(at_:Int)≤n.a0
     ·have hf:r=false:=HNo.out (fun h=>by have:=h.2.1 0 (by omega);unfold qBr qBc at this;simp only at this;omega)
      subst hf
      go_wp2
      go_ret
      exact⟨rfl,HB0.out⟩
     go_wp2
     go_round
     case rel=>exact⟨1,by omega,rfl,fun j hj=>by
      by_cases hj2:j<0
      ·exact HA.out j hj2
      ·obtain rfl:j=0:=by omega
       unfold qBr qBc;simp only;omega⟩
     case measure=>simp[intOf]
    ·by_cases d2:n.a0=0
     ·have e3:=ne_f d2
      go_wp2
      go_round
      case rel=>exact⟨1,by omega,rfl,fun j hj=>by
       by_cases hj2:j<0
       ·exact HA.out j hj2
       ·obtain rfl:j=0:=by omega
        unfold qBr qBc;simp only;omega⟩
      case measure=>simp[intOf]
     ·have hf:r=false:=HNo.out (fun h=>by have:=h.2.1 0 (by omega);unfold qBr qBc at this;simp only at this;omega)
      subst hf
      have e3:=qDf d2
      go_wp2
      go_ret
      exact⟨rfl,HB0.out⟩
   ·by_cases d1:(1:Int)<n.len
    ·by_cases d2:n.a1<0
     ·have hf:r=false:=HNo.out (fun h=>by have:=h.2.1 1 (by omega);unfold qBr qBc at this;simp only at this;omega)
      subst hf
      go_wp2
      go_ret
      exact⟨rfl,HB0.out⟩
     by_cases d3:(at_:Int)≤n.a1
     ·have hf:r=false:=HNo.out (fun h=>by have:=h.2.1 1 (by omega);unfold qBr qBc at this;simp only at this;omega)
      subst hf
      go_wp2
      go_ret
      exact⟨rfl,HB0.out⟩
     go_wp2
     go_round
     case rel=>exact⟨2,by omega,rfl,fun j hj=>by
      by_cases hj2:j<1
      ·exact HA.out j hj2
      ·obtain rfl:j=1:=by omega
       unfold qBr qBc;simp only;omega⟩
     case measure=>simp[intOf]
    ·by_cases d2:n.a1=0
     ·have e3:=ne_f d2
      go_wp2
      go_round
      case rel=>exact⟨2,by omega,rfl,fun j hj=>by
       by_cases hj2:j<1
       ·exact HA.out j hj2
       ·obtain rfl:j=1:=by omega
        unfold qBr qBc;simp only;omega⟩
      case measure=>simp[intOf]
     ·have hf:r=false:=HNo.out (fun h=>by have:=h.2.1 1 (by omega);unfold qBr qBc at this;simp only at this;omega)
      subst hf
      have e3:=qDf d2
      go_wp2
      go_ret
      exact⟨rfl,HB0.out⟩
   ·by_cases d1:(2:Int)<n.len
    ·by_cases d2:n.a2<0
     ·have hf:r=false:=HNo.out (fun h=>by have:=h.2.1 2 (by omega);unfold qBr qBc at this;simp only at this;omega)
      subst hf
      go_wp2
      go_ret
      exact⟨rfl,HB0.out⟩
     by_cases d3:(at_:Int)≤n.a2
     ·have hf:r=false:=HNo.out (fun h=>by have:=h.2.1 2 (by omega);unfold qBr qBc at this;simp only at this;omega)
      subst hf
      go_wp2
      go_ret
      exact⟨rfl,HB0.out⟩
     go_wp2
     go_round
     case rel=>exact⟨3,by omega,rfl,fun j hj=>by
      by_cases hj2:j<2
      ·exact HA.out j hj2
      ·obtain rfl:j=2:=by omega
       unfold qBr qBc;simp only;omega⟩
     case measure=>simp[intOf]
    ·by_cases d2:n.a2=0
     ·have e3:=ne_f d2
      go_wp2
      go_round
      case rel=>exact⟨3,by omega,rfl,fun j hj=>by
       by_cases hj2:j<2
       ·exact HA.out j hj2
       ·obtain rfl:j=2:=by omega
        unfold qBr qBc;simp only;omega⟩
      case measure=>simp[intOf]
     ·have hf:r=false:=HNo.out (fun h=>by have:=h.2.1 2 (by omega);unfold qBr qBc at this;simp only at this;omega)
      subst hf
      have e3:=qDf d2
      go_wp2
      go_ret
      exact⟨rfl,HB0.out⟩
   ·by_cases d1:n.sort<0
    ·have hf:r=false:=HNo.out (fun h=>by have:=h.2.2.1;omega)
     subst hf
     go_wp2
     go_ret
     exact⟨rfl,HB0.out⟩
    by_cases u0:6≤n.sort
    ·have hf:r=false:=HNo.out (fun h=>by have:=h.2.2.1;omega)
     subst hf
     go_wp2
     go_ret
     exact⟨rfl,HB0.out⟩
    by_cases u1:n.fn<0
    ·have hf:r=false:=HNo.out (fun h=>by have:=h.2.2.1;omega)
     subst hf
     go_wp2
     go_ret
     exact⟨rfl,HB0.out⟩
    by_cases u2:12≤n.fn
    ·have hf:r=false:=HNo.out (fun h=>by have:=h.2.2.1;omega)
     subst hf
     go_wp2
     go_ret
     exact⟨rfl,HB0.out⟩
    by_cases f1:n.op=13
    ·have g1:=ne_f f1
     have g2:=qB7 (a:=n.op) (b:=10) (by omega)
     have g3:=qB7 (a:=n.op) (b:=11) (by omega)
     have g4:=qB7 (a:=n.op) (b:=12) (by omega)
     have hf:r=(n.num==0):=by
      by_cases z:n.num=0
      ·rw[qC9 z];exact HYes.out ⟨by rw[HK.out];exact HP.out,HA.out,⟨by omega,by omega,by omega,by omega,fun g=>absurd f1 g⟩,by rw[if_neg (by omega)];exact z⟩
      ·rw[qB7 z];exact HNo.out (fun h=>by have:=h.2.2.2;rw[if_neg (by omega)] at this;exact z this)
     subst hf
     clear f1
     go_wp2
     go_ret
     exact⟨rfl,HB0.out⟩
    have g1:=qDf f1
    by_cases f2:n.fn=0
    rotate_left
    ·have hf:r=false:=HNo.out (fun h=>f2 (h.2.2.1.2.2.2.2 f1))
     subst hf
     have g2:=qDf f2
     go_wp2
     go_ret
     exact⟨rfl,HB0.out⟩
    have g0:=ne_f f2
    by_cases f3:n.op=10∨n.op=11∨n.op=12
    ·have hf:r=qAn n.num:=by
      cases z:qAn n.num with
      | true=>exact HYes.out ⟨by rw[HK.out];exact HP.out,HA.out,⟨by omega,by omega,by omega,by omega,fun _=>f2⟩,by rw[if_pos f3];exact z⟩
      | false=>exact HNo.out (fun h=>by have:=h.2.2.2;rw[if_pos f3,z] at this;cases this)
     subst hf
     have g2:(n.op==10)=true∨((n.op==10)=false∧(n.op==11)=true)∨((n.op==10)=false∧(n.op==11)=false∧(n.op==12)=true):=by
      rcases f3 with h|h|h
      ·exact .inl (qC9 h)
      ·exact .inr (.inl ⟨qB7 (by omega),qC9 h⟩)
      ·exact .inr (.inr ⟨qB7 (by omega),qB7 (by omega),qC9 h⟩)
     clear f1 f2 f3
     rcases g2 with g2|⟨g2,g3⟩|⟨g2,g3,g4⟩
     all_goals
      go_wp2_with (go_at_call 44;refine(HM.out _).mono ?_;rintro e w1 ⟨rfl,rfl⟩)
      go_ret
      exact⟨rfl,HB0.out⟩
    ·have g2:=qB7 (a:=n.op) (b:=10) (by omega)
     have g3:=qB7 (a:=n.op) (b:=11) (by omega)
     have g4:=qB7 (a:=n.op) (b:=12) (by omega)
     have hf:r=(n.num==0):=by
      by_cases z:n.num=0
      ·rw[qC9 z];exact HYes.out ⟨by rw[HK.out];exact HP.out,HA.out,⟨by omega,by omega,by omega,by omega,fun _=>f2⟩,by rw[if_neg f3];exact z⟩
      ·rw[qB7 z];exact HNo.out (fun h=>by have:=h.2.2.2;rw[if_neg f3] at this;exact z this)
     subst hf
     clear f1 f2 f3
     go_wp2
     go_ret
     exact⟨rfl,HB0.out⟩
end Go.Proofs.YtfgpimhdjlmapaaGreatDoor.Tm
