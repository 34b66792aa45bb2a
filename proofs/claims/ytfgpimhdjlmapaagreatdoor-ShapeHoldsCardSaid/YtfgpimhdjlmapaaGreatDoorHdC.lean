/- The document's names of a signature: sorts, functions, macros, what is free. -/
import Derived.Test.YtfgpimhdjlmapaaGreatDoorProg
import Derived.Test.YtfgpimhdjlmapaaGreatDoorNumMay
import Derived.Deep.RegionHeld3
import Derived.BigQuiet
import Derived.Test.YtfgpimhdjlmapaaGreatDoorSgA
import Derived.Laws.Strings
namespace Go.Proofs.YtfgpimhdjlmapaaGreatDoor
open Go.RowKit
theorem qFj (s:ByteArray) (k:Nat) (h:k<s.size):s.data.toList[k]'(by simpa using h)=s[k]:=by
 simp;rfl
theorem qX7 {s:ByteArray} (h:qP4 s.data.toList=true) (k:Nat) (hk:k<s.size):48≤s[k].toNat∧s[k].toNat≤57:=by
 have h1:=qQv h
 have h2:isD (s.data.toList[k]'(by simpa using hk))=true:=List.all_eq_true.1 h1 _ (List.getElem_mem _)
 rw[qFj s k hk,qNn] at h2
 exact h2
set_option maxHeartbeats 400000 in
theorem qO8 (s:ByteArray) (w:World) (hs:s.size≤9223372036854775807) :
  Calls Tryz.prog 121 #[.string s] w fun e w'=>e=.returned (.tuple #[.int .i64 (qG6 s.data.toList),.int .i64 (qEk s.data.toList)])∧w=w':=by
 have hL:s.data.toList.length=s.size:=by simp
 by_cases h0:s.size=0
 ·have hn:s.toList=[]:=qI8.2 h0
  have HN:=Lib.hid (qQu (l:=s.data.toList) (.inl (by omega)))
  clear hL h0
  go_enter Tryz.func121,Tryz.ntmps121
  go_wp2
  go_ret2
  exact⟨qBl (qAt (by simp[qG6,HN.out])) (qAt (by simp[qEk,HN.out])),rfl⟩
 ·have hp:0<s.size:=by omega
  have hne:¬s.toList=[]:=fun h=>h0 (qI8.1 h)
  have hem:s.toList.isEmpty=false:=by simpa using hne
  by_cases h1:(s[0].toNat:Int)=48∧1<s.size
  ·obtain⟨h48,h2⟩:=h1
   have HN:=Lib.hid (qQu (l:=s.data.toList) (.inr ⟨by omega,by rw[qFj s 0 hp];omega,by omega⟩))
   clear hL h0
   go_enter Tryz.func121,Tryz.ntmps121
   go_wp2
   go_ret2
   exact⟨qBl (qAt (by simp[qG6,HN.out])) (qAt (by simp[qEk,HN.out])),rfl⟩
  ·have HF:=Lib.hid (qXq (l:=s.data.toList) (by omega) (by rw[qFj s 0 hp];omega))
   have HL:=Lib.hid hL
   have hcase:((s[0].toNat:Int)=48∧s.size≤1)∨((s[0].toNat:Int)==48)=false:=by
    by_cases e:(s[0].toNat:Int)=48
    ·exact .inl ⟨e,by omega⟩
    ·exact .inr (by simpa using e)
   clear hL h0 h1
   rcases hcase with⟨h48,h2⟩|h48
   all_goals
    go_enter Tryz.func121,Tryz.ntmps121
    go_wp2
    go_loop [4] (fun i=>∃k:Nat,k≤s.size∧(s.data.toList.take k).all isD=true∧i=.int .i64 k) (fun i=>s.size-(intOf i).toNat)
    case atStart=>exact⟨0,Nat.zero_le _,rfl,rfl⟩
    case round =>
     obtain⟨k,hk,hall,rfl⟩:=hrel
     have HA:=Lib.hid hall;clear hall
     by_cases hlt:k<s.size
     ·by_cases hd1:48≤(s[k].toNat:Int)
      ·by_cases hd2:(s[k].toNat:Int)≤57
       ·have hD:Hid ((s.data.toList.take (k+1)).all isD=true):=by
         have:=qJ4 s.data.toList k (by have:=HL.out;omega)
         rw[qFj s k hlt,HA.out,qNn.2 ⟨by omega,by omega⟩] at this
         exact this
        go_wp2
        go_round
        case rel=>exact⟨k+1,by omega,hD.out,by go_num⟩
        case measure=>simp[intOf];omega
       ·have hD:Hid (qP4 s.data.toList=false):=by
         have:=qG7 s.data.toList k (by have:=HL.out;omega) (by rw[qFj s k hlt];exact qL4.2 (by omega))
         exact HF.out.trans this
        go_wp2
        go_ret2
        exact⟨qBl (qAt (by simp[qG6,hD.out])) (qAt (by simp[qEk,hD.out])),rfl⟩
      ·have hD:Hid (qP4 s.data.toList=false):=by
        have:=qG7 s.data.toList k (by have:=HL.out;omega) (by rw[qFj s k hlt];exact qL4.2 (by omega))
        exact HF.out.trans this
       go_wp2
       go_ret2
       exact⟨qBl (qAt (by simp[qG6,hD.out])) (qAt (by simp[qEk,hD.out])),rfl⟩
     ·have HN:Hid (qP4 s.data.toList=true):=by
       show _=_
       rw[HF.out,←HA.out,List.take_of_length_le (by have:=HL.out;omega)]
      go_wp2
      go_loop [5,6] (fun n i=>∃k:Nat,k≤s.size∧qIt (s.data.toList.take k)≤4611686018427387904∧i=.int .i64 k∧n=.int .i64 (qIt (s.data.toList.take k))) (fun _ i=>s.size-(intOf i).toNat)
      case atStart=>exact⟨0,Nat.zero_le _,by simp[qNo],rfl,by simp[qNo]⟩
      case round =>
       obtain⟨k,hk,hv,rfl,rfl⟩:=hrel
       by_cases hlt:k<s.size
       ·obtain⟨d1,d2⟩:=qX7 HN.out k hlt
        have HS:Hid (qIt (s.data.toList.take (k+1))=qIt (s.data.toList.take k)*10+(s[k].toNat-48)):=by
         have:=qJ3 s.data.toList k (by have:=HL.out;omega)
         rw[qFj s k hlt] at this
         exact this
        by_cases hgo:qIt (s.data.toList.take k)*10+(s[k].toNat-48)≤4611686018427387904
        ·have h3:(qIt (s.data.toList.take k):Int)≤(4611686018427387904-((s[k].toNat:Int)-48)) / 10:=by omega
         go_wp2
         go_round
         case rel=>exact⟨k+1,by omega,by rw[HS.out];exact hgo,by go_num,qAt (by rw[HS.out];omega)⟩
         case measure=>simp[intOf];omega
        ·have h3:(4611686018427387904-((s[k].toNat:Int)-48)) / 10<(qIt (s.data.toList.take k):Int):=by omega
         go_wp2
         go_ret2
         have hbig:¬qIt s.data.toList≤4611686018427387904:=by
          have:=qL5 s.data.toList (k+1)
          rw[HS.out] at this
          omega
         exact⟨qBl (qAt (by simp[qG6,HN.out,hbig])) (qAt (by simp[qEk,HN.out,hbig])),rfl⟩
       ·have ht:s.data.toList.take k=s.data.toList:=List.take_of_length_le (by have:=HL.out;omega)
        rw[ht] at hv ⊢
        go_wp2
        go_ret2
        exact⟨qBl (qAt (by simp[qG6,HN.out,hv])) (qAt (by simp[qEk,HN.out,hv])),rfl⟩
set_option linter.unusedVariables false
set_option maxRecDepth 100000
theorem qFz (s:ByteArray) (k:Nat) (h:k<s.size):s.data.toList.drop k=s[k] :: s.data.toList.drop (k+1):=by
 rw[List.drop_eq_getElem_cons (by simpa using h)];rfl
theorem qN9 (s:ByteArray) (k:Nat) (h:s.size≤k):s.data.toList.drop k=[]:=List.drop_eq_nil_of_le (by simpa using h)
theorem qB3 {x y:Int} (h:x=y):(x != y)=false:=by simp[h]
theorem qAr {x y:Int} (h:¬x=y):(x != y)=true:=by simp[h]
theorem qA9 {x y:Int} (h:¬x=y):(x==y)=false:=by simp[h]
theorem qAo {x y:Int} (h:x=y):(x==y)=true:=by simp[h]
theorem qEh {l:List UInt8} (h:qR4 l=false):(l == [95])=false∧(l == [33])=false∧(l == [97,115])=false∧(l == [108,101,116])=false∧(l == [101,120,105,115,116,115])=false∧(l == [102,111,114,97,108,108])=false∧(l == [109,97,116,99,104])=false∧(l == [112,97,114])=false:=by
 unfold qR4 at h
 simp only[Bool.or_eq_false_iff] at h
 obtain⟨⟨⟨⟨⟨⟨⟨h0,h1⟩,h2⟩,h3⟩,h4⟩,h5⟩,h6⟩,h7⟩:=h
 exact⟨h0,h1,h2,h3,h4,h5,h6,h7⟩
theorem qL0 (c:UInt8) (w:World):Calls Tryz.prog 120 #[.int .u8 c.toNat] w fun e w'=>e=.returned (.bool (qCe c))∧w=w':=by
 have HW:=Lib.hid (qMi c)
 by_cases h1:c.toNat=32
 ·have e1:=qAo (x:=(c.toNat:Int)) (y:=32) (by omega)
  have HR:Hid (qCe c=true):=by show _=_;rw[HW.out];simp[h1]
  clear h1
  go_enter Tryz.func120,Tryz.ntmps120
  go_wp2
  go_ret
  exact⟨qAa HR.out.symm,rfl⟩
 ·have e1:=qA9 (x:=(c.toNat:Int)) (y:=32) (by omega)
  by_cases h2:c.toNat=9
  ·have e2:=qAo (x:=(c.toNat:Int)) (y:=9) (by omega)
   have HR:Hid (qCe c=true):=by show _=_;rw[HW.out];simp[h2]
   clear h1 h2
   go_enter Tryz.func120,Tryz.ntmps120
   go_wp2
   go_ret
   exact⟨qAa HR.out.symm,rfl⟩
  ·have e2:=qA9 (x:=(c.toNat:Int)) (y:=9) (by omega)
   by_cases h3:c.toNat=10
   ·have e3:=qAo (x:=(c.toNat:Int)) (y:=10) (by omega)
    have HR:Hid (qCe c=true):=by show _=_;rw[HW.out];simp[h3]
    clear h1 h2 h3
    go_enter Tryz.func120,Tryz.ntmps120
    go_wp2
    go_ret
    exact⟨qAa HR.out.symm,rfl⟩
   ·have e3:=qA9 (x:=(c.toNat:Int)) (y:=10) (by omega)
    by_cases h4:c.toNat=13
    ·have e4:=qAo (x:=(c.toNat:Int)) (y:=13) (by omega)
     have HR:Hid (qCe c=true):=by show _=_;rw[HW.out];simp[h4]
     clear h1 h2 h3 h4
     go_enter Tryz.func120,Tryz.ntmps120
     go_wp2
     go_ret
     exact⟨qAa HR.out.symm,rfl⟩
    ·have e4:=qA9 (x:=(c.toNat:Int)) (y:=13) (by omega)
     have HR:Hid (qCe c=false):=by show _=_;rw[HW.out];simp[h1,h2,h3,h4]
     clear h1 h2 h3 h4
     go_enter Tryz.func120,Tryz.ntmps120
     go_wp2
     go_ret
     exact⟨qAa HR.out.symm,rfl⟩
theorem qJ8 (c:UInt8) (w:World):Calls Tryz.prog 107 #[.int .u8 c.toNat] w fun e w'=>e=.returned (.bool (qFd c))∧w=w':=by
 have HI:=Lib.hid (qR3 c)
 by_cases h1:c.toNat=124
 ·have e1:=qB3 (x:=(c.toNat:Int)) (y:=124) (by omega)
  have HR:Hid (qFd c=false):=by show _=_;rw[HI.out];simp[h1]
  clear h1
  go_enter Tryz.func107,Tryz.ntmps107
  go_wp2
  go_ret
  exact⟨qAa HR.out.symm,rfl⟩
 ·have e1:=qAr (x:=(c.toNat:Int)) (y:=124) (by omega)
  by_cases h2:c.toNat=92
  ·have e2:=qB3 (x:=(c.toNat:Int)) (y:=92) (by omega)
   have HR:Hid (qFd c=false):=by show _=_;rw[HI.out];simp[h2]
   clear h1 h2
   go_enter Tryz.func107,Tryz.ntmps107
   go_wp2
   go_ret
   exact⟨qAa HR.out.symm,rfl⟩
  ·have e2:=qAr (x:=(c.toNat:Int)) (y:=92) (by omega)
   by_cases h3:32≤c.toNat
   ·by_cases h4:c.toNat≤126
    ·have g3:(32:Int)≤c.toNat:=by omega
     have g4:(c.toNat:Int)≤126:=by omega
     have HR:Hid (qFd c=true):=by show _=_;rw[HI.out];simp[h1,h2,h3,h4]
     clear h1 h2 h3 h4
     go_enter Tryz.func107,Tryz.ntmps107
     go_wp2
     go_ret
     exact⟨qAa HR.out.symm,rfl⟩
    ·have g3:(32:Int)≤c.toNat:=by omega
     have g4:(126:Int)<c.toNat:=by omega
     have d4:decide ((c.toNat:Int)≤126)=false:=by simp;omega
     have HR:Hid (qFd c=qCe c):=by show _=_;rw[HI.out];simp[h1,h2,h4]
     clear h1 h2 h3 h4
     go_enter Tryz.func107,Tryz.ntmps107
     go_wp2_with fail
     refine(qL0 c _).mono ?_
     rintro e w' ⟨rfl,rfl⟩
     go_wp2
     go_ret
     exact⟨qAa HR.out.symm,rfl⟩
   ·have g3:(c.toNat:Int)<32:=by omega
    have HR:Hid (qFd c=qCe c):=by show _=_;rw[HI.out];simp[h1,h2,h3]
    clear h1 h2 h3
    go_enter Tryz.func107,Tryz.ntmps107
    go_wp2_with fail
    refine(qL0 c _).mono ?_
    rintro e w' ⟨rfl,rfl⟩
    go_wp2
    go_ret
    exact⟨qAa HR.out.symm,rfl⟩
theorem qO9 (c:UInt8) (w:World) (h:qFd c=true):Calls Tryz.prog 107 #[.int .u8 c.toNat] w fun e w'=>e=.returned (.bool true)∧w=w':=by
 have:=qJ8 c w;rw[h] at this;exact this
theorem qQ9 (c:UInt8) (w:World) (h:qFd c=false):Calls Tryz.prog 107 #[.int .u8 c.toNat] w fun e w'=>e=.returned (.bool false)∧w=w':=by
 have:=qJ8 c w;rw[h] at this;exact this
theorem qJz (s:ByteArray) (r:Bool) (w:World) (hs:s.size≤9223372036854775807) (hr:(decide (s.size≤100)&&s.data.toList.all qFd)=r) :
  Calls Tryz.prog 93 #[.string s] w fun e w'=>e=.returned (.bool r)∧w=w':=by
 have HR:=Lib.hid hr
 clear hr
 by_cases hbig:100<s.size
 ·go_enter Tryz.func93,Tryz.ntmps93
  go_wp2
  go_ret
  exact⟨qAa (by rw[←HR.out,decide_eq_false (by omega)];rfl),rfl⟩
 ·have HL:Hid (s.data.toList.length=s.size):=by show _=_;simp
  go_enter Tryz.func93,Tryz.ntmps93
  go_wp2
  go_loop [3] (fun i=>∃k:Nat,k≤s.size∧i=.int .i64 k∧Hid (s.data.toList.all qFd=(s.data.toList.drop k).all qFd)) (fun i=>s.size-(intOf i).toNat)
  case atStart=>exact⟨0,Nat.zero_le _,rfl,rfl⟩
  case round =>
   obtain⟨k,hk,rfl,HA⟩:=hrel
   by_cases hlt:k<s.size
   ·cases hc:qFd s[k] with
    | true =>
     have HC:=Lib.hid hc
     clear hc
     go_wp2_with fail
     refine(qO9 s[k] _ HC.out).mono ?_
     rintro e w' ⟨rfl,rfl⟩
     go_wp2
     go_round
     case rel=>exact⟨k+1,by omega,by go_num,by show _=_;rw[HA.out,qFz s k hlt,List.all_cons,HC.out];rfl⟩
     case measure=>simp[intOf];omega
    | false =>
     have HC:=Lib.hid hc
     clear hc
     go_wp2_with fail
     refine(qQ9 s[k] _ HC.out).mono ?_
     rintro e w' ⟨rfl,rfl⟩
     go_wp2
     go_ret
     exact⟨qAa (by rw[←HR.out,HA.out,qFz s k hlt,List.all_cons,HC.out];simp),rfl⟩
   ·go_wp2
    go_ret
    exact⟨qAa (by rw[←HR.out,HA.out,qN9 s k (by omega),decide_eq_true (by omega)];rfl),rfl⟩
theorem qQa (s:ByteArray) (w:World) (h:qR4 s.data.toList=false):Calls Tryz.prog 94 #[.string s] w fun e w'=>e=.returned (.bool false)∧w=w':=by
 have f0:(s.toList == [95])=false:=by have:=qEh h;simp only[ByteArray.toList_eq];exact this.1
 have f1:(s.toList == [33])=false:=by have:=qEh h;simp only[ByteArray.toList_eq];exact this.2.1
 have f2:(s.toList == [97,115])=false:=by have:=qEh h;simp only[ByteArray.toList_eq];exact this.2.2.1
 have f3:(s.toList == [108,101,116])=false:=by have:=qEh h;simp only[ByteArray.toList_eq];exact this.2.2.2.1
 have f4:(s.toList == [101,120,105,115,116,115])=false:=by have:=qEh h;simp only[ByteArray.toList_eq];exact this.2.2.2.2.1
 have f5:(s.toList == [102,111,114,97,108,108])=false:=by have:=qEh h;simp only[ByteArray.toList_eq];exact this.2.2.2.2.2.1
 have f6:(s.toList == [109,97,116,99,104])=false:=by have:=qEh h;simp only[ByteArray.toList_eq];exact this.2.2.2.2.2.2.1
 have f7:(s.toList == [112,97,114])=false:=by have:=qEh h;simp only[ByteArray.toList_eq];exact this.2.2.2.2.2.2.2
 clear h
 go_enter Tryz.func94,Tryz.ntmps94
 go_wp2
 go_ret
 exact⟨rfl,rfl⟩
theorem qNa (s:ByteArray) (w:World) (h:qR4 s.data.toList=true):Calls Tryz.prog 94 #[.string s] w fun e w'=>e=.returned (.bool true)∧w=w':=by
 unfold qR4 at h
 simp only[Bool.or_eq_true,beq_iff_eq,←ByteArray.toList_eq] at h
 rcases h with ((((((h|h)|h)|h)|h)|h)|h)|h
 all_goals
  go_enter Tryz.func94,Tryz.ntmps94
  go_wp2
  go_ret
  exact⟨rfl,rfl⟩
def qIz:List Nat:=[126,33,64,36,37,94,38,42,95,45,43,61,60,62,46,63,47]
theorem qEw (c:UInt8) (h:(¬(48≤c.toNat∧c.toNat≤57))∧(¬(65≤c.toNat∧c.toNat≤90))∧¬(97≤c.toNat∧c.toNat≤122)):qCc c=qIz.contains c.toNat:=by
 have e1:zC3 c=false:=by unfold zC3;simp only[Bool.and_eq_false_iff,decide_eq_false_iff_not];omega
 have e2:(decide (65≤c.toNat)&&decide (c.toNat≤90))=false:=by simp only[Bool.and_eq_false_iff,decide_eq_false_iff_not];omega
 have e3:(decide (97≤c.toNat)&&decide (c.toNat≤122))=false:=by simp only[Bool.and_eq_false_iff,decide_eq_false_iff_not];omega
 unfold qCc
 rw[e1,e2,e3]
 rfl
theorem qMa (c:UInt8) (h:(48≤c.toNat∧c.toNat≤57)∨(65≤c.toNat∧c.toNat≤90)∨(97≤c.toNat∧c.toNat≤122)):qCc c=true:=by
 unfold qCc zC3
 simp only[Bool.or_eq_true,Bool.and_eq_true,decide_eq_true_eq]
 omega
def qG0 (n k:Nat):Prop:=∀j,j<k→qIz[j]?≠some n
theorem qG0.step {n k m:Nat} (h:qG0 n k) (hm:qIz[k]? = some m) (hne:m≠n):qG0 n (k+1):=fun j hj=>by
 rcases Nat.lt_succ_iff_lt_or_eq.1 hj with h'|rfl
 ·exact h j h'
 ·rw[hm];simpa using hne
theorem qG0.all {n:Nat} (h:qG0 n 17):qIz.contains n=false:=by
 rw[Bool.eq_false_iff]
 intro hc
 rw[List.contains_iff_mem] at hc
 obtain⟨j,hj⟩:=List.getElem?_of_mem hc
 have:j<17:=(List.getElem?_eq_some_iff.1 hj).1
 exact h j this hj
theorem qK0 {k:Nat} (h:k<(ByteArray.mk #[126,33,64,36,37,94,38,42,95,45,43,61,60,62,46,63,47]).size):qIz[k]? = some ((ByteArray.mk #[126,33,64,36,37,94,38,42,95,45,43,61,60,62,46,63,47])[k]).toNat:=by
 have key:∀k:Fin 17,qIz[k.val]? = some ((ByteArray.mk #[126,33,64,36,37,94,38,42,95,45,43,61,60,62,46,63,47])[k.val]'k.isLt).toNat:=by decide +kernel
 exact key ⟨k,h⟩
set_option maxHeartbeats 4000000 in
theorem qT3 (c:UInt8) (w:World):Calls Tryz.prog 136 #[.int .u8 c.toNat] w fun e w'=>e=.returned (.bool (qCc c))∧w=w':=by
 have h256:=c.toNat_lt
 obtain hr|hr|hr|hr|hr|hr|hr:(0≤c.toNat∧c.toNat≤47)∨(48≤c.toNat∧c.toNat≤57)∨(58≤c.toNat∧c.toNat≤64)∨(65≤c.toNat∧c.toNat≤90)∨(91≤c.toNat∧c.toNat≤96)∨(97≤c.toNat∧c.toNat≤122)∨(123≤c.toNat∧c.toNat≤255):=by omega
 ·have d48:decide ((48:Int)≤(c.toNat:Int))=false:=by simp;omega
  have d65:decide ((65:Int)≤(c.toNat:Int))=false:=by simp;omega
  have d97:decide ((97:Int)≤(c.toNat:Int))=false:=by simp;omega
  have d57:decide ((c.toNat:Int)≤57)=true:=by simp;omega
  have d90:decide ((c.toNat:Int)≤90)=true:=by simp;omega
  have d122:decide ((c.toNat:Int)≤122)=true:=by simp;omega
  have HR:Hid (qCc c=qIz.contains c.toNat):=qEw c (by omega)
  clear hr h256
  go_enter Tryz.func136,Tryz.ntmps136
  go_wp2
  go_loop [3] (fun i=>∃k:Nat,k≤17∧i=.int .i64 k∧Hid (qG0 c.toNat k)) (fun i=>17-(intOf i).toNat)
  case atStart=>exact⟨0,by omega,rfl,fun j hj=>absurd hj (Nat.not_lt_zero j)⟩
  case round =>
   obtain⟨k,hk,rfl,HN⟩:=hrel
   by_cases hlt:k<17
   ·have hb:k<(ByteArray.mk #[126,33,64,36,37,94,38,42,95,45,43,61,60,62,46,63,47]).size:=hlt
    have HA:=Lib.hid (qK0 hb)
    by_cases he:(((ByteArray.mk #[126,33,64,36,37,94,38,42,95,45,43,61,60,62,46,63,47])[k]).toNat:Int)=(c.toNat:Int)
    ·have e1:=qAo he
     have HE:=Lib.hid he
     clear he
     go_wp2
     go_ret
     exact⟨qAa (by rw[HR.out];symm;rw[List.contains_iff_mem];exact List.mem_of_getElem? (HA.out.trans (congrArg some (by have:=HE.out;omega)))),rfl⟩
    ·have e1:=qA9 he
     have HE:=Lib.hid he
     clear he
     go_wp2
     go_round
     case rel=>exact⟨k+1,by omega,by go_num,HN.out.step HA.out (fun e=>HE.out (by omega))⟩
     case measure=>simp[intOf];omega
   ·obtain rfl:k=17:=by omega
    go_wp2
    go_ret
    exact⟨qAa (by rw[HR.out,HN.out.all]),rfl⟩
 ·have d48:decide ((48:Int)≤(c.toNat:Int))=true:=by simp;omega
  have d65:decide ((65:Int)≤(c.toNat:Int))=false:=by simp;omega
  have d97:decide ((97:Int)≤(c.toNat:Int))=false:=by simp;omega
  have d57:decide ((c.toNat:Int)≤57)=true:=by simp;omega
  have d90:decide ((c.toNat:Int)≤90)=true:=by simp;omega
  have d122:decide ((c.toNat:Int)≤122)=true:=by simp;omega
  have HR:Hid (qCc c=true):=qMa c (by omega)
  clear hr h256
  go_enter Tryz.func136,Tryz.ntmps136
  go_wp2
  go_ret
  exact⟨qAa HR.out.symm,rfl⟩
 ·have d48:decide ((48:Int)≤(c.toNat:Int))=true:=by simp;omega
  have d65:decide ((65:Int)≤(c.toNat:Int))=false:=by simp;omega
  have d97:decide ((97:Int)≤(c.toNat:Int))=false:=by simp;omega
  have d57:decide ((c.toNat:Int)≤57)=false:=by simp;omega
  have d90:decide ((c.toNat:Int)≤90)=true:=by simp;omega
  have d122:decide ((c.toNat:Int)≤122)=true:=by simp;omega
  have HR:Hid (qCc c=qIz.contains c.toNat):=qEw c (by omega)
  clear hr h256
  go_enter Tryz.func136,Tryz.ntmps136
  go_wp2
  go_loop [3] (fun i=>∃k:Nat,k≤17∧i=.int .i64 k∧Hid (qG0 c.toNat k)) (fun i=>17-(intOf i).toNat)
  case atStart=>exact⟨0,by omega,rfl,fun j hj=>absurd hj (Nat.not_lt_zero j)⟩
  case round =>
   obtain⟨k,hk,rfl,HN⟩:=hrel
   by_cases hlt:k<17
   ·have hb:k<(ByteArray.mk #[126,33,64,36,37,94,38,42,95,45,43,61,60,62,46,63,47]).size:=hlt
    have HA:=Lib.hid (qK0 hb)
    by_cases he:(((ByteArray.mk #[126,33,64,36,37,94,38,42,95,45,43,61,60,62,46,63,47])[k]).toNat:Int)=(c.toNat:Int)
    ·have e1:=qAo he
     have HE:=Lib.hid he
     clear he
     go_wp2
     go_ret
     exact⟨qAa (by rw[HR.out];symm;rw[List.contains_iff_mem];exact List.mem_of_getElem? (HA.out.trans (congrArg some (by have:=HE.out;omega)))),rfl⟩
    ·have e1:=qA9 he
     have HE:=Lib.hid he
     clear he
     go_wp2
     go_round
     case rel=>exact⟨k+1,by omega,by go_num,HN.out.step HA.out (fun e=>HE.out (by omega))⟩
     case measure=>simp[intOf];omega
   ·obtain rfl:k=17:=by omega
    go_wp2
    go_ret
    exact⟨qAa (by rw[HR.out,HN.out.all]),rfl⟩
 ·have d48:decide ((48:Int)≤(c.toNat:Int))=true:=by simp;omega
  have d65:decide ((65:Int)≤(c.toNat:Int))=true:=by simp;omega
  have d97:decide ((97:Int)≤(c.toNat:Int))=false:=by simp;omega
  have d57:decide ((c.toNat:Int)≤57)=false:=by simp;omega
  have d90:decide ((c.toNat:Int)≤90)=true:=by simp;omega
  have d122:decide ((c.toNat:Int)≤122)=true:=by simp;omega
  have HR:Hid (qCc c=true):=qMa c (by omega)
  clear hr h256
  go_enter Tryz.func136,Tryz.ntmps136
  go_wp2
  go_ret
  exact⟨qAa HR.out.symm,rfl⟩
 ·have d48:decide ((48:Int)≤(c.toNat:Int))=true:=by simp;omega
  have d65:decide ((65:Int)≤(c.toNat:Int))=true:=by simp;omega
  have d97:decide ((97:Int)≤(c.toNat:Int))=false:=by simp;omega
  have d57:decide ((c.toNat:Int)≤57)=false:=by simp;omega
  have d90:decide ((c.toNat:Int)≤90)=false:=by simp;omega
  have d122:decide ((c.toNat:Int)≤122)=true:=by simp;omega
  have HR:Hid (qCc c=qIz.contains c.toNat):=qEw c (by omega)
  clear hr h256
  go_enter Tryz.func136,Tryz.ntmps136
  go_wp2
  go_loop [3] (fun i=>∃k:Nat,k≤17∧i=.int .i64 k∧Hid (qG0 c.toNat k)) (fun i=>17-(intOf i).toNat)
  case atStart=>exact⟨0,by omega,rfl,fun j hj=>absurd hj (Nat.not_lt_zero j)⟩
  case round =>
   obtain⟨k,hk,rfl,HN⟩:=hrel
   by_cases hlt:k<17
   ·have hb:k<(ByteArray.mk #[126,33,64,36,37,94,38,42,95,45,43,61,60,62,46,63,47]).size:=hlt
    have HA:=Lib.hid (qK0 hb)
    by_cases he:(((ByteArray.mk #[126,33,64,36,37,94,38,42,95,45,43,61,60,62,46,63,47])[k]).toNat:Int)=(c.toNat:Int)
    ·have e1:=qAo he
     have HE:=Lib.hid he
     clear he
     go_wp2
     go_ret
     exact⟨qAa (by rw[HR.out];symm;rw[List.contains_iff_mem];exact List.mem_of_getElem? (HA.out.trans (congrArg some (by have:=HE.out;omega)))),rfl⟩
    ·have e1:=qA9 he
     have HE:=Lib.hid he
     clear he
     go_wp2
     go_round
     case rel=>exact⟨k+1,by omega,by go_num,HN.out.step HA.out (fun e=>HE.out (by omega))⟩
     case measure=>simp[intOf];omega
   ·obtain rfl:k=17:=by omega
    go_wp2
    go_ret
    exact⟨qAa (by rw[HR.out,HN.out.all]),rfl⟩
 ·have d48:decide ((48:Int)≤(c.toNat:Int))=true:=by simp;omega
  have d65:decide ((65:Int)≤(c.toNat:Int))=true:=by simp;omega
  have d97:decide ((97:Int)≤(c.toNat:Int))=true:=by simp;omega
  have d57:decide ((c.toNat:Int)≤57)=false:=by simp;omega
  have d90:decide ((c.toNat:Int)≤90)=false:=by simp;omega
  have d122:decide ((c.toNat:Int)≤122)=true:=by simp;omega
  have HR:Hid (qCc c=true):=qMa c (by omega)
  clear hr h256
  go_enter Tryz.func136,Tryz.ntmps136
  go_wp2
  go_ret
  exact⟨qAa HR.out.symm,rfl⟩
 ·have d48:decide ((48:Int)≤(c.toNat:Int))=true:=by simp;omega
  have d65:decide ((65:Int)≤(c.toNat:Int))=true:=by simp;omega
  have d97:decide ((97:Int)≤(c.toNat:Int))=true:=by simp;omega
  have d57:decide ((c.toNat:Int)≤57)=false:=by simp;omega
  have d90:decide ((c.toNat:Int)≤90)=false:=by simp;omega
  have d122:decide ((c.toNat:Int)≤122)=false:=by simp;omega
  have HR:Hid (qCc c=qIz.contains c.toNat):=qEw c (by omega)
  clear hr h256
  go_enter Tryz.func136,Tryz.ntmps136
  go_wp2
  go_loop [3] (fun i=>∃k:Nat,k≤17∧i=.int .i64 k∧Hid (qG0 c.toNat k)) (fun i=>17-(intOf i).toNat)
  case atStart=>exact⟨0,by omega,rfl,fun j hj=>absurd hj (Nat.not_lt_zero j)⟩
  case round =>
   obtain⟨k,hk,rfl,HN⟩:=hrel
   by_cases hlt:k<17
   ·have hb:k<(ByteArray.mk #[126,33,64,36,37,94,38,42,95,45,43,61,60,62,46,63,47]).size:=hlt
    have HA:=Lib.hid (qK0 hb)
    by_cases he:(((ByteArray.mk #[126,33,64,36,37,94,38,42,95,45,43,61,60,62,46,63,47])[k]).toNat:Int)=(c.toNat:Int)
    ·have e1:=qAo he
     have HE:=Lib.hid he
     clear he
     go_wp2
     go_ret
     exact⟨qAa (by rw[HR.out];symm;rw[List.contains_iff_mem];exact List.mem_of_getElem? (HA.out.trans (congrArg some (by have:=HE.out;omega)))),rfl⟩
    ·have e1:=qA9 he
     have HE:=Lib.hid he
     clear he
     go_wp2
     go_round
     case rel=>exact⟨k+1,by omega,by go_num,HN.out.step HA.out (fun e=>HE.out (by omega))⟩
     case measure=>simp[intOf];omega
   ·obtain rfl:k=17:=by omega
    go_wp2
    go_ret
    exact⟨qAa (by rw[HR.out,HN.out.all]),rfl⟩
theorem qNb (c:UInt8) (b:Bool) (w:World) (h:qCc c=b):Calls Tryz.prog 136 #[.int .u8 c.toNat] w fun e w'=>e=.returned (.bool b)∧w=w':=by
 have:=qT3 c w;rw[h] at this;exact this
theorem bsz (l:List UInt8):(qA8 l).size=l.length:=by show l.toArray.size=_;simp
theorem bdt (l:List UInt8):(qA8 l).data.toList=l:=by show l.toArray.toList=_;simp
def qJ0 (l:List UInt8):Bool:=decide (l.length≤100)&&l.all qFd
def qZh (l:List UInt8):Bool:=decide (0<l.length)&&(decide (l.length≤100)&&l.all qCc)
mutual
def dW:Tree→Int
 | .node k _ l=>if k=3 then wrap64 (dWL l 0+1) else 0
def dWL:List Tree→Int→Int
 | [],n=>n
 | t :: r,n=>dWL r (max n (dW t))
end
mutual
def stW:Tree→Bool
 | .node k s l=>if k=3 then (qOa l&&s.isEmpty) else if 0<l.length then false else if k=0 then qJ0 s else if k=1 then ((qEk s != 20)&&decide (s.length≤100)) else if k=2 then qZh s else false
def qOa:List Tree→Bool
 | []=>true
 | t :: r=>stW t&&qOa r
end
def sxB (t:Tree):Bool:=decide (dW t≤60)&&stW t
theorem qX8 {t:Tree} (h:t.kind=3):dW t=wrap64 (dWL t.kids 0+1):=by cases t with|node k s l=>simp only[Tree.kind] at h;simp only[dW,h,if_true,Tree.kids]
theorem qX9 {t:Tree} (h:¬t.kind=3):dW t=0:=by cases t with|node k s l=>simp only[Tree.kind] at h;simp only[dW,h,if_false]
theorem qT4 {t:Tree} (h:t.kind=3):stW t=(qOa t.kids&&t.text.isEmpty):=by cases t with|node k s l=>simp only[Tree.kind] at h;simp only[stW,h,if_true,Tree.kids,Tree.text]
theorem qT5 {t:Tree} (h:¬t.kind=3):stW t=(if 0<t.kids.length then false else if t.kind=0 then qJ0 t.text else if t.kind=1 then ((qEk t.text != 20)&&decide (t.text.length≤100)) else if t.kind=2 then qZh t.text else false):=by
 cases t with|node k s l =>
  show stW (.node k s l)=_
  unfold stW
  exact if_neg h
theorem qNc:∀(l:List Tree) (t:Tree) (n:Int),dWL (l++[t]) n=max (dWL l n) (dW t)
 | [],t,n=>by simp only[List.nil_append,dWL]
 | x :: r,t,n=>by simp only[List.cons_append,dWL];exact qNc r t _
theorem qL1:∀(l:List Tree) (t:Tree),qOa (l++[t])=(qOa l&&stW t)
 | [],t=>by simp only[List.nil_append,qOa,Bool.and_true,Bool.true_and]
 | x :: r,t=>by simp only[List.cons_append,qOa];rw[qL1 r t,Bool.and_assoc]
theorem qEi {α:Type} {l:List α} {k:Nat} {y:α} (h:l[k]? = some y):l.take (k+1)=l.take k++[y]:=by
 rw[List.take_add_one,h];rfl
theorem qT6 {l:List Tree} {k:Nat} {c:Tree} (h:l[k]? = some c):dWL (l.take (k+1)) 0=max (dWL (l.take k) 0) (dW c):=by rw[qEi h,qNc]
theorem qQb {l:List Tree} {k:Nat} {c:Tree} (h:l[k]? = some c):qOa (l.take (k+1))=(qOa (l.take k)&&stW c):=by rw[qEi h,qL1]
theorem qNd:∀ {l:List Tree} {c:Tree},c∈l→stW c=false→qOa l=false
 | x :: r,c,h,hc=>by
  simp only[qOa]
  rcases List.mem_cons.1 h with rfl|h
  ·rw[hc];rfl
  ·rw[qNd h hc,Bool.and_false]
set_option maxHeartbeats 4000000 in
theorem qT7:∀(n:Nat) (t:Tree) (v:Value) (w:World),szT t≤n→Sx w t v →
  Calls Tryz.prog 109 #[v] w fun e w'=>e=.returned (.int .i64 (dW t))∧Below w.heap.size w w':=by
 intro n
 induction n with
 | zero=>intro t v w hn;rw[qF3] at hn;omega
 | succ n ih =>
  intro t v w hn hr
  have hkid:∀c∈t.kids,szT c≤n:=fun c hc=>by
   have:=qMk hc
   rw[qF3] at hn
   omega
  obtain⟨a,cap,rfl,hl,hc,hs,hk⟩:=hr.parts
  have HK:=Lib.hid hk
  have HB0:Hid (Below w.heap.size w (w.alloc (.cells #[.int .i8 t.kind,.string (qA8 t.text),.slice a t.kids.length cap] 60))):=(Below.refl _ _).alloc (Nat.le_refl _) _
  have HX0:Hid ((w.alloc (.cells #[.int .i8 t.kind,.string (qA8 t.text),.slice a t.kids.length cap] 60)).heap[w.heap.size]? = some (.cells #[.int .i8 t.kind,.string (qA8 t.text),.slice a t.kids.length cap] 60 (0,0))):=heap_alloc_new w _
  by_cases h3:t.kind=3
  ·have HDT:=Lib.hid (qX8 h3)
   obtain⟨kids,hkids⟩:∃kids,kids=t.kids:=⟨_,rfl⟩
   rw[←hkids] at HK HB0 HX0 HDT hkid hl ⊢
   have HIH:Hid (∀c∈kids,∀(v:Value) (W:World),Sx W c v→Calls Tryz.prog 109 #[v] W fun e w'=>e=.returned (.int .i64 (dW c))∧Below W.heap.size W w'):=fun c hc v W hv=>ih c v W (hkid c hc) hv
   rw[h3] at HB0 HX0 ⊢
   have hkm:kids.length≤9223372036854775807:=by simp only[maxLen] at hc;omega
   have e2:((3:Int) != 3)=false:=rfl
   clear hr hk h3 ih hkid hkids hn
   go_enter Tryz.func109,Tryz.ntmps109
   go_wp2
   obtain⟨W0,hW0⟩:∃W0,W0=w.alloc (.cells #[.int .i8 3,.string (qA8 t.text),.slice a kids.length cap] 60):=⟨_,rfl⟩
   rw[←hW0] at HB0 HX0 ⊢
   clear hW0
   go_loopw [3,4] (fun d i wr=>∃k:Nat,k≤kids.length∧i=.int .i64 k∧d=.int .i64 (dWL (kids.take k) 0)∧Hid (Below w.heap.size w wr)∧Hid (wr.heap[w.heap.size]? = some (.cells #[.int .i8 3,.string (qA8 t.text),.slice a kids.length cap] 60 (0,0)))) (fun _ i _=>kids.length-(intOf i).toNat)
   case atStart=>exact⟨0,Nat.zero_le _,rfl,rfl,HB0,HX0⟩
   case round =>
    obtain⟨k,hkl,rfl,rfl,HB,HX⟩:=hrel
    have x2:=cell_of_row _ _ 2 _ _ _ HX.out
    simp only[List.getElem?_toArray,List.getElem?_cons_zero,List.getElem?_cons_succ] at x2
    by_cases hlt:k<kids.length
    ·obtain⟨c,hcc⟩:∃c,kids[k]? = some c:=⟨_,List.getElem?_eq_getElem hlt⟩
     have hks:SxL wr kids a:=SxL.below HK.out HB.out
     obtain⟨g,o,rfl,_,hg,_,_⟩:=hks.addr (by omega)
     obtain⟨_,v0,v1,v2,c0,c1,c2,hrt⟩:=hks.get kids g o k c hcc
     obtain⟨ca,cc,hv,_,_,_,_⟩:=hrt.parts
     simp only[Value.agg.injEq,Array.mk.injEq,List.cons.injEq,and_true] at hv
     obtain⟨rfl,rfl,rfl⟩:=hv
     have c2':wr.cell? ⟨g,o+k*3+2,none⟩=some (.slice ca c.kids.length cc):=c2
     have HNX:=Lib.hid (qT6 hcc)
     have HCALL:=Lib.hid (HIH.out c (List.mem_of_getElem? hcc) _ wr hrt.sx)
     obtain⟨d,hd⟩:∃d,dWL (kids.take k) 0=d:=⟨_,rfl⟩
     obtain⟨m,hm⟩:∃m,dW c=m:=⟨_,rfl⟩
     rw[hm] at HCALL
     rw[hd,hm] at HNX
     rw[hd]
     have hzw:w.heap.size<wr.heap.size:=(Array.getElem?_eq_some_iff.1 HX.out).1
     clear hks hrt hd hm hcc
     go_wp2_with fail
     refine HCALL.out.mono ?_
     rintro e w2 ⟨rfl,hb2⟩
     have HX2:=Lib.hid ((hb2.block _ hzw).trans HX.out)
     have HB2:Hid (Below w.heap.size w w2):=HB.out.trans (hb2.mono (by omega))
     clear hb2
     go_wp2_with fail
     go_roundw
     case rel=>exact⟨k+1,by omega,by go_num,by rw[HNX.out];first|done|(congr 1;omega),HB2.out,HX2.out⟩
     case measure=>simp[intOf];omega
    ·obtain rfl:k=kids.length:=by omega
     have hall:kids.take kids.length=kids:=List.take_length
     rw[hall]
     obtain⟨d,hd⟩:∃d,dWL kids 0=d:=⟨_,rfl⟩
     rw[hd] at HDT ⊢
     clear hd hall
     go_wp2
     go_ret
     exact⟨by rw[HDT.out];rfl,HB.out⟩
  ·have e1:=qAr h3
   have HDT:=Lib.hid (qX9 h3)
   clear hr hk h3 ih hkid hn
   go_enter Tryz.func109,Tryz.ntmps109
   go_wp2
   go_ret
   exact⟨by rw[HDT.out];rfl,HB0.out⟩
theorem qXa (l:List UInt8) (r:Bool) (w:World) (hs:l.length≤9223372036854775807) (hr:qZh l=r) :
  Calls Tryz.prog 122 #[.string (qA8 l)] w fun e w'=>e=.returned (.bool r)∧w=w':=by
 obtain⟨s,hS⟩:∃s,qA8 l=s:=⟨_,rfl⟩
 have hsz:s.size=l.length:=by rw[←hS,bsz]
 have hdt:s.data.toList=l:=by rw[←hS,bdt]
 rw[hS]
 have HR:=Lib.hid hr
 have HD:=Lib.hid hdt
 clear hr hS
 by_cases h0:s.size=0
 ·have e0:(s.toList == [])=true:=by rw[ByteArray.toList_eq,hdt];have:l=[]:=List.eq_nil_of_length_eq_zero (by omega);rw[this];rfl
  have HF:Hid (r=false):=by show _=_;rw[←HR.out];unfold qZh;rw[decide_eq_false (by omega)];rfl
  clear hdt hsz h0
  go_enter Tryz.func122,Tryz.ntmps122
  go_wp2
  go_ret
  exact⟨qAa HF.out.symm,rfl⟩
 have e0:(s.toList == [])=false:=by
  rw[ByteArray.toList_eq,hdt]
  cases l with
  | nil=>exact absurd (by simpa using hsz) h0
  | cons a b=>rfl
 by_cases h1:100<s.size
 ·have HF:Hid (r=false):=by show _=_;rw[←HR.out];unfold qZh;rw[decide_eq_false (p:=l.length≤100) (by omega)];simp
  have hsm:s.size≤9223372036854775807:=by omega
  clear hdt hsz h0 hs
  go_enter Tryz.func122,Tryz.ntmps122
  go_wp2
  go_ret
  exact⟨qAa HF.out.symm,rfl⟩
 have HF:Hid (r=s.data.toList.all qCc):=by show _=_;rw[←HR.out,HD.out];unfold qZh;rw[decide_eq_true (p:=0<l.length) (by omega),decide_eq_true (p:=l.length≤100) (by omega)];rfl
 clear hdt hsz hs
 go_enter Tryz.func122,Tryz.ntmps122
 go_wp2
 go_loop [3] (fun i=>∃k:Nat,k≤s.size∧i=.int .i64 k∧Hid (s.data.toList.all qCc=(s.data.toList.drop k).all qCc)) (fun i=>s.size-(intOf i).toNat)
 case atStart=>exact⟨0,Nat.zero_le _,rfl,rfl⟩
 case round =>
  obtain⟨k,hk,rfl,HA⟩:=hrel
  by_cases hlt:k<s.size
  ·cases hc:qCc s[k] with
   | true =>
    have HC:=Lib.hid hc
    clear hc
    go_wp2_with fail
    refine(qNb s[k] true _ HC.out).mono ?_
    rintro e w' ⟨rfl,rfl⟩
    go_wp2
    go_round
    case rel=>exact⟨k+1,by omega,by go_num,by show _=_;rw[HA.out,qFz s k hlt,List.all_cons,HC.out];rfl⟩
    case measure=>simp[intOf];omega
   | false =>
    have HC:=Lib.hid hc
    clear hc
    go_wp2_with fail
    refine(qNb s[k] false _ HC.out).mono ?_
    rintro e w' ⟨rfl,rfl⟩
    go_wp2
    go_ret
    exact⟨qAa (by rw[HF.out,HA.out,qFz s k hlt,List.all_cons,HC.out];simp),rfl⟩
  ·go_wp2
   go_ret
   exact⟨qAa (by rw[HF.out,HA.out,qN9 s k (by omega)];rfl),rfl⟩
set_option maxHeartbeats 4000000 in
theorem qT8:∀(n:Nat) (t:Tree) (v:Value) (r:Bool) (w:World),szT t≤n→Sx w t v→stW t=r →
  Calls Tryz.prog 110 #[v] w fun e w'=>e=.returned (.bool r)∧Below w.heap.size w w':=by
 intro n
 induction n with
 | zero=>intro t v r w hn;rw[qF3] at hn;omega
 | succ n ih =>
  intro t v r w hn hr hst
  have hkid:∀c∈t.kids,szT c≤n:=fun c hc=>by
   have:=qMk hc
   rw[qF3] at hn
   omega
  obtain⟨a,cap,rfl,hl,hc,hs,hk⟩:=hr.parts
  have HK:=Lib.hid hk
  obtain⟨W0,hW0⟩:∃W0,W0=w.alloc (.cells #[.int .i8 t.kind,.string (qA8 t.text),.slice a t.kids.length cap] 60):=⟨_,rfl⟩
  have HB0:Hid (Below w.heap.size w W0):=by show Below _ _ _;rw[hW0];exact(Below.refl _ _).alloc (Nat.le_refl _) _
  have HX0:Hid (W0.heap[w.heap.size]? = some (.cells #[.int .i8 t.kind,.string (qA8 t.text),.slice a t.kids.length cap] 60 (0,0))):=by show _=_;rw[hW0];exact heap_alloc_new w _
  have hkm:t.kids.length≤9223372036854775807:=by simp only[maxLen] at hc;omega
  have hsm:t.text.length≤9223372036854775807:=by simp only[maxLen] at hs;omega
  have hst':(qA8 t.text).size=t.text.length:=bsz _
  by_cases h3:t.kind=3
  ·rw[qT4 h3] at hst
   have HS:=Lib.hid hst
   obtain⟨kids,hkids⟩:∃kids,kids=t.kids:=⟨_,rfl⟩
   have e2:((3:Int) != 3)=false:=rfl
   rw[h3] at hW0 HX0 ⊢
   rw[←hkids] at HK HX0 HS hkid hl hkm hW0 ⊢
   have HIH:Hid (∀c∈kids,∀(v:Value) (W:World),Sx W c v→Calls Tryz.prog 110 #[v] W fun e w'=>e=.returned (.bool (stW c))∧Below W.heap.size W w'):=fun c hc v W hv=>ih c v _ W (hkid c hc) hv rfl
   have HE:Hid ((qA8 t.text).toList.isEmpty=t.text.isEmpty):=by
    show _=_
    rw[ByteArray.toList_eq,bdt]
   clear hr hk h3 ih hkid hkids hn hst hst'
   go_enter Tryz.func110,Tryz.ntmps110
   go_wp2
   rw[←hW0]
   clear hW0
   go_loopw [5] (fun i wr=>∃k:Nat,k≤kids.length∧i=.int .i64 k∧Hid (qOa (kids.take k)=true)∧Hid (Below w.heap.size w wr)∧Hid (wr.heap[w.heap.size]? = some (.cells #[.int .i8 3,.string (qA8 t.text),.slice a kids.length cap] 60 (0,0)))) (fun i _=>kids.length-(intOf i).toNat)
   case atStart=>exact⟨0,Nat.zero_le _,rfl,rfl,HB0,HX0⟩
   case round =>
    obtain⟨k,hkl,rfl,HT,HB,HX⟩:=hrel
    have x1:=cell_of_row _ _ 1 _ _ _ HX.out
    have x2:=cell_of_row _ _ 2 _ _ _ HX.out
    simp only[List.getElem?_toArray,List.getElem?_cons_zero,List.getElem?_cons_succ] at x1 x2
    have hzw:w.heap.size<wr.heap.size:=(Array.getElem?_eq_some_iff.1 HX.out).1
    by_cases hlt:k<kids.length
    ·obtain⟨c,hcc⟩:∃c,kids[k]? = some c:=⟨_,List.getElem?_eq_getElem hlt⟩
     have hks:SxL wr kids a:=SxL.below HK.out HB.out
     obtain⟨g,o,rfl,_,hg,_,_⟩:=hks.addr (by omega)
     obtain⟨_,v0,v1,v2,c0,c1,c2,hrt⟩:=hks.get kids g o k c hcc
     obtain⟨ca,cc,hv,_,_,_,_⟩:=hrt.parts
     simp only[Value.agg.injEq,Array.mk.injEq,List.cons.injEq,and_true] at hv
     obtain⟨rfl,rfl,rfl⟩:=hv
     have c2':wr.cell? ⟨g,o+k*3+2,none⟩=some (.slice ca c.kids.length cc):=c2
     have HNX:=Lib.hid (qQb hcc)
     have HMem:=Lib.hid (fun h=>qNd (List.mem_of_getElem? hcc) h:stW c=false→qOa kids=false)
     have HCALL:=Lib.hid (HIH.out c (List.mem_of_getElem? hcc) _ wr hrt.sx)
     obtain⟨q,hq⟩:∃q,stW c=q:=⟨_,rfl⟩
     rw[hq] at HCALL HNX HMem
     clear hks hrt hcc hq
     cases q with
     | true =>
      go_wp2_with fail
      refine HCALL.out.mono ?_
      rintro e w2 ⟨rfl,hb2⟩
      have HX2:=Lib.hid ((hb2.block _ hzw).trans HX.out)
      have HB2:Hid (Below w.heap.size w w2):=HB.out.trans (hb2.mono (by omega))
      clear hb2
      go_wp2_with fail
      go_roundw
      case rel=>exact⟨k+1,by omega,by go_num,by show _=_;rw[HNX.out,HT.out];rfl,HB2.out,HX2.out⟩
      case measure=>simp[intOf];omega
     | false =>
      have HF:Hid (r=false):=by show _=_;rw[←HS.out,HMem.out rfl];rfl
      go_wp2_with fail
      refine HCALL.out.mono ?_
      rintro e w2 ⟨rfl,hb2⟩
      have HB2:Hid (Below w.heap.size w w2):=HB.out.trans (hb2.mono (by omega))
      clear hb2
      go_wp2_with fail
      go_ret
      exact⟨qAa HF.out.symm,HB2.out⟩
    ·obtain rfl:k=kids.length:=by omega
     have HF:Hid ((qA8 t.text).toList.isEmpty=r):=by show _=_;rw[HE.out,←HS.out];have:=HT.out;rw[List.take_length] at this;rw[this];rfl
     go_wp2
     go_ret
     exact⟨qAa HF.out,HB.out⟩
  ·rw[qT5 h3] at hst
   have e1:=qAr h3
   have e1':=qA9 h3
   have HY0:Hid (∀V,Below W0.heap.size W0 V→V.cell? ⟨w.heap.size,1,none⟩=some (.string (qA8 t.text))∧w.heap.size<V.heap.size):=fun V hV=>by
    have h:=(hV.block _ (Array.getElem?_eq_some_iff.1 HX0.out).1).trans HX0.out
    exact⟨(cell_of_row _ _ 1 _ _ _ h).trans rfl,(Array.getElem?_eq_some_iff.1 h).1⟩
   by_cases h0:0<t.kids.length
   ·rw[if_pos h0] at hst
    subst hst
    have d0:(0:Int)<(t.kids.length:Int):=by omega
    clear hr hk ih hkid hn h3 h0
    go_enter Tryz.func110,Tryz.ntmps110
    go_wp2
    go_ret
    exact⟨rfl,by rw[hW0] at HB0;exact HB0.out⟩
   rw[if_neg h0] at hst
   have d0:¬(0:Int)<(t.kids.length:Int):=by omega
   by_cases k0:t.kind=0
   ·rw[if_pos k0] at hst
    have e2:=qAo k0
    have HC:Hid (Calls Tryz.prog 93 #[.string (qA8 t.text)] W0 fun e w'=>e=.returned (.bool r)∧W0=w'):=qJz _ r W0 (by omega) (by rw[←hst,bdt,hst'];rfl)
    clear hr hk ih hkid hn h3 h0 hst k0 hst'
    go_enter Tryz.func110,Tryz.ntmps110
    go_wp2_with (go_at_call 93;rw[←hW0];clear hW0;refine HC.out.mono ?_;rintro e w1 ⟨rfl,rfl⟩)
    go_ret
    exact⟨rfl,HB0.out⟩
   rw[if_neg k0] at hst
   have e2:=qA9 k0
   by_cases k1:t.kind=1
   ·rw[if_pos k1] at hst
    have e3:=qAo k1
    have HC:Hid (Calls Tryz.prog 121 #[.string (qA8 t.text)] W0 fun e w'=>e=.returned (.tuple #[.int .i64 (qG6 t.text),.int .i64 (qEk t.text)])∧W0=w'):=by
     have:=qO8 (qA8 t.text) W0 (by omega)
     rw[bdt] at this
     exact this
    generalize qG6 t.text=pv at HC
    generalize qEk t.text=pe at HC hst
    by_cases hpe:pe=20
    ·have e4:=qB3 hpe
     have HF:Hid (r=false):=by show _=_;rw[←hst,e4];rfl
     clear hr hk ih hkid hn h3 h0 hst k0 k1 hst' hpe
     go_enter Tryz.func110,Tryz.ntmps110
     go_wp2_with (go_at_call 121;rw[←hW0];clear hW0;refine HC.out.mono ?_;rintro e w1 ⟨rfl,rfl⟩;obtain⟨y1,yz⟩:=HY0.out _ (Below.refl _ _))
     go_ret
     exact⟨qAa HF.out.symm,HB0.out⟩
    have e4:=qAr hpe
    by_cases h100:t.text.length≤100
    ·have HF:Hid (r=true):=by show _=_;rw[←hst,e4,decide_eq_true h100];rfl
     have hle:((qA8 t.text).size:Int)≤100:=by omega
     clear hr hk ih hkid hn h3 h0 hst k0 k1 hst' hpe
     go_enter Tryz.func110,Tryz.ntmps110
     go_wp2_with (go_at_call 121;rw[←hW0];clear hW0;refine HC.out.mono ?_;rintro e w1 ⟨rfl,rfl⟩;obtain⟨y1,yz⟩:=HY0.out _ (Below.refl _ _))
     go_ret
     exact⟨qAa HF.out.symm,HB0.out⟩
    ·have HF:Hid (r=false):=by show _=_;rw[←hst,e4,decide_eq_false h100];rfl
     have hle:¬((qA8 t.text).size:Int)≤100:=by omega
     clear hr hk ih hkid hn h3 h0 hst k0 k1 hst' hpe
     go_enter Tryz.func110,Tryz.ntmps110
     go_wp2_with (go_at_call 121;rw[←hW0];clear hW0;refine HC.out.mono ?_;rintro e w1 ⟨rfl,rfl⟩;obtain⟨y1,yz⟩:=HY0.out _ (Below.refl _ _))
     go_ret
     exact⟨qAa ((decide_eq_false (by omega)).trans HF.out.symm),HB0.out⟩
   rw[if_neg k1] at hst
   have e3:=qA9 k1
   by_cases k2:t.kind=2
   ·rw[if_pos k2] at hst
    have e4:=qAo k2
    have HC:Hid (Calls Tryz.prog 122 #[.string (qA8 t.text)] W0 fun e w'=>e=.returned (.bool r)∧W0=w'):=qXa _ r W0 hsm hst
    clear hr hk ih hkid hn h3 h0 hst k0 k1 k2 hst'
    go_enter Tryz.func110,Tryz.ntmps110
    go_wp2_with (go_at_call 122;rw[←hW0];clear hW0;refine HC.out.mono ?_;rintro e w1 ⟨rfl,rfl⟩)
    go_ret
    exact⟨rfl,HB0.out⟩
   rw[if_neg k2] at hst
   have e4:=qA9 k2
   subst hst
   clear hr hk ih hkid hn h3 h0 k0 k1 k2
   go_enter Tryz.func110,Tryz.ntmps110
   go_wp2
   go_ret
   exact⟨rfl,by rw[hW0] at HB0;exact HB0.out⟩
theorem qQc (t:Tree) (v:Value) (r:Bool) (w:World) (hr:Sx w t v) (hq:sxB t=r) :
  Calls Tryz.prog 100 #[v] w fun e w'=>e=.returned (.bool r)∧Below w.heap.size w w':=by
 obtain⟨a,cap,rfl,hl,hc,hs,hk⟩:=hr.parts
 obtain⟨W0,hW0⟩:∃W0,W0=w.alloc (.cells #[.int .i8 t.kind,.string (qA8 t.text),.slice a t.kids.length cap] 60):=⟨_,rfl⟩
 have HB0:Hid (Below w.heap.size w W0):=by show Below _ _ _;rw[hW0];exact(Below.refl _ _).alloc (Nat.le_refl _) _
 have HX0:Hid (W0.heap[w.heap.size]? = some (.cells #[.int .i8 t.kind,.string (qA8 t.text),.slice a t.kids.length cap] 60 (0,0))):=by show _=_;rw[hW0];exact heap_alloc_new w _
 have HD:Hid (Calls Tryz.prog 109 #[.agg #[.int .i8 t.kind,.string (qA8 t.text),.slice a t.kids.length cap]] W0 fun e w'=>e=.returned (.int .i64 (dW t))∧Below W0.heap.size W0 w'):=qT7 _ t _ W0 (Nat.le_refl _) (hr.below HB0.out)
 have HS:Hid (∀V,Below w.heap.size w V→Calls Tryz.prog 110 #[.agg #[.int .i8 t.kind,.string (qA8 t.text),.slice a t.kids.length cap]] V fun e w'=>e=.returned (.bool (stW t))∧Below V.heap.size V w'):=fun V hV=>qT8 _ t _ _ V (Nat.le_refl _) (hr.below hV) rfl
 have HY0:Hid (∀V,Below W0.heap.size W0 V→V.cell? ⟨w.heap.size,0,none⟩=some (.int .i8 t.kind)∧V.cell? ⟨w.heap.size,1,none⟩=some (.string (qA8 t.text))∧V.cell? ⟨w.heap.size,2,none⟩=some (.slice a t.kids.length cap)∧w.heap.size<V.heap.size):=fun V hV=>by
  have h:=(hV.block _ (Array.getElem?_eq_some_iff.1 HX0.out).1).trans HX0.out
  exact⟨(cell_of_row _ _ 0 _ _ _ h).trans rfl,(cell_of_row _ _ 1 _ _ _ h).trans rfl,(cell_of_row _ _ 2 _ _ _ h).trans rfl,(Array.getElem?_eq_some_iff.1 h).1⟩
 unfold sxB at hq
 generalize dW t=d at HD hq
 generalize stW t=s at HS hq
 clear hr hl hc hs hk
 by_cases hd:d≤60
 ·have HF:Hid (s=r):=by show _=_;rw[←hq,decide_eq_true hd];rfl
  clear hq
  go_enter Tryz.func100,Tryz.ntmps100
  go_wp2_with (first|(go_at_call 109;rw[←hW0];clear hW0;refine HD.out.mono ?_;rintro e w1 ⟨rfl,hb1⟩;have HB1:Hid (Below w.heap.size w w1):=HB0.out.trans (hb1.mono HB0.out.size);obtain⟨y0,y1,y2,yz⟩:=HY0.out _ hb1;clear hb1)|(go_at_call 110;refine(HS.out _ HB1.out).mono ?_;rintro e w2 ⟨rfl,hb2⟩))
  go_ret
  exact⟨qAa HF.out,HB1.out.trans (hb2.mono HB1.out.size)⟩
 ·have HF:Hid (false=r):=by show _=_;rw[←hq,decide_eq_false hd];rfl
  clear hq
  go_enter Tryz.func100,Tryz.ntmps100
  go_wp2_with (first|(go_at_call 109;rw[←hW0];clear hW0;refine HD.out.mono ?_;rintro e w1 ⟨rfl,hb1⟩;have HB1:Hid (Below w.heap.size w w1):=HB0.out.trans (hb1.mono HB0.out.size);obtain⟨y0,y1,y2,yz⟩:=HY0.out _ hb1;clear hb1))
  go_ret
  exact⟨qAa HF.out,HB1.out⟩
theorem qNe (s:ByteArray):(s.toList==s.toList)=true:=by simp
theorem qT9 {y s:ByteArray} (h:¬y=s):(y.toList==s.toList)=false:=by
 simp only[ByteArray.toList_eq,beq_eq_false_iff_ne,ne_eq]
 intro e
 exact h (ByteArray.ext (Array.toList_inj.1 e))
def qTa (l:List UInt8):Bool:=l == [116,114,117,101] || l == [102,97,108,115,101] || l == [110,111,116] || l == [97,110,100] || l == [111,114] || l == [120,111,114] || l == [61,62] || l == [61] || l == [100,105,115,116,105,110,99,116] || l == [105,116,101] || l == [43] || l == [45] || l == [60,61] || l == [60] || l == [62,61] || l == [62]
theorem qXb (s:ByteArray) (r:Bool) (w:World) (h:qTa s.data.toList=r):Calls Tryz.prog 98 #[.string s] w fun e w'=>e=.returned (.bool r)∧w=w':=by
 subst h
 unfold qTa
 rw[←ByteArray.toList_eq]
 by_cases h0:(s.toList == [116,114,117,101])=true
 ·go_enter Tryz.func98,Tryz.ntmps98
  go_wp2
  go_ret
  exact⟨by simp only[h0];rfl,rfl⟩
 rw[Bool.not_eq_true] at h0
 by_cases h1:(s.toList == [102,97,108,115,101])=true
 ·go_enter Tryz.func98,Tryz.ntmps98
  go_wp2
  go_ret
  exact⟨by simp only[h0,h1];rfl,rfl⟩
 rw[Bool.not_eq_true] at h1
 by_cases h2:(s.toList == [110,111,116])=true
 ·go_enter Tryz.func98,Tryz.ntmps98
  go_wp2
  go_ret
  exact⟨by simp only[h0,h1,h2];rfl,rfl⟩
 rw[Bool.not_eq_true] at h2
 by_cases h3:(s.toList == [97,110,100])=true
 ·go_enter Tryz.func98,Tryz.ntmps98
  go_wp2
  go_ret
  exact⟨by simp only[h0,h1,h2,h3];rfl,rfl⟩
 rw[Bool.not_eq_true] at h3
 by_cases h4:(s.toList == [111,114])=true
 ·go_enter Tryz.func98,Tryz.ntmps98
  go_wp2
  go_ret
  exact⟨by simp only[h0,h1,h2,h3,h4];rfl,rfl⟩
 rw[Bool.not_eq_true] at h4
 by_cases h5:(s.toList == [120,111,114])=true
 ·go_enter Tryz.func98,Tryz.ntmps98
  go_wp2
  go_ret
  exact⟨by simp only[h0,h1,h2,h3,h4,h5];rfl,rfl⟩
 rw[Bool.not_eq_true] at h5
 by_cases h6:(s.toList == [61,62])=true
 ·go_enter Tryz.func98,Tryz.ntmps98
  go_wp2
  go_ret
  exact⟨by simp only[h0,h1,h2,h3,h4,h5,h6];rfl,rfl⟩
 rw[Bool.not_eq_true] at h6
 by_cases h7:(s.toList == [61])=true
 ·go_enter Tryz.func98,Tryz.ntmps98
  go_wp2
  go_ret
  exact⟨by simp only[h0,h1,h2,h3,h4,h5,h6,h7];rfl,rfl⟩
 rw[Bool.not_eq_true] at h7
 by_cases h8:(s.toList == [100,105,115,116,105,110,99,116])=true
 ·go_enter Tryz.func98,Tryz.ntmps98
  go_wp2
  go_ret
  exact⟨by simp only[h0,h1,h2,h3,h4,h5,h6,h7,h8];rfl,rfl⟩
 rw[Bool.not_eq_true] at h8
 by_cases h9:(s.toList == [105,116,101])=true
 ·go_enter Tryz.func98,Tryz.ntmps98
  go_wp2
  go_ret
  exact⟨by simp only[h0,h1,h2,h3,h4,h5,h6,h7,h8,h9];rfl,rfl⟩
 rw[Bool.not_eq_true] at h9
 by_cases h10:(s.toList == [43])=true
 ·go_enter Tryz.func98,Tryz.ntmps98
  go_wp2
  go_ret
  exact⟨by simp only[h0,h1,h2,h3,h4,h5,h6,h7,h8,h9,h10];rfl,rfl⟩
 rw[Bool.not_eq_true] at h10
 by_cases h11:(s.toList == [45])=true
 ·go_enter Tryz.func98,Tryz.ntmps98
  go_wp2
  go_ret
  exact⟨by simp only[h0,h1,h2,h3,h4,h5,h6,h7,h8,h9,h10,h11];rfl,rfl⟩
 rw[Bool.not_eq_true] at h11
 by_cases h12:(s.toList == [60,61])=true
 ·go_enter Tryz.func98,Tryz.ntmps98
  go_wp2
  go_ret
  exact⟨by simp only[h0,h1,h2,h3,h4,h5,h6,h7,h8,h9,h10,h11,h12];rfl,rfl⟩
 rw[Bool.not_eq_true] at h12
 by_cases h13:(s.toList == [60])=true
 ·go_enter Tryz.func98,Tryz.ntmps98
  go_wp2
  go_ret
  exact⟨by simp only[h0,h1,h2,h3,h4,h5,h6,h7,h8,h9,h10,h11,h12,h13];rfl,rfl⟩
 rw[Bool.not_eq_true] at h13
 by_cases h14:(s.toList == [62,61])=true
 ·go_enter Tryz.func98,Tryz.ntmps98
  go_wp2
  go_ret
  exact⟨by simp only[h0,h1,h2,h3,h4,h5,h6,h7,h8,h9,h10,h11,h12,h13,h14];rfl,rfl⟩
 rw[Bool.not_eq_true] at h14
 by_cases h15:(s.toList == [62])=true
 ·go_enter Tryz.func98,Tryz.ntmps98
  go_wp2
  go_ret
  exact⟨by simp only[h0,h1,h2,h3,h4,h5,h6,h7,h8,h9,h10,h11,h12,h13,h14,h15];rfl,rfl⟩
 rw[Bool.not_eq_true] at h15
 go_enter Tryz.func98,Tryz.ntmps98
 go_wp2
 go_ret
 exact⟨by simp only[h0,h1,h2,h3,h4,h5,h6,h7,h8,h9,h10,h11,h12,h13,h14,h15];rfl,rfl⟩
def qBg (n:Nat) (i:Int):Bool:=decide (0≤i)&&decide (i<2+(n:Int))
structure SigB (w V:World) (B:Nat) (x:SigV):Prop where
 below:Below w.heap.size w V
 box:V.heap[B]? = some (.cells #[.slice x.sa x.sorts.length x.sc,.slice x.fa x.funs.length x.fc,.slice x.ma x.macs.length x.mc] 26 (0,0))
theorem qAx {V:World} {B:Nat} {a b c:Value} {ty:TypeId} (h:V.heap[B]? = some (.cells #[a,b,c] ty (0,0))):V.cell? ⟨B,0,none⟩=some a∧V.cell? ⟨B,1,none⟩=some b∧V.cell? ⟨B,2,none⟩=some c∧B<V.heap.size :=
 ⟨(cell_of_row _ _ 0 _ _ _ h).trans rfl,(cell_of_row _ _ 1 _ _ _ h).trans rfl,(cell_of_row _ _ 2 _ _ _ h).trans rfl,(Array.getElem?_eq_some_iff.1 h).1⟩
theorem qK1 (x:SigV) (i:Int) (r:Bool) (w:World) (hR:SigR w x) (hr:qBg x.sorts.length i=r) (hi:I64 i) (hl:x.sorts.length≤100) :
  Calls Tryz.prog 108 #[.agg #[.slice x.sa x.sorts.length x.sc,.slice x.fa x.funs.length x.fc,.slice x.ma x.macs.length x.mc],.int .i64 i] w fun e w'=>(∃s,e=.returned (.tuple #[.string s,.bool r]))∧Below w.heap.size w w':=by
 have HB0:Hid (Below w.heap.size w (w.alloc (.cells #[.slice x.sa x.sorts.length x.sc,.slice x.fa x.funs.length x.fc,.slice x.ma x.macs.length x.mc] 26))):=(Below.refl _ _).alloc (Nat.le_refl _) _
 obtain⟨i1,i2⟩:=hi
 by_cases h0:i=0
 ·obtain rfl:r=true:=by rw[←hr,h0];unfold qBg;rw[decide_eq_true (by omega),decide_eq_true (by omega)];rfl
  have e0:=qAo h0
  clear hR hr h0
  go_enter Tryz.func108,Tryz.ntmps108
  go_wp2
  go_ret2
  exact⟨⟨_,rfl⟩,HB0.out⟩
 have e0:=qA9 h0
 by_cases h1:i=1
 ·obtain rfl:r=true:=by rw[←hr,h1];unfold qBg;rw[decide_eq_true (by omega),decide_eq_true (by omega)];rfl
  have e1:=qAo h1
  clear hR hr h0 h1
  go_enter Tryz.func108,Tryz.ntmps108
  go_wp2
  go_ret2
  exact⟨⟨_,rfl⟩,HB0.out⟩
 have e1:=qA9 h1
 by_cases h2:i<2
 ·obtain rfl:r=false:=by rw[←hr];unfold qBg;rw[decide_eq_false (p:=0≤i) (by omega)];rfl
  clear hR hr h0 h1
  go_enter Tryz.func108,Tryz.ntmps108
  go_wp2
  go_ret2
  exact⟨⟨_,rfl⟩,HB0.out⟩
 by_cases h3:i<2+(x.sorts.length:Int)
 ·obtain rfl:r=true:=by rw[←hr];unfold qBg;rw[decide_eq_true (p:=0≤i) (by omega),decide_eq_true h3];rfl
  obtain⟨k,hk⟩:∃k:Nat,i=k+2:=⟨(i-2).toNat,by omega⟩
  obtain⟨y,hy⟩:∃y,x.sorts[k]? = some y:=⟨_,List.getElem?_eq_getElem (by omega)⟩
  obtain⟨g,o,ha,hg,hcell⟩:=hR.sat (by rw[len_flat qDz];omega)
  have c0:=hcell _ _ ((get_flat qDz x.sorts k 0 y hy (by omega)).trans rfl)
  simp only[Nat.mul_one,Nat.add_zero] at c0
  have hsl:=hR.sl
  have hkl:(k:Int)<(x.sorts.length:Int):=by omega
  have hk0:(0:Int)≤(k:Int):=by omega
  obtain⟨ss,sa,sc,fs,fa,fc,ms,ma,mc⟩:=x
  simp only at ha hkl HB0 hsl
  subst ha
  have hik:i-2=(k:Int):=by omega
  clear hR hr hy hcell h0 h1 hk
  go_enter Tryz.func108,Tryz.ntmps108
  go_wp2
  go_ret2
  exact⟨⟨_,rfl⟩,HB0.out⟩
 ·obtain rfl:r=false:=by rw[←hr];unfold qBg;rw[decide_eq_false (p:=i<2+(x.sorts.length:Int)) h3,Bool.and_false]
  clear hR hr h0 h1
  go_enter Tryz.func108,Tryz.ntmps108
  go_wp2
  go_ret2
  exact⟨⟨_,rfl⟩,HB0.out⟩
theorem qJ9 (x:SigV) (i:Int) (r:Bool) (w:World) (hR:SigR w x) (hr:qBg x.sorts.length i=r) (hi:I64 i) (hl:x.sorts.length≤100) :
  Calls Tryz.prog 99 #[.agg #[.slice x.sa x.sorts.length x.sc,.slice x.fa x.funs.length x.fc,.slice x.ma x.macs.length x.mc],.int .i64 i] w fun e w'=>e=.returned (.bool r)∧Below w.heap.size w w':=by
 obtain⟨W0,hW0⟩:∃W0,W0=w.alloc (.cells #[.slice x.sa x.sorts.length x.sc,.slice x.fa x.funs.length x.fc,.slice x.ma x.macs.length x.mc] 26):=⟨_,rfl⟩
 have HB0:Hid (Below w.heap.size w W0):=by show Below _ _ _;rw[hW0];exact(Below.refl _ w).alloc (Nat.le_refl _) _
 have HC:Hid (Calls Tryz.prog 108 #[.agg #[.slice x.sa x.sorts.length x.sc,.slice x.fa x.funs.length x.fc,.slice x.ma x.macs.length x.mc],.int .i64 i] W0 fun e w'=>(∃s,e=.returned (.tuple #[.string s,.bool r]))∧Below W0.heap.size W0 w'):=qK1 x i r W0 (hR.below HB0.out) hr hi hl
 clear hR hr hi
 go_enter Tryz.func99,Tryz.ntmps99
 go_wp2_with (go_at_call 108;rw[←hW0];clear hW0;refine HC.out.mono ?_;rintro e w1 ⟨⟨s,rfl⟩,hb1⟩)
 go_ret
 exact⟨rfl,HB0.out.trans (hb1.mono HB0.out.size)⟩
end Go.Proofs.YtfgpimhdjlmapaaGreatDoor
