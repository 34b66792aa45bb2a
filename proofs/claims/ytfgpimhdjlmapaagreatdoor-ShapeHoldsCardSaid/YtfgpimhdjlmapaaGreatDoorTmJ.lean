/- Rows of one's own as tables; begins, first. -/
import Derived.DeepKeys4
import Derived.WalkArith
import Derived.Maps.OwnSet
import Derived.Maps.OwnIn
import Derived.Test.YtfgpimhdjlmapaaGreatDoorTmA
import Derived.Deep.RegionHeld3
import Derived.BigQuiet
import Derived.Maps.AppendAt
import Derived.Deep.CutRange
import Derived.Laws.Cover3
import Derived.Laws.Append
import Derived.Test.YtfgpimhdjlmapaaGreatDoorTmD
namespace Go.Proofs.YtfgpimhdjlmapaaGreatDoor.Tm
open Go.RowKit
open Go.Maps (Keyed)
set_option linter.unusedVariables false
set_option maxRecDepth 100000
theorem qZ7:laidOutB Tryz.prog=true:=by kernel_rfl
theorem zD3:(54:TypeId)<Tryz.prog.types.size:=of_decide_eq_true (by kernel_rfl)
theorem qVx:Tryz.prog.keyTypeAt 4 54=true:=by kernel_rfl
theorem qVy:WideMaps.KeyLaw Tryz.prog 54:=deep_law_laid qZ7 (m:=4) (by omega) zD3 qVx (by rw[Tryz.underlying54])
theorem qUz:Keyed Tryz.prog 54:=.of_law qVy
theorem zD4:Tryz.prog.keyType 54=true:=by kernel_rfl
theorem qRu:Tryz.prog.cellsOf 54=8:=by kernel_rfl
theorem qZ8:Tryz.prog.cellsOf 49=1:=by kernel_rfl
theorem qO1:Tryz.prog.cellsOf 3=1:=by kernel_rfl
theorem qRv:Tryz.prog.cellsOf 52=3:=by kernel_rfl
theorem qV0:(2:Nat)<Tryz.prog.types.size:=of_decide_eq_true (by kernel_rfl)
theorem zBw:∃m,Tryz.prog.types.size=m+3:=⟨_,(Nat.sub_add_cancel qV0).symm⟩
theorem wf8 {x:Int} (h:I8 x):(Lit.int .i8 x).wf=true:=by
 have h1:IntKind.min .i8=-128:=by decide
 have h2:IntKind.max .i8=127:=by decide
 simp only[Lit.wf,h1,h2,Bool.and_eq_true,decide_eq_true_eq]
 exact h
theorem zDh {x:Int} (h:I64 x):(Lit.int .i64 x).wf=true:=by
 obtain⟨h1,h2⟩:=h
 simp[Lit.wf,IntKind.min,IntKind.max,IntKind.signed,IntKind.bits]
 omega
def kn (n:NodeA):Lit:=.string (keyBytes [.int .i8 n.op,.int .i8 n.len,.int .i64 n.a0,.int .i64 n.a1,.int .i64 n.a2,.int .i64 n.sort,.int .i64 n.fn,.int .i64 n.num])
theorem zDi (m:Nat) (x:Int) (h:I8 x):Tryz.prog.keyLits (m+1) 49 [.int .i8 x]=some [.int .i8 x]:=by
 unfold Program.keyLits
 rw[Tryz.underlying49]
 simp[wf8 h]
theorem qOz (m:Nat) (x:Int) (h:I64 x):Tryz.prog.keyLits (m+1) 3 [.int .i64 x]=some [.int .i64 x]:=by
 unfold Program.keyLits
 rw[Tryz.underlying3]
 simp[zDh h]
theorem zDt (m:Nat) (a b c:Int) (ha:I64 a) (hb:I64 b) (hc:I64 c):Tryz.prog.keyLits (m+2) 52 [.int .i64 a,.int .i64 b,.int .i64 c]=some [.int .i64 a,.int .i64 b,.int .i64 c]:=by
 unfold Program.keyLits
 rw[Tryz.underlying52]
 have hr:List.range 3=[0,1,2]:=rfl
 simp only[qO1,hr,List.length_cons,List.length_nil,List.mapM_cons,List.mapM_nil,List.drop_zero,List.take_succ_cons,List.take_zero,List.drop_succ_cons,Nat.mul_one,qOz m a ha,qOz m b hb,qOz m c hc]
 simp[qRv]
theorem zDu (m:Nat) (n:NodeA) (h:NodeOk n):Tryz.prog.keyLits (m+3) 54 (qC8 n)=some [.int .i8 n.op,.int .i8 n.len,.int .i64 n.a0,.int .i64 n.a1,.int .i64 n.a2,.int .i64 n.sort,.int .i64 n.fn,.int .i64 n.num]:=by
 unfold Program.keyLits qC8
 rw[Tryz.underlying54,qRu]
 simp only[List.length_cons,List.length_nil,List.mapM_cons,List.mapM_nil,qZ8,qO1,qRv,List.drop_zero,List.take_succ_cons,List.take_zero,List.drop_succ_cons,zDi _ _ h.op,zDi _ _ h.len,zDt _ _ _ _ h.a0 h.a1 h.a2,qOz _ _ h.sort,qOz _ _ h.fn,qOz _ _ h.num]
 simp
theorem qLq (n:NodeA) (h:NodeOk n):keyOf Tryz.prog 54 (.agg #[.int .i8 n.op,.int .i8 n.len,.int .i64 n.a0,.int .i64 n.a1,.int .i64 n.a2,.int .i64 n.sort,.int .i64 n.fn,.int .i64 n.num])=some (kn n):=by
 obtain⟨m,hm⟩:=zBw
 unfold keyOf
 rw[Tryz.underlying54]
 have hf:(.agg #[.int .i8 n.op,.int .i8 n.len,.int .i64 n.a0,.int .i64 n.a1,.int .i64 n.a2,.int .i64 n.sort,.int .i64 n.fn,.int .i64 n.num]:Value).formed Tryz.prog 54=true:=by
  unfold Value.formed
  rw[Tryz.underlying54,qRu]
  rfl
 have hc:(.agg #[.int .i8 n.op,.int .i8 n.len,.int .i64 n.a0,.int .i64 n.a1,.int .i64 n.a2,.int .i64 n.sort,.int .i64 n.fn,.int .i64 n.num]:Value).cells.toList=qC8 n:=rfl
 simp only[zD4,hf,Bool.true_and,if_true,hc]
 rw[hm,zDu (m+1) n h]
 rfl
theorem qRw {x y:NodeA} (hx:NodeOk x) (hy:NodeOk y) (h:kn x=kn y):x=y:=by
 have h1:=qLq x hx
 have h2:=qLq y hy
 rw[h] at h1
 have:=qVy.inj h1 h2
 obtain⟨⟩:=x
 obtain⟨⟩:=y
 simp only[Value.agg.injEq,Array.mk.injEq,List.cons.injEq,Value.int.injEq,and_true,true_and] at this
 simp_all
theorem qFr (x y:NodeA) (hx:NodeOk x) (hy:NodeOk y) (w:World):(Op.equal 54 (.agg #[.int .i8 x.op,.int .i8 x.len,.int .i64 x.a0,.int .i64 x.a1,.int .i64 x.a2,.int .i64 x.sort,.int .i64 x.fn,.int .i64 x.num]) (.agg #[.int .i8 y.op,.int .i8 y.len,.int .i64 y.a0,.int .i64 y.a1,.int .i64 y.a2,.int .i64 y.sort,.int .i64 y.fn,.int .i64 y.num])).run Tryz.prog w=.ok (decide (x=y)) w:=by
 obtain⟨r,hr,hi⟩:=run_equal_deep w (m:=4) (by omega) qVx (by rw[Tryz.underlying54]) (qLq x hx) (qLq y hy)
 rw[hr]
 have:r=decide (x=y):=by
  by_cases h:x=y
  ·subst h
   rw[hi.2 rfl];simp
  ·rw[decide_eq_false h]
   exact Bool.eq_false_iff.2 (fun e=>h (qRw hx hy (hi.1 e)))
 rw[this]
theorem qFa (x y:NodeA) (hx:NodeOk x) (hy:NodeOk y) (w:World):(Op.equalIn 10000 54 (.agg #[.int .i8 x.op,.int .i8 x.len,.int .i64 x.a0,.int .i64 x.a1,.int .i64 x.a2,.int .i64 x.sort,.int .i64 x.fn,.int .i64 x.num]) (.agg #[.int .i8 y.op,.int .i8 y.len,.int .i64 y.a0,.int .i64 y.a1,.int .i64 y.a2,.int .i64 y.sort,.int .i64 y.fn,.int .i64 y.num])).run Tryz.prog w=.ok (decide (x=y)) w:=qFr x y hx hy w
theorem TabR.drew {w:World} {l:List NodeA} {a:Option Addr} {c:Nat} (h:TabR w l a c):TabR w.drew l a c:=⟨h.le,h.cap,h.tat,h.ok⟩
set_option maxHeartbeats 2000000 in
theorem qRx (l m:List NodeA) (a b:Option Addr) (c d:Nat) (w:World) (hA:TabR w l a c) (hB:TabR w m b d) :
  Calls Tryz.prog 86 #[.slice a l.length c,.slice b m.length d] w fun e w'=>e=.returned (.bool (decide (l=m)))∧Below w.heap.size w w':=by
 obtain⟨r,hr⟩:∃r,decide (l=m)=r:=⟨_,rfl⟩
 rw[hr]
 have HT:Hid (l=m→r=true):=fun h=>by rw[←hr];exact decide_eq_true h
 have HF:Hid (¬l=m→r=false):=fun h=>by rw[←hr];exact decide_eq_false h
 have HA:=Lib.hid hA
 have HB:=Lib.hid hB
 have l1:l.length≤c:=hA.le
 have l2:m.length≤d:=hB.le
 have c1:l.length≤9223372036854775807:=by have:=hA.cap;simp only[maxLen] at this;omega
 have c2:m.length≤9223372036854775807:=by have:=hB.cap;simp only[maxLen] at this;omega
 clear hA hB hr
 by_cases hl:l.length=m.length
 ·have hne:((l.length:Int) != (m.length:Int))=false:=ne_f (by omega)
  have HL:=Lib.hid hl
  clear hl
  go_enter Tryz.func86,Tryz.ntmps86
  go_wp2
  go_loopw [13] (fun i wr=>∃k:Nat,k≤l.length∧i=.int .i64 k∧Hid (Below w.heap.size w wr)∧Hid (l.take k=m.take k)) (fun i _=>l.length-(intOf i).toNat)
  case atStart=>exact⟨0,Nat.zero_le _,rfl,Below.refl _ _,by show _=_;simp⟩
  case round =>
   obtain⟨k,hkl,rfl,HW,HE⟩:=hrel
   by_cases hlt:k<l.length
   ·have hlt2:k<m.length:=by have:=HL.out;omega
    obtain⟨x,hx⟩:∃x,l[k]? = some x:=⟨_,List.getElem?_eq_getElem hlt⟩
    obtain⟨y,hy⟩:∃y,m[k]? = some y:=⟨_,List.getElem?_eq_getElem hlt2⟩
    obtain⟨g,o,rfl,hg,q0,q1,q2,q3,q4,q5,q6,q7⟩:=(HA.out.below HW.out).node hx
    obtain⟨g',o',rfl,hg',r0,r1,r2,r3,r4,r5,r6,r7⟩:=(HB.out.below HW.out).node hy
    have hq:=qFa x y (HA.out.ok x (List.mem_of_getElem? hx)) (HB.out.ok y (List.mem_of_getElem? hy))
    have hq0:=qFr x y (HA.out.ok x (List.mem_of_getElem? hx)) (HB.out.ok y (List.mem_of_getElem? hy))
    have HXY:=Lib.hid (And.intro hx hy)
    clear hx hy
    by_cases hxy:x=y
    ·rw[decide_eq_true hxy] at hq hq0
     have HE2:Hid (l.take (k+1)=m.take (k+1)):=by
      show _=_
      rw[qGj HXY.out.1,qGj HXY.out.2,HE.out,hxy]
     clear hxy
     go_wp2
     go_quiet (fail)
     go_wp2
     go_roundw
     case rel=>exact⟨k+1,by omega,by go_num,qA1 HW.out,HE2⟩
     case measure=>simp[intOf];omega
    ·rw[decide_eq_false hxy] at hq hq0
     have hf:r=false:=HF.out (fun h=>hxy (by have h1:=HXY.out.1;rw[h,HXY.out.2] at h1;exact(Option.some.inj h1).symm))
     subst hf
     clear hxy
     go_wp2
     go_quiet (fail)
     go_wp2
     go_ret
     exact⟨rfl,qA1 HW.out⟩
   ·obtain rfl:k=l.length:=by omega
    have ht:r=true:=HT.out (by have:=HE.out;rw[List.take_length,HL.out,List.take_length] at this;exact this)
    subst ht
    go_wp2
    go_ret
    exact⟨rfl,HW.out⟩
 ·have hf:r=false:=HF.out (fun h=>hl (by rw[h]))
  subst hf
  have hne:((l.length:Int) != (m.length:Int))=true:=qDf (by omega)
  clear hl
  go_enter Tryz.func86,Tryz.ntmps86
  go_wp2
  go_ret
  exact⟨rfl,Below.refl _ _⟩
def qMx:Array Value:=#[.int .i8 0,.int .i8 0,.int .i64 0,.int .i64 0,.int .i64 0,.int .i64 0,.int .i64 0,.int .i64 0,.int .i8 10,.int .i8 0,.int .i64 0,.int .i64 0,.int .i64 0,.int .i64 1,.int .i64 0,.int .i64 0]
theorem qRy {w:World} {b:Nat} {ty:TypeId} (h:w.heap[b]? = some (.cells qMx ty (0,0))):TabR w qE9 (some ⟨b,0,none⟩) 2:=by
 refine⟨Nat.le_refl _,by decide,fun _=>⟨b,0,rfl,(Array.getElem?_eq_some_iff.1 h).1,fun i v hv=>?_⟩,fun n hn=>?_⟩
 ·rw[Nat.zero_add,cell_of_row w b i _ _ _ h,←hv,←Array.getElem?_toList]
  rfl
 ·simp only[qE9,List.mem_cons,List.not_mem_nil,or_false] at hn
  rcases hn with rfl|rfl
  ·exact⟨⟨by decide,by decide⟩,⟨by decide,by decide⟩,⟨by decide,by decide⟩,⟨by decide,by decide⟩,⟨by decide,by decide⟩,⟨by decide,by decide⟩,⟨by decide,by decide⟩,⟨by decide,by decide⟩⟩
  ·exact⟨⟨by decide,by decide⟩,⟨by decide,by decide⟩,⟨by decide,by decide⟩,⟨by decide,by decide⟩,⟨by decide,by decide⟩,⟨by decide,by decide⟩,⟨by decide,by decide⟩,⟨by decide,by decide⟩⟩
theorem qZ9 (w:World):Calls Tryz.prog 85 #[] w fun e w'=>e=.returned (.agg #[.slice (some ⟨w.heap.size+1,0,none⟩) 2 2])∧TabR w' qE9 (some ⟨w.heap.size+1,0,none⟩) 2∧Below w.heap.size w w':=by
 go_enter Tryz.func85,Tryz.ntmps85
 go_wp2
 have hb:=heap_alloc_new (w.alloc (.cells #[.slice (some ⟨w.heap.size+1,0,none⟩) 2 2] 33)) (.cells qMx 54)
 refine bodyPost_ret (v:=.agg #[.slice (some ⟨w.heap.size+1,0,none⟩) 2 2]) (by simp[results,Tryz.results85,go_sem]) rfl ⟨rfl,?_,?_⟩
 ·refine qRy (ty:=54) ?_
  rw[World.size_alloc] at hb
  exact hb
 ·exact((Below.refl _ w).alloc (Nat.le_refl _) _).alloc (by simp) _
theorem qO2 (w:World):Calls Tryz.prog 16 #[] w fun e w'=>e=.returned (.agg #[.slice (some ⟨w.heap.size+1,0,none⟩) 2 2])∧TabR w' qE9 (some ⟨w.heap.size+1,0,none⟩) 2∧Below w.heap.size w w':=by
 go_enter Tryz.func16,Tryz.ntmps16
 go_wp2
 have hb:=heap_alloc_new (w.alloc (.cells #[.slice (some ⟨w.heap.size+1,0,none⟩) 2 2] 33)) (.cells qMx 54)
 refine bodyPost_ret (v:=.agg #[.slice (some ⟨w.heap.size+1,0,none⟩) 2 2]) (by simp[results,Tryz.results16,go_sem]) rfl ⟨rfl,?_,?_⟩
 ·refine qRy (ty:=54) ?_
  rw[World.size_alloc] at hb
  exact hb
 ·exact((Below.refl _ w).alloc (Nat.le_refl _) _).alloc (by simp) _
theorem qV1 (l:List NodeA):∀u∈l.flatMap qC8,u.oneCell'=true:=by
 intro u hu
 obtain⟨x,_,h⟩:=List.mem_flatMap.1 hu
 simp[qC8] at h
 rcases h with rfl|rfl|rfl|rfl|rfl|rfl|rfl|rfl<;>rfl
theorem qLr:(Tryz.prog.info? 54).map (fun i=>(i.zero,i.size,i.bytes))=some (some (.agg #[.int .i8 0,.int .i8 0,.int .i64 0,.int .i64 0,.int .i64 0,.int .i64 0,.int .i64 0,.int .i64 0]),8,56):=by kernel_rfl
theorem own_heap {w w':World} {base size n:Nat} {E:TypeId} {v:Value} {L:List Value} (h:w.ownsRow base E size v n L) (hk:∀g,base≤g→g<w.heap.size→w'.heap[g]? = w.heap[g]?):w'.ownsRow base E size v n L:=by
 refine⟨h.1,?_⟩
 rcases h.2 with h1|⟨g,cap,cur,e,h1,h2,h3⟩
 ·exact .inl h1
 ·exact .inr ⟨g,cap,cur,e,h1,(hk g h1 (Array.getElem?_eq_some_iff.1 h2).1).trans h2,h3⟩
theorem qV2 {w:World} {base base' size n:Nat} {E:TypeId} {v:Value} {L:List Value} (h:w.ownsRow base E size v n L) (hb:base'≤base):w.ownsRow base' E size v n L:=by
 refine⟨h.1,?_⟩
 rcases h.2 with h1|⟨g,cap,cur,e,h1,h2,h3⟩
 ·exact .inl h1
 ·exact .inr ⟨g,cap,cur,e,by omega,h2,h3⟩
theorem own_at {w:World} {base size n:Nat} {E:TypeId} {v:Value} {L:List Value} (h:w.ownsRow base E size v n L):∃a c,v=.slice a n c∧n≤c∧c≤maxLen∧At w w.heap.size L a∧(0<n→∃g,a=some ⟨g,0,none⟩∧base≤g∧g<w.heap.size):=by
 rcases h.2 with⟨rfl,rfl⟩|⟨g,cap,cur,rfl,h1,h2,h3,h4,h5,h6⟩
 ·refine⟨none,0,rfl,Nat.le_refl _,Nat.zero_le _,fun h0=>?_,fun h0=>absurd h0 (by omega)⟩
  have:=h.1
  omega
 ·have hlt:=(Array.getElem?_eq_some_iff.1 h2).1
  have hc:∀(i:Nat) (u:Value),L[i]? = some u→w.cell? ⟨g,i,none⟩=some u:=fun i u hu=>by
   rw[←h6,List.getElem?_take] at hu
   split at hu
   ·have:=cell_of_row w g i _ _ _ h2
    rw[this,←Array.getElem?_toList]
    exact hu
   ·cases hu
  exact⟨_,cap,rfl,h3,h4,fun _=>⟨g,0,rfl,hlt,fun i v hv=>by rw[Nat.zero_add];exact hc i v hv⟩,fun _=>⟨g,rfl,h1,hlt⟩⟩
theorem qZa {w:World} {base:Nat} {l:List NodeA} {v:Value} (h:w.ownsRow base 54 8 v l.length (l.flatMap qC8)) (hok:∀n∈l,NodeOk n):∃a c,v=.slice a l.length c∧TabR w l a c:=by
 obtain⟨a,c,e,h1,h2,h3,_⟩:=own_at h
 exact⟨a,c,e,h1,h2,h3,hok⟩
theorem TabR.take {w:World} {l:List NodeA} {a:Option Addr} {c:Nat} (h:TabR w l a c) (k:Nat):TabR w (l.take k) a c :=
 ⟨by have:=h.le;simp;omega,h.cap,by rw[qLn qBb];exact h.tat.take _,fun n hn=>h.ok n (List.mem_of_mem_take hn)⟩
theorem qRz (a:Option Addr) (n c:Nat) (w:World):(Instr.field 33 (.agg #[.slice a n c]) 0).run Tryz.prog w=.ok (.slice a n c) w:=by kernel_rfl
theorem qP0 (l:List NodeA) (a:Option Addr) (c:Nat) (w:World) (hA:TabR w l a c) :
  Calls Tryz.prog 64 #[.slice a l.length c] w fun e w'=>e=.returned (.bool (decide (l.take 2=qE9)))∧Below w.heap.size w w':=by
 have HN:Hid (∀W,Calls Tryz.prog 85 #[] W fun e w'=>e=.returned (.agg #[.slice (some ⟨W.heap.size+1,0,none⟩) 2 2])∧TabR w' qE9 (some ⟨W.heap.size+1,0,none⟩) 2∧Below W.heap.size W w'):=fun W=>qZ9 W
 have hfd:=qRz
 have hcap:=hA.le
 have hmx:l.length≤9223372036854775807:=by have:=hA.cap;simp only[maxLen] at this;omega
 by_cases h2:2≤l.length
 ·have hl2:(l.take 2).length=2:=by simp;omega
  obtain⟨g,o,rfl,hg,_⟩:=hA.tat (by rw[len_flat qBb];omega)
  have HE:Hid (∀V b,Below w.heap.size w V→TabR V qE9 b 2→Calls Tryz.prog 86 #[.slice (some ⟨g,o,none⟩) 2 c,.slice b 2 2] V fun e w'=>e=.returned (.bool (decide (l.take 2=qE9)))∧Below V.heap.size V w'):=fun V b hV hb=>by
   have:=qRx (l.take 2) qE9 (some ⟨g,o,none⟩) b c 2 V ((hA.take 2).below hV) hb
   rw[hl2] at this
   exact this
  clear hA hl2
  go_enter Tryz.func64,Tryz.ntmps64
  go_wp2_with (first|(go_at_call 85;refine(HN.out _).mono ?_;rintro e w1 ⟨rfl,ht1,hb1⟩;have HT:=Lib.hid ht1;clear ht1)|(go_at_call 86;refine(HE.out _ _ hb1 HT.out).mono ?_;rintro e w2 ⟨rfl,hb2⟩))
  go_ret
  exact⟨rfl,hb1.trans (hb2.mono hb1.size)⟩
 ·have hf:decide (l.take 2=qE9)=false:=decide_eq_false (fun h=>by have:=congrArg List.length h;rw[List.length_take] at this;have e:qE9.length=2:=rfl;omega)
  rw[hf]
  clear hA hf
  go_enter Tryz.func64,Tryz.ntmps64
  go_wp2_with (first|(go_at_call 85;refine(HN.out _).mono ?_;rintro e w1 ⟨rfl,ht1,hb1⟩;have HT:=Lib.hid ht1;clear ht1))
  go_ret
  exact⟨rfl,hb1⟩
end Go.Proofs.YtfgpimhdjlmapaaGreatDoor.Tm
