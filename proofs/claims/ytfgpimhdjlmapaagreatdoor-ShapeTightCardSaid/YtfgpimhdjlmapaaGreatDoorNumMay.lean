/- The functions May, Add and Sub of package num and of the document give what the plain facts say. -/
import Derived.WalkKit
import Derived.ProofKit
import Derived.Outline
import Derived.LoopTactic
import Derived.Handy
import Derived.Lib.Hide
import Derived.Below
import Derived.OneCell
import Derived.OpenShut
import Derived.Deep.RegionHeld3
import Derived.Laws.Strings
import Derived.Test.YtfgpimhdjlmapaaGreatDoorProg
namespace Go.Proofs.YtfgpimhdjlmapaaGreatDoor
open Go.RowKit
def I64 (x:Int):Prop:=-9223372036854775808≤x∧x≤9223372036854775807
theorem qAa {a b:Bool} (h:a=b):Ending.returned (.bool a)=.returned (.bool b):=by rw[h]
theorem qQr {k:IntKind} {a b:Int} (h:a=b):Ending.returned (.int k a)=.returned (.int k b):=by rw[h]
theorem qBl {a b c d:Value} (h:a=c) (g:b=d):Ending.returned (.tuple #[a,b])=.returned (.tuple #[c,d]):=by rw[h,g]
theorem qAt {k:IntKind} {a b:Int} (h:a=b):Value.int k a=.int k b:=by rw[h]
theorem qF0 {a b:Bool} (h:a=b):Value.bool a=.bool b:=by rw[h]
theorem qMf {W w1:World} (hb:Below W.heap.size W w1):(∀b o,b<W.heap.size→w1.cell? ⟨b,o,none⟩=W.cell? ⟨b,o,none⟩)∧(∀b o,b<W.heap.size→w1.frozen? ⟨b,o,none⟩=W.frozen? ⟨b,o,none⟩) :=
 ⟨fun b o h=>hb.cell (p:=⟨b,o,none⟩) h,fun b o h=>hb.frozen (p:=⟨b,o,none⟩) h⟩
def zAv (k:IntKind) (w:World) (a:Option Addr) (len cap:Nat) (zs:List Int):Prop :=
 (a=none∧len=0∧cap=0∧zs=[]) ∨
 ∃x,a=some x∧len≤cap∧cap≤maxLen∧zs.length=cap∧(∀i,i<zs.length→w.cell? (x.add i)=some (.int k (zs.getD i 0)))∧∀n∈zs,(Lit.int k n).wf=true
def qFf (w:World) (B:Nat) (A:Option Addr) (xs:List Int):Prop :=
 0<xs.length→∃b o:Nat,A=some ⟨b,o,none⟩∧b<B∧∀j (h:j<xs.length),w.cell? ⟨b,o+j,none⟩=some (.int .i64 xs[j])
theorem qFf.below {w w':World} {B:Nat} {A:Option Addr} {xs:List Int} (h:qFf w B A xs) (hb:Below B w w'):qFf w' B A xs:=by
 intro h0
 obtain⟨b,o,e,hlt,hc⟩:=h h0
 exact⟨b,o,e,hlt,fun j hj=>(hb.cell (p:=⟨b,o+j,none⟩) hlt).trans (hc j hj)⟩
theorem qFf.more {w:World} {B B':Nat} {A:Option Addr} {xs:List Int} (h:qFf w B A xs) (hB:B≤B'):qFf w B' A xs:=by
 intro h0
 obtain⟨b,o,e,hlt,hc⟩:=h h0
 exact⟨b,o,e,by omega,hc⟩
theorem qFf.take {w:World} {B:Nat} {A:Option Addr} {xs:List Int} (h:qFf w B A xs) (k:Nat):qFf w B A (xs.take k):=by
 intro h0
 obtain⟨b,o,e,hlt,hc⟩:=h (by simp at h0;omega)
 exact⟨b,o,e,hlt,fun j hj=>by rw[List.getElem_take];exact hc j (by simp at hj;omega)⟩
theorem qQs {x:Int} (h:(Lit.int .i64 x).wf=true):I64 x:=by
 have:=bounds_i64 h
 exact⟨by omega,by omega⟩
theorem zAv.ints {w:World} {a:Option Addr} {len cap:Nat} {zs:List Int} (h:zAv .i64 w a len cap zs) :
  ∃xs:List Int,xs.length=len∧xs.length≤9223372036854775807∧xs.length≤cap∧qFf w w.heap.size a xs∧∀x∈xs,I64 x:=by
 rcases h with⟨rfl,rfl,rfl,rfl⟩|⟨x,rfl,hl,hm,hz,hc,hw⟩
 ·exact⟨[],rfl,by simp,by simp,fun h=>by simp at h,fun x hx=>by simp at hx⟩
 ·refine⟨zs.take len,by simp;omega,by unfold maxLen at hm;simp;omega,by simp;omega,fun h0=>?_,fun y hy=>qQs (hw y (List.mem_of_mem_take hy))⟩
  have hp:0<zs.length:=by simp at h0;omega
  obtain⟨b,o,rfl,hcell⟩:=ints_at hc hp
  refine⟨b,o,rfl,World.block_lt_of_cell? (a:=⟨b,o,none⟩) w (by simpa using hcell 0 hp),fun j hj=>?_⟩
  have hj2:j<zs.length:=by simp at hj;omega
  rw[hcell j hj2,List.getElem_take,List.getD_eq_getElem?_getD,List.getElem?_eq_getElem hj2];rfl
set_option linter.unusedVariables false
theorem kP (a:Act) (t:Tmp) (v:Value):a.put (some t) v={ a with tmps:=a.tmps.setIfInBounds t v }:=rfl
theorem kA {α:Type} (l:List α) (i:Nat) (x:α):l.toArray.setIfInBounds i x=(l.set i x).toArray:=by simp
theorem kZ {α:Type} (l:List α) (x y:α):(x :: l).set 0 y=y :: l:=rfl
theorem kS {α:Type} (l:List α) (i:Nat) (x y:α):(x :: l).set (i+1) y=x :: l.set i y:=rfl
theorem k4:(∀(a:Act)(t:Tmp)(v:Value),a.put (some t) v={a with tmps:=a.tmps.setIfInBounds t v})∧(∀(α:Type)(l:List α)(i:Nat)(x:α),l.toArray.setIfInBounds i x=(l.set i x).toArray)∧(∀(α:Type)(l:List α)(x y:α),(x::l).set 0 y=y::l)∧∀(α:Type)(l:List α)(i:Nat)(x y:α),(x::l).set (i+1) y=x::l.set i y:=⟨kP,fun _=>kA,fun _=>kZ,fun _=>kS⟩
theorem tkW {P:Program} {ops:Array Oper} {Q:Exit→Act→World→Prop} {md:Region.Mode} {S:World→Prop} (i:Nat) (v:Value) {oi:Oper} {fuel:Nat} {listed:Array Bool} {a:Act} {w:World} (hv:∀w,S w→(execOp a.eval oi).run P w=.ok (.value v) w) (h:wpAnyH P md ops Q S fuel (listed.setIfInBounds i true) (a.put oi.dst v) w) (hi:ops[i]? = some oi:=by (simp only[List.getElem?_toArray,List.getElem?_cons_succ,List.getElem?_cons_zero];rfl))
  (hs:Region.noSelect ops=true:=by kernel_rfl) (hf:Region.free md ops listed i=true:=by kernel_rfl) (hr:(Region.ready md ops listed).contains i=true:=by kernel_rfl) (hQ:∀c a w,Q (.panic c) (a.put oi.dst v) w→Q (.panic c) a w:=by exact fun _ _ _ h=>h) (hw:Region.wanted oi (yielded ops a.tmps)=true:=by rfl) (hS:S w:=by assumption):wpAnyH P md ops Q S (fuel+1) listed a w :=
 wpAnyH_take hi hs hf hr hQ (.inl ⟨hw,hv⟩) hS h
theorem tkY {P:Program} {ops:Array Oper} {Q:Exit→Act→World→Prop} {md:Region.Mode} {S:World→Prop} (i:Nat) (v:Value) {oi:Oper} {fuel:Nat} {listed:Array Bool} {a:Act} {w:World} (h:wpAnyH P md ops Q S fuel (listed.setIfInBounds i true) (a.put oi.dst v) w) (hi:ops[i]? = some oi:=by (simp only[List.getElem?_toArray,List.getElem?_cons_succ,List.getElem?_cons_zero];rfl))
  (hs:Region.noSelect ops=true:=by kernel_rfl) (hf:Region.free md ops listed i=true:=by kernel_rfl) (hr:(Region.ready md ops listed).contains i=true:=by kernel_rfl) (hQ:∀c a w,Q (.panic c) (a.put oi.dst v) w→Q (.panic c) a w:=by exact fun _ _ _ h=>h) (hw:Region.wanted oi (yielded ops a.tmps)=true:=by rfl) (hS:S w:=by assumption) (hv:∀w,S w→(execOp a.eval oi).run P w=.ok (.value v) w:=by (intro w hSw;(try dsimp only at hSw);go_simp)):wpAnyH P md ops Q S (fuel+1) listed a w :=
 wpAnyH_take hi hs hf hr hQ (.inl ⟨hw,hv⟩) hS h
theorem tkN {P:Program} {ops:Array Oper} {Q:Exit→Act→World→Prop} {md:Region.Mode} {S:World→Prop} (i:Nat) {oi:Oper} {fuel:Nat} {listed:Array Bool} {a:Act} {w:World} (h:wpAnyH P md ops Q S fuel (listed.setIfInBounds i true) (a.put oi.dst undef) w) (hi:ops[i]? = some oi:=by (simp only[List.getElem?_toArray,List.getElem?_cons_succ,List.getElem?_cons_zero];rfl))
  (hs:Region.noSelect ops=true:=by kernel_rfl) (hf:Region.free md ops listed i=true:=by kernel_rfl) (hr:(Region.ready md ops listed).contains i=true:=by kernel_rfl) (hQ:∀c a w,Q (.panic c) (a.put oi.dst undef) w→Q (.panic c) a w:=by exact fun _ _ _ h=>h) (hw:Region.wanted oi (yielded ops a.tmps)=false:=by rfl) (hS:S w:=by assumption):wpAnyH P md ops Q S (fuel+1) listed a w :=
 wpAnyH_take hi hs hf hr hQ (.inr ⟨hw,rfl⟩) hS h
def qAn (n:Int):Bool:=decide (-4611686018427387904≤n∧n≤4611686018427387904)
theorem qAc {n:Int}:qAn n=true↔-4611686018427387904≤n∧n≤4611686018427387904:=by unfold qAn;simp
theorem qGw {n:Int}:qAn n=false↔n < -4611686018427387904∨4611686018427387904<n:=by unfold qAn;simp;omega
theorem qXn {x:Int} (lo:-9223372036854775808≤x) (hi:x≤9223372036854775807)
  (h:(IntKind.u64.wrap (IntKind.u64.wrap x+4611686018427387904) / 9223372036854775808 != 0)=true ∧
   (IntKind.u64.wrap (IntKind.u64.wrap (IntKind.u64.wrap x+4611686018427387904)*2) != 0)=true):qAn x=false:=by
 rw[qGw]
 obtain⟨h1,h2⟩:=h
 simp only[bne_iff_ne,ne_eq,IntKind.wrap_u64] at h1 h2
 omega
theorem qXo {x:Int} (lo:-9223372036854775808≤x) (hi:x≤9223372036854775807)
  (h:IntKind.u64.wrap (IntKind.u64.wrap x+4611686018427387904) / 9223372036854775808=0):qAn x=true:=by
 rw[qAc]
 simp only[IntKind.wrap_u64] at h
 omega
theorem qXp {x:Int} (lo:-9223372036854775808≤x) (hi:x≤9223372036854775807)
  (h:(IntKind.u64.wrap (IntKind.u64.wrap x+4611686018427387904) / 9223372036854775808 != 0)=false ∨
   (IntKind.u64.wrap (IntKind.u64.wrap (IntKind.u64.wrap x+4611686018427387904)*2) != 0)=false):qAn x=true:=by
 rw[qAc]
 simp only[bne_eq_false_iff_eq,IntKind.wrap_u64] at h
 omega
def qD4 (a b:Int):Bool:=qAn a&&(qAn b&&qAn (a+b))
def qC6 (a b:Int):Int:=if qD4 a b=true then a+b else 0
def qC4 (a b:Int):Int:=if qD4 a b=true then 0 else 10
def qFc (a b:Int):Int:=if qD4 a (-b)=true then a-b else 0
def qFs (a b:Int):Int:=if qD4 a (-b)=true then 0 else 10
theorem qB5 {a b:Int}:qD4 a b=true↔(-4611686018427387904≤a∧a≤4611686018427387904)∧(-4611686018427387904≤b∧b≤4611686018427387904)∧(-4611686018427387904≤a+b∧a+b≤4611686018427387904):=by
 unfold qD4;simp[qAc]
theorem qI7 {a b:Int} (h:qD4 a b=false):¬((-4611686018427387904≤a∧a≤4611686018427387904)∧(-4611686018427387904≤b∧b≤4611686018427387904)∧(-4611686018427387904≤a+b∧a+b≤4611686018427387904)):=by
 rw[←qB5,h];simp
theorem qKa {a b:Int} (h:qD4 a b=false):(qAn a&&(qAn b&&qAn (wrap64 (a+b))))=false:=by
 have h':=qI7 h
 cases e:(qAn a&&(qAn b&&qAn (wrap64 (a+b)))) with
 | false=>rfl
 | true =>
  exfalso
  simp only[Bool.and_eq_true,qAc,wrap64] at e
  omega
theorem qTq {a b:Int} (h:qD4 a (-b)=false):(qAn a&&(qAn b&&qAn (wrap64 (a-b))))=false:=by
 have h':=qI7 h
 cases e:(qAn a&&(qAn b&&qAn (wrap64 (a-b)))) with
 | false=>rfl
 | true =>
  exfalso
  simp only[Bool.and_eq_true,qAc,wrap64] at e
  omega
/-! ## Numerals -/
def isD (c:UInt8):Bool:=decide (48≤c.toNat∧c.toNat≤57)
theorem qNn {c:UInt8}:isD c=true↔48≤c.toNat∧c.toNat≤57:=by unfold isD;simp
theorem qL4 {c:UInt8}:isD c=false↔c.toNat<48∨57<c.toNat:=by unfold isD;simp;omega
def qP4:List UInt8→Bool
 | []=>false
 | c :: l=>!(c==48 && !l.isEmpty)&&(c :: l).all isD
def qIt (l:List UInt8):Nat:=l.foldl (fun n c=>n*10+(c.toNat-48)) 0
theorem qQt (l:List UInt8) (c:UInt8):qIt (l++[c])=qIt l*10+(c.toNat-48):=by
 unfold qIt;rw[List.foldl_append];rfl
theorem qNo:qIt []=0:=rfl
theorem qTr (l:List UInt8):∀n:Nat,n≤l.foldl (fun n c=>n*10+(c.toNat-48)) n:=by
 induction l with
 | nil=>intro n;exact Nat.le_refl _
 | cons c l ih=>intro n;exact Nat.le_trans (by omega) (ih (n*10+(c.toNat-48)))
theorem qL5 (l:List UInt8) (k:Nat):qIt (l.take k)≤qIt l:=by
 have h:qIt l=(l.drop k).foldl (fun n c=>n*10+(c.toNat-48)) (qIt (l.take k)):=by
  unfold qIt;rw[←List.foldl_append,List.take_append_drop]
 rw[h];exact qTr _ _
theorem qJ3 (l:List UInt8) (k:Nat) (h:k<l.length):qIt (l.take (k+1))=qIt (l.take k)*10+(l[k].toNat-48):=by
 rw[List.take_succ_eq_append_getElem h,qQt]
def qG6 (l:List UInt8):Int:=if qP4 l=true then (if qIt l≤4611686018427387904 then qIt l else 0) else 0
def qEk (l:List UInt8):Int:=if qP4 l=true then (if qIt l≤4611686018427387904 then 0 else 10) else 20
theorem qJ4 (l:List UInt8) (k:Nat) (h:k<l.length):(l.take (k+1)).all isD=((l.take k).all isD&&isD l[k]):=by
 rw[List.take_succ_eq_append_getElem h,List.all_append];simp
theorem qG7 (l:List UInt8) (k:Nat) (h:k<l.length) (hm:isD l[k]=false):l.all isD=false:=by
 rw[List.all_eq_false];exact⟨l[k],List.getElem_mem h,by simp[hm]⟩
theorem qXq {l:List UInt8} (h0:0<l.length) (h1:l[0].toNat≠48∨l.length≤1):qP4 l=l.all isD:=by
 cases l with
 | nil=>simp at h0
 | cons c l =>
  show (!(c==48 && !l.isEmpty)&&(c :: l).all isD)=_
  have:(c==48 && !l.isEmpty)=false:=by
   rcases h1 with h1|h1
   ·have:c≠48:=fun e=>h1 (by rw[List.getElem_cons_zero,e];rfl)
    simp[this]
   ·have:l=[]:=by cases l<;>simp_all
    simp[this]
  rw[this];rfl
theorem qQu {l:List UInt8} (h1:l.length=0∨∃h:0<l.length,l[0].toNat=48∧1<l.length):qP4 l=false:=by
 cases l with
 | nil=>rfl
 | cons c l =>
  rcases h1 with h1|⟨h0,h1,h2⟩
  ·simp at h1
  ·unfold qP4
   have e:c=48:=UInt8.toNat_inj.1 (by simpa using h1)
   have:l≠[]:=by rintro rfl;simp at h2
   simp[e,this]
theorem qQv {l:List UInt8} (h:qP4 l=true):l.all isD=true:=by
 cases l with
 | nil=>simp[qP4] at h
 | cons c l=>unfold qP4 at h;simp only[Bool.and_eq_true] at h;exact h.2
theorem qI8 {s:ByteArray}:s.toList=[]↔s.size=0:=by
 rw[ByteArray.toList_eq]
 constructor
 ·intro h
  have:=congrArg List.length h
  simpa using this
 ·intro h
  exact List.eq_nil_of_length_eq_zero (by simpa using h)
def cap (most:Int):Int:=if most<0 then 0 else if most≤4611686018427387904 then most else 4611686018427387904
theorem qG8 (xs:List Int) (k:Nat) (h:k<xs.length):(xs.take (k+1)).all qAn=((xs.take k).all qAn&&qAn xs[k]):=by
 rw[List.take_succ_eq_append_getElem h,List.all_append];simp
theorem qL6 (xs:List Int) (k:Nat) (h:k<xs.length) (hm:qAn xs[k]=false):xs.all qAn=false:=by
 rw[List.all_eq_false];exact⟨xs[k],List.getElem_mem h,by simp[hm]⟩
theorem qJe (b c:Nat) (xs:List Int) (w:World) (hn:xs.length≤100) (hx:∀x∈xs,I64 x)
  (hc:∀j,j<xs.length→w.cell? ⟨b,j,none⟩=some (.int .i64 (xs.getD j 0))) :
  Calls Tryz.prog 111 #[.slice (some ⟨b,0,none⟩) xs.length c] w fun e w'=>e=.returned (.bool (xs.all qAn))∧w=w':=by
 have HC:=Lib.hid hc;clear hc
 have HX:=Lib.hid hx;clear hx
 go_enter Tryz.func111,Tryz.ntmps111
 go_wp2
 go_loop [8] (fun i=>∃k:Nat,k≤xs.length∧(xs.take k).all qAn=true∧i=.int .i64 k) (fun i=>xs.length-(intOf i).toNat)
 case atStart=>exact⟨0,Nat.zero_le _,rfl,rfl⟩
 case round =>
  obtain⟨k,hk,hall,rfl⟩:=hrel
  have HA:=Lib.hid hall;clear hall
  by_cases hlt:k<xs.length
  ·have hcell:=HC.out k hlt
   have hb:I64 xs[k]:=HX.out _ (List.getElem_mem hlt)
   obtain⟨lo,hi⟩:=hb
   go_wp2
   ·go_round
    case rel=>exact⟨k+1,by omega,by rw[qG8 xs k hlt,HA.out,qXo lo hi (by assumption)];rfl,by go_num⟩
    case measure=>simp[intOf];omega
   ·go_ret
    exact⟨qAa (qL6 xs k hlt (qXn lo hi (by assumption))).symm,rfl⟩
   ·go_round
    case rel=>exact⟨k+1,by omega,by rw[qG8 xs k hlt,HA.out,qXp lo hi (by assumption)];rfl,by go_num⟩
    case measure=>simp[intOf];omega
  ·go_wp2
   go_ret
   exact⟨qAa (by rw[←HA.out,List.take_of_length_le (by omega)]),rfl⟩
theorem qXr (b:Nat) (n:Int) (w:World) (hn:I64 n) (hc:w.cell? ⟨b,0,none⟩=some (.int .i64 n)) :
  Calls Tryz.prog 111 #[.slice (some ⟨b,0,none⟩) 1 1] w fun e w'=>e=.returned (.bool (qAn n))∧w=w':=by
 have h:=qJe b 1 [n] w (by simp) (by simpa using hn) (by
  intro j hj
  obtain rfl:j=0:=by simpa using hj
  simpa using hc)
 exact h.mono fun _ _ ⟨he,hw⟩=>⟨by rw[he];simp,hw⟩
theorem qQw (b:Nat) (x y z:Int) (w:World) (hx:I64 x) (hy:I64 y) (hz:I64 z) (h0:w.cell? ⟨b,0,none⟩=some (.int .i64 x))
  (h1:w.cell? ⟨b,1,none⟩=some (.int .i64 y)) (h2:w.cell? ⟨b,2,none⟩=some (.int .i64 z)) :
  Calls Tryz.prog 111 #[.slice (some ⟨b,0,none⟩) 3 3] w fun e w'=>e=.returned (.bool (qAn x&&(qAn y&&qAn z)))∧w=w':=by
 have h:=qJe b 3 [x,y,z] w (by simp) (by simpa using ⟨hx,hy,hz⟩) (by
  intro j hj
  have:j=0∨j=1∨j=2:=by simp at hj;omega
  rcases this with rfl|rfl|rfl
  ·simpa using h0
  ·simpa using h1
  ·simpa using h2)
 exact h.mono fun _ _ ⟨he,hw⟩=>⟨by rw[he];simp,hw⟩
theorem qMg (n:Int) (w:World) (hn:I64 n) :
  Calls Tryz.prog 101 #[.int .i64 n] w fun e w'=>e=.returned (.bool (qAn n))∧Below w.heap.size w w':=by
 go_enter Tryz.func101,Tryz.ntmps101
 go_wp2_with (go_at_call 111;refine(qXr _ n _ hn (by simp)).mono ?_;rintro e w' ⟨rfl,rfl⟩)
 go_ret
 exact⟨rfl,(Below.refl _ _).alloc (Nat.le_refl _) _⟩
theorem qJf (b:Nat) (x y z:Int) (w:World) (hx:I64 x) (hy:I64 y) (hz:I64 z) (hno:(qAn x&&(qAn y&&qAn z))=false) (h0:w.cell? ⟨b,0,none⟩=some (.int .i64 x))
  (h1:w.cell? ⟨b,1,none⟩=some (.int .i64 y)) (h2:w.cell? ⟨b,2,none⟩=some (.int .i64 z)) :
  Calls Tryz.prog 111 #[.slice (some ⟨b,0,none⟩) 3 3] w fun e w'=>e=.returned (.bool false)∧w=w' :=
 (qQw b x y z w hx hy hz h0 h1 h2).mono fun _ _ ⟨he,hw⟩=>⟨by rw[he,hno],hw⟩
theorem qI9 (b:Nat) (x y z:Int) (w:World) (hx:qAn x=true) (hy:qAn y=true) (hz:qAn z=true) (h0:w.cell? ⟨b,0,none⟩=some (.int .i64 x))
  (h1:w.cell? ⟨b,1,none⟩=some (.int .i64 y)) (h2:w.cell? ⟨b,2,none⟩=some (.int .i64 z)) :
  Calls Tryz.prog 111 #[.slice (some ⟨b,0,none⟩) 3 3] w fun e w'=>e=.returned (.bool true)∧w=w':=by
 have i:∀ {n},qAn n=true→I64 n:=fun h=>by rw[qAc] at h;exact⟨by omega,by omega⟩
 exact(qQw b x y z w (i hx) (i hy) (i hz) h0 h1 h2).mono fun _ _ ⟨he,hw⟩=>⟨by rw[he,hx,hy,hz];rfl,hw⟩
theorem qF1 (x:Int):I64 (wrap64 x):=by unfold I64 wrap64;omega
theorem qXs (a b:Int) (w:World) (ha:I64 a) (hb:I64 b) :
  Calls Tryz.prog 118 #[.int .i64 a,.int .i64 b] w fun e w'=>e=.returned (.tuple #[.int .i64 (qC6 a b),.int .i64 (qC4 a b)])∧Below w.heap.size w w':=by
 cases hok:qD4 a b with
 | true =>
  obtain⟨⟨p1,p2⟩,⟨p3,p4⟩,p5,p6⟩:=qB5.1 hok
  have m1:=Lib.hid (qAc.2 ⟨p1,p2⟩)
  have m2:=Lib.hid (qAc.2 ⟨p3,p4⟩)
  have m3:=Lib.hid (qAc.2 ⟨p5,p6⟩)
  have HK:=Lib.hid hok;clear hok ha hb
  go_enter Tryz.func118,Tryz.ntmps118
  go_wp2_with (go_at_call 111;refine(qI9 _ a b (a+b) _ m1.out m2.out m3.out (by simp) (by simp) (by simp)).mono ?_;rintro e w' ⟨rfl,rfl⟩)
  go_ret2
  exact⟨qBl (qAt (by simp[qC6,HK.out])) (qAt (by simp[qC4,HK.out])),(Below.refl _ _).alloc (Nat.le_refl _) _⟩
 | false =>
  have hno:=Lib.hid (qKa hok)
  have HK:=Lib.hid hok;clear hok
  go_enter Tryz.func118,Tryz.ntmps118
  go_wp2_with (go_at_call 111;refine(qJf _ a b (wrap64 (a+b)) _ ha hb (qF1 _) hno.out (by simp) (by simp) (by simp)).mono ?_;rintro e w' ⟨rfl,rfl⟩)
  go_ret2
  exact⟨qBl (qAt (by simp[qC6,HK.out])) (qAt (by simp[qC4,HK.out])),(Below.refl _ _).alloc (Nat.le_refl _) _⟩
theorem qXt (a b:Int) (w:World) (ha:I64 a) (hb:I64 b) :
  Calls Tryz.prog 117 #[.int .i64 a,.int .i64 b] w fun e w'=>e=.returned (.tuple #[.int .i64 (qFc a b),.int .i64 (qFs a b)])∧Below w.heap.size w w':=by
 cases hok:qD4 a (-b) with
 | true =>
  obtain⟨⟨p1,p2⟩,⟨p3,p4⟩,p5,p6⟩:=qB5.1 hok
  have m1:=Lib.hid (qAc.2 ⟨p1,p2⟩)
  have m2:=Lib.hid ((qAc (n:=b)).2 ⟨by omega,by omega⟩)
  have m3:=Lib.hid ((qAc (n:=a-b)).2 ⟨by omega,by omega⟩)
  have HK:=Lib.hid hok;clear hok ha hb
  go_enter Tryz.func117,Tryz.ntmps117
  go_wp2_with (go_at_call 111;refine(qI9 _ a b (a-b) _ m1.out m2.out m3.out (by simp) (by simp) (by simp)).mono ?_;rintro e w' ⟨rfl,rfl⟩)
  go_ret2
  exact⟨qBl (qAt (by simp[qFc,HK.out])) (qAt (by simp[qFs,HK.out])),(Below.refl _ _).alloc (Nat.le_refl _) _⟩
 | false =>
  have hno:=Lib.hid (qTq hok)
  have HK:=Lib.hid hok;clear hok
  go_enter Tryz.func117,Tryz.ntmps117
  go_wp2_with (go_at_call 111;refine(qJf _ a b (wrap64 (a-b)) _ ha hb (qF1 _) hno.out (by simp) (by simp) (by simp)).mono ?_;rintro e w' ⟨rfl,rfl⟩)
  go_ret2
  exact⟨qBl (qAt (by simp[qFc,HK.out])) (qAt (by simp[qFs,HK.out])),(Below.refl _ _).alloc (Nat.le_refl _) _⟩
theorem qDy (n:Int) (w:World) :
  Calls Tryz.prog 44 #[.int .i64 n] w fun e w'=>e=.returned (.bool (qAn n))∧w=w':=by
 by_cases h1:-4611686018427387904≤n
 ·by_cases h2:n≤4611686018427387904
  ·have H:=Lib.hid (qAc.2 ⟨h1,h2⟩)
   go_enter Tryz.func44,Tryz.ntmps44
   go_wp2
   go_ret
   exact⟨qAa H.out.symm,rfl⟩
  ·have H:=Lib.hid ((qGw (n:=n)).2 (by omega))
   go_enter Tryz.func44,Tryz.ntmps44
   go_wp2
   go_ret
   exact⟨qAa H.out.symm,rfl⟩
 ·have H:=Lib.hid ((qGw (n:=n)).2 (by omega))
  go_enter Tryz.func44,Tryz.ntmps44
  go_wp2
  go_ret
  exact⟨qAa H.out.symm,rfl⟩
end Go.Proofs.YtfgpimhdjlmapaaGreatDoor
