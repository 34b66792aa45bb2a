/- The clauses of a table's nodes, one node after another. -/
import Derived.Deep.LoopGhost
import Derived.Laws.Bits128
import Derived.Test.YtfgpimhdjlmapaaGreatDoorShf
import Derived.Test.YtfgpimhdjlmapaaGreatDoorShK
import Derived.Shelf.RegionOpen
import Derived.Shelf.AbstractIn
import Derived.RangeFuncCalls
import Derived.RangeFuncNested
import Derived.WalkKit
import Derived.ProofKit
import Derived.Outline
import Derived.LoopTactic
import Derived.Handy
import Derived.Lib.Hide
import Derived.Below
import Derived.OneCell
import Derived.OpenShut
import Derived.BigQuiet
import Derived.Deep.AppendLies
import Derived.Deep.RegionLaw
import Derived.Laws.CopyOwn
import Derived.Deep.RegionHeld3
import Derived.WalkSmall
import Derived.Laws.MakeOwn
import Derived.Laws.EntriesVeiled
import Derived.Maps.AppendAt
import Derived.Deep.RegionHeldLaw
import Derived.Laws.Strings
import Derived.ScopeJumps
import Derived.WalkMore
import Derived.Sort.OwnSortedInts
import Derived.Lib.RowBridge
import Derived.WalkSpells
import Derived.DeepKeys4
import Derived.WalkArith
import Derived.Maps.OwnSet
import Derived.Maps.OwnIn
import Derived.Deep.CutRange
import Derived.Laws.Cover3
import Derived.Laws.Append
import Derived.Maps.Ext
import Derived.Carry
import Derived.Test.YtfgpimhdjlmapaaGreatDoorProg
namespace Go.Proofs.YtfgpimhdjlmapaaGreatDoor.Tm
open Go.RowKit Go.Lib Go.Sort
set_option linter.unusedVariables false
set_option maxRecDepth 100000
theorem qAz {w W0:World} {cs:Array Value} {ty:TypeId} (hW0:W0=w.alloc (.cells cs ty)):Below w.heap.size w W0∧∀V,Below W0.heap.size W0 V→V.heap[w.heap.size]? = some (.cells cs ty (0,0))∧w.heap.size<V.heap.size:=by
 subst hW0
 have h:=heap_alloc_new w (.cells cs ty)
 refine⟨(Below.refl _ w).alloc (Nat.le_refl _) _,fun V hV=>?_⟩
 have e:=(hV.block _ (Array.getElem?_eq_some_iff.1 h).1).trans h
 exact⟨e,(Array.getElem?_eq_some_iff.1 e).1⟩
set_option maxHeartbeats 4000000 in
theorem qKj (c:List NodeA) (hC:Cl c) (a:Option Addr) (ca:Nat) (k:Nat) (hk:k<c.length) (w:World) (hG:GT w) (hA:TabR w c a ca) :
  Calls Tryz.prog 14 #[.agg #[.slice a c.length ca],.int .i64 k] w fun e w'=>∃b d,e=.returned (.tuple #[.slice b (qAy c k).length d,.int .i64 0])∧Hid (qAm w' (.slice b (qAy c k).length d) (qAy c k))∧Hid (Below w.heap.size w w'):=by
 have hlen:c.length≤2000:=hC.len
 obtain⟨n,hn⟩:∃n,c[k]? = some n:=⟨_,List.getElem?_eq_getElem hk⟩
 obtain⟨W0,hW0⟩:∃W0,W0=w.alloc (.cells #[.slice a c.length ca] 33):=⟨_,rfl⟩
 obtain⟨hB0,hX⟩:=qAz hW0
 have HB0:=Lib.hid hB0
 have HX:Hid (∀V,Below W0.heap.size W0 V→V.cell? ⟨w.heap.size,0,none⟩=some (.slice a c.length ca)∧w.heap.size<V.heap.size):=fun V hV=>⟨(cell_of_row _ _ 0 _ _ _ (hX V hV).1).trans rfl,(hX V hV).2⟩
 have HCk:Hid (Calls Tryz.prog 23 #[.agg #[.slice a c.length ca]] W0 fun e w'=>e=.returned (.int .i64 0)∧Hid (Below W0.heap.size W0 w')):=qG9 c a ca 0 W0 (hG.below hB0) (hA.below hB0) (by omega) (by rw[hC.may];rfl)
 have HNm:Hid (∀V,Below W0.heap.size W0 V→Calls Tryz.prog 24 #[.agg #[.slice a c.length ca]] V fun e w'=>∃la,e=.returned (.agg #[.slice a c.length ca,.slice la c.length c.length,.func (.func 69) #[] #[],.nilFunc,.func (.func 70) #[] #[],.func (.func 71) #[] #[],.nilFunc,.nilFunc,.func (.func 72) #[] #[],.func (.func 73) #[] #[],.nilFunc,.nilFunc,.nilFunc,.nilFunc,.nilFunc,.nilFunc])∧Hid (MkrR w' c a ca la)∧Hid (Below W0.heap.size W0 w')):=fun V hV=>(qH8 c hC a ca V ((hA.below hB0).below hV)).mono fun e w' ⟨la,h1,h2,h3⟩=>⟨la,h1,h2,qA5 hV h3.out⟩
 have HOf:Hid (∀V la,Below W0.heap.size W0 V→MkrR V c a ca la→Calls Tryz.prog 27 #[.agg #[.slice a c.length ca,.slice la c.length c.length,.func (.func 69) #[] #[],.nilFunc,.func (.func 70) #[] #[],.func (.func 71) #[] #[],.nilFunc,.nilFunc,.func (.func 72) #[] #[],.func (.func 73) #[] #[],.nilFunc,.nilFunc,.nilFunc,.nilFunc,.nilFunc,.nilFunc],.int .i64 k] V fun e w'=>∃b d,e=.returned (.tuple #[.slice b (qAy c k).length d,.int .i64 0])∧Hid (qAm w' (.slice b (qAy c k).length d) (qAy c k))∧Hid (Below W0.heap.size W0 w')):=fun V la hV hM=>(qRf c hC a ca la k n V ((hG.below hB0).below hV) hM hn).mono fun e w' ⟨v,h1,h2,h3⟩=>by
  obtain⟨rs,b,d,rfl,h5,h6⟩:=h2.out
  have hl:rs.length=(qAy c k).length:=by rw[←h5,List.length_map]
  rw[hl] at h1
  exact⟨b,d,h1,⟨rs,b,d,by rw[hl],h5,h6⟩,qA5 hV h3.out⟩
 have hki:(k:Int)<(c.length:Int):=by omega
 have hk0:(0:Int)≤(k:Int):=by omega
 have d0:¬(k:Int)<0:=by omega
 have d1:¬(c.length:Int)≤(k:Int):=by omega
 obtain⟨x0,xz⟩:=HX.out W0 (Below.refl _ _)
 obtain⟨xss,hxs⟩:∃x,x=qAy c k:=⟨_,rfl⟩
 rw[←hxs] at HOf ⊢
 have hA0:=hW0.symm
 clear hW0 hX hA hG hn hC hB0 hxs
 go_enter Tryz.func14,Tryz.ntmps14
 go_wp2_with (first
  | (go_at_call 23;refine HCk.out.mono ?_;rintro e w1 ⟨rfl,HB1⟩;obtain⟨y0,yz⟩:=HX.out _ HB1.out)
  | (go_at_call 24;refine(HNm.out _ HB1.out).mono ?_;rintro e w2 ⟨la,rfl,HM2,HB2⟩)
  | (go_at_call 27;refine(HOf.out _ _ HB2.out HM2.out).mono ?_;rintro e w3 ⟨rb,rd,rfl,HR3,HB3⟩))
 go_ret2
 exact⟨_,_,rfl,HR3,HB0.out.trans (HB3.out.mono HB0.out.size)⟩
set_option maxHeartbeats 4000000 in
theorem qOv (c:List NodeA) (hC:Cl c) (a:Option Addr) (ca:Nat) (k:Nat) (hk:k<c.length) (w:World) (hG:GT w) (hA:TabR w c a ca) :
  Calls Tryz.prog 18 #[.agg #[.slice a c.length ca],.int .i64 k] w fun e w'=>e=.returned (.int .i64 (qAy c k).length)∧Below w.heap.size w w':=by
 obtain⟨W0,hW0⟩:∃W0,W0=w.alloc (.cells #[.slice a c.length ca] 33):=⟨_,rfl⟩
 obtain⟨hB0,hX⟩:=qAz hW0
 have HB0:=Lib.hid hB0
 have HOf:Hid (Calls Tryz.prog 14 #[.agg #[.slice a c.length ca],.int .i64 k] W0 fun e w'=>∃b d,e=.returned (.tuple #[.slice b (qAy c k).length d,.int .i64 0])∧Hid (qAm w' (.slice b (qAy c k).length d) (qAy c k))∧Hid (Below W0.heap.size W0 w')):=qKj c hC a ca k hk W0 (hG.below hB0) (hA.below hB0)
 have x0:=(cell_of_row _ _ 0 _ _ _ (hX W0 (Below.refl _ _)).1).trans rfl
 have xz:=(hX W0 (Below.refl _ _)).2
 obtain⟨xss,hxs⟩:∃x,x=qAy c k:=⟨_,rfl⟩
 rw[←hxs] at HOf ⊢
 have hA0:=hW0.symm
 clear hW0 hX hA hG hC hB0 hxs
 go_enter Tryz.func18,Tryz.ntmps18
 go_wp2_with (go_at_call 14;refine HOf.out.mono ?_;rintro e w1 ⟨rb,rd,rfl,HR1,HB1⟩)
 go_ret
 exact⟨rfl,HB0.out.trans (HB1.out.mono HB0.out.size)⟩
theorem qNu {w:World} {g o:Nat} {xs:List Int} (h:∀(i:Nat) (v:Value),(xs.map (Value.int .i64))[i]? = some v→w.cell? ⟨g,o+i,none⟩=some v) (j:Nat) (hj:j<xs.length):w.cell? ⟨g,o+j,none⟩=some (.int .i64 (xs.getD j 0)):=by
 refine h j _ ?_
 rw[List.getElem?_map,List.getElem?_eq_getElem hj,List.getD_eq_getElem?_getD,List.getElem?_eq_getElem hj]
 rfl
theorem qOw (xs ys:List Int) (a b:Option Addr) (c d:Nat) (W:World) (hA:IntsR W xs a c) (hB:IntsR W ys b d) :
  Calls Tryz.prog 30 #[.slice a xs.length c,.slice b ys.length d] W fun e w'=>e=.returned (.bool (decide (xs=ys)))∧∃n,w'=W.drewN n:=by
 by_cases hl:xs.length=ys.length
 ·by_cases h0:xs.length=0
  ·obtain rfl:xs=[]:=List.eq_nil_of_length_eq_zero h0
   obtain rfl:ys=[]:=List.eq_nil_of_length_eq_zero (by omega)
   refine(Tryz.slices_Equal_int_empty a b c 0 d W (by decide)).mono ?_
   rintro e w' h
   obtain⟨h1,h2⟩:=h
   exact⟨by rw[h1];rfl,by first|exact h2|exact⟨0,h2⟩⟩
  ·obtain⟨g1,o1,rfl,_,c1⟩:=hA.tat (by simp;omega)
   obtain⟨g2,o2,rfl,_,c2⟩:=hB.tat (by simp;omega)
   refine(Tryz.slices_Equal_int g1 o1 xs.length c g2 o2 ys.length d xs ys W (Nat.le_refl _) (Nat.le_refl _) (qHp hA.le hA.cap) (qHp hB.le hB.cap) (qNu c1) (qNu c2)).mono ?_
   rintro e w' h
   obtain⟨h1,h2⟩:=h
   refine⟨?_,h2⟩
   rw[h1]
   simp
   rw[Bool.eq_iff_iff]
   simp
 ·refine(Tryz.slices_Equal_int_lens a b xs.length c ys.length d W hl).mono ?_
  rintro e w' h
  obtain⟨h1,h2⟩:=h
  have:¬xs=ys:=fun e=>hl (by rw[e])
  exact⟨by rw[h1,decide_eq_false this],by first|exact h2|exact⟨0,h2⟩⟩
theorem qYc (xs ys:List Int) (a:Option Addr) (c:Nat) (b:Option Addr) (d bx:Nat) (W:World) (hx:W.cell? ⟨bx,0,none⟩=some (.slice b ys.length d)) (hA:IntsR W xs a c) (hB:IntsR W ys b d) :
  FnGives Tryz.prog 29 #[.pointer (some ⟨bx,0,none⟩)] #[.slice a xs.length c] (.bool (decide (xs=ys))) W:=by
 show Calls Tryz.prog 29 #[.slice a xs.length c,.pointer (some ⟨bx,0,none⟩)] W _
 have hlt:=World.block_lt_of_cell? (a:=⟨bx,0,none⟩) W hx
 obtain⟨q,hq⟩:∃q,decide (xs=ys)=q:=⟨_,rfl⟩
 have HE:Hid (Calls Tryz.prog 30 #[.slice a xs.length c,.slice b ys.length d] W fun e w'=>e=.returned (.bool (decide (xs=ys)))∧∃n,w'=W.drewN n):=qOw xs ys a b c d W hA hB
 rw[hq] at HE ⊢
 clear hA hB hq
 go_enter Tryz.func29,Tryz.ntmps29
 go_wp2_with (go_at_call 30;refine HE.out.mono ?_;rintro e w1 ⟨rfl,n,rfl⟩)
 go_ret
 exact⟨rfl,n,rfl⟩
set_option maxHeartbeats 4000000 in
theorem qYd (c:List NodeA) (hC:Cl c) (a:Option Addr) (ca:Nat) (k:Nat) (hk:k<c.length) (ys:List Int) (b:Option Addr) (d:Nat) (w:World) (hG:GT w) (hA:TabR w c a ca) (hY:IntsR w ys b d) :
  Calls Tryz.prog 17 #[.agg #[.slice a c.length ca],.int .i64 k,.slice b ys.length d] w fun e w'=>e=.returned (.bool ((qAy c k).any fun xs=>decide (xs=ys)))∧Below w.heap.size w w':=by
 obtain⟨W0,hW0⟩:∃W0,W0=(w.alloc (.cells #[.slice a c.length ca] 33)).alloc (.cells #[.slice b ys.length d] 27):=⟨_,rfl⟩
 have hB0:Below w.heap.size w W0:=by rw[hW0];exact((Below.refl _ w).alloc (Nat.le_refl _) _).alloc (by simp) _
 have e0:W0.heap[w.heap.size]? = some (.cells #[.slice a c.length ca] 33 (0,0)):=by rw[hW0];exact(Below.heap_alloc _ _ _ (by simp)).trans (heap_alloc_new w _)
 have e1:W0.heap[w.heap.size+1]? = some (.cells #[.slice b ys.length d] 27 (0,0)):=by
  have h:=heap_alloc_new (w.alloc (.cells #[.slice a c.length ca] 33)) (.cells #[.slice b ys.length d] 27)
  rw[World.size_alloc] at h
  rw[hW0];exact h
 have HB0:=Lib.hid hB0
 have x0:W0.cell? ⟨w.heap.size,0,none⟩=some (.slice a c.length ca):=(cell_of_row _ _ 0 _ _ _ e0).trans rfl
 have xz:=(Array.getElem?_eq_some_iff.1 e0).1
 have HOf:Hid (Calls Tryz.prog 14 #[.agg #[.slice a c.length ca],.int .i64 k] W0 fun e w'=>∃b d,e=.returned (.tuple #[.slice b (qAy c k).length d,.int .i64 0])∧Hid (qAm w' (.slice b (qAy c k).length d) (qAy c k))∧Hid (Below W0.heap.size W0 w')):=qKj c hC a ca k hk W0 (hG.below hB0) (hA.below hB0)
 have HCt:Hid (∀V v,Below W0.heap.size W0 V→qAm V v (qAy c k)→Calls Tryz.prog 28 #[v,.func (.func 29) #[] #[.pointer (some ⟨w.heap.size+1,0,none⟩)]] V fun e w'=>e=.returned (.bool ((qAy c k).any fun xs=>decide (xs=ys)))∧Hid (Below V.heap.size V w')):=fun V v hV hR=>by
  obtain⟨rs,ra,rc,rfl,h5,h6,_⟩:=hR
  rw[←h5]
  refine(qLh (fun xs=>decide (xs=ys)) (fun _=>True) 29 #[.pointer (some ⟨w.heap.size+1,0,none⟩)] (enters_of Tryz.func29 (by kernel_rfl) rfl) rs ra rc V h6 (fun _ _=>trivial) (fun W r hW hI _=>?_))
  have hVW:=qA5 hV hW
  exact qYc r.xs ys r.a r.c b d (w.heap.size+1) W ((cell_of_row _ _ 0 _ _ _ ((hVW.block _ (Array.getElem?_eq_some_iff.1 e1).1).trans e1)).trans rfl) hI ((hY.below hB0).below hVW)
 obtain⟨q,hq⟩:∃q,((qAy c k).any fun xs=>decide (xs=ys))=q:=⟨_,rfl⟩
 rw[hq] at HCt ⊢
 obtain⟨xss,hxs⟩:∃x,x=qAy c k:=⟨_,rfl⟩
 rw[←hxs] at HOf HCt
 have hA0:=hW0.symm
 clear hW0 hA hG hC hB0 hxs e0 e1 hq hY
 go_enter Tryz.func17,Tryz.ntmps17
 go_wp2_with (first
  | (go_at_call 14;refine HOf.out.mono ?_;rintro e w1 ⟨rb,rd,rfl,HR1,HB1⟩)
  | (go_at_call 28;refine(HCt.out _ _ HB1.out HR1.out).mono ?_;rintro e w2 ⟨rfl,HB2⟩))
 go_ret
 exact⟨rfl,HB0.out.trans ((qA5 HB1.out HB2.out).mono HB0.out.size)⟩
end Go.Proofs.YtfgpimhdjlmapaaGreatDoor.Tm
namespace Go.Proofs.YtfgpimhdjlmapaaGreatDoor
open Go.RowKit
set_option linter.unusedVariables false
variable {F:Fence} {n:Nat} {P:Program}
def qC7 (keep:Nat→Prop) (A B:World):Prop:=A.heap.size≤B.heap.size∧∀b,keep b→B.heap[b]? = A.heap[b]?
theorem qC7.trans {keep:Nat→Prop} {A B C:World} (h:qC7 keep A B) (g:qC7 keep B C):qC7 keep A C :=
 ⟨Nat.le_trans h.1 g.1,fun b hb=>(g.2 b hb).trans (h.2 b hb)⟩
theorem qC7.refl (keep:Nat→Prop) (A:World):qC7 keep A A:=⟨Nat.le_refl _,fun _ _=>rfl⟩
theorem qC7.below {keep:Nat→Prop} {A B:World} (h:Below A.heap.size A B) (hb:∀b,keep b→b<A.heap.size):qC7 keep A B:=⟨h.size,fun b hR=>h.block b (hb b hR)⟩
theorem qJh {keep:Nat→Prop} {A:World} {l:Nat} (o:Obj) (hk:∀b,keep b→b≠l):qC7 keep A (A.putObj l o) :=
 ⟨by simp,fun b hb=>World.putObj_heap_other (hk b hb)⟩
def zDe {α:Type} (F:Fence) (n:Nat) (P:Program) (g:Nat) (lb:Array Value) (encs:α→Array Value) (Y:α→World→Prop) (S Sp:List α→Prop) (keep:Nat→Prop) (W:World):Prop :=
 ∀(l:Nat) (J Jx:List α→World→Prop),
  (∀pre A B,J pre A→Below A.heap.size A B→J pre B) →
  (∀pre A B,Jx pre A→Below A.heap.size A B→Jx pre B) →
  (∀pre x A,W.heap.size≤A.heap.size→Sp (pre++[x])→Y x A→J pre A→YieldAt F (n-1) P l (encs x) A fun e B =>
   (e=.returned (.bool true)∧J (pre++[x]) B∧qC7 keep A B)∨(e=.returned (.bool false)∧Jx (pre++[x]) B)) →
  J [] W →
  CallsIn F n P g (#[.func (.yield l) #[] #[]]++lb) W fun e B=>(∃v,e=.returned v)∧((∃ys,S ys∧J ys B)∨∃pre x,Sp (pre++[x])∧Jx (pre++[x]) B)
def zCv {α:Type} (D:Nat) (keep:Nat→Prop) (I:List α→World→Prop) (pre:List α) (x:α) (A:World):Exit→Act→World→Prop
 | .normal,_,B=>KeepsFrom D A B∧qC7 keep A B∧I (pre++[x]) B
 | .ret,_,_=>False
 | .exit _,_,_=>False
 | .goto _,_,_=>False
 | .panic _,_,_=>False
 | .outgrown,_,_=>False
def zCw (D:Nat) (I:World→Prop):Prop :=
 ∀A l o o',I A→D≤l→A.heap[l]? = some o→o.isCells=false→I (A.putObj l o')
theorem qHf {α:Type} {g:Operand} {ps:Array Tmp} {assign body:Code} {Q:Exit→Act→World→Prop} {a:Act} {w:World}
  (hro:F.round=none) (h1:1≤n) {gf:Nat} {lb:Array Value} (hg:a.eval g=.func (.func gf) #[] lb) (hFg:F.fn gf) (eg:∀args w,(callFunc gf args).run P w=.ok (.enter gf args) w)
  {encs:α→Array Value} {Y:α→World→Prop} {S Sp:List α→Prop} {keep:Nat→Prop} (hseq:∀W,Below w.heap.size w W→zDe F (n-1) P gf lb encs Y S Sp keep W) (hkeep:∀b,keep b→b<w.heap.size) (hps:∀x,(encs x).size=ps.size)
  (I:List α→World→Prop)
  (hI:∀pre A B,I pre A→Below A.heap.size A B→I pre B) (hIo:∀pre,zCw w.heap.size (I pre))
  (h0:∀B,Below w.heap.size w B→I [] B)
  (Ax:α→Act→World→Prop) (hAx:∀x a',zCw w.heap.size (Ax x a'))
  (hassign:∀(l:Nat) (pre:List α) (x:α) (W:World) (K:Act→World→Prop),w.heap.size≤W.heap.size→Sp (pre++[x])→Y x W→I pre W →
   (∀a' W',KeepsFrom w.heap.size W W'→qC7 keep W W'→I pre W'→Ax x a' W'→K a' W') →
   assign.wpIn (F.inRound l) (n-1-1) P (Exit.then K (fun _ _ _=>False)) { tmps:=(ps.zip (encs x)).foldl (fun t (p,v)=>t.setIfInBounds p v) a.tmps,defers:=[] } W)
  (hbody:∀(l:Nat) (pre:List α) (x:α) (a':Act) (W:World),w.heap.size≤W.heap.size→Sp (pre++[x])→I pre W→Ax x a' W →
   body.wpIn (F.inRound l) (n-1-1) P (zCv w.heap.size keep I pre x W) a' W)
  (hdone:∀(D:Nat) (ys:List α) (W:World),w.heap.size≤D→S ys→I ys W→W.heap[D]? = some (.deferred (some []))→Q .normal { a with defers:={ target:=.collected D,args:=#[] } :: a.defers } W) :
  (Code.rangeFunc g ps assign body).wpIn F n P Q a w:=by
 refine wpIn_rangeFunc ?_
 intro fn hfn
 rw[hro]
 obtain⟨rec,hrec⟩:∃rec:LoopState→Option Code→Loop,rec=fun st pe=>{ state:=st,pending:=pe,fn,tmps:=a.tmps,params:=ps,assign,body,defers:=w.heap.size }:=⟨_,rfl⟩
 obtain⟨W1,hW1⟩:∃W1,(w.alloc (.deferred (some []))).alloc (.loop (rec .ready none))=W1:=⟨_,rfl⟩
 have hsz:W1.heap.size=w.heap.size+2:=by rw[←hW1];simp
 have hL1:W1.heap[w.heap.size+1]? = some (.loop (rec .ready none)):=by
  rw[←hW1];have:=World.alloc_heap_new (w.alloc (.deferred (some []))) (.loop (rec .ready none));rwa [World.size_alloc] at this
 have hK1:W1.heap[w.heap.size]? = some (.deferred (some [])):=by
  rw[←hW1];exact(Below.heap_alloc _ _ _ (by simp)).trans (World.alloc_heap_new w _)
 have hb1:Below w.heap.size w W1:=by
  rw[←hW1];exact((Below.refl _ w).alloc (Nat.le_refl _) _).alloc (by simp) _
 have hbl:∀ {A B:World} {l:Nat} {o:Obj},Below A.heap.size A B→A.heap[l]? = some o→B.heap[l]? = some o:=fun h hl=>(h.block _ (Array.getElem?_eq_some_iff.1 hl).1).trans hl
 refine⟨w.heap.size+1,[{ target:=.collected w.heap.size,args:=#[] }],W1,{ target:=.fn (.func gf) lb,args:=#[.func (.yield (w.heap.size+1)) #[] #[]] },W1,gf,
  #[.func (.yield (w.heap.size+1)) #[] #[]]++lb,W1,?_,?_,?_,?_,fun _=>h1,?_⟩
 ·rw[←hW1,hrec];exact run_enterLoop_outer _ _ _ _ _
 ·simp only[resolve,hg]
  simp[go_sem]
 ·intro f' hf';simp[Target.leads] at hf';subst hf';exact hFg
 ·simp[invoke,go_sem,eg]
 ·refine(hseq W1 hb1 (w.heap.size+1)
   (fun pre W=>I pre W∧W.heap[w.heap.size+1]? = some (.loop (rec .ready none))∧W.heap[w.heap.size]? = some (.deferred (some [])))
   (fun _ _=>False)
   (fun pre A B hs hg'=>⟨hI pre A B hs.1 hg',hbl hg' hs.2.1,hbl hg' hs.2.2⟩)
   (fun pre A B hs hg'=>hs)
   ?_ ?_).mono ?_
  ·rintro pre x W hWs hx hyx ⟨hi,hl,hk⟩
   have hlt:w.heap.size+1<W.heap.size:=(Array.getElem?_eq_some_iff.1 hl).1
   have hy:=run_yield (P:=P) (args:=encs x) hl (by rw[hrec];exact hps x)
   rw[hrec] at hy
   refine⟨fn,_,assign,body,hy,roundIn_of_wpIn hfn (hassign _ pre x W _ (by omega) hx hyx hi ?_)⟩
   clear hy
   intro a' Wa hkfa hkpa hia hax
   replace hl:=hkfa.same _ _ (by omega) hl rfl
   replace hk:=hkfa.same _ _ (Nat.le_refl _) hk rfl
   replace hlt:w.heap.size+1<Wa.heap.size:=(Array.getElem?_eq_some_iff.1 hl).1
   refine⟨_,run_beginRound hl (by rw[hrec]),?_⟩
   have hl2:(Wa.putObj (w.heap.size+1) (.loop { rec .ready none with state:=.busy })).heap[w.heap.size+1]? = some (.loop { rec .ready none with state:=.busy }):=World.putObj_heap_same hlt
   have hk2:(Wa.putObj (w.heap.size+1) (.loop { rec .ready none with state:=.busy })).heap[w.heap.size]? = some (.deferred (some [])):=(World.putObj_heap_other (by omega)).trans hk
   have hkw:∀b,keep b→b≠w.heap.size+1:=fun b hb=>by have:=hkeep b hb;omega
   have hw2:qC7 keep Wa (Wa.putObj (w.heap.size+1) (.loop { rec .ready none with state:=.busy })):=qJh _ hkw
   refine wpIn_mono (hbody _ pre x a' _ (by simp;omega) hx (hIo pre _ _ _ _ hia (by omega) hl rfl) (hAx x a' _ _ _ _ hax (by omega) hl rfl)) ?_
   have fin:∀(W3:World),KeepsFrom w.heap.size (Wa.putObj (w.heap.size+1) (.loop { rec .ready none with state:=.busy })) W3 →
     (Instr.endRound (w.heap.size+1) none).run P W3=.ok (.bool true) (W3.putObj (w.heap.size+1) (.loop (rec .ready none))) ∧
     W3.heap[w.heap.size+1]? = some (.loop { rec .ready none with state:=.busy }) ∧
     (W3.putObj (w.heap.size+1) (.loop (rec .ready none))).heap[w.heap.size+1]? = some (.loop (rec .ready none)) ∧
     (W3.putObj (w.heap.size+1) (.loop (rec .ready none))).heap[w.heap.size]? = some (.deferred (some [])):=fun W3 hk3=>by
    have hl3:=hk3.same _ _ (by omega) hl2 rfl
    have:=run_endRound (P:=P) none hl3
    rw[hrec] at this ⊢
    exact⟨this,by rw[hrec] at hl3;exact hl3,World.putObj_heap_same (Array.getElem?_eq_some_iff.1 hl3).1,(World.putObj_heap_other (by omega)).trans (hk3.same _ _ (Nat.le_refl _) hk2 rfl)⟩
   rintro e a3 W3 hp
   cases e with
   | normal =>
    obtain⟨hk3,hkp3,hi3⟩:=hp
    obtain⟨hr,hl3,hl4,hk4⟩:=fin W3 hk3
    exact⟨_,_,hr,.inl ⟨rfl,⟨hIo _ _ _ _ _ hi3 (by omega) hl3 rfl,hl4,hk4⟩,hkpa.trans (hw2.trans (hkp3.trans (qJh _ hkw)))⟩⟩
   | ret=>exact hp.elim
   | exit id=>exact hp.elim
   | goto t=>exact hp.elim
   | panic ch=>exact hp.elim
   | outgrown=>exact hp.elim
  ·exact⟨h0 W1 hb1,hL1,hK1⟩
  ·rintro e W2 ⟨⟨v,rfl⟩,(⟨ys,hS,hi,hl,hk⟩|⟨pre,x,hx,hF⟩)⟩
   ·exact⟨none,_,by have:=run_endLoop (P:=P) hl (by rw[hrec];simp);rw[hrec] at this;exact this,hdone _ ys _ (Nat.le_refl _) hS (hIo _ _ _ _ _ hi (by omega) hl rfl) ((World.putObj_heap_other (by omega)).trans hk)⟩
   ·exact hF.elim
end Go.Proofs.YtfgpimhdjlmapaaGreatDoor
namespace Go.Proofs.YtfgpimhdjlmapaaGreatDoor.Tm
open Go.RowKit Go.Shelf
set_option linter.unusedVariables false
attribute [local go_sem] Oper.semAt_some
theorem qCv {V W:World} {xs:List Int} {a:Option Addr} {c:Nat} (h:IntsR V xs a c) (hb:∀g o,a=some ⟨g,o,none⟩→W.heap[g]? = V.heap[g]?) (hs:V.heap.size≤W.heap.size):IntsR W xs a c :=
 ⟨h.le,h.cap,fun h0=>by
  obtain⟨g,o,e,hg,hc⟩:=h.tat h0
  exact⟨g,o,e,by omega,fun i v hv=>(World.cell?_of_block (a:=⟨g,o+i,none⟩) (hb g o e)).trans (hc i v hv)⟩,h.ok⟩
structure AlK (w:World) (c:List NodeA) (a:Option Addr) (ca:Nat) (la:Option Addr) (Bm:Nat) (V:World):Prop where
 old:∀b,b<w.heap.size→V.heap[b]? = w.heap[b]?
 size:w.heap.size≤V.heap.size
 box:V.heap[Bm]? = some (.cells #[.slice a c.length ca,.slice la c.length c.length,.func (.func 69) #[] #[],.nilFunc,.func (.func 70) #[] #[],.func (.func 71) #[] #[],.nilFunc,.nilFunc,.func (.func 72) #[] #[],.func (.func 73) #[] #[],.nilFunc,.nilFunc,.nilFunc,.nilFunc,.nilFunc,.nilFunc] 85 (0,0))
 lits:IntsR V (qCf c) la c.length
theorem GT.heap {A B:World} (h:GT A) (e:B.heap=A.heap):GT B:=by
 cases A
 cases B
 subst e
 obtain⟨h1,h2⟩:=h
 exact⟨h1,h2⟩
theorem GT.same {A B:World} (h:GT A) (hs:A.heap.size≤B.heap.size) (hb:∀b,b<A.heap.size→B.heap[b]? = A.heap[b]?):GT B :=
 GT.heap (A:={ B with os:=A.os,tape:=A.tape,output:=A.output }) (h.below ⟨rfl,rfl,rfl,hs,fun b h=>hb b h⟩) rfl
theorem TabR.same {A B:World} {c:List NodeA} {a:Option Addr} {ca:Nat} (h:TabR A c a ca) (hs:A.heap.size≤B.heap.size) (hb:∀b,b<A.heap.size→B.heap[b]? = A.heap[b]?):TabR B c a ca:=by
 have h2:TabR { B with os:=A.os,tape:=A.tape,output:=A.output } c a ca:=h.below ⟨rfl,rfl,rfl,hs,fun b h=>hb b h⟩
 obtain⟨h3,h4,h5,h6⟩:=h2
 exact⟨h3,h4,h5,h6⟩
theorem AlK.mkr {w V:World} {c:List NodeA} {a:Option Addr} {ca:Nat} {la:Option Addr} {Bm:Nat} (h:AlK w c a ca la Bm V) (hA:TabR w c a ca):MkrR V c a ca la:=⟨hA.same h.size h.old,h.lits⟩
theorem AlK.below {w V W:World} {c:List NodeA} {a:Option Addr} {ca:Nat} {la:Option Addr} {Bm:Nat} (h:AlK w c a ca la Bm V) (hb:Below V.heap.size V W):AlK w c a ca la Bm W :=
 ⟨fun b hl=>(hb.block b (Nat.lt_of_lt_of_le hl h.size)).trans (h.old b hl),Nat.le_trans h.size hb.size,(hb.block _ (Array.getElem?_eq_some_iff.1 h.box).1).trans h.box,h.lits.below hb⟩
theorem AlK.keep {w V W:World} {c:List NodeA} {a:Option Addr} {ca:Nat} {la:Option Addr} {Bm n0 B4:Nat} (h:AlK w c a ca la Bm V) (hk:qC7 (fun b=>b<n0∧b≠B4) V W) (h1:w.heap.size≤B4) (h2:B4<n0) (h3:Bm<n0∧Bm≠B4) (h4:∀g o,la=some ⟨g,o,none⟩→g<n0∧g≠B4):AlK w c a ca la Bm W :=
 ⟨fun b hl=>(hk.2 b ⟨by omega,by omega⟩).trans (h.old b hl),Nat.le_trans h.size hk.1,(hk.2 _ h3).trans h.box,qCv h.lits (fun g o e=>hk.2 g (h4 g o e)) hk.1⟩
structure YD where
 k:Nat
 a:Option Addr
 c:Nat
def zCx (c:List NodeA) (x:YD):Array Value:=#[.slice x.a (qAy c x.k).length x.c,.int .i64 0]
def YcP (c:List NodeA) (x:YD) (W:World):Prop:=qAm W (.slice x.a (qAy c x.k).length x.c) (qAy c x.k)
def SpY (c:List NodeA) (pre:List YD):Prop:=∃k,k≤c.length∧pre.map YD.k=List.range k
structure AlS (w:World) (c:List NodeA) (a:Option Addr) (ca:Nat) (la:Option Addr) (Bm n:Nat) (J:List YD→World→Prop) (k:Nat) (wr:World):Prop where
 big:n≤wr.heap.size
 al:AlK w c a ca la Bm wr
 j:∃pre:List YD,pre.map YD.k=List.range k∧J pre wr
set_option maxHeartbeats 8000000 in
theorem qYe (d:Nat) (hd:1≤d) (y0:Nat) (c:List NodeA) (hC:Cl c) (a:Option Addr) (ca:Nat) (la:Option Addr) (w:World) (hG:GT w) (hA:TabR w c a ca) (Bm n0 B4:Nat) (W:World) (J Jx:List YD→World→Prop)
  (hJ:∀pre A B,J pre A→Below A.heap.size A B→J pre B)
  (hY:∀pre x A,W.heap.size≤A.heap.size→SpY c (pre++[x])→YcP c x A→J pre A→YieldAt Fence.wide (d-1) Tryz.prog y0 (zCx c x) A fun e B =>
   (e=.returned (.bool true)∧J (pre++[x]) B∧qC7 (fun b=>b<n0∧b≠B4) A B)∨(e=.returned (.bool false)∧Jx (pre++[x]) B))
  (hK:AlK w c a ca la Bm W) (h1:w.heap.size≤B4) (h2:B4<n0) (h3:Bm<n0∧Bm≠B4) (h4:∀g o,la=some ⟨g,o,none⟩→g<n0∧g≠B4) (h0:J [] W) :
  CallsIn Fence.wide d Tryz.prog 40 #[.func (.yield y0) #[] #[],.pointer (some ⟨Bm,0,none⟩)] W fun e B=>(∃v,e=.returned v) ∧
   ((∃ys:List YD,ys.map YD.k=List.range c.length∧J ys B)∨∃pre x,SpY c (pre++[x])∧Jx (pre++[x]) B):=by
 have hlen:c.length≤2000:=hC.len
 have HD0:Hid (AlS w c a ca la Bm W.heap.size J 0 W):=⟨Nat.le_refl _,hK,[],rfl,h0⟩
 have HBx:Hid (∀V,AlK w c a ca la Bm V→V.cell? ⟨Bm,0,none⟩=some (.slice a c.length ca)∧V.cell? ⟨Bm,1,none⟩=some (.slice la c.length c.length)∧V.cell? ⟨Bm,2,none⟩=some (.func (.func 69) #[] #[])∧V.cell? ⟨Bm,3,none⟩=some (.nilFunc)∧V.cell? ⟨Bm,4,none⟩=some (.func (.func 70) #[] #[])∧V.cell? ⟨Bm,5,none⟩=some (.func (.func 71) #[] #[])∧V.cell? ⟨Bm,6,none⟩=some (.nilFunc)∧V.cell? ⟨Bm,7,none⟩=some (.nilFunc)∧V.cell? ⟨Bm,8,none⟩=some (.func (.func 72) #[] #[])∧V.cell? ⟨Bm,9,none⟩=some (.func (.func 73) #[] #[])∧V.cell? ⟨Bm,10,none⟩=some (.nilFunc)∧V.cell? ⟨Bm,11,none⟩=some (.nilFunc)∧V.cell? ⟨Bm,12,none⟩=some (.nilFunc)∧V.cell? ⟨Bm,13,none⟩=some (.nilFunc)∧V.cell? ⟨Bm,14,none⟩=some (.nilFunc)∧V.cell? ⟨Bm,15,none⟩=some (.nilFunc)∧Bm<V.heap.size):=fun V hV=>by
  have e0:=hV.box
  exact⟨(cell_of_row _ _ 0 _ _ _ e0).trans rfl,(cell_of_row _ _ 1 _ _ _ e0).trans rfl,(cell_of_row _ _ 2 _ _ _ e0).trans rfl,(cell_of_row _ _ 3 _ _ _ e0).trans rfl,(cell_of_row _ _ 4 _ _ _ e0).trans rfl,(cell_of_row _ _ 5 _ _ _ e0).trans rfl,(cell_of_row _ _ 6 _ _ _ e0).trans rfl,(cell_of_row _ _ 7 _ _ _ e0).trans rfl,(cell_of_row _ _ 8 _ _ _ e0).trans rfl,(cell_of_row _ _ 9 _ _ _ e0).trans rfl,(cell_of_row _ _ 10 _ _ _ e0).trans rfl,(cell_of_row _ _ 11 _ _ _ e0).trans rfl,(cell_of_row _ _ 12 _ _ _ e0).trans rfl,(cell_of_row _ _ 13 _ _ _ e0).trans rfl,(cell_of_row _ _ 14 _ _ _ e0).trans rfl,(cell_of_row _ _ 15 _ _ _ e0).trans rfl,(Array.getElem?_eq_some_iff.1 e0).1⟩
 have HOf:Hid (∀V (k:Nat),k<c.length→AlK w c a ca la Bm V→Calls Tryz.prog 27 #[.agg #[.slice a c.length ca,.slice la c.length c.length,.func (.func 69) #[] #[],.nilFunc,.func (.func 70) #[] #[],.func (.func 71) #[] #[],.nilFunc,.nilFunc,.func (.func 72) #[] #[],.func (.func 73) #[] #[],.nilFunc,.nilFunc,.nilFunc,.nilFunc,.nilFunc,.nilFunc],.int .i64 k] V fun e w'=>∃b d,e=.returned (.tuple #[.slice b (qAy c k).length d,.int .i64 0])∧Hid (qAm w' (.slice b (qAy c k).length d) (qAy c k))∧Hid (Below V.heap.size V w')):=fun V k hk hV=>by
  obtain⟨n,hn⟩:∃n,c[k]? = some n:=⟨_,List.getElem?_eq_getElem hk⟩
  refine(qRf c hC a ca la k n V (hG.same hV.size hV.old) (hV.mkr hA) hn).mono fun e w' ⟨v,g1,g2,g3⟩=>?_
  obtain⟨rs,b,d,rfl,g5,g6⟩:=g2.out
  have hl:rs.length=(qAy c k).length:=by rw[←g5,List.length_map]
  rw[hl] at g1
  exact⟨b,d,g1,⟨rs,b,d,by rw[hl],g5,g6⟩,g3⟩
 have HY:=Lib.hid hY
 have HJ:=Lib.hid hJ
 have HKp:Hid (∀V V',AlK w c a ca la Bm V→qC7 (fun b=>b<n0∧b≠B4) V V'→AlK w c a ca la Bm V'):=fun V V' h k=>h.keep k h1 h2 h3 h4
 obtain⟨b0,b1,b2,b3,b4,b5,b6,b7,b8,b9,b10,b11,b12,b13,b14,b15,bz⟩:=HBx.out W hK
 clear hK h0 hY hJ h1 h2 h3 h4 hC hG hA
 refine callsIn_of_wp Tryz.func40 rfl trivial ?_ rfl
 simp only[Tryz.ntmps40,List.size_toArray,List.length_cons,List.length_nil,Nat.reduceAdd,Nat.reduceSub,Array.replicate_succ,Array.replicate_zero,List.push_toArray,List.append_toArray,List.nil_append,List.cons_append]
 gi_wp2
 clear b0 b1 b2 b3 b4 b5 b6 b7 b8 b9 b10 b11 b12 b13 b14 b15 bz
 gi_loopw [8] (fun i wr=>∃k:Nat,k≤c.length∧i=.int .i64 k∧Hid (AlS w c a ca la Bm W.heap.size J k wr)) (fun i _=>c.length-(intOf i).toNat)
 case atStart=>exact⟨0,Nat.zero_le _,rfl,HD0⟩
 case round =>
  clear HD0
  obtain⟨k,hkl,rfl,HD⟩:=hrel
  by_cases hlt:k<c.length
  ·obtain⟨b0,b1,b2,b3,b4,b5,b6,b7,b8,b9,b10,b11,b12,b13,b14,b15,bz⟩:=HBx.out wr HD.out.al
   have hki:(k:Int)<(c.length:Int):=by omega
   obtain⟨pre,hp,hj⟩:=HD.out.j
   have HSp:Hid (pre.map YD.k=List.range k∧∀vb vd,SpY c (pre++[⟨k,vb,vd⟩])):=⟨hp,fun vb vd=>⟨k+1,by omega,by rw[List.map_append,hp,List.range_succ];rfl⟩⟩
   have HYk:Hid (∀vb vd w4,Below wr.heap.size wr w4→qAm w4 (.slice vb (qAy c k).length vd) (qAy c k)→YieldAt Fence.wide (d-1) Tryz.prog y0 #[.slice vb (qAy c k).length vd,.int .i64 0] w4 fun e B=>(e=.returned (.bool true)∧J (pre++[⟨k,vb,vd⟩]) B∧qC7 (fun b=>b<n0∧b≠B4) w4 B)∨(e=.returned (.bool false)∧Jx (pre++[⟨k,vb,vd⟩]) B)):=fun vb vd w4 hb hr=>HY.out pre ⟨k,vb,vd⟩ w4 (Nat.le_trans HD.out.big hb.size) (HSp.out.2 vb vd) hr (HJ.out _ _ _ hj hb)
   clear hj hp
   gi_wp2_with (refine⟨trivial,?_⟩;gi_at_call 27;refine(callsIn_wide.2 (HOf.out _ k hlt HD.out.al)).mono ?_;rintro e w4 ⟨vb,vd,rfl,HR4,HB4⟩;obtain⟨fn,tmps,assign,body,hyl,hRn⟩:=HYk.out vb vd w4 HB4.out HR4.out;have HRn:=Lib.hid hRn;clear hRn)
   refine HRn.out.mono ?_
   rintro e W3 (⟨rfl,hJ3,hk3⟩|⟨rfl,hJx3⟩)
   ·have HD3:Hid (AlS w c a ca la Bm W.heap.size J (k+1) W3):=⟨Nat.le_trans HD.out.big (Nat.le_trans HB4.out.size hk3.1),HKp.out _ _ (HD.out.al.below HB4.out) hk3,pre++[⟨k,vb,vd⟩],by rw[List.map_append,HSp.out.1,List.range_succ];rfl,hJ3⟩
    clear hJ3 hk3 hyl b0 b1 b2 b3 b4 b5 b6 b7 b8 b9 b10 b11 b12 b13 b14 b15 bz
    gi_wp2
    go_roundw
    case rel=>exact⟨k+1,by omega,by go_num,HD3⟩
    case measure=>simp[intOf];omega
   ·have HJx3:=Lib.hid hJx3
    clear hJx3 hyl b0 b1 b2 b3 b4 b5 b6 b7 b8 b9 b10 b11 b12 b13 b14 b15 bz
    gi_wp2
    refine bodyPost_ret (results_none rfl _ _ _) rfl ?_
    exact⟨⟨_,rfl⟩,.inr ⟨pre,_,HSp.out.2 _ _,HJx3.out⟩⟩
  ·obtain rfl:k=c.length:=by omega
   obtain⟨pre,hp,hj⟩:=HD.out.j
   have HJ2:=Lib.hid hj
   clear HD hj
   gi_wp2
   go_end0
   exact⟨⟨_,rfl⟩,.inl ⟨pre,hp,HJ2.out⟩⟩
theorem qUj (d:Nat) (hd:1≤d) (c:List NodeA) (hC:Cl c) (a:Option Addr) (ca:Nat) (la:Option Addr) (w:World) (hG:GT w) (hA:TabR w c a ca) (Bm n0 B4:Nat) (w4:World) (hK:AlK w c a ca la Bm w4)
  (h1:w.heap.size≤B4) (h2:B4<n0) (h3:Bm<n0∧Bm≠B4) (h4:∀g o,la=some ⟨g,o,none⟩→g<n0∧g≠B4) :
  ∀W,Below w4.heap.size w4 W→zDe Fence.wide d Tryz.prog 40 #[.pointer (some ⟨Bm,0,none⟩)] (zCx c) (YcP c) (fun ys=>ys.map YD.k=List.range c.length) (SpY c) (fun b=>b<n0∧b≠B4) W:=fun W hW y0 J Jx hJ _ hY h0 =>
 qYe d hd y0 c hC a ca la w hG hA Bm n0 B4 W J Jx hJ hY (hK.below hW) h1 h2 h3 h4 h0
end Go.Proofs.YtfgpimhdjlmapaaGreatDoor.Tm
