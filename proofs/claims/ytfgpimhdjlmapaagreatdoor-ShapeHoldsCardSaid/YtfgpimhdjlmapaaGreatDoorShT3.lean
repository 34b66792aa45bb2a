/- The statements' told, walked. -/
import Derived.Deep.LoopGhost
import Derived.Deep.RegionHeldLaw
import Derived.Laws.Bits128
import Derived.Test.YtfgpimhdjlmapaaGreatDoorShf
import Derived.Test.YtfgpimhdjlmapaaGreatDoorSgA
import Derived.Test.YtfgpimhdjlmapaaGreatDoorShF
import Derived.Test.YtfgpimhdjlmapaaGreatDoorHdV
import Derived.Laws.CopyOwn
import Derived.Laws.EntriesVeiled
import Derived.ScopeJumps
import Derived.WalkMore
import Derived.WalkSpells
import Derived.Test.YtfgpimhdjlmapaaGreatDoorShJ
import Derived.Shelf.RegionOpen
import Derived.Shelf.AbstractIn
import Derived.RangeFuncCalls
import Derived.RangeFuncNested
namespace Go.Proofs.YtfgpimhdjlmapaaGreatDoor.Tm
open Go.RowKit
set_option linter.unusedVariables false
set_option maxRecDepth 100000
structure I8R (w:World) (xs:List Int) (a:Option Addr) (c:Nat):Prop where
 le:xs.length≤c
 cap:c≤maxLen
 tat:At w w.heap.size (xs.map (Value.int .i8)) a
theorem I8R.below {w w':World} {xs:List Int} {a:Option Addr} {c:Nat} (h:I8R w xs a c) (hb:Below w.heap.size w w'):I8R w' xs a c :=
 ⟨h.le,h.cap,(h.tat.below hb).more hb.size⟩
theorem I8R.cell {w:World} {xs:List Int} {a:Option Addr} {c k:Nat} {x:Int} (h:I8R w xs a c) (hk:xs[k]? = some x):∃g o:Nat,a=some ⟨g,o,none⟩∧g<w.heap.size∧w.cell? ⟨g,o+k,none⟩=some (.int .i8 x):=by
 have hlt:=(List.getElem?_eq_some_iff.1 hk).1
 obtain⟨g,o,e,hg,hc⟩:=h.tat (by simp;omega)
 exact⟨g,o,e,hg,hc k _ (by rw[List.getElem?_map,hk];rfl)⟩
def qE8 (av:List Int) (x:Int):Bool:=decide (av[(x / 2).toNat]? = some (1+x % 2))
def qGf (av:List Int) (xss:List (List Int)):Bool:=xss.all fun xs=>xs.any (qE8 av)
theorem qUq (p:Int→Bool) {xs:List Int} {k:Nat} {x:Int} (h:xs[k]? = some x):(xs.take (k+1)).any p=((xs.take k).any p || p x):=by
 rw[List.take_add_one,h,List.any_append]
 simp
set_option maxHeartbeats 8000000 in
theorem qJi (xss:List (List Int)) (av:List Int) (rb:Option Addr) (rd:Nat) (b:Option Addr) (d:Nat) (w:World) (hR:qAm w (.slice rb xss.length rd) xss) (hA:I8R w av b d) (hok:∀xs∈xss,xs.length≤3∧∀x∈xs,0≤x∧x<2*(av.length:Int)) (has:∀z∈av,0≤z∧z≤2) (hlen:av.length≤2000) (hxl:xss.length≤10000) :
  Calls Tryz.prog 12 #[.slice rb xss.length rd,.slice b av.length d] w fun e w'=>e=.returned (.bool (qGf av xss))∧Below w.heap.size w w':=by
 have HR:Hid (∀V,Below w.heap.size w V→qAm V (.slice rb xss.length rd) xss):=fun V hV=>hR.below hV
 have HA:Hid (∀V,Below w.heap.size w V→I8R V av b d):=fun V hV=>hA.below hV
 have HOK:=Lib.hid hok
 have HAs:=Lib.hid has
 clear hR hA hok has
 go_enter Tryz.func12,Tryz.ntmps12
 go_wp2
 go_loopw [5] (fun i wr=>∃k:Nat,k≤xss.length∧i=.int .i64 k∧Hid (Below w.heap.size w wr)∧Hid ((xss.take k).all (fun xs=>xs.any (qE8 av))=true)) (fun i _=>xss.length-(intOf i).toNat)
 case atStart=>exact⟨0,Nat.zero_le _,rfl,Below.refl _ _,rfl⟩
 case round =>
  rename World=>U
  obtain⟨k,hk,rfl,HB,HT⟩:=hrel
  by_cases hlt:k<xss.length
  ·obtain⟨xs,hxs⟩:∃xs,xss[k]? = some xs:=⟨_,List.getElem?_eq_getElem hlt⟩
   have hmem:=List.mem_of_getElem? hxs
   obtain⟨hx3,hxr⟩:=HOK.out xs hmem
   have HXr:=Lib.hid hxr
   have hki:(k:Int)<(xss.length:Int):=by omega
   have hk0:(0:Int)≤(k:Int):=by omega
   have HRow:Hid (∀V,Below U.heap.size U V→∃g o ra rc,rb=some ⟨g,o,none⟩∧g<V.heap.size∧V.cell? ⟨g,o+k,none⟩=some (.slice ra xs.length rc)∧IntsR V xs ra rc):=fun V hV=>by
    obtain⟨rs,ra',rc',e1,e2,h3,h4⟩:=HR.out V (qA5 HB.out hV)
    injection e1 with ea el ec
    subst ea
    have hr:∃r,rs[k]? = some r:=⟨_,List.getElem?_eq_getElem (by omega)⟩
    obtain⟨r,hr⟩:=hr
    have hrx:r.xs=xs:=by
     have:(rs.map RowD.xs)[k]? = some r.xs:=by rw[List.getElem?_map,hr];rfl
     rw[e2,hxs] at this
     exact(Option.some.inj this).symm
    obtain⟨g,o,e,hg,hc⟩:=h3.cell hr
    have hi:=h3.ok r (List.mem_of_getElem? hr)
    rw[hrx] at hc hi
    exact⟨g,o,r.a,r.c,e,hg,hc,hi⟩
   have HTk:Hid (∀q:Bool,xs.any (qE8 av)=q→(xss.take (k+1)).all (fun xs=>xs.any (qE8 av))=q):=fun q hq=>by
    have h:=HT.out
    rw[List.take_add_one,hxs,List.all_append,h]
    simpa using hq
   have HNo:Hid (xs.any (qE8 av)=false→qGf av xss=false):=fun h=>by
    unfold qGf
    rw[List.all_eq_false]
    exact⟨xs,hmem,by rw[h];decide⟩
   clear hxs hmem hxr
   go_wp2
   go_loopw [6,7] (fun q i wr=>∃(j:Nat) (z:Bool),j≤xs.length∧i=.int .i64 j∧q=.bool z∧Hid (z=(xs.take j).any (qE8 av))∧Hid (Below U.heap.size U wr)) (fun _ i _=>xs.length-(intOf i).toNat)
   case atStart=>exact⟨0,false,Nat.zero_le _,rfl,rfl,rfl,Below.refl _ _⟩
   case round =>
    obtain⟨j,z,hj,rfl,rfl,HZ,HV⟩:=hrel
    obtain⟨g,o,ra,rc,rfl,hg,c0,hI⟩:=HRow.out wr HV.out
    by_cases hjl:j<xs.length
    ·obtain⟨x,hx⟩:∃x,xs[j]? = some x:=⟨_,List.getElem?_eq_getElem hjl⟩
     obtain⟨g1,o1,rfl,hg1,c1⟩:=hI.cell hx
     obtain⟨l1,l2⟩:=HXr.out x (List.mem_of_getElem? hx)
     obtain⟨m,hm⟩:∃m:Nat,x / 2=(m:Int):=⟨(x / 2).toNat,by omega⟩
     have hml:m<av.length:=by omega
     obtain⟨y,hy⟩:∃y,av[m]? = some y:=⟨_,List.getElem?_eq_getElem hml⟩
     obtain⟨g2,o2,rfl,hg2,c2⟩:=(HA.out wr (qA5 HB.out HV.out)).cell hy
     obtain⟨y1,y2⟩:=HAs.out y (List.mem_of_getElem? hy)
     have hq:x.tdiv 2=(m:Int):=by rw[Int.tdiv_eq_ediv_of_nonneg l1];exact hm
     obtain⟨r,hr⟩:∃r,r=x % 2:=⟨_,rfl⟩
     have hrr:x.tmod 2=r:=by rw[Int.tmod_eq_emod_of_nonneg l1];exact hr.symm
     have hr0:0≤r∧r≤1:=by omega
     have htr:qE8 av x=decide (y=1+r):=by
      unfold qE8
      rw[hm,Int.toNat_natCast,hy,←hr]
      simp
     have hji:(j:Int)<(xs.length:Int):=by omega
     have hj0:(0:Int)≤(j:Int):=by omega
     have hmi:(m:Int)<(av.length:Int):=by omega
     have hm0:(0:Int)≤(m:Int):=by omega
     have hzs:=qUq (qE8 av) hx
     rw[←HZ.out,htr] at hzs
     have HZs:=Lib.hid hzs
     obtain⟨hr1,hr2⟩:=hr0
     clear hx hy hzs htr hI hm hr
     
     cases z with
     | true =>
      go_wp2
      go_quiet (fail)
      go_wp2
      go_roundw
      case rel=>exact⟨j+1,true,by omega,by go_num,rfl,by (show _=_;rw[HZs.out];rfl),qA1 HV.out⟩
      case measure=>simp[intOf];omega
     | false =>
      have hws:IntKind.i64.wrap (1+r)=1+r:=by rw[IntKind.wrap_i64];omega
      have hwy:IntKind.i64.wrap y=y:=by rw[IntKind.wrap_i64];omega
      by_cases hy1:y=1+r
      ·have d0:=qC9 hy1
       have hZ2:(xs.take (j+1)).any (qE8 av)=true:=by rw[HZs.out,decide_eq_true hy1];rfl
       have HZ2:Hid (true=(xs.take (j+1)).any (qE8 av)):=hZ2.symm
       clear hZ2 hy1
       go_wp2
       go_quiet (fail)
       go_wp2
       go_roundw
       case rel=>exact⟨j+1,true,by omega,by go_num,rfl,HZ2,qA1 HV.out⟩
       case measure=>simp[intOf];omega
      ·have d0:=qB7 hy1
       have hZ2:(xs.take (j+1)).any (qE8 av)=false:=by rw[HZs.out,decide_eq_false hy1];rfl
       have HZ2:Hid (false=(xs.take (j+1)).any (qE8 av)):=hZ2.symm
       clear hZ2 hy1
       go_wp2
       go_quiet (fail)
       go_wp2
       go_roundw
       case rel=>exact⟨j+1,false,by omega,by go_num,rfl,HZ2,qA1 HV.out⟩
       case measure=>simp[intOf];omega
    ·obtain rfl:j=xs.length:=by omega
     have HZe:Hid (xs.any (qE8 av)=z):=by
      have h:=HZ.out
      rw[List.take_length] at h
      exact h.symm
     have hBV:Hid (Below w.heap.size w wr):=qA5 HB.out HV.out
     cases z with
     | true =>
      have HT2:=Lib.hid (HTk.out true HZe.out)
      go_wp2
      go_roundw
      case rel=>exact⟨k+1,by omega,by go_num,hBV,HT2⟩
      case measure=>simp[intOf];omega
     | false =>
      have HN:=Lib.hid (HNo.out HZe.out)
      go_wp2
      go_ret
      exact⟨by rw[HN.out];rfl,hBV.out⟩
  ·obtain rfl:k=xss.length:=by omega
   have HN:Hid (qGf av xss=true):=by
    have h:=HT.out
    rw[List.take_length] at h
    exact h
   go_wp2
   go_ret
   exact⟨by rw[HN.out];rfl,HB.out⟩
def qE1 (xs:List Int):Array Value:=(xs.map (Value.int .i8)).toArray
theorem qRh {w:World} {b:Nat} {xs:List Int} {ty:TypeId} (h:w.heap[b]? = some (.cells (qE1 xs) ty (0,0))) {i:Nat} {x:Int} (hx:xs[i]? = some x):w.cell? ⟨b,i,none⟩=some (.int .i8 x):=by
 rw[cell_of_row w b i _ _ _ h,←Array.getElem?_toList]
 simp[qE1,hx]
theorem qVs {w:World} {b:Nat} {xs:List Int} {ty:TypeId} (h:w.heap[b]? = some (.cells (qE1 xs) ty (0,0))) (i:Nat) (x:Int):(w.setCell ⟨b,i,none⟩ (.int .i8 x)).heap[b]? = some (.cells (qE1 (xs.set i x)) ty (0,0)):=by
 simp[World.setCell,Array.getElem?_modify,h,qE1,List.map_set]
theorem qYh (k:Nat):madeCells (Value.int .i8 0).cells (k*1)=qE1 (List.replicate k 0):=by
 apply Array.ext
 ·simp[size_madeCells,qE1]
 ·intro i h1 h2
  simp[madeCells,qE1,Value.cells,Nat.mod_one]
theorem qYi:(Tryz.prog.info? 49).map (fun i=>(i.zero,i.size,i.bytes))=some (some (.int .i8 0),1,1):=by kernel_rfl
theorem qYj (c:Int) (k:Nat) (hc:c=k) (hk:k≤3000) (w:World):(Instr.makeSlice 41 (.int .i64 c) (.int .i64 c)).run Tryz.prog w=.ok (.slice (some ⟨w.heap.size,0,none⟩) k k) (w.alloc (.cells (qE1 (List.replicate k 0)) 49)):=by
 obtain⟨i0,hi,hz0,hz1,hz2⟩:=info_parts qYi
 have:=run_make (P:=Tryz.prog) w 41 49 i0 _ Tryz.underlying41 hi hz0 .i64 .i64 c c (by omega) (by omega) (by rw[hz2];omega) (by omega)
 rw[hz1] at this
 subst hc
 rw[Int.toNat_natCast,qYh] at this
 exact this
theorem qRi {w:World} {b:Nat} {xs:List Int} (h:w.heap[b]? = some (.cells (qE1 xs) 49 (0,0))) (hm:xs.length≤3000):I8R w xs (some ⟨b,0,none⟩) xs.length :=
 ⟨Nat.le_refl _,Nat.le_trans hm (by decide),fun _=>⟨b,0,rfl,(Array.getElem?_eq_some_iff.1 h).1,fun i v hv=>by
  rw[cell_of_row w b (0+i) _ _ _ h,Nat.zero_add,←Array.getElem?_toList]
  simpa [qE1] using hv⟩⟩
def tdV (E:List (Int × Bool)) (c:List NodeA) (k:Nat):Int:=if (qAd c k).sort=0 then 2-(atV E k).1 else 0
def tdL (E:List (Int × Bool)) (c:List NodeA):List Int:=(List.range c.length).map (tdV E c)
theorem qFq (E:List (Int × Bool)) (c:List NodeA):(tdL E c).length=c.length:=by unfold tdL;simp
theorem qJj {E:List (Int × Bool)} {c:List NodeA} {k:Nat} (h:k<c.length):(tdL E c)[k]? = some (tdV E c k):=by unfold tdL;rw[List.getElem?_map,List.getElem?_range h];rfl
structure TdR (w V:World) (xs:List Int) (b:Nat):Prop where
 row:V.heap[b]? = some (.cells (qE1 xs) 49 (0,0))
 bel:Below w.heap.size w V
 lo:w.heap.size≤b
theorem TdR.set {w V:World} {xs:List Int} {b:Nat} (h:TdR w V xs b) (i:Nat) (x:Int):TdR w (V.setCell ⟨b,i,none⟩ (.int .i8 x)) (xs.set i x) b :=
 ⟨qVs h.row i x,h.bel.setCell (by show w.heap.size≤b;exact h.lo) _,h.lo⟩
theorem TdR.drewN {w V:World} {xs:List Int} {b n:Nat} (h:TdR w V xs b):TdR w (V.drewN n) xs b:=⟨h.row,qA1 h.bel,h.lo⟩
theorem qLk {w W0:World} {o1 o2 o3:Obj} (h:W0=((w.alloc o1).alloc o2).alloc o3):Below w.heap.size w W0∧W0.heap.size=w.heap.size+3∧W0.heap[w.heap.size]? = some o1∧W0.heap[w.heap.size+1]? = some o2∧W0.heap[w.heap.size+1+1]? = some o3:=by
 subst h
 have e2:=heap_alloc_new (w.alloc o1) o2
 have e3:=heap_alloc_new ((w.alloc o1).alloc o2) o3
 simp only[World.size_alloc] at e2 e3
 exact⟨(((Below.refl _ w).alloc (Nat.le_refl _) _).alloc (by simp) _).alloc (by simp;omega) _,by simp,(Below.heap_alloc _ _ _ (by simp;omega)).trans ((Below.heap_alloc _ _ _ (by simp)).trans (heap_alloc_new w o1)),(Below.heap_alloc _ _ _ (by simp)).trans e2,e3⟩
theorem qKl (c:List NodeA) (k:Nat):(qAy c k).length≤4:=by
 unfold qAy
 repeat' split
 all_goals simp
theorem qKm (c:List NodeA):∀ks:List Nat,(ks.flatMap (qAy c)).length≤4*ks.length
 | []=>by simp
 | k :: ks=>by
  rw[List.flatMap_cons,List.length_append,List.length_cons]
  have:=qKl c k
  have:=qKm c ks
  omega
theorem zBa {V:World} {E:List (Int × Bool)} {la:Option Addr} (h:At V V.heap.size (E.flatMap qP2) la) {k:Nat} (hk:k<E.length):∃g o:Nat,la=some ⟨g,o,none⟩∧g<V.heap.size∧V.cell? ⟨g,o+k,none⟩=some (.int .i64 (atV E (k:Int)).1):=by
 have hl:∀L:List (Int × Bool),L.flatMap qP2=L.map (fun p=>Value.int .i64 p.1):=fun L=>by
  induction L with
  | nil=>rfl
  | cons p L ih=>rw[List.flatMap_cons,ih];rfl
 rw[hl] at h
 obtain⟨g,o,e,hg,hc⟩:=h (by simp;omega)
 refine⟨g,o,e,hg,hc k _ ?_⟩
 rw[List.getElem?_map,List.getElem?_eq_getElem hk]
 unfold atV
 rw[Int.toNat_natCast,List.getElem?_eq_getElem hk]
 rfl
theorem zBb {V:World} {E:List (Int × Bool)} {la:Option Addr} (h:At V V.heap.size (E.flatMap qP3) la) {k:Nat} (hk:k<E.length):∃g o:Nat,la=some ⟨g,o,none⟩∧g<V.heap.size∧V.cell? ⟨g,o+k,none⟩=some (.bool (atV E (k:Int)).2):=by
 have hl:∀L:List (Int × Bool),L.flatMap qP3=L.map (fun p=>Value.bool p.2):=fun L=>by
  induction L with
  | nil=>rfl
  | cons p L ih=>rw[List.flatMap_cons,ih];rfl
 rw[hl] at h
 obtain⟨g,o,e,hg,hc⟩:=h (by simp;omega)
 refine⟨g,o,e,hg,hc k _ ?_⟩
 rw[List.getElem?_map,List.getElem?_eq_getElem hk]
 unfold atV
 rw[Int.toNat_natCast,List.getElem?_eq_getElem hk]
 rfl
def qRj (x:SigV) (y:WorV) (c:List NodeA) (w:World) (e:Ending) (w':World):Prop :=
 (Below w.heap.size w w'∧e=.returned (.tuple #[.slice none 0 0,.bool false])) ∨
 (qOi x y c=0∧(∀k:Nat,k<c.length→(atV (evK x y c c.length) (k:Int)).2=false)∧∃b:Nat,e=.returned (.tuple #[.slice (some ⟨b,0,none⟩) c.length c.length,.bool true])∧TdR w w' (tdL (evK x y c c.length) c) b)
theorem qYk {w W0:World} {x:SigV} {y:WorV} {a:Option Addr} {n ca:Nat} (hW0:W0=((w.alloc (.cells #[.slice x.sa x.sorts.length x.sc,.slice x.fa x.funs.length x.fc,.slice x.ma x.macs.length x.mc] 26)).alloc (.cells #[.slice y.sa y.sizes.length y.sc,.slice y.fa y.funs.length y.fc] 30)).alloc (.cells #[.slice a n ca] 33)) :
  Below w.heap.size w W0∧W0.heap.size=w.heap.size+3∧∀V,Below W0.heap.size W0 V→V.cell? ⟨w.heap.size,0,none⟩=some (.slice x.sa x.sorts.length x.sc)∧V.cell? ⟨w.heap.size,1,none⟩=some (.slice x.fa x.funs.length x.fc)∧V.cell? ⟨w.heap.size,2,none⟩=some (.slice x.ma x.macs.length x.mc)∧V.cell? ⟨w.heap.size+1,0,none⟩=some (.slice y.sa y.sizes.length y.sc)∧V.cell? ⟨w.heap.size+1,1,none⟩=some (.slice y.fa y.funs.length y.fc)∧V.cell? ⟨w.heap.size+1+1,0,none⟩=some (.slice a n ca)∧w.heap.size+1+1<V.heap.size:=by
 obtain⟨hB0,hs0,e1,e2,e3⟩:=qLk hW0
 refine⟨hB0,hs0,fun V hV=>?_⟩
 have f1:=(hV.block _ (Array.getElem?_eq_some_iff.1 e1).1).trans e1
 have f2:=(hV.block _ (Array.getElem?_eq_some_iff.1 e2).1).trans e2
 have f3:=(hV.block _ (Array.getElem?_eq_some_iff.1 e3).1).trans e3
 exact⟨(cell_of_row _ _ 0 _ _ _ f1).trans rfl,(cell_of_row _ _ 1 _ _ _ f1).trans rfl,(cell_of_row _ _ 2 _ _ _ f1).trans rfl,(cell_of_row _ _ 0 _ _ _ f2).trans rfl,(cell_of_row _ _ 1 _ _ _ f2).trans rfl,(cell_of_row _ _ 0 _ _ _ f3).trans rfl,(Array.getElem?_eq_some_iff.1 f3).1⟩
set_option maxHeartbeats 8000000 in
theorem qNy (x:SigV) (y:WorV) (c:List NodeA) (a:Option Addr) (ca:Nat) (w:World) (hX:SigR w x) (hY:WorR w y) (hA:TabR w c a ca) (hlen:c.length≤2000) (hb:qOi x y c=0→∀(k:Nat),k<c.length→(qAd c k).sort=0→(atV (evK x y c c.length) (k:Int)).1=0∨(atV (evK x y c c.length) (k:Int)).1=1) :
  Calls Tryz.prog 10 #[.agg #[.slice x.sa x.sorts.length x.sc,.slice x.fa x.funs.length x.fc,.slice x.ma x.macs.length x.mc],.agg #[.slice y.sa y.sizes.length y.sc,.slice y.fa y.funs.length y.fc],.agg #[.slice a c.length ca]] w (qRj x y c w):=by
 obtain⟨W0,hW0⟩:∃W0,W0=((w.alloc (.cells #[.slice x.sa x.sorts.length x.sc,.slice x.fa x.funs.length x.fc,.slice x.ma x.macs.length x.mc] 26)).alloc (.cells #[.slice y.sa y.sizes.length y.sc,.slice y.fa y.funs.length y.fc] 30)).alloc (.cells #[.slice a c.length ca] 33):=⟨_,rfl⟩
 obtain⟨hB0,hs0,hX0⟩:=qYk hW0
 obtain⟨E,hE⟩:∃E,E=evK x y c c.length:=⟨_,rfl⟩
 have hEl:E.length=c.length:=by rw[hE];exact qEj x y c c.length
 have HK:=Lib.hid hX0
 have HVl:Hid (Calls Tryz.prog 22 #[.agg #[.slice x.sa x.sorts.length x.sc,.slice x.fa x.funs.length x.fc,.slice x.ma x.macs.length x.mc],.agg #[.slice y.sa y.sizes.length y.sc,.slice y.fa y.funs.length y.fc],.agg #[.slice a c.length ca]] W0 fun e w'=>qG5 W0 x y c e w'):=qMe x y c a ca W0 (hX.below hB0) (hY.below hB0) (hA.below hB0) (by omega)
 have HA:Hid (∀V,Below W0.heap.size W0 V→TabR V c a ca):=fun V hV=>(hA.below hB0).below hV
 have HB0:=Lib.hid hB0
 have HEq:=Lib.hid (And.intro hE (And.intro hEl hb))
 obtain⟨x0,x1,x2,y0,y1,t0,tz⟩:=hX0 W0 (Below.refl _ _)
 have hmk:=qYj c.length c.length rfl (by omega)
 have hA0:=hW0.symm
 clear hW0 hX0 hX hY hA hB0 hE hEl hb hs0
 go_enter Tryz.func10,Tryz.ntmps10
 go_wp2_with fail
 refine HVl.out.mono ?_
 rintro e w1 ⟨hb1,⟨hne,rfl⟩|⟨h0,la,lc,oa,oc,rfl,hla,hoa⟩⟩
 ·have e0:=qDf hne
  have HB1:Hid (Below w.heap.size w w1):=HB0.out.trans (hb1.mono HB0.out.size)
  clear hb1 hne
  go_wp2
  go_ret2
  exact .inl ⟨HB1.out,rfl⟩
 ·have HB1:Hid (Below W0.heap.size W0 w1):=hb1
  have HLa:Hid (∀V,Below w1.heap.size w1 V→∀k:Nat,k<c.length→∃g o:Nat,la=some ⟨g,o,none⟩∧g<V.heap.size∧V.cell? ⟨g,o+k,none⟩=some (.int .i64 (atV E (k:Int)).1)):=fun V hV k hk=>zBa ((by rw[HEq.out.1];exact(hla.below hV).more hV.size)) (by rw[HEq.out.2.1];exact hk)
  have HOa:Hid (∀V,Below w1.heap.size w1 V→∀k:Nat,k<c.length→∃g o:Nat,oa=some ⟨g,o,none⟩∧g<V.heap.size∧V.cell? ⟨g,o+k,none⟩=some (.bool (atV E (k:Int)).2)):=fun V hV k hk=>zBb ((by rw[HEq.out.1];exact(hoa.below hV).more hV.size)) (by rw[HEq.out.2.1];exact hk)
  have HBw:Hid (Below w.heap.size w w1):=HB0.out.trans (hb1.mono HB0.out.size)
  have hzl:(tdL E c).length=(List.replicate c.length (0:Int)).length:=by rw[qFq];simp
  have HZl:=Lib.hid hzl
  have H0:Hid (TdR w (w1.alloc (.cells (qE1 (List.replicate c.length 0)) 49)) (qFp (tdL E c) (List.replicate c.length 0) 0) w1.heap.size∧Below w1.heap.size w1 (w1.alloc (.cells (qE1 (List.replicate c.length 0)) 49))) :=
   ⟨⟨by rw[qLc];exact heap_alloc_new w1 _,HBw.out.alloc HBw.out.size _,HBw.out.size⟩,(Below.refl _ w1).alloc (Nat.le_refl _) _⟩
  have H00:=Lib.hid h0
  clear hb1 hla hoa h0 hzl x0 x1 x2 y0 y1 t0 tz
  go_wp2
  go_loopw [12] (fun i wr=>∃k:Nat,k≤c.length∧i=.int .i64 k∧Hid (TdR w wr (qFp (tdL E c) (List.replicate c.length 0) k) w1.heap.size)∧Hid (Below w1.heap.size w1 wr)∧Hid (∀j:Nat,j<k→(atV E (j:Int)).2=false)) (fun i _=>c.length-(intOf i).toNat)
  case atStart=>exact⟨0,Nat.zero_le _,rfl,H0.out.1,H0.out.2,fun j hj=>by omega⟩
  case round =>
   clear H0
   obtain⟨k,hk,rfl,HT,HV,HF⟩:=hrel
   by_cases hlt:k<c.length
   ·obtain⟨x0,x1,x2,y0,y1,t0,tz⟩:=HK.out wr (qA5 HB1.out HV.out)
    obtain⟨g1,o1,rfl,hg1,c1⟩:=HLa.out wr HV.out k hlt
    obtain⟨g2,o2,rfl,hg2,c2⟩:=HOa.out wr HV.out k hlt
    obtain⟨n,hn⟩:∃n,c[k]? = some n:=⟨_,List.getElem?_eq_getElem hlt⟩
    obtain⟨g,o,rfl,hg,q0,q1,q2,q3,q4,q5,q6,q7⟩:=(HA.out wr (qA5 HB1.out HV.out)).node hn
    have hnn:=qBf hn
    have hki:(k:Int)<(c.length:Int):=by omega
    have hk0:(0:Int)≤(k:Int):=by omega
    have hz0:(qFp (tdL E c) (List.replicate c.length 0) k)[k]? = some 0:=by
     rw[qKf HZl.out (Nat.le_refl _) (by rw[qFq];exact hk)]
     simp[hlt]
    have r0:=qRh HT.out.row hz0
    have rf:=qF6 HT.out.row k
    have rz:=(Array.getElem?_eq_some_iff.1 HT.out.row).1
    cases hq:(atV E (k:Int)).2 with
    | true =>
     rw[hq] at c2
     clear hn hnn hz0 hq
     go_wp2
     go_ret2
     exact .inl ⟨HT.out.bel,rfl⟩
    | false =>
     rw[hq] at c2
     have HF2:Hid (∀j:Nat,j<k+1→(atV E (j:Int)).2=false):=fun j hj=>by
      by_cases e:j<k
      ·exact HF.out j e
      ·obtain rfl:j=k:=by omega
       exact hq
     by_cases hs:n.sort=0
     ·have hval:=HEq.out.2.2 H00.out k hlt (by rw[hnn];exact hs)
      rw[←HEq.out.1] at hval
      have htd:tdV E c k=2-(atV E (k:Int)).1:=by unfold tdV;rw[hnn,if_pos hs]
      rw[hs] at q5
      rcases hval with hv|hv
      ·rw[hv] at c1 htd
       have HN:Hid (TdR w (wr.setCell ⟨w1.heap.size,k,none⟩ (.int .i8 2)) (qFp (tdL E c) (List.replicate c.length 0) (k+1)) w1.heap.size):=by
        have h:=HT.out.set k 2
        rw[qD0 HZl.out (by rw[qJj hlt,htd];rfl)] at h
        exact h
       have HV2:Hid (Below w1.heap.size w1 (wr.setCell ⟨w1.heap.size,k,none⟩ (.int .i8 2))):=HV.out.setCell (Nat.le_refl _) _
       clear hn hnn hz0 hq hs hv htd
       go_wp2
       go_roundw
       case rel=>exact⟨k+1,by omega,by go_num,HN,HV2,HF2⟩
       case measure=>simp[intOf];omega
      ·rw[hv] at c1 htd
       have HN:Hid (TdR w (wr.setCell ⟨w1.heap.size,k,none⟩ (.int .i8 1)) (qFp (tdL E c) (List.replicate c.length 0) (k+1)) w1.heap.size):=by
        have h:=HT.out.set k 1
        rw[qD0 HZl.out (by rw[qJj hlt,htd];rfl)] at h
        exact h
       have HV2:Hid (Below w1.heap.size w1 (wr.setCell ⟨w1.heap.size,k,none⟩ (.int .i8 1))):=HV.out.setCell (Nat.le_refl _) _
       clear hn hnn hz0 hq hs hv htd
       go_wp2
       go_roundw
       case rel=>exact⟨k+1,by omega,by go_num,HN,HV2,HF2⟩
       case measure=>simp[intOf];omega
     ·have d0:=qB7 hs
      have htd:tdV E c k=0:=by unfold tdV;rw[hnn,if_neg hs]
      have HN:Hid (TdR w wr (qFp (tdL E c) (List.replicate c.length 0) (k+1)) w1.heap.size):=by
       rw[←qD0 HZl.out (x:=0) (by rw[qJj hlt,htd])]
       have e:(qFp (tdL E c) (List.replicate c.length 0) k).set k 0=qFp (tdL E c) (List.replicate c.length 0) k:=by
        refine List.ext_getElem? fun j=>?_
        rw[List.getElem?_set]
        by_cases e:k=j
        ·subst e
         rw[if_pos rfl,hz0]
         split
         ·rfl
         ·rename_i hh
          exact absurd (List.getElem?_eq_some_iff.1 hz0).1 hh
        ·rw[if_neg e]
       show TdR _ _ _ _
       rw[e]
       exact HT.out
      clear hn hnn hz0 hq hs htd
      go_wp2
      go_roundw
      case rel=>exact⟨k+1,by omega,by go_num,HN,HV,HF2⟩
      case measure=>simp[intOf];omega
   ·obtain rfl:k=c.length:=by omega
    have HN:Hid (TdR w wr (tdL E c) w1.heap.size):=by
     have h:=HT.out
     have e:=qKd HZl.out
     rw[qFq] at e
     rw[e] at h
     exact h
    clear HT
    go_wp2
    go_ret2
    exact .inr ⟨H00.out,fun j hj=>by rw[←HEq.out.1];exact HF.out j hj,w1.heap.size,rfl,by rw[←HEq.out.1];exact HN.out⟩
end Go.Proofs.YtfgpimhdjlmapaaGreatDoor.Tm
