/- The document's May of interpretations. -/
import Derived.Deep.RegionHeld3
import Derived.Maps.AppendAt
import Derived.Deep.AppendLies
import Derived.Deep.RegionHeldLaw
import Derived.Deep.RegionLaw
import Derived.DeepKeys4
import Derived.WalkArith
import Derived.Maps.OwnSet
import Derived.Maps.OwnIn
import Derived.Deep.CutRange
import Derived.Laws.Cover3
import Derived.Laws.Append
import Derived.Test.YtfgpimhdjlmapaaGreatDoorSgA
import Derived.Test.YtfgpimhdjlmapaaGreatDoorTmA
import Derived.Test.YtfgpimhdjlmapaaGreatDoorHdC
import Derived.Test.YtfgpimhdjlmapaaGreatDoorNumMay
import Derived.Test.YtfgpimhdjlmapaaGreatDoorHdG
import Derived.WalkKit
import Derived.ProofKit
import Derived.Outline
import Derived.LoopTactic
import Derived.Handy
import Derived.Lib.Hide
import Derived.Below
import Derived.OneCell
import Derived.OpenShut
import Derived.BigQuiet
import Derived.Laws.Strings
import Derived.Test.YtfgpimhdjlmapaaGreatDoorProg
namespace Go.Proofs.YtfgpimhdjlmapaaGreatDoor
open Go.RowKit
set_option linter.unusedVariables false
set_option maxRecDepth 100000
structure RowA where
 a0:Int
 a1:Int
 a2:Int
 v:Int
structure qHe (r:RowA):Prop where
 a0:I64 r.a0
 a1:I64 r.a1
 a2:I64 r.a2
 v:I64 r.v
def zC2 (r:RowA):List Value:=[.int .i64 r.a0,.int .i64 r.a1,.int .i64 r.a2,.int .i64 r.v]
theorem qBj (r:RowA):(zC2 r).length=4:=rfl
structure FvV where
 rows:List RowA
 ra:Option Addr
 rc:Nat
 els:Int
def fvL (f:FvV):List Value:=[.slice f.ra f.rows.length f.rc,.int .i64 f.els]
theorem qDx (f:FvV):(fvL f).length=2:=rfl
def qFb (n:Int):List Value:=[.int .i64 n]
theorem qA2 (n:Int):(qFb n).length=1:=rfl
structure FvOk (w:World) (B:Nat) (f:FvV):Prop where
 rl:f.rows.length≤f.rc
 rm:f.rc≤maxLen
 rat:At w B (f.rows.flatMap zC2) f.ra
 rok:∀r∈f.rows,qHe r
 els:I64 f.els
structure WorV where
 sizes:List Int
 sa:Option Addr
 sc:Nat
 funs:List FvV
 fa:Option Addr
 fc:Nat
structure WorR (w:World) (x:WorV):Prop where
 sl:x.sizes.length≤x.sc
 sm:x.sc≤maxLen
 sat:At w w.heap.size (x.sizes.flatMap qFb) x.sa
 sok:∀n∈x.sizes,I64 n
 fl:x.funs.length≤x.fc
 fm:x.fc≤maxLen
 fat:At w w.heap.size (x.funs.flatMap fvL) x.fa
 fok:∀f∈x.funs,FvOk w w.heap.size f
theorem FvOk.up {w w':World} {f:FvV} (h:FvOk w w.heap.size f) (hb:Below w.heap.size w w'):FvOk w' w'.heap.size f :=
 ⟨h.rl,h.rm,(h.rat.below hb).more hb.size,h.rok,h.els⟩
theorem WorR.below {w w':World} {x:WorV} (h:WorR w x) (hb:Below w.heap.size w w'):WorR w' x :=
 ⟨h.sl,h.sm,(h.sat.below hb).more hb.size,h.sok,h.fl,h.fm,(h.fat.below hb).more hb.size,fun f hf=>(h.fok f hf).up hb⟩
theorem qQe {α:Type} {p:α→Bool} {l:List α} (h:∀(j:Nat) (y:α),l[j]? = some y→p y=false):l.any p=false:=by
 rw[List.any_eq_false]
 intro y hy
 obtain⟨j,hj⟩:=List.getElem?_of_mem hy
 rw[h j y hj];simp
theorem qMb {α:Type} {p:α→Bool} {l:List α} {j:Nat} {y:α} (h:l[j]? = some y) (hp:p y=true):l.any p=true:=List.any_eq_true.2 ⟨y,List.mem_of_getElem? h,hp⟩
theorem qBy {V:World} {B:Nat} {a b:Value} {ty:TypeId} (h:V.heap[B]? = some (.cells #[a,b] ty (0,0))):V.cell? ⟨B,0,none⟩=some a∧V.cell? ⟨B,1,none⟩=some b∧B<V.heap.size :=
 ⟨(cell_of_row _ _ 0 _ _ _ h).trans rfl,(cell_of_row _ _ 1 _ _ _ h).trans rfl,(Array.getElem?_eq_some_iff.1 h).1⟩
def zCb (e:Ending):Prop:=∃q:Bool,e=.returned (.bool q)
theorem qI2 (x:WorV) (w:World) (hR:WorR w x) :
  Calls Tryz.prog 6 #[.agg #[.slice x.sa x.sizes.length x.sc,.slice x.fa x.funs.length x.fc]] w fun e w'=>zCb e∧Below w.heap.size w w':=by
 obtain⟨W0,hW0⟩:∃W0,W0=w.alloc (.cells #[.slice x.sa x.sizes.length x.sc,.slice x.fa x.funs.length x.fc] 30):=⟨_,rfl⟩
 have HB0:Hid (Below w.heap.size w W0):=by rw[hW0];exact(Below.refl _ _).alloc (Nat.le_refl _) _
 have hX0:W0.heap[w.heap.size]? = some (.cells #[.slice x.sa x.sizes.length x.sc,.slice x.fa x.funs.length x.fc] 30 (0,0)):=by rw[hW0];exact heap_alloc_new w _
 obtain⟨c0,c1,z0⟩:=qBy hX0
 have HX:Hid (∀V,Below W0.heap.size W0 V→V.cell? ⟨w.heap.size,0,none⟩=some (.slice x.sa x.sizes.length x.sc)∧V.cell? ⟨w.heap.size,1,none⟩=some (.slice x.fa x.funs.length x.fc)∧w.heap.size<V.heap.size):=fun V hV=>qBy ((hV.block _ (Array.getElem?_eq_some_iff.1 hX0).1).trans hX0)
 have HR:=Lib.hid hR
 clear hR hX0
 by_cases h0:20<x.sizes.length
 ·have d0:(20:Int)<(x.sizes.length:Int):=by omega
  go_enter Tryz.func6,Tryz.ntmps6
  go_wp2
  rw[←hW0]
  go_ret
  exact⟨⟨_,rfl⟩,HB0.out⟩
 have d0:¬(20:Int)<(x.sizes.length:Int):=by omega
 by_cases h1:40<x.funs.length
 ·have d1:(40:Int)<(x.funs.length:Int):=by omega
  go_enter Tryz.func6,Tryz.ntmps6
  go_wp2
  rw[←hW0]
  go_ret
  exact⟨⟨_,rfl⟩,HB0.out⟩
 have d1:¬(40:Int)<(x.funs.length:Int):=by omega
 go_enter Tryz.func6,Tryz.ntmps6
 go_wp2
 rw[←hW0]
 clear hW0
 go_loopw [3,4] (fun n i wr=>∃(k:Nat) (m:Int),k≤x.funs.length∧i=.int .i64 k∧n=.int .i64 m∧0≤m∧m≤9000*(k:Int)∧Hid (Below W0.heap.size W0 wr)) (fun _ i _=>x.funs.length-(intOf i).toNat)
 case atStart=>exact⟨0,0,Nat.zero_le _,rfl,rfl,by omega,by omega,Below.refl _ _⟩
 case round =>
  obtain⟨k,m,hk,rfl,rfl,hm0,hm1,HB⟩:=hrel
  obtain⟨c0,c1,z0⟩:=HX.out _ HB.out
  by_cases hlt:k<x.funs.length
  ·obtain⟨f,hf⟩:∃f,x.funs[k]? = some f:=⟨_,List.getElem?_eq_getElem hlt⟩
   obtain⟨g,o,ha,hg,hcell⟩:=HR.out.fat.below (HB0.out.trans (HB.out.mono HB0.out.size)) (by rw[len_flat qDx];omega)
   have q0:=hcell _ _ ((get_flat qDx x.funs k 0 f hf (by omega)).trans rfl)
   simp only[Nat.add_zero] at q0
   have hgw:g<wr.heap.size:=by have:=HB.out.size;have:=HB0.out.size;omega
   have hki:(k:Int)<(x.funs.length:Int):=by omega
   rw[ha] at c1
   have hlen0:(0:Int)≤(f.rows.length:Int):=by omega
   clear hf hcell ha
   go_wp2
   all_goals go_roundw
   all_goals first
    | (case rel=>exact⟨k+1,_,by omega,by go_num,rfl,by (try unfold wrap64);omega,by (try unfold wrap64);omega,by first|exact HB|exact HB.out.drew⟩)
    | (case measure=>simp[intOf];omega)
  ·obtain rfl:k=x.funs.length:=by omega
   go_wp2
   all_goals go_ret
   all_goals exact⟨⟨_,rfl⟩,HB0.out.trans (HB.out.mono HB0.out.size)⟩
def isB (n:Nat) (z:List Int) (s v:Int):Bool:=decide (z.length=n)&&(qBg n s&&(if s=0 then decide (v=0∨v=1) else if s=1 then qAn v else decide (0≤v)&&decide (v<z.getD (s-2).toNat 0)))
theorem qI3 {n:Nat} {z:List Int} {s v:Int} (hn:z.length=n) (h0:0≤s) (h1:s<2+(n:Int)):isB n z s v=(if s=0 then decide (v=0∨v=1) else if s=1 then qAn v else decide (0≤v)&&decide (v<z.getD (s-2).toNat 0)):=by
 unfold isB qBg
 rw[decide_eq_true hn,decide_eq_true h0,decide_eq_true h1];rfl
theorem qQf {n:Nat} (h:n≤100):wrap64 (2+(n:Int))=2+(n:Int):=by unfold wrap64;omega
theorem qQg (x:SigV) (y:WorV) (s v:Int) (r:Bool) (w:World) (hY:WorR w y) (hs:I64 s) (hv:I64 v) (hl:x.sorts.length≤100) (hr:isB x.sorts.length y.sizes s v=r) :
  Calls Tryz.prog 57 #[.agg #[.slice x.sa x.sorts.length x.sc,.slice x.fa x.funs.length x.fc,.slice x.ma x.macs.length x.mc],.agg #[.slice y.sa y.sizes.length y.sc,.slice y.fa y.funs.length y.fc],.int .i64 s,.int .i64 v] w fun e w'=>e=.returned (.bool r)∧Below w.heap.size w w':=by
 obtain⟨W0,hW0⟩:∃W0,W0=(w.alloc (.cells #[.slice x.sa x.sorts.length x.sc,.slice x.fa x.funs.length x.fc,.slice x.ma x.macs.length x.mc] 26)).alloc (.cells #[.slice y.sa y.sizes.length y.sc,.slice y.fa y.funs.length y.fc] 30):=⟨_,rfl⟩
 have hB0:Below w.heap.size w W0:=by rw[hW0];exact((Below.refl _ w).alloc (Nat.le_refl _) _).alloc (by simp) _
 have HB0:=Lib.hid hB0
 have hX0:W0.heap[w.heap.size]? = some (.cells #[.slice x.sa x.sorts.length x.sc,.slice x.fa x.funs.length x.fc,.slice x.ma x.macs.length x.mc] 26 (0,0)):=by rw[hW0];exact(Below.heap_alloc _ _ _ (by simp)).trans (heap_alloc_new w _)
 have hY0:W0.heap[w.heap.size+1]? = some (.cells #[.slice y.sa y.sizes.length y.sc,.slice y.fa y.funs.length y.fc] 30 (0,0)):=by
  have:=heap_alloc_new (w.alloc (.cells #[.slice x.sa x.sorts.length x.sc,.slice x.fa x.funs.length x.fc,.slice x.ma x.macs.length x.mc] 26)) (.cells #[.slice y.sa y.sizes.length y.sc,.slice y.fa y.funs.length y.fc] 30)
  rw[World.size_alloc] at this
  rw[hW0];exact this
 obtain⟨c0,c1,c2,z0⟩:=qAx hX0
 obtain⟨y0,y1,z1⟩:=qBy hY0
 have HY:=Lib.hid hY
 obtain⟨s1,s2⟩:=hs
 clear hX0 hY0 hY
 by_cases hn:y.sizes.length=x.sorts.length
 rotate_left
 ·obtain rfl:r=false:=by rw[←hr];unfold isB;rw[decide_eq_false hn];rfl
  have e0:((y.sizes.length:Int) != (x.sorts.length:Int))=true:=qAr (by omega)
  clear hr
  go_enter Tryz.func57,Tryz.ntmps57
  go_wp2
  rw[←hW0]
  go_ret
  exact⟨rfl,HB0.out⟩
 have e0:((y.sizes.length:Int) != (x.sorts.length:Int))=false:=qB3 (by omega)
 have HN:=Lib.hid hn
 clear hn
 by_cases h0:s<0
 ·obtain rfl:r=false:=by rw[←hr];unfold isB qBg;rw[decide_eq_false (p:=0≤s) (by omega)];simp
  clear hr
  go_enter Tryz.func57,Tryz.ntmps57
  go_wp2
  rw[←hW0]
  go_ret
  exact⟨rfl,HB0.out⟩
 have hw2:=qQf hl
 by_cases h1:2+(x.sorts.length:Int)≤s
 ·obtain rfl:r=false:=by rw[←hr];unfold isB qBg;rw[decide_eq_false (p:=s<2+(x.sorts.length:Int)) (by omega)];simp
  clear hr
  go_enter Tryz.func57,Tryz.ntmps57
  go_wp2
  rw[←hW0]
  go_ret
  exact⟨rfl,HB0.out⟩
 rw[qI3 HN.out (by omega) (by omega)] at hr
 by_cases h2:s=0
 ·rw[if_pos h2] at hr
  have e2:=qAo h2
  by_cases h3:v=0
  ·obtain rfl:r=true:=by rw[←hr,h3];rfl
   have e3:=qAo h3
   clear hr h3 h2
   go_enter Tryz.func57,Tryz.ntmps57
   go_wp2
   rw[←hW0]
   go_ret
   exact⟨rfl,HB0.out⟩
  have e3:=qA9 h3
  by_cases h4:v=1
  ·obtain rfl:r=true:=by rw[←hr,h4];rfl
   have e4:=qAo h4
   clear hr h4 h3 h2
   go_enter Tryz.func57,Tryz.ntmps57
   go_wp2
   rw[←hW0]
   go_ret
   exact⟨rfl,HB0.out⟩
  obtain rfl:r=false:=by rw[←hr];exact decide_eq_false (by omega)
  have e4:=qA9 h4
  clear hr h4 h3 h2
  go_enter Tryz.func57,Tryz.ntmps57
  go_wp2
  rw[←hW0]
  go_ret
  exact⟨rfl,HB0.out⟩
 rw[if_neg h2] at hr
 have e2:=qA9 h2
 by_cases h3:s=1
 ·rw[if_pos h3] at hr
  have e3:=qAo h3
  have hM:=qDy v W0
  rw[hr] at hM
  have HM:=Lib.hid hM
  clear hM
  clear hr h3
  go_enter Tryz.func57,Tryz.ntmps57
  go_wp2_with (go_at_call 44;rw[←hW0];clear hW0;refine HM.out.mono ?_;rintro e w1 ⟨rfl,rfl⟩)
  go_ret
  exact⟨rfl,HB0.out⟩
 rw[if_neg h3] at hr
 have e3:=qA9 h3
 by_cases h4:v<0
 ·obtain rfl:r=false:=by rw[←hr,decide_eq_false (by omega)];rfl
  clear hr
  go_enter Tryz.func57,Tryz.ntmps57
  go_wp2
  rw[←hW0]
  go_ret
  exact⟨rfl,HB0.out⟩
 rw[decide_eq_true (by omega),Bool.true_and] at hr
 obtain⟨k,rfl⟩:∃k:Nat,s=2+(k:Int):=⟨(s-2).toNat,by omega⟩
 have ek:(2+(k:Int)-2).toNat=k:=by omega
 rw[ek] at hr
 have hk:k<y.sizes.length:=by have:=HN.out;omega
 obtain⟨m,hm⟩:∃m,y.sizes[k]? = some m:=⟨_,List.getElem?_eq_getElem hk⟩
 rw[List.getD_eq_getElem?_getD,hm,Option.getD_some] at hr
 obtain⟨g,o,ha,hg,hcell⟩:=HY.out.sat (by rw[len_flat qA2];omega)
 have q0:=hcell _ _ ((get_flat qA2 y.sizes k 0 m hm (by omega)).trans rfl)
 simp only[Nat.add_zero,Nat.mul_one] at q0
 rw[ha] at y0 hW0
 have hwk:wrap64 (2+(k:Int)-2)=(k:Int):=by unfold wrap64;omega
 have hks:(k:Int)<(y.sizes.length:Int):=by omega
 have hm1:=HY.out.sok m (List.mem_of_getElem? hm)
 clear hm hcell ek
 cases r with
 | true =>
  have d5:v<m:=by simpa using hr
  clear hr
  go_enter Tryz.func57,Tryz.ntmps57
  go_wp2
  rw[←hW0]
  go_ret
  exact⟨rfl,HB0.out⟩
 | false =>
  have d5:¬v<m:=by simpa using hr
  clear hr
  go_enter Tryz.func57,Tryz.ntmps57
  go_wp2
  rw[←hW0]
  go_ret
  exact⟨rfl,HB0.out⟩
def qD3 (n:Nat) (z:List Int) (f:FunA) (b:Int) (k:Nat):Bool:=if (k:Int)<f.len then isB n z (qNg f k) b else decide (b=0)
def fitB (n:Nat) (z:List Int) (f:FunA) (b0 b1 b2:Int):Bool:=qD3 n z f b0 0&&(qD3 n z f b1 1&&qD3 n z f b2 2)
theorem qG3 {V:World} {B:Nat} {a b c:Value} {ty:TypeId} (h:V.heap[B]? = some (.cells #[a,b,c] ty (0,0))):V.cell? ⟨B,0,none⟩=some a∧V.cell? ⟨B,1,none⟩=some b∧V.cell? ⟨B,2,none⟩=some c∧B<V.heap.size :=
 ⟨(cell_of_row _ _ 0 _ _ _ h).trans rfl,(cell_of_row _ _ 1 _ _ _ h).trans rfl,(cell_of_row _ _ 2 _ _ _ h).trans rfl,(Array.getElem?_eq_some_iff.1 h).1⟩
set_option maxHeartbeats 4000000 in
theorem qI4 (x:SigV) (y:WorV) (f:FunA) (b0 b1 b2:Int) (r:Bool) (w:World) (hY:WorR w y) (hf:FunOk f) (h0:I64 b0) (h1:I64 b1) (h2:I64 b2) (hl:x.sorts.length≤100) (hr:fitB x.sorts.length y.sizes f b0 b1 b2=r) :
  Calls Tryz.prog 58 #[.agg #[.slice x.sa x.sorts.length x.sc,.slice x.fa x.funs.length x.fc,.slice x.ma x.macs.length x.mc],.agg #[.slice y.sa y.sizes.length y.sc,.slice y.fa y.funs.length y.fc],.agg #[.string f.name,.int .i64 f.len,.int .i64 f.a0,.int .i64 f.a1,.int .i64 f.a2,.int .i64 f.res],.agg #[.int .i64 b0,.int .i64 b1,.int .i64 b2]] w fun e w'=>e=.returned (.bool r)∧Below w.heap.size w w':=by
 obtain⟨W0,hW0⟩:∃W0,W0=(((w.alloc (.cells #[.slice x.sa x.sorts.length x.sc,.slice x.fa x.funs.length x.fc,.slice x.ma x.macs.length x.mc] 26)).alloc (.cells #[.slice y.sa y.sizes.length y.sc,.slice y.fa y.funs.length y.fc] 30)).alloc (.cells #[.string f.name,.int .i64 f.len,.int .i64 f.a0,.int .i64 f.a1,.int .i64 f.a2,.int .i64 f.res] 120)).alloc (.cells #[.int .i64 b0,.int .i64 b1,.int .i64 b2] 52):=⟨_,rfl⟩
 have hB0:Below w.heap.size w W0:=by rw[hW0];exact((((Below.refl _ w).alloc (Nat.le_refl _) _).alloc (by simp) _).alloc (by simp;omega) _).alloc (by simp;omega) _
 have HB0:=Lib.hid hB0
 have hX0:W0.heap[w.heap.size]? = some (.cells #[.slice x.sa x.sorts.length x.sc,.slice x.fa x.funs.length x.fc,.slice x.ma x.macs.length x.mc] 26 (0,0)):=by
  rw[hW0]
  exact(((Below.heap_alloc _ _ _ (by simp;omega)).trans (Below.heap_alloc _ _ _ (by simp;omega))).trans (Below.heap_alloc _ _ _ (by simp))).trans (heap_alloc_new w _)
 have hY0:W0.heap[w.heap.size+1]? = some (.cells #[.slice y.sa y.sizes.length y.sc,.slice y.fa y.funs.length y.fc] 30 (0,0)):=by
  have:=heap_alloc_new (w.alloc (.cells #[.slice x.sa x.sorts.length x.sc,.slice x.fa x.funs.length x.fc,.slice x.ma x.macs.length x.mc] 26)) (.cells #[.slice y.sa y.sizes.length y.sc,.slice y.fa y.funs.length y.fc] 30)
  rw[World.size_alloc] at this
  rw[hW0]
  exact((Below.heap_alloc _ _ _ (by simp)).trans (Below.heap_alloc _ _ _ (by simp))).trans this
 have hF0:W0.heap[w.heap.size+2]? = some (.cells #[.string f.name,.int .i64 f.len,.int .i64 f.a0,.int .i64 f.a1,.int .i64 f.a2,.int .i64 f.res] 120 (0,0)):=by
  have:=heap_alloc_new ((w.alloc (.cells #[.slice x.sa x.sorts.length x.sc,.slice x.fa x.funs.length x.fc,.slice x.ma x.macs.length x.mc] 26)).alloc (.cells #[.slice y.sa y.sizes.length y.sc,.slice y.fa y.funs.length y.fc] 30)) (.cells #[.string f.name,.int .i64 f.len,.int .i64 f.a0,.int .i64 f.a1,.int .i64 f.a2,.int .i64 f.res] 120)
  rw[World.size_alloc,World.size_alloc] at this
  rw[hW0]
  exact(Below.heap_alloc _ _ _ (by simp)).trans this
 have hA0:W0.heap[w.heap.size+3]? = some (.cells #[.int .i64 b0,.int .i64 b1,.int .i64 b2] 52 (0,0)):=by
  have:=heap_alloc_new (((w.alloc (.cells #[.slice x.sa x.sorts.length x.sc,.slice x.fa x.funs.length x.fc,.slice x.ma x.macs.length x.mc] 26)).alloc (.cells #[.slice y.sa y.sizes.length y.sc,.slice y.fa y.funs.length y.fc] 30)).alloc (.cells #[.string f.name,.int .i64 f.len,.int .i64 f.a0,.int .i64 f.a1,.int .i64 f.a2,.int .i64 f.res] 120)) (.cells #[.int .i64 b0,.int .i64 b1,.int .i64 b2] 52)
  rw[World.size_alloc,World.size_alloc,World.size_alloc] at this
  rw[hW0]
  exact this
 have HK:Hid (∀V,Below W0.heap.size W0 V→V.cell? ⟨w.heap.size,0,none⟩=some (.slice x.sa x.sorts.length x.sc)∧V.cell? ⟨w.heap.size,1,none⟩=some (.slice x.fa x.funs.length x.fc)∧V.cell? ⟨w.heap.size,2,none⟩=some (.slice x.ma x.macs.length x.mc)∧V.cell? ⟨w.heap.size+1,0,none⟩=some (.slice y.sa y.sizes.length y.sc)∧V.cell? ⟨w.heap.size+1,1,none⟩=some (.slice y.fa y.funs.length y.fc)∧V.cell? ⟨w.heap.size+2,1,none⟩=some (.int .i64 f.len)∧V.cell? ⟨w.heap.size+2,2,none⟩=some (.int .i64 f.a0)∧V.cell? ⟨w.heap.size+2,3,none⟩=some (.int .i64 f.a1)∧V.cell? ⟨w.heap.size+2,4,none⟩=some (.int .i64 f.a2)∧V.cell? ⟨w.heap.size+3,0,none⟩=some (.int .i64 b0)∧V.cell? ⟨w.heap.size+3,1,none⟩=some (.int .i64 b1)∧V.cell? ⟨w.heap.size+3,2,none⟩=some (.int .i64 b2)):=fun V hV=>by
  obtain⟨c0,c1,c2,_⟩:=qAx ((hV.block _ (Array.getElem?_eq_some_iff.1 hX0).1).trans hX0)
  obtain⟨w0,w1,_⟩:=qBy ((hV.block _ (Array.getElem?_eq_some_iff.1 hY0).1).trans hY0)
  have h:=(hV.block _ (Array.getElem?_eq_some_iff.1 hF0).1).trans hF0
  obtain⟨p0,p1,p2,_⟩:=qG3 ((hV.block _ (Array.getElem?_eq_some_iff.1 hA0).1).trans hA0)
  exact⟨c0,c1,c2,w0,w1,(cell_of_row _ _ 1 _ _ _ h).trans rfl,(cell_of_row _ _ 2 _ _ _ h).trans rfl,(cell_of_row _ _ 3 _ _ _ h).trans rfl,(cell_of_row _ _ 4 _ _ _ h).trans rfl,p0,p1,p2⟩
 have HZ:Hid (∀V,Below W0.heap.size W0 V→w.heap.size+3<V.heap.size):=fun V hV=>by
  have h1:=(Array.getElem?_eq_some_iff.1 hA0).1
  have h2:=hV.size
  omega
 have HT:Hid (∀s b q,I64 s→I64 b→isB x.sorts.length y.sizes s b=q→∀V,Below W0.heap.size W0 V→Calls Tryz.prog 57 #[.agg #[.slice x.sa x.sorts.length x.sc,.slice x.fa x.funs.length x.fc,.slice x.ma x.macs.length x.mc],.agg #[.slice y.sa y.sizes.length y.sc,.slice y.fa y.funs.length y.fc],.int .i64 s,.int .i64 b] V fun e w'=>e=.returned (.bool q)∧Below W0.heap.size W0 w'):=fun s b q hs hb hq V hV=>(qQg x y s b q V (hY.below (hB0.trans (hV.mono hB0.size))) hs hb hl hq).mono fun e w' ⟨h1,h2⟩=>⟨h1,hV.trans (h2.mono hV.size)⟩
 have HF:=Lib.hid hf
 have HYes:Hid ((∀j,j<3→qD3 x.sorts.length y.sizes f (if j=0 then b0 else if j=1 then b1 else b2) j=true)→r=true):=fun h=>by
  have e0:=h 0 (by omega)
  have e1:=h 1 (by omega)
  have e2:=h 2 (by omega)
  simp only[reduceIte,Nat.one_ne_zero,Nat.reduceEqDiff] at e0 e1 e2
  rw[←hr];unfold fitB;rw[e0,e1,e2];rfl
 have HNo0:Hid (qD3 x.sorts.length y.sizes f b0 0=false→r=false):=fun h=>by rw[←hr];unfold fitB;rw[h];rfl
 have HNo1:Hid (qD3 x.sorts.length y.sizes f b1 1=false→r=false):=fun h=>by rw[←hr];unfold fitB;rw[h];simp
 have HNo2:Hid (qD3 x.sorts.length y.sizes f b2 2=false→r=false):=fun h=>by rw[←hr];unfold fitB;rw[h];simp
 have HI0:=Lib.hid h0
 have HI1:=Lib.hid h1
 have HI2:=Lib.hid h2
 clear hX0 hY0 hF0 hA0 hY hf h0 h1 h2 hl hB0 hr
 go_enter Tryz.func58,Tryz.ntmps58
 go_wp2_with fail
 rw[←hW0]
 clear hW0
 go_loopw [9] (fun i wr=>∃k:Nat,k≤3∧i=.int .i64 k∧Hid (∀j,j<k→qD3 x.sorts.length y.sizes f (if j=0 then b0 else if j=1 then b1 else b2) j=true)∧Hid (Below W0.heap.size W0 wr)) (fun i _=>3-(intOf i).toNat)
 case atStart=>exact⟨0,by omega,rfl,fun j hj=>by omega,Below.refl _ _⟩
 case round =>
  obtain⟨k,hk3,rfl,HP,HB⟩:=hrel
  obtain⟨c0,c1,c2,w0,w1,y1,y2,y3,y4,p0,p1,p2⟩:=HK.out _ HB.out
  have z0:=HZ.out _ HB.out
  have hk:k=0∨k=1∨k=2∨k=3:=by omega
  clear hk3
  rcases hk with rfl|rfl|rfl|rfl
  ·by_cases hkl:(0:Int)<f.len
   ·have hat:qD3 x.sorts.length y.sizes f b0 0=isB x.sorts.length y.sizes f.a0 b0:=if_pos hkl
    have dk:decide ((0:Int)<f.len)=true:=decide_eq_true hkl
    have dg:decide (f.len≤(0:Int))=false:=decide_eq_false (by omega)
    cases hq:isB x.sorts.length y.sizes f.a0 b0 with
    | true =>
     rw[hq] at hat
     have HC:=Lib.hid (HT.out f.a0 b0 _ HF.out.a0 HI0.out hq)
     have HP2:Hid (∀j,j<0+1→qD3 x.sorts.length y.sizes f (if j=0 then b0 else if j=1 then b1 else b2) j=true):=fun j hj=>by
      by_cases hjk:j<0
      ·exact HP.out j hjk
      ·obtain rfl:j=0:=by omega
       exact hat
     clear hq hat
     go_wp2_with fail
     refine wp_region_held_drew (S:=fun V=>V.cell? ⟨w.heap.size,0,none⟩=some (.slice x.sa x.sorts.length x.sc)∧V.cell? ⟨w.heap.size,1,none⟩=some (.slice x.fa x.funs.length x.fc)∧V.cell? ⟨w.heap.size,2,none⟩=some (.slice x.ma x.macs.length x.mc)∧V.cell? ⟨w.heap.size+1,0,none⟩=some (.slice y.sa y.sizes.length y.sc)∧V.cell? ⟨w.heap.size+1,1,none⟩=some (.slice y.fa y.funs.length y.fc)∧V.cell? ⟨w.heap.size+2,1,none⟩=some (.int .i64 f.len)∧V.cell? ⟨w.heap.size+2,2,none⟩=some (.int .i64 f.a0)∧V.cell? ⟨w.heap.size+2,3,none⟩=some (.int .i64 f.a1)∧V.cell? ⟨w.heap.size+2,4,none⟩=some (.int .i64 f.a2)∧V.cell? ⟨w.heap.size+3,0,none⟩=some (.int .i64 b0)∧V.cell? ⟨w.heap.size+3,1,none⟩=some (.int .i64 b1)∧V.cell? ⟨w.heap.size+3,2,none⟩=some (.int .i64 b2)) (by kernel_rfl) (HK.out _ HB.out.drew) (fun hHeld=>?_)
     refine tkY 0 (.int .i64 0) ?_;try simp only[k4]
     refine tkY 1 (.pointer (some ⟨w.heap.size+2,1,none⟩)) ?_;try simp only[k4]
     refine tkY 2 (.int .i64 f.len) ?_;try simp only[k4]
     refine tkY 3 (.bool true) ?_;try simp only[k4]
     refine tkY 4 (.bool true) ?_;try simp only[k4]
     refine tkY 5 (.agg #[.slice x.sa x.sorts.length x.sc,.slice x.fa x.funs.length x.fc,.slice x.ma x.macs.length x.mc]) ?_;try simp only[k4]
     refine tkY 6 (.agg #[.slice y.sa y.sizes.length y.sc,.slice y.fa y.funs.length y.fc]) ?_;try simp only[k4]
     refine tkY 7 (.int .i64 0) ?_;try simp only[k4]
     refine tkY 8 (.pointer (some ⟨w.heap.size+2,2,none⟩)) ?_;try simp only[k4]
     refine tkY 9 (.pointer (some ⟨w.heap.size+2,2,none⟩)) ?_;try simp only[k4]
     refine tkY 10 (.int .i64 f.a0) ?_;try simp only[k4]
     refine tkY 11 (.int .i64 0) ?_;try simp only[k4]
     refine tkY 12 (.pointer (some ⟨w.heap.size+3,0,none⟩)) ?_;try simp only[k4]
     refine tkY 13 (.int .i64 b0) ?_;try simp only[k4]
     refine wpAnyH_ready (rs:=[14]) (by kernel_rfl) (by simp) ?_
     refine AllReadyH.cons (o:={ dst:=some 28,op:=Op.call { callee:=Callee.value (Operand.func 57),args:=#[Operand.tmp 19,Operand.tmp 20,Operand.tmp 24,Operand.tmp 27],argTypes:=#[26,30,3,3] },type:=4,pos := "ref.go:28", after:=#[{ on:=5,ground:=Ground.data },{ on:=6,ground:=Ground.data },{ on:=10,ground:=Ground.data },{ on:=13,ground:=Ground.data },{ on:=4,ground:=Ground.chain },{ on:=4,ground:=Ground.guard }],guard:=some (4,true) }) rfl (fun K hK=>?_) AllReadyH.nil
     go_simp
     go_at_call 57
     refine(HC.out _ HB.out.drew).mono ?_
     rintro e w2 ⟨rfl,hb2⟩
     have HB2:=Lib.hid hb2
     clear hb2
     go_wp2_with fail
     refine hK.out _ _ ?_ (fun hHeld=>?_)
     ·exact HK.out _ HB2.out
     clear hK K
     try simp only[Act.put,List.setIfInBounds_toArray,List.set_cons_zero,List.set_cons_succ]
     refine tkY 15 (.bool false) ?_;try simp only[k4]
     refine tkY 16 (.bool false) ?_;try simp only[k4]
     refine tkY 17 (.bool false) ?_;try simp only[k4]
     refine tkY 18 (.int .i64 0) ?_;try simp only[k4]
     refine tkY 19 (.pointer (some ⟨w.heap.size+2,1,none⟩)) ?_;try simp only[k4]
     refine tkY 20 (.int .i64 f.len) ?_;try simp only[k4]
     refine tkY 21 (.bool false) ?_;try simp only[k4]
     refine tkY 22 (.bool false) ?_;try simp only[k4]
     refine tkN 23 ?_;try simp only[k4]
     refine tkN 24 ?_;try simp only[k4]
     refine tkN 25 ?_;try simp only[k4]
     refine tkN 26 ?_;try simp only[k4]
     refine tkY 27 (.bool false) ?_;try simp only[k4]
     refine tkY 28 (.bool false) ?_;try simp only[k4]
     refine wpAnyH_done (by kernel_rfl) ?_ _
     go_wp2_with fail
     go_roundw
     case rel=>exact⟨0+1,by omega,by go_num,HP2,by first|exact HB2|exact HB2.out.drew⟩
     case measure=>simp[intOf]
    | false =>
     rw[hq] at hat
     have HC:=Lib.hid (HT.out f.a0 b0 _ HF.out.a0 HI0.out hq)
     obtain rfl:=HNo0.out hat
     clear hq hat
     go_wp2_with fail
     refine wp_region_held_drew (S:=fun V=>V.cell? ⟨w.heap.size,0,none⟩=some (.slice x.sa x.sorts.length x.sc)∧V.cell? ⟨w.heap.size,1,none⟩=some (.slice x.fa x.funs.length x.fc)∧V.cell? ⟨w.heap.size,2,none⟩=some (.slice x.ma x.macs.length x.mc)∧V.cell? ⟨w.heap.size+1,0,none⟩=some (.slice y.sa y.sizes.length y.sc)∧V.cell? ⟨w.heap.size+1,1,none⟩=some (.slice y.fa y.funs.length y.fc)∧V.cell? ⟨w.heap.size+2,1,none⟩=some (.int .i64 f.len)∧V.cell? ⟨w.heap.size+2,2,none⟩=some (.int .i64 f.a0)∧V.cell? ⟨w.heap.size+2,3,none⟩=some (.int .i64 f.a1)∧V.cell? ⟨w.heap.size+2,4,none⟩=some (.int .i64 f.a2)∧V.cell? ⟨w.heap.size+3,0,none⟩=some (.int .i64 b0)∧V.cell? ⟨w.heap.size+3,1,none⟩=some (.int .i64 b1)∧V.cell? ⟨w.heap.size+3,2,none⟩=some (.int .i64 b2)) (by kernel_rfl) (HK.out _ HB.out.drew) (fun hHeld=>?_)
     refine tkY 0 (.int .i64 0) ?_;try simp only[k4]
     refine tkY 1 (.pointer (some ⟨w.heap.size+2,1,none⟩)) ?_;try simp only[k4]
     refine tkY 2 (.int .i64 f.len) ?_;try simp only[k4]
     refine tkY 3 (.bool true) ?_;try simp only[k4]
     refine tkY 4 (.bool true) ?_;try simp only[k4]
     refine tkY 5 (.agg #[.slice x.sa x.sorts.length x.sc,.slice x.fa x.funs.length x.fc,.slice x.ma x.macs.length x.mc]) ?_;try simp only[k4]
     refine tkY 6 (.agg #[.slice y.sa y.sizes.length y.sc,.slice y.fa y.funs.length y.fc]) ?_;try simp only[k4]
     refine tkY 7 (.int .i64 0) ?_;try simp only[k4]
     refine tkY 8 (.pointer (some ⟨w.heap.size+2,2,none⟩)) ?_;try simp only[k4]
     refine tkY 9 (.pointer (some ⟨w.heap.size+2,2,none⟩)) ?_;try simp only[k4]
     refine tkY 10 (.int .i64 f.a0) ?_;try simp only[k4]
     refine tkY 11 (.int .i64 0) ?_;try simp only[k4]
     refine tkY 12 (.pointer (some ⟨w.heap.size+3,0,none⟩)) ?_;try simp only[k4]
     refine tkY 13 (.int .i64 b0) ?_;try simp only[k4]
     refine wpAnyH_ready (rs:=[14]) (by kernel_rfl) (by simp) ?_
     refine AllReadyH.cons (o:={ dst:=some 28,op:=Op.call { callee:=Callee.value (Operand.func 57),args:=#[Operand.tmp 19,Operand.tmp 20,Operand.tmp 24,Operand.tmp 27],argTypes:=#[26,30,3,3] },type:=4,pos := "ref.go:28", after:=#[{ on:=5,ground:=Ground.data },{ on:=6,ground:=Ground.data },{ on:=10,ground:=Ground.data },{ on:=13,ground:=Ground.data },{ on:=4,ground:=Ground.chain },{ on:=4,ground:=Ground.guard }],guard:=some (4,true) }) rfl (fun K hK=>?_) AllReadyH.nil
     go_simp
     go_at_call 57
     refine(HC.out _ HB.out.drew).mono ?_
     rintro e w2 ⟨rfl,hb2⟩
     have HB2:=Lib.hid hb2
     clear hb2
     go_wp2_with fail
     refine hK.out _ _ ?_ (fun hHeld=>?_)
     ·exact HK.out _ HB2.out
     clear hK K
     try simp only[Act.put,List.setIfInBounds_toArray,List.set_cons_zero,List.set_cons_succ]
     refine tkY 15 (.bool true) ?_;try simp only[k4]
     refine tkY 16 (.bool true) ?_;try simp only[k4]
     refine tkY 17 (.bool true) ?_;try simp only[k4]
     refine tkN 18 ?_;try simp only[k4]
     refine tkN 19 ?_;try simp only[k4]
     refine tkN 20 ?_;try simp only[k4]
     refine tkN 21 ?_;try simp only[k4]
     refine tkN 22 ?_;try simp only[k4]
     refine tkN 23 ?_;try simp only[k4]
     refine tkN 24 ?_;try simp only[k4]
     refine tkN 25 ?_;try simp only[k4]
     refine tkN 26 ?_;try simp only[k4]
     refine tkN 27 ?_;try simp only[k4]
     refine tkY 28 (.bool true) ?_;try simp only[k4]
     refine wpAnyH_done (by kernel_rfl) ?_ _
     go_wp2_with fail
     go_ret
     exact⟨rfl,by first|exact HB0.out.trans (HB2.out.mono HB0.out.size)|exact(HB0.out.trans (HB2.out.mono HB0.out.size)).drew⟩
   ·have hat:qD3 x.sorts.length y.sizes f b0 0=decide (b0=0):=if_neg hkl
    have dk:decide ((0:Int)<f.len)=false:=decide_eq_false hkl
    have dg:decide (f.len≤(0:Int))=true:=decide_eq_true (by omega)
    by_cases hv:b0=0
    ·rw[decide_eq_true hv] at hat
     have e1:=qB3 hv
     have HP2:Hid (∀j,j<0+1→qD3 x.sorts.length y.sizes f (if j=0 then b0 else if j=1 then b1 else b2) j=true):=fun j hj=>by
      by_cases hjk:j<0
      ·exact HP.out j hjk
      ·obtain rfl:j=0:=by omega
       exact hat
     clear hat hv
     go_wp2_with fail
     go_quiet (fail)
     go_wp2_with fail
     go_roundw
     case rel=>exact⟨0+1,by omega,by go_num,HP2,qAh HB.out⟩
     case measure=>simp[intOf]
    ·rw[decide_eq_false hv] at hat
     obtain rfl:=HNo0.out hat
     have e1:=qAr hv
     clear hat hv
     go_wp2_with fail
     go_quiet (fail)
     go_wp2_with fail
     go_ret
     exact⟨rfl,qAh (HB0.out.trans (HB.out.mono HB0.out.size))⟩
  ·by_cases hkl:(1:Int)<f.len
   ·have hat:qD3 x.sorts.length y.sizes f b1 1=isB x.sorts.length y.sizes f.a1 b1:=if_pos hkl
    have dk:decide ((1:Int)<f.len)=true:=decide_eq_true hkl
    have dg:decide (f.len≤(1:Int))=false:=decide_eq_false (by omega)
    cases hq:isB x.sorts.length y.sizes f.a1 b1 with
    | true =>
     rw[hq] at hat
     have HC:=Lib.hid (HT.out f.a1 b1 _ HF.out.a1 HI1.out hq)
     have HP2:Hid (∀j,j<1+1→qD3 x.sorts.length y.sizes f (if j=0 then b0 else if j=1 then b1 else b2) j=true):=fun j hj=>by
      by_cases hjk:j<1
      ·exact HP.out j hjk
      ·obtain rfl:j=1:=by omega
       exact hat
     clear hq hat
     go_wp2_with fail
     refine wp_region_held_drew (S:=fun V=>V.cell? ⟨w.heap.size,0,none⟩=some (.slice x.sa x.sorts.length x.sc)∧V.cell? ⟨w.heap.size,1,none⟩=some (.slice x.fa x.funs.length x.fc)∧V.cell? ⟨w.heap.size,2,none⟩=some (.slice x.ma x.macs.length x.mc)∧V.cell? ⟨w.heap.size+1,0,none⟩=some (.slice y.sa y.sizes.length y.sc)∧V.cell? ⟨w.heap.size+1,1,none⟩=some (.slice y.fa y.funs.length y.fc)∧V.cell? ⟨w.heap.size+2,1,none⟩=some (.int .i64 f.len)∧V.cell? ⟨w.heap.size+2,2,none⟩=some (.int .i64 f.a0)∧V.cell? ⟨w.heap.size+2,3,none⟩=some (.int .i64 f.a1)∧V.cell? ⟨w.heap.size+2,4,none⟩=some (.int .i64 f.a2)∧V.cell? ⟨w.heap.size+3,0,none⟩=some (.int .i64 b0)∧V.cell? ⟨w.heap.size+3,1,none⟩=some (.int .i64 b1)∧V.cell? ⟨w.heap.size+3,2,none⟩=some (.int .i64 b2)) (by kernel_rfl) (HK.out _ HB.out.drew) (fun hHeld=>?_)
     refine tkY 0 (.int .i64 1) ?_;try simp only[k4]
     refine tkY 1 (.pointer (some ⟨w.heap.size+2,1,none⟩)) ?_;try simp only[k4]
     refine tkY 2 (.int .i64 f.len) ?_;try simp only[k4]
     refine tkY 3 (.bool true) ?_;try simp only[k4]
     refine tkY 4 (.bool true) ?_;try simp only[k4]
     refine tkY 5 (.agg #[.slice x.sa x.sorts.length x.sc,.slice x.fa x.funs.length x.fc,.slice x.ma x.macs.length x.mc]) ?_;try simp only[k4]
     refine tkY 6 (.agg #[.slice y.sa y.sizes.length y.sc,.slice y.fa y.funs.length y.fc]) ?_;try simp only[k4]
     refine tkY 7 (.int .i64 1) ?_;try simp only[k4]
     refine tkY 8 (.pointer (some ⟨w.heap.size+2,2,none⟩)) ?_;try simp only[k4]
     refine tkY 9 (.pointer (some ⟨w.heap.size+2,3,none⟩)) ?_;try simp only[k4]
     refine tkY 10 (.int .i64 f.a1) ?_;try simp only[k4]
     refine tkY 11 (.int .i64 1) ?_;try simp only[k4]
     refine tkY 12 (.pointer (some ⟨w.heap.size+3,1,none⟩)) ?_;try simp only[k4]
     refine tkY 13 (.int .i64 b1) ?_;try simp only[k4]
     refine wpAnyH_ready (rs:=[14]) (by kernel_rfl) (by simp) ?_
     refine AllReadyH.cons (o:={ dst:=some 28,op:=Op.call { callee:=Callee.value (Operand.func 57),args:=#[Operand.tmp 19,Operand.tmp 20,Operand.tmp 24,Operand.tmp 27],argTypes:=#[26,30,3,3] },type:=4,pos := "ref.go:28", after:=#[{ on:=5,ground:=Ground.data },{ on:=6,ground:=Ground.data },{ on:=10,ground:=Ground.data },{ on:=13,ground:=Ground.data },{ on:=4,ground:=Ground.chain },{ on:=4,ground:=Ground.guard }],guard:=some (4,true) }) rfl (fun K hK=>?_) AllReadyH.nil
     go_simp
     go_at_call 57
     refine(HC.out _ HB.out.drew).mono ?_
     rintro e w2 ⟨rfl,hb2⟩
     have HB2:=Lib.hid hb2
     clear hb2
     go_wp2_with fail
     refine hK.out _ _ ?_ (fun hHeld=>?_)
     ·exact HK.out _ HB2.out
     clear hK K
     try simp only[Act.put,List.setIfInBounds_toArray,List.set_cons_zero,List.set_cons_succ]
     refine tkY 15 (.bool false) ?_;try simp only[k4]
     refine tkY 16 (.bool false) ?_;try simp only[k4]
     refine tkY 17 (.bool false) ?_;try simp only[k4]
     refine tkY 18 (.int .i64 1) ?_;try simp only[k4]
     refine tkY 19 (.pointer (some ⟨w.heap.size+2,1,none⟩)) ?_;try simp only[k4]
     refine tkY 20 (.int .i64 f.len) ?_;try simp only[k4]
     refine tkY 21 (.bool false) ?_;try simp only[k4]
     refine tkY 22 (.bool false) ?_;try simp only[k4]
     refine tkN 23 ?_;try simp only[k4]
     refine tkN 24 ?_;try simp only[k4]
     refine tkN 25 ?_;try simp only[k4]
     refine tkN 26 ?_;try simp only[k4]
     refine tkY 27 (.bool false) ?_;try simp only[k4]
     refine tkY 28 (.bool false) ?_;try simp only[k4]
     refine wpAnyH_done (by kernel_rfl) ?_ _
     go_wp2_with fail
     go_roundw
     case rel=>exact⟨1+1,by omega,by go_num,HP2,by first|exact HB2|exact HB2.out.drew⟩
     case measure=>simp[intOf]
    | false =>
     rw[hq] at hat
     have HC:=Lib.hid (HT.out f.a1 b1 _ HF.out.a1 HI1.out hq)
     obtain rfl:=HNo1.out hat
     clear hq hat
     go_wp2_with fail
     refine wp_region_held_drew (S:=fun V=>V.cell? ⟨w.heap.size,0,none⟩=some (.slice x.sa x.sorts.length x.sc)∧V.cell? ⟨w.heap.size,1,none⟩=some (.slice x.fa x.funs.length x.fc)∧V.cell? ⟨w.heap.size,2,none⟩=some (.slice x.ma x.macs.length x.mc)∧V.cell? ⟨w.heap.size+1,0,none⟩=some (.slice y.sa y.sizes.length y.sc)∧V.cell? ⟨w.heap.size+1,1,none⟩=some (.slice y.fa y.funs.length y.fc)∧V.cell? ⟨w.heap.size+2,1,none⟩=some (.int .i64 f.len)∧V.cell? ⟨w.heap.size+2,2,none⟩=some (.int .i64 f.a0)∧V.cell? ⟨w.heap.size+2,3,none⟩=some (.int .i64 f.a1)∧V.cell? ⟨w.heap.size+2,4,none⟩=some (.int .i64 f.a2)∧V.cell? ⟨w.heap.size+3,0,none⟩=some (.int .i64 b0)∧V.cell? ⟨w.heap.size+3,1,none⟩=some (.int .i64 b1)∧V.cell? ⟨w.heap.size+3,2,none⟩=some (.int .i64 b2)) (by kernel_rfl) (HK.out _ HB.out.drew) (fun hHeld=>?_)
     refine tkY 0 (.int .i64 1) ?_;try simp only[k4]
     refine tkY 1 (.pointer (some ⟨w.heap.size+2,1,none⟩)) ?_;try simp only[k4]
     refine tkY 2 (.int .i64 f.len) ?_;try simp only[k4]
     refine tkY 3 (.bool true) ?_;try simp only[k4]
     refine tkY 4 (.bool true) ?_;try simp only[k4]
     refine tkY 5 (.agg #[.slice x.sa x.sorts.length x.sc,.slice x.fa x.funs.length x.fc,.slice x.ma x.macs.length x.mc]) ?_;try simp only[k4]
     refine tkY 6 (.agg #[.slice y.sa y.sizes.length y.sc,.slice y.fa y.funs.length y.fc]) ?_;try simp only[k4]
     refine tkY 7 (.int .i64 1) ?_;try simp only[k4]
     refine tkY 8 (.pointer (some ⟨w.heap.size+2,2,none⟩)) ?_;try simp only[k4]
     refine tkY 9 (.pointer (some ⟨w.heap.size+2,3,none⟩)) ?_;try simp only[k4]
     refine tkY 10 (.int .i64 f.a1) ?_;try simp only[k4]
     refine tkY 11 (.int .i64 1) ?_;try simp only[k4]
     refine tkY 12 (.pointer (some ⟨w.heap.size+3,1,none⟩)) ?_;try simp only[k4]
     refine tkY 13 (.int .i64 b1) ?_;try simp only[k4]
     refine wpAnyH_ready (rs:=[14]) (by kernel_rfl) (by simp) ?_
     refine AllReadyH.cons (o:={ dst:=some 28,op:=Op.call { callee:=Callee.value (Operand.func 57),args:=#[Operand.tmp 19,Operand.tmp 20,Operand.tmp 24,Operand.tmp 27],argTypes:=#[26,30,3,3] },type:=4,pos := "ref.go:28", after:=#[{ on:=5,ground:=Ground.data },{ on:=6,ground:=Ground.data },{ on:=10,ground:=Ground.data },{ on:=13,ground:=Ground.data },{ on:=4,ground:=Ground.chain },{ on:=4,ground:=Ground.guard }],guard:=some (4,true) }) rfl (fun K hK=>?_) AllReadyH.nil
     go_simp
     go_at_call 57
     refine(HC.out _ HB.out.drew).mono ?_
     rintro e w2 ⟨rfl,hb2⟩
     have HB2:=Lib.hid hb2
     clear hb2
     go_wp2_with fail
     refine hK.out _ _ ?_ (fun hHeld=>?_)
     ·exact HK.out _ HB2.out
     clear hK K
     try simp only[Act.put,List.setIfInBounds_toArray,List.set_cons_zero,List.set_cons_succ]
     refine tkY 15 (.bool true) ?_;try simp only[k4]
     refine tkY 16 (.bool true) ?_;try simp only[k4]
     refine tkY 17 (.bool true) ?_;try simp only[k4]
     refine tkN 18 ?_;try simp only[k4]
     refine tkN 19 ?_;try simp only[k4]
     refine tkN 20 ?_;try simp only[k4]
     refine tkN 21 ?_;try simp only[k4]
     refine tkN 22 ?_;try simp only[k4]
     refine tkN 23 ?_;try simp only[k4]
     refine tkN 24 ?_;try simp only[k4]
     refine tkN 25 ?_;try simp only[k4]
     refine tkN 26 ?_;try simp only[k4]
     refine tkN 27 ?_;try simp only[k4]
     refine tkY 28 (.bool true) ?_;try simp only[k4]
     refine wpAnyH_done (by kernel_rfl) ?_ _
     go_wp2_with fail
     go_ret
     exact⟨rfl,by first|exact HB0.out.trans (HB2.out.mono HB0.out.size)|exact(HB0.out.trans (HB2.out.mono HB0.out.size)).drew⟩
   ·have hat:qD3 x.sorts.length y.sizes f b1 1=decide (b1=0):=if_neg hkl
    have dk:decide ((1:Int)<f.len)=false:=decide_eq_false hkl
    have dg:decide (f.len≤(1:Int))=true:=decide_eq_true (by omega)
    by_cases hv:b1=0
    ·rw[decide_eq_true hv] at hat
     have e1:=qB3 hv
     have HP2:Hid (∀j,j<1+1→qD3 x.sorts.length y.sizes f (if j=0 then b0 else if j=1 then b1 else b2) j=true):=fun j hj=>by
      by_cases hjk:j<1
      ·exact HP.out j hjk
      ·obtain rfl:j=1:=by omega
       exact hat
     clear hat hv
     go_wp2_with fail
     go_quiet (fail)
     go_wp2_with fail
     go_roundw
     case rel=>exact⟨1+1,by omega,by go_num,HP2,qAh HB.out⟩
     case measure=>simp[intOf]
    ·rw[decide_eq_false hv] at hat
     obtain rfl:=HNo1.out hat
     have e1:=qAr hv
     clear hat hv
     go_wp2_with fail
     go_quiet (fail)
     go_wp2_with fail
     go_ret
     exact⟨rfl,qAh (HB0.out.trans (HB.out.mono HB0.out.size))⟩
  ·by_cases hkl:(2:Int)<f.len
   ·have hat:qD3 x.sorts.length y.sizes f b2 2=isB x.sorts.length y.sizes f.a2 b2:=if_pos hkl
    have dk:decide ((2:Int)<f.len)=true:=decide_eq_true hkl
    have dg:decide (f.len≤(2:Int))=false:=decide_eq_false (by omega)
    cases hq:isB x.sorts.length y.sizes f.a2 b2 with
    | true =>
     rw[hq] at hat
     have HC:=Lib.hid (HT.out f.a2 b2 _ HF.out.a2 HI2.out hq)
     have HP2:Hid (∀j,j<2+1→qD3 x.sorts.length y.sizes f (if j=0 then b0 else if j=1 then b1 else b2) j=true):=fun j hj=>by
      by_cases hjk:j<2
      ·exact HP.out j hjk
      ·obtain rfl:j=2:=by omega
       exact hat
     clear hq hat
     go_wp2_with fail
     refine wp_region_held_drew (S:=fun V=>V.cell? ⟨w.heap.size,0,none⟩=some (.slice x.sa x.sorts.length x.sc)∧V.cell? ⟨w.heap.size,1,none⟩=some (.slice x.fa x.funs.length x.fc)∧V.cell? ⟨w.heap.size,2,none⟩=some (.slice x.ma x.macs.length x.mc)∧V.cell? ⟨w.heap.size+1,0,none⟩=some (.slice y.sa y.sizes.length y.sc)∧V.cell? ⟨w.heap.size+1,1,none⟩=some (.slice y.fa y.funs.length y.fc)∧V.cell? ⟨w.heap.size+2,1,none⟩=some (.int .i64 f.len)∧V.cell? ⟨w.heap.size+2,2,none⟩=some (.int .i64 f.a0)∧V.cell? ⟨w.heap.size+2,3,none⟩=some (.int .i64 f.a1)∧V.cell? ⟨w.heap.size+2,4,none⟩=some (.int .i64 f.a2)∧V.cell? ⟨w.heap.size+3,0,none⟩=some (.int .i64 b0)∧V.cell? ⟨w.heap.size+3,1,none⟩=some (.int .i64 b1)∧V.cell? ⟨w.heap.size+3,2,none⟩=some (.int .i64 b2)) (by kernel_rfl) (HK.out _ HB.out.drew) (fun hHeld=>?_)
     refine tkY 0 (.int .i64 2) ?_;try simp only[k4]
     refine tkY 1 (.pointer (some ⟨w.heap.size+2,1,none⟩)) ?_;try simp only[k4]
     refine tkY 2 (.int .i64 f.len) ?_;try simp only[k4]
     refine tkY 3 (.bool true) ?_;try simp only[k4]
     refine tkY 4 (.bool true) ?_;try simp only[k4]
     refine tkY 5 (.agg #[.slice x.sa x.sorts.length x.sc,.slice x.fa x.funs.length x.fc,.slice x.ma x.macs.length x.mc]) ?_;try simp only[k4]
     refine tkY 6 (.agg #[.slice y.sa y.sizes.length y.sc,.slice y.fa y.funs.length y.fc]) ?_;try simp only[k4]
     refine tkY 7 (.int .i64 2) ?_;try simp only[k4]
     refine tkY 8 (.pointer (some ⟨w.heap.size+2,2,none⟩)) ?_;try simp only[k4]
     refine tkY 9 (.pointer (some ⟨w.heap.size+2,4,none⟩)) ?_;try simp only[k4]
     refine tkY 10 (.int .i64 f.a2) ?_;try simp only[k4]
     refine tkY 11 (.int .i64 2) ?_;try simp only[k4]
     refine tkY 12 (.pointer (some ⟨w.heap.size+3,2,none⟩)) ?_;try simp only[k4]
     refine tkY 13 (.int .i64 b2) ?_;try simp only[k4]
     refine wpAnyH_ready (rs:=[14]) (by kernel_rfl) (by simp) ?_
     refine AllReadyH.cons (o:={ dst:=some 28,op:=Op.call { callee:=Callee.value (Operand.func 57),args:=#[Operand.tmp 19,Operand.tmp 20,Operand.tmp 24,Operand.tmp 27],argTypes:=#[26,30,3,3] },type:=4,pos := "ref.go:28", after:=#[{ on:=5,ground:=Ground.data },{ on:=6,ground:=Ground.data },{ on:=10,ground:=Ground.data },{ on:=13,ground:=Ground.data },{ on:=4,ground:=Ground.chain },{ on:=4,ground:=Ground.guard }],guard:=some (4,true) }) rfl (fun K hK=>?_) AllReadyH.nil
     go_simp
     go_at_call 57
     refine(HC.out _ HB.out.drew).mono ?_
     rintro e w2 ⟨rfl,hb2⟩
     have HB2:=Lib.hid hb2
     clear hb2
     go_wp2_with fail
     refine hK.out _ _ ?_ (fun hHeld=>?_)
     ·exact HK.out _ HB2.out
     clear hK K
     try simp only[Act.put,List.setIfInBounds_toArray,List.set_cons_zero,List.set_cons_succ]
     refine tkY 15 (.bool false) ?_;try simp only[k4]
     refine tkY 16 (.bool false) ?_;try simp only[k4]
     refine tkY 17 (.bool false) ?_;try simp only[k4]
     refine tkY 18 (.int .i64 2) ?_;try simp only[k4]
     refine tkY 19 (.pointer (some ⟨w.heap.size+2,1,none⟩)) ?_;try simp only[k4]
     refine tkY 20 (.int .i64 f.len) ?_;try simp only[k4]
     refine tkY 21 (.bool false) ?_;try simp only[k4]
     refine tkY 22 (.bool false) ?_;try simp only[k4]
     refine tkN 23 ?_;try simp only[k4]
     refine tkN 24 ?_;try simp only[k4]
     refine tkN 25 ?_;try simp only[k4]
     refine tkN 26 ?_;try simp only[k4]
     refine tkY 27 (.bool false) ?_;try simp only[k4]
     refine tkY 28 (.bool false) ?_;try simp only[k4]
     refine wpAnyH_done (by kernel_rfl) ?_ _
     go_wp2_with fail
     go_roundw
     case rel=>exact⟨2+1,by omega,by go_num,HP2,by first|exact HB2|exact HB2.out.drew⟩
     case measure=>simp[intOf]
    | false =>
     rw[hq] at hat
     have HC:=Lib.hid (HT.out f.a2 b2 _ HF.out.a2 HI2.out hq)
     obtain rfl:=HNo2.out hat
     clear hq hat
     go_wp2_with fail
     refine wp_region_held_drew (S:=fun V=>V.cell? ⟨w.heap.size,0,none⟩=some (.slice x.sa x.sorts.length x.sc)∧V.cell? ⟨w.heap.size,1,none⟩=some (.slice x.fa x.funs.length x.fc)∧V.cell? ⟨w.heap.size,2,none⟩=some (.slice x.ma x.macs.length x.mc)∧V.cell? ⟨w.heap.size+1,0,none⟩=some (.slice y.sa y.sizes.length y.sc)∧V.cell? ⟨w.heap.size+1,1,none⟩=some (.slice y.fa y.funs.length y.fc)∧V.cell? ⟨w.heap.size+2,1,none⟩=some (.int .i64 f.len)∧V.cell? ⟨w.heap.size+2,2,none⟩=some (.int .i64 f.a0)∧V.cell? ⟨w.heap.size+2,3,none⟩=some (.int .i64 f.a1)∧V.cell? ⟨w.heap.size+2,4,none⟩=some (.int .i64 f.a2)∧V.cell? ⟨w.heap.size+3,0,none⟩=some (.int .i64 b0)∧V.cell? ⟨w.heap.size+3,1,none⟩=some (.int .i64 b1)∧V.cell? ⟨w.heap.size+3,2,none⟩=some (.int .i64 b2)) (by kernel_rfl) (HK.out _ HB.out.drew) (fun hHeld=>?_)
     refine tkY 0 (.int .i64 2) ?_;try simp only[k4]
     refine tkY 1 (.pointer (some ⟨w.heap.size+2,1,none⟩)) ?_;try simp only[k4]
     refine tkY 2 (.int .i64 f.len) ?_;try simp only[k4]
     refine tkY 3 (.bool true) ?_;try simp only[k4]
     refine tkY 4 (.bool true) ?_;try simp only[k4]
     refine tkY 5 (.agg #[.slice x.sa x.sorts.length x.sc,.slice x.fa x.funs.length x.fc,.slice x.ma x.macs.length x.mc]) ?_;try simp only[k4]
     refine tkY 6 (.agg #[.slice y.sa y.sizes.length y.sc,.slice y.fa y.funs.length y.fc]) ?_;try simp only[k4]
     refine tkY 7 (.int .i64 2) ?_;try simp only[k4]
     refine tkY 8 (.pointer (some ⟨w.heap.size+2,2,none⟩)) ?_;try simp only[k4]
     refine tkY 9 (.pointer (some ⟨w.heap.size+2,4,none⟩)) ?_;try simp only[k4]
     refine tkY 10 (.int .i64 f.a2) ?_;try simp only[k4]
     refine tkY 11 (.int .i64 2) ?_;try simp only[k4]
     refine tkY 12 (.pointer (some ⟨w.heap.size+3,2,none⟩)) ?_;try simp only[k4]
     refine tkY 13 (.int .i64 b2) ?_;try simp only[k4]
     refine wpAnyH_ready (rs:=[14]) (by kernel_rfl) (by simp) ?_
     refine AllReadyH.cons (o:={ dst:=some 28,op:=Op.call { callee:=Callee.value (Operand.func 57),args:=#[Operand.tmp 19,Operand.tmp 20,Operand.tmp 24,Operand.tmp 27],argTypes:=#[26,30,3,3] },type:=4,pos := "ref.go:28", after:=#[{ on:=5,ground:=Ground.data },{ on:=6,ground:=Ground.data },{ on:=10,ground:=Ground.data },{ on:=13,ground:=Ground.data },{ on:=4,ground:=Ground.chain },{ on:=4,ground:=Ground.guard }],guard:=some (4,true) }) rfl (fun K hK=>?_) AllReadyH.nil
     go_simp
     go_at_call 57
     refine(HC.out _ HB.out.drew).mono ?_
     rintro e w2 ⟨rfl,hb2⟩
     have HB2:=Lib.hid hb2
     clear hb2
     go_wp2_with fail
     refine hK.out _ _ ?_ (fun hHeld=>?_)
     ·exact HK.out _ HB2.out
     clear hK K
     try simp only[Act.put,List.setIfInBounds_toArray,List.set_cons_zero,List.set_cons_succ]
     refine tkY 15 (.bool true) ?_;try simp only[k4]
     refine tkY 16 (.bool true) ?_;try simp only[k4]
     refine tkY 17 (.bool true) ?_;try simp only[k4]
     refine tkN 18 ?_;try simp only[k4]
     refine tkN 19 ?_;try simp only[k4]
     refine tkN 20 ?_;try simp only[k4]
     refine tkN 21 ?_;try simp only[k4]
     refine tkN 22 ?_;try simp only[k4]
     refine tkN 23 ?_;try simp only[k4]
     refine tkN 24 ?_;try simp only[k4]
     refine tkN 25 ?_;try simp only[k4]
     refine tkN 26 ?_;try simp only[k4]
     refine tkN 27 ?_;try simp only[k4]
     refine tkY 28 (.bool true) ?_;try simp only[k4]
     refine wpAnyH_done (by kernel_rfl) ?_ _
     go_wp2_with fail
     go_ret
     exact⟨rfl,by first|exact HB0.out.trans (HB2.out.mono HB0.out.size)|exact(HB0.out.trans (HB2.out.mono HB0.out.size)).drew⟩
   ·have hat:qD3 x.sorts.length y.sizes f b2 2=decide (b2=0):=if_neg hkl
    have dk:decide ((2:Int)<f.len)=false:=decide_eq_false hkl
    have dg:decide (f.len≤(2:Int))=true:=decide_eq_true (by omega)
    by_cases hv:b2=0
    ·rw[decide_eq_true hv] at hat
     have e1:=qB3 hv
     have HP2:Hid (∀j,j<2+1→qD3 x.sorts.length y.sizes f (if j=0 then b0 else if j=1 then b1 else b2) j=true):=fun j hj=>by
      by_cases hjk:j<2
      ·exact HP.out j hjk
      ·obtain rfl:j=2:=by omega
       exact hat
     clear hat hv
     go_wp2_with fail
     go_quiet (fail)
     go_wp2_with fail
     go_roundw
     case rel=>exact⟨2+1,by omega,by go_num,HP2,qAh HB.out⟩
     case measure=>simp[intOf]
    ·rw[decide_eq_false hv] at hat
     obtain rfl:=HNo2.out hat
     have e1:=qAr hv
     clear hat hv
     go_wp2_with fail
     go_quiet (fail)
     go_wp2_with fail
     go_ret
     exact⟨rfl,qAh (HB0.out.trans (HB.out.mono HB0.out.size))⟩
  ·obtain rfl:=HYes.out HP.out
   go_wp2
   go_ret
   exact⟨rfl,HB0.out.trans (HB.out.mono HB0.out.size)⟩
theorem zCc:(Tryz.prog.info? 3).map (·.size)=some 1:=by kernel_rfl
theorem qFn (a b c x y z:Int) (w:World):(Op.equalIn 10000 52 (.agg #[.int .i64 a,.int .i64 b,.int .i64 c]) (.agg #[.int .i64 x,.int .i64 y,.int .i64 z])).run Tryz.prog w=.ok (decide (a=x)&&(decide (b=y)&&decide (c=z))) w:=by
 have hz:(sizeOf 3).run Tryz.prog w=.ok 1 w:=by
  obtain⟨i,hi,hi2⟩:=Option.map_eq_some_iff.1 zCc
  simp[sizeOf,typeInfo,hi,hi2]
 have he:∀(z x:Int),(Op.equalIn 9999 3 (.int .i64 z) (.int .i64 x)).run Tryz.prog w=.ok (decide (z=x)) w:=fun z x=>by
  have:=run_equalIn_int (P:=Tryz.prog) w 9998 3 .i64 .i64 z x Tryz.underlying3
  rw[this]
  by_cases h:z=x<;>simp[h]
 rw[Op.equalIn]
 have hr:List.range' 0 3=[0,1,2]:=rfl
 by_cases h0:a=x
 ·by_cases h1:b=y
  ·by_cases h2:c=z
   ·simp[run_underlying Tryz.underlying52,hz,he,hr,part,h0,h1,h2]
   ·simp[run_underlying Tryz.underlying52,hz,he,hr,part,h0,h1,h2]
  ·simp[run_underlying Tryz.underlying52,hz,he,hr,part,h0,h1]
 ·simp[run_underlying Tryz.underlying52,hz,he,hr,part,h0]
theorem qJa (a b c x y z:Int) (w:World):(Op.equal 52 (.agg #[.int .i64 a,.int .i64 b,.int .i64 c]) (.agg #[.int .i64 x,.int .i64 y,.int .i64 z])).run Tryz.prog w=.ok (decide (a=x)&&(decide (b=y)&&decide (c=z))) w:=qFn a b c x y z w
def qE4 (r s:RowA):Bool:=decide (r.a0=s.a0)&&(decide (r.a1=s.a1)&&decide (r.a2=s.a2))
def qIr (n:Nat) (z:List Int) (f:FunA) (ahead:List RowA) (r:RowA):Bool:=fitB n z f r.a0 r.a1 r.a2&&(isB n z f.res r.v && !ahead.any (fun s=>qE4 s r))
def fvQ (n:Nat) (z:List Int) (f:FunA) (v:FvV):Bool:=decide (v.rows.length≤400)&&(isB n z f.res v.els&&qE7 (qIr n z f) [] v.rows)
def qJ2 (m:Int):Bool:=decide (1≤m)&&decide (m≤1000)
def qHb (x:SigV) (y:WorV):Bool:=qC1 x.a&&(decide (y.sizes.length=x.sorts.length)&&(decide (y.funs.length=x.funs.length)&&(y.sizes.all qJ2&&(x.funs.zip y.funs).all (fun p=>fvQ x.sorts.length y.sizes p.1 p.2))))
theorem qJb {α:Type} {p:α→Bool} {l:List α} {j:Nat} {y:α} (h:l[j]? = some y) (hp:p y=false):l.all p=false:=by
 rw[List.all_eq_false]
 exact⟨y,List.mem_of_getElem? h,by rw[hp];simp⟩
theorem qK4 {α:Type} {p:α→Bool} {l:List α} (h:∀(j:Nat) (y:α),l[j]? = some y→p y=true):l.all p=true:=by
 rw[List.all_eq_true]
 intro y hy
 obtain⟨j,hj⟩:=List.getElem?_of_mem hy
 exact h j y hj
theorem qEx {x:SigV} (h:qC1 x.a=true):x.sorts.length≤4∧x.funs.length≤12:=by
 unfold qC1 at h
 simp only[Bool.and_eq_true,decide_eq_true_eq] at h
 exact⟨h.1,h.2.1⟩
set_option maxHeartbeats 4000000 in
theorem qNj (x:SigV) (y:WorV) (r:Bool) (w:World) (hX:SigR w x) (hY:WorR w y) (hr:qHb x y=r) :
  Calls Tryz.prog 34 #[.agg #[.slice x.sa x.sorts.length x.sc,.slice x.fa x.funs.length x.fc,.slice x.ma x.macs.length x.mc],.agg #[.slice y.sa y.sizes.length y.sc,.slice y.fa y.funs.length y.fc]] w fun e w'=>e=.returned (.bool r)∧Below w.heap.size w w':=by
 obtain⟨W0,hW0⟩:∃W0,W0=(w.alloc (.cells #[.slice x.sa x.sorts.length x.sc,.slice x.fa x.funs.length x.fc,.slice x.ma x.macs.length x.mc] 26)).alloc (.cells #[.slice y.sa y.sizes.length y.sc,.slice y.fa y.funs.length y.fc] 30):=⟨_,rfl⟩
 have hB0:Below w.heap.size w W0:=by rw[hW0];exact((Below.refl _ w).alloc (Nat.le_refl _) _).alloc (by simp) _
 have HB0:=Lib.hid hB0
 have hX0:W0.heap[w.heap.size]? = some (.cells #[.slice x.sa x.sorts.length x.sc,.slice x.fa x.funs.length x.fc,.slice x.ma x.macs.length x.mc] 26 (0,0)):=by rw[hW0];exact(Below.heap_alloc _ _ _ (by simp)).trans (heap_alloc_new w _)
 have hY0:W0.heap[w.heap.size+1]? = some (.cells #[.slice y.sa y.sizes.length y.sc,.slice y.fa y.funs.length y.fc] 30 (0,0)):=by
  have:=heap_alloc_new (w.alloc (.cells #[.slice x.sa x.sorts.length x.sc,.slice x.fa x.funs.length x.fc,.slice x.ma x.macs.length x.mc] 26)) (.cells #[.slice y.sa y.sizes.length y.sc,.slice y.fa y.funs.length y.fc] 30)
  rw[World.size_alloc] at this
  rw[hW0];exact this
 have HK:Hid (∀V,Below W0.heap.size W0 V→V.cell? ⟨w.heap.size,0,none⟩=some (.slice x.sa x.sorts.length x.sc)∧V.cell? ⟨w.heap.size,1,none⟩=some (.slice x.fa x.funs.length x.fc)∧V.cell? ⟨w.heap.size,2,none⟩=some (.slice x.ma x.macs.length x.mc)∧V.cell? ⟨w.heap.size+1,0,none⟩=some (.slice y.sa y.sizes.length y.sc)∧V.cell? ⟨w.heap.size+1,1,none⟩=some (.slice y.fa y.funs.length y.fc)):=fun V hV=>by
  obtain⟨c0,c1,c2,_⟩:=qAx ((hV.block _ (Array.getElem?_eq_some_iff.1 hX0).1).trans hX0)
  obtain⟨w0,w1,_⟩:=qBy ((hV.block _ (Array.getElem?_eq_some_iff.1 hY0).1).trans hY0)
  exact⟨c0,c1,c2,w0,w1⟩
 have HZ:Hid (∀V,Below W0.heap.size W0 V→w.heap.size+1<V.heap.size):=fun V hV=>by
  have h1:=(Array.getElem?_eq_some_iff.1 hY0).1
  have h2:=hV.size
  omega
 have HX:=Lib.hid hX
 have HY:=Lib.hid hY
 obtain⟨c0,c1,c2,w0,w1⟩:=HK.out _ (Below.refl _ _)
 have z0:=HZ.out _ (Below.refl _ _)
 have HCh:Hid (∀q,qC1 x.a=q→∀V,Below W0.heap.size W0 V→Calls Tryz.prog 56 #[.agg #[.slice x.sa x.sorts.length x.sc,.slice x.fa x.funs.length x.fc,.slice x.ma x.macs.length x.mc]] V fun e w'=>e=.returned (.int .i64 (if q=true then 0 else 2))∧Below W0.heap.size W0 w'):=fun q hq V hV=>(qDw x q V (hX.below (hB0.trans (hV.mono hB0.size))) hq).mono fun e w' ⟨h1,h2⟩=>⟨h1,hV.trans (h2.mono hV.size)⟩
 clear hX0 hY0 hX hY hB0
 have HRr:Hid (qHb x y=r):=hr
 cases hq:qC1 x.a with
 | false =>
  obtain rfl:r=false:=by rw[←hr];unfold qHb;rw[hq];rfl
  have HC:=Lib.hid (HCh.out _ hq W0 (Below.refl _ _))
  clear hr hq HRr
  go_enter Tryz.func34,Tryz.ntmps34
  go_wp2_with (go_at_call 56;rw[←hW0];clear hW0;refine HC.out.mono ?_;rintro e w3 ⟨rfl,hb1⟩;have HB1:=Lib.hid hb1;clear hb1 c0 c1 c2 w0 w1 z0;obtain⟨c0,c1,c2,w0,w1⟩:=HK.out _ HB1.out;have z0:=HZ.out _ HB1.out;simp only[reduceIte,Bool.false_eq_true])
  go_ret
  exact⟨rfl,HB0.out.trans (HB1.out.mono HB0.out.size)⟩
 | true =>
 have HC:=Lib.hid (HCh.out _ hq W0 (Below.refl _ _))
 obtain⟨l4,l12⟩:=qEx hq
 have hQ:(decide (y.sizes.length=x.sorts.length)&&(decide (y.funs.length=x.funs.length)&&(y.sizes.all qJ2&&(x.funs.zip y.funs).all (fun p=>fvQ x.sorts.length y.sizes p.1 p.2))))=r:=by rw[←hr];unfold qHb;rw[hq];rfl
 clear hr hq HRr
 by_cases hn:y.sizes.length=x.sorts.length
 rotate_left
 ·obtain rfl:r=false:=by rw[←hQ,decide_eq_false hn];rfl
  have e0:((y.sizes.length:Int) != (x.sorts.length:Int))=true:=qAr (by omega)
  clear hQ
  go_enter Tryz.func34,Tryz.ntmps34
  go_wp2_with (go_at_call 56;rw[←hW0];clear hW0;refine HC.out.mono ?_;rintro e w3 ⟨rfl,hb1⟩;have HB1:=Lib.hid hb1;clear hb1 c0 c1 c2 w0 w1 z0;obtain⟨c0,c1,c2,w0,w1⟩:=HK.out _ HB1.out;have z0:=HZ.out _ HB1.out;simp only[reduceIte])
  go_ret
  exact⟨rfl,HB0.out.trans (HB1.out.mono HB0.out.size)⟩
 rw[decide_eq_true hn,Bool.true_and] at hQ
 have e0:((y.sizes.length:Int) != (x.sorts.length:Int))=false:=qB3 (by omega)
 have HN:=Lib.hid hn
 clear hn
 by_cases hm:y.funs.length=x.funs.length
 rotate_left
 ·obtain rfl:r=false:=by rw[←hQ,decide_eq_false hm];rfl
  have e1:((y.funs.length:Int) != (x.funs.length:Int))=true:=qAr (by omega)
  clear hQ
  go_enter Tryz.func34,Tryz.ntmps34
  go_wp2_with (go_at_call 56;rw[←hW0];clear hW0;refine HC.out.mono ?_;rintro e w3 ⟨rfl,hb1⟩;have HB1:=Lib.hid hb1;clear hb1 c0 c1 c2 w0 w1 z0;obtain⟨c0,c1,c2,w0,w1⟩:=HK.out _ HB1.out;have z0:=HZ.out _ HB1.out;simp only[reduceIte])
  go_ret
  exact⟨rfl,HB0.out.trans (HB1.out.mono HB0.out.size)⟩
 rw[decide_eq_true hm,Bool.true_and] at hQ
 have e1:((y.funs.length:Int) != (x.funs.length:Int))=false:=qB3 (by omega)
 have HM:=Lib.hid hm
 have HQ:=Lib.hid hQ
 clear hm hQ
 go_enter Tryz.func34,Tryz.ntmps34
 go_wp2_with (go_at_call 56;rw[←hW0];clear hW0;refine HC.out.mono ?_;rintro e w3 ⟨rfl,hb1⟩;have HB1:=Lib.hid hb1;clear hb1 c0 c1 c2 w0 w1 z0;obtain⟨c0,c1,c2,w0,w1⟩:=HK.out _ HB1.out;have z0:=HZ.out _ HB1.out;simp only[reduceIte])
 clear c0 c1 c2 w0 w1 z0
 go_loopw [5] (fun i wr=>∃k:Nat,k≤y.sizes.length∧i=.int .i64 k∧Hid (∀(j:Nat) (m:Int),j<k→y.sizes[j]? = some m→qJ2 m=true)∧Hid (Below W0.heap.size W0 wr)) (fun i _=>y.sizes.length-(intOf i).toNat)
 case atStart=>exact⟨0,Nat.zero_le _,rfl,fun j _ hj=>absurd hj (Nat.not_lt_zero _),HB1⟩
 case round =>
  obtain⟨k,hk,rfl,HP,HB⟩:=hrel
  obtain⟨c0,c1,c2,w0,w1⟩:=HK.out _ HB.out
  have z0:=HZ.out _ HB.out
  by_cases hlt:k<y.sizes.length
  ·obtain⟨m,hm⟩:∃m,y.sizes[k]? = some m:=⟨_,List.getElem?_eq_getElem hlt⟩
   obtain⟨g,o,ha,hg,hcell⟩:=HY.out.sat.below (HB0.out.trans (HB.out.mono HB0.out.size)) (by rw[len_flat qA2];omega)
   have q0:=hcell _ _ ((get_flat qA2 y.sizes k 0 m hm (by omega)).trans rfl)
   simp only[Nat.add_zero,Nat.mul_one] at q0
   have hgw:g<wr.heap.size:=by have:=HB.out.size;have:=HB0.out.size;omega
   have hki:(k:Int)<(y.sizes.length:Int):=by omega
   have hz4:y.sizes.length≤4:=by have:=HN.out;omega
   rw[ha] at w0
   have HNo:Hid (qJ2 m=false→r=false):=fun h=>by rw[←HQ.out,qJb hm h];rfl
   have HP2:Hid (qJ2 m=true→∀(j:Nat) (m':Int),j<k+1→y.sizes[j]? = some m'→qJ2 m'=true):=fun h j m' hj hy=>by
    by_cases hjk:j<k
    ·exact HP.out j m' hjk hy
    ·obtain rfl:j=k:=by omega
     obtain rfl:m=m':=by rw[hm] at hy;exact Option.some.inj hy
     exact h
   clear hm hcell ha
   by_cases h1:m<1
   ·obtain rfl:=HNo.out (by unfold qJ2;rw[decide_eq_false (by omega)];rfl)
    go_wp2
    go_ret
    exact⟨rfl,HB0.out.trans (HB.out.mono HB0.out.size)⟩
   by_cases h2:1000<m
   ·obtain rfl:=HNo.out (by unfold qJ2;rw[decide_eq_false (p:=m≤1000) (by omega)];simp)
    go_wp2
    go_ret
    exact⟨rfl,HB0.out.trans (HB.out.mono HB0.out.size)⟩
   have HP3:=Lib.hid (HP2.out (by unfold qJ2;rw[decide_eq_true (by omega),decide_eq_true (by omega)];rfl))
   go_wp2
   go_roundw
   case rel=>exact⟨k+1,by omega,by go_num,HP3,by first|exact HB|exact HB.out.drew⟩
   case measure=>simp[intOf];omega
  obtain rfl:k=y.sizes.length:=by omega
  have hz:y.sizes.all qJ2=true:=qK4 (fun j m hj=>HP.out j m (List.getElem?_eq_some_iff.1 hj).1 hj)
  have HQ2:Hid ((x.funs.zip y.funs).all (fun p=>fvQ x.sorts.length y.sizes p.1 p.2)=r):=by
   have h:=HQ.out
   rw[hz,Bool.true_and] at h
   exact h
  clear hz
  go_wp2
  clear c0 c1 c2 w0 w1 z0
  have HBs:Hid (Below W0.heap.size W0 wr):=HB
  go_loopw [6] (fun i wr=>∃k:Nat,k≤y.funs.length∧i=.int .i64 k∧Hid (∀(j:Nat) (p:FunA × FvV),j<k→(x.funs.zip y.funs)[j]? = some p→fvQ x.sorts.length y.sizes p.1 p.2=true)∧Hid (Below W0.heap.size W0 wr)) (fun i _=>y.funs.length-(intOf i).toNat)
  case atStart=>exact⟨0,Nat.zero_le _,rfl,fun j _ hj=>absurd hj (Nat.not_lt_zero _),HB⟩
  case round =>
   obtain⟨k,hk,rfl,HP,HB⟩:=hrel
   obtain⟨c0,c1,c2,w0,w1⟩:=HK.out _ HB.out
   have z0:=HZ.out _ HB.out
   by_cases hlt:k<y.funs.length
   rotate_left
   ·obtain rfl:k=y.funs.length:=by omega
    obtain rfl:r=true:=by
     rw[←HQ2.out]
     exact qK4 (fun j p hj=>HP.out j p (by have:=(List.getElem?_eq_some_iff.1 hj).1;rw[List.length_zip] at this;omega) hj)
    go_wp2
    go_ret
    exact⟨rfl,HB0.out.trans (HB.out.mono HB0.out.size)⟩
   have hltx:k<x.funs.length:=by have:=HM.out;omega
   have hf12:y.funs.length≤12:=by have:=HM.out;omega
   obtain⟨f,hf⟩:∃f,x.funs[k]? = some f:=⟨_,List.getElem?_eq_getElem hltx⟩
   obtain⟨v,hv⟩:∃v,y.funs[k]? = some v:=⟨_,List.getElem?_eq_getElem hlt⟩
   have HPK:Hid ((x.funs.zip y.funs)[k]? = some (f,v)):=by show _=_;rw[List.getElem?_zip_eq_some];exact⟨hf,hv⟩
   obtain⟨g,o,ha,hg,hcell⟩:=HX.out.fat.below (HB0.out.trans (HB.out.mono HB0.out.size)) (by rw[len_flat qAj];omega)
   have q0:=hcell _ _ ((get_flat qAj x.funs k 0 f hf (by omega)).trans rfl)
   have q1:=hcell _ _ ((get_flat qAj x.funs k 1 f hf (by omega)).trans rfl)
   have q2:=hcell _ _ ((get_flat qAj x.funs k 2 f hf (by omega)).trans rfl)
   have q3:=hcell _ _ ((get_flat qAj x.funs k 3 f hf (by omega)).trans rfl)
   have q4:=hcell _ _ ((get_flat qAj x.funs k 4 f hf (by omega)).trans rfl)
   have q5:=hcell _ _ ((get_flat qAj x.funs k 5 f hf (by omega)).trans rfl)
   obtain⟨g2,o2,ha2,hg2,hcell2⟩:=HY.out.fat.below (HB0.out.trans (HB.out.mono HB0.out.size)) (by rw[len_flat qDx];omega)
   have p0:=hcell2 _ _ ((get_flat qDx y.funs k 0 v hv (by omega)).trans rfl)
   have p1:=hcell2 _ _ ((get_flat qDx y.funs k 1 v hv (by omega)).trans rfl)
   simp only[Nat.add_zero,←Nat.add_assoc] at q0 q1 q2 q3 q4 q5 p0 p1
   have hgw:g<wr.heap.size:=by have:=HB.out.size;have:=HB0.out.size;omega
   have hgw2:g2<wr.heap.size:=by have:=HB.out.size;have:=HB0.out.size;omega
   have hki:(k:Int)<(y.funs.length:Int):=by omega
   have hkx:(k:Int)<(x.funs.length:Int):=by omega
   have hk0:(0:Int)≤(k:Int):=by omega
   have hfo:=HX.out.fok f (List.mem_of_getElem? hf)
   have hvo:=HY.out.fok v (List.mem_of_getElem? hv)
   rw[ha] at c1
   rw[ha2] at w1
   have HA1:=Lib.hid ha
   have HA2:=Lib.hid ha2
   clear ha ha2
   have HSM:Hid (∀V,Below wr.heap.size wr V→V.cell? ⟨w.heap.size,0,none⟩=some (.slice x.sa x.sorts.length x.sc)∧V.cell? ⟨w.heap.size,1,none⟩=some (.slice (some ⟨g,o,none⟩) x.funs.length x.fc)∧V.cell? ⟨w.heap.size,2,none⟩=some (.slice x.ma x.macs.length x.mc)∧V.cell? ⟨w.heap.size+1,0,none⟩=some (.slice y.sa y.sizes.length y.sc)∧V.cell? ⟨w.heap.size+1,1,none⟩=some (.slice (some ⟨g2,o2,none⟩) y.funs.length y.fc)∧V.cell? ⟨g,o+k*6,none⟩=some (.string f.name)∧V.cell? ⟨g,o+k*6+1,none⟩=some (.int .i64 f.len)∧V.cell? ⟨g,o+k*6+2,none⟩=some (.int .i64 f.a0)∧V.cell? ⟨g,o+k*6+3,none⟩=some (.int .i64 f.a1)∧V.cell? ⟨g,o+k*6+4,none⟩=some (.int .i64 f.a2)∧V.cell? ⟨g,o+k*6+5,none⟩=some (.int .i64 f.res)∧V.cell? ⟨g2,o2+k*2,none⟩=some (.slice v.ra v.rows.length v.rc)∧V.cell? ⟨g2,o2+k*2+1,none⟩=some (.int .i64 v.els)):=fun V hV =>
    ⟨(hV.cell (p:=⟨w.heap.size,0,none⟩) (Nat.lt_of_succ_lt z0)).trans c0,(hV.cell (p:=⟨w.heap.size,1,none⟩) (Nat.lt_of_succ_lt z0)).trans c1,(hV.cell (p:=⟨w.heap.size,2,none⟩) (Nat.lt_of_succ_lt z0)).trans c2,(hV.cell (p:=⟨w.heap.size+1,0,none⟩) z0).trans w0,(hV.cell (p:=⟨w.heap.size+1,1,none⟩) z0).trans w1,(hV.cell (p:=⟨g,o+k*6,none⟩) hgw).trans q0,(hV.cell (p:=⟨g,o+k*6+1,none⟩) hgw).trans q1,(hV.cell (p:=⟨g,o+k*6+2,none⟩) hgw).trans q2,(hV.cell (p:=⟨g,o+k*6+3,none⟩) hgw).trans q3,(hV.cell (p:=⟨g,o+k*6+4,none⟩) hgw).trans q4,(hV.cell (p:=⟨g,o+k*6+5,none⟩) hgw).trans q5,(hV.cell (p:=⟨g2,o2+k*2,none⟩) hgw2).trans p0,(hV.cell (p:=⟨g2,o2+k*2+1,none⟩) hgw2).trans p1⟩
   clear hf hv hcell hcell2
   go_wp2_with fail
   refine wp_region_held_drew (S:=fun V=>V.cell? ⟨w.heap.size,0,none⟩=some (.slice x.sa x.sorts.length x.sc)∧V.cell? ⟨w.heap.size,1,none⟩=some (.slice (some ⟨g,o,none⟩) x.funs.length x.fc)∧V.cell? ⟨w.heap.size,2,none⟩=some (.slice x.ma x.macs.length x.mc)∧V.cell? ⟨w.heap.size+1,0,none⟩=some (.slice y.sa y.sizes.length y.sc)∧V.cell? ⟨w.heap.size+1,1,none⟩=some (.slice (some ⟨g2,o2,none⟩) y.funs.length y.fc)∧V.cell? ⟨g,o+k*6,none⟩=some (.string f.name)∧V.cell? ⟨g,o+k*6+1,none⟩=some (.int .i64 f.len)∧V.cell? ⟨g,o+k*6+2,none⟩=some (.int .i64 f.a0)∧V.cell? ⟨g,o+k*6+3,none⟩=some (.int .i64 f.a1)∧V.cell? ⟨g,o+k*6+4,none⟩=some (.int .i64 f.a2)∧V.cell? ⟨g,o+k*6+5,none⟩=some (.int .i64 f.res)∧V.cell? ⟨g2,o2+k*2,none⟩=some (.slice v.ra v.rows.length v.rc)∧V.cell? ⟨g2,o2+k*2+1,none⟩=some (.int .i64 v.els)) (by kernel_rfl) (⟨c0,c1,c2,w0,w1,q0,q1,q2,q3,q4,q5,p0,p1⟩) (fun hHeld=>?_)
   refine tkY 0 (.pointer (some ⟨w.heap.size,1,none⟩)) ?_;try simp only[k4]
   refine tkY 1 (.slice (some ⟨g,o,none⟩) x.funs.length x.fc) ?_;try simp only[k4]
   refine tkY 2 (.int .i64 k) ?_;try simp only[k4]
   refine tkY 3 (.pointer (some ⟨g,o+k*6,none⟩)) ?_;try simp only[k4]
   refine tkY 4 (.agg #[.string f.name,.int .i64 f.len,.int .i64 f.a0,.int .i64 f.a1,.int .i64 f.a2,.int .i64 f.res]) ?_;try simp only[k4]
   refine tkY 5 (.pointer (some ⟨w.heap.size+1,1,none⟩)) ?_;try simp only[k4]
   refine tkY 6 (.slice (some ⟨g2,o2,none⟩) y.funs.length y.fc) ?_;try simp only[k4]
   refine tkY 7 (.int .i64 k) ?_;try simp only[k4]
   refine tkY 8 (.pointer (some ⟨g2,o2+k*2,none⟩)) ?_;try simp only[k4]
   refine tkY 9 (.agg #[.slice v.ra v.rows.length v.rc,.int .i64 v.els]) ?_;try simp only[k4]
   refine wpAnyH_ready (rs:=[10,11]) (by kernel_rfl) (by simp) ?_
   refine AllReadyH.cons (o:={ dst:=some 7,op:=Op.alloc 120,type:=0,pos := "ref.go:46", after:=#[],guard:=none }) rfl (fun K hK=>?_) (AllReadyH.cons (o:={ dst:=some 8,op:=Op.alloc 65,type:=0,pos := "ref.go:46", after:=#[],guard:=none }) rfl (fun K hK=>?_) AllReadyH.nil)
   ·go_simp
    refine hK.out _ _ ?_ (fun hHeld=>?_)
    ·exact HSM.out _ ((Below.refl _ wr).alloc (Nat.le_refl _) _).drew
    clear hK K hHeld
    try simp only[Act.put,List.setIfInBounds_toArray,List.set_cons_zero,List.set_cons_succ]
    refine wpAnyH_ready (rs:=[11]) (by kernel_rfl) (by simp) ?_
    refine AllReadyH.cons (o:={ dst:=some 8,op:=Op.alloc 65,type:=0,pos := "ref.go:46", after:=#[],guard:=none }) rfl (fun K hK=>?_) AllReadyH.nil
    go_simp
    refine hK.out _ _ ?_ (fun hHeld=>?_)
    ·exact HSM.out _ (((Below.refl _ wr).alloc (Nat.le_refl _) _).alloc (by simp) _).drew
    clear hK K hHeld
    try simp only[Act.put,List.setIfInBounds_toArray,List.set_cons_zero,List.set_cons_succ]
    refine wpAnyH_ready (rs:=[12]) (by kernel_rfl) (by simp) ?_
    refine AllReadyH.cons (o:={ dst:=none,op:=Op.store 120 (Operand.tmp 7) (Operand.tmp 64),type:=0,pos := "ref.go:46", after:=#[{ on:=10,ground:=Ground.data },{ on:=4,ground:=Ground.data },{ on:=0,ground:=Ground.phase },{ on:=1,ground:=Ground.phase },{ on:=2,ground:=Ground.phase },{ on:=3,ground:=Ground.phase },{ on:=4,ground:=Ground.phase },{ on:=5,ground:=Ground.textOnly Departure.lateStores },{ on:=6,ground:=Ground.textOnly Departure.lateStores },{ on:=7,ground:=Ground.textOnly Departure.lateStores },{ on:=8,ground:=Ground.textOnly Departure.lateStores },{ on:=9,ground:=Ground.textOnly Departure.lateStores },{ on:=10,ground:=Ground.phase },{ on:=11,ground:=Ground.phase }],guard:=none }) rfl (fun K hK=>?_) AllReadyH.nil
    go_simp
    refine hK.out _ _ ?_ (fun hHeld=>?_)
    ·exact HSM.out _ (((Below.refl _ wr).alloc (Nat.le_refl _) _).alloc (by simp) _).drew
    clear hK K hHeld
    try simp only[Act.put,List.setIfInBounds_toArray,List.set_cons_zero,List.set_cons_succ]
    refine wpAnyH_ready (rs:=[13]) (by kernel_rfl) (by simp) ?_
    refine AllReadyH.cons (o:={ dst:=none,op:=Op.store 65 (Operand.tmp 8) (Operand.tmp 69),type:=0,pos := "ref.go:46", after:=#[{ on:=11,ground:=Ground.data },{ on:=9,ground:=Ground.data },{ on:=12,ground:=Ground.chain },{ on:=0,ground:=Ground.phase },{ on:=1,ground:=Ground.phase },{ on:=2,ground:=Ground.phase },{ on:=3,ground:=Ground.phase },{ on:=4,ground:=Ground.phase },{ on:=5,ground:=Ground.phase },{ on:=6,ground:=Ground.phase },{ on:=7,ground:=Ground.phase },{ on:=8,ground:=Ground.phase },{ on:=9,ground:=Ground.phase },{ on:=10,ground:=Ground.phase },{ on:=11,ground:=Ground.phase },{ on:=12,ground:=Ground.phase }],guard:=none }) rfl (fun K hK=>?_) AllReadyH.nil
    go_simp
    refine hK.out _ _ ?_ (fun hHeld=>?_)
    ·exact HSM.out _ (((Below.refl _ wr).alloc (Nat.le_refl _) _).alloc (by simp) _).drew
    clear hK K hHeld
    try simp only[Act.put,List.setIfInBounds_toArray,List.set_cons_zero,List.set_cons_succ]
    refine wpAnyH_done (by kernel_rfl) ?_ _
    obtain⟨W2,hW2⟩:∃W2,W2=((wr.alloc (.cells #[.string f.name,.int .i64 f.len,.int .i64 f.a0,.int .i64 f.a1,.int .i64 f.a2,.int .i64 f.res] 120)).alloc (.cells #[.slice v.ra v.rows.length v.rc,.int .i64 v.els] 65)).drew:=⟨_,rfl⟩
    obtain⟨bf,hb1⟩:∃b,b=wr.heap.size:=⟨_,rfl⟩
    obtain⟨bv,hb2⟩:∃b,b=wr.heap.size+1:=⟨_,rfl⟩
    have HB2:Hid (Below wr.heap.size wr W2):=by rw[hW2];exact(((Below.refl _ wr).alloc (Nat.le_refl _) _).alloc (by simp) _).drew
    have H1:Hid (W2.heap[bf]? = some (.cells #[.string f.name,.int .i64 f.len,.int .i64 f.a0,.int .i64 f.a1,.int .i64 f.a2,.int .i64 f.res] 120 (0,0))):=by rw[hW2,hb1];exact(Below.heap_alloc _ _ _ (by simp)).trans (heap_alloc_new wr _)
    have H2:Hid (W2.heap[bv]? = some (.cells #[.slice v.ra v.rows.length v.rc,.int .i64 v.els] 65 (0,0))):=by
     have h:=heap_alloc_new (wr.alloc (.cells #[.string f.name,.int .i64 f.len,.int .i64 f.a0,.int .i64 f.a1,.int .i64 f.a2,.int .i64 f.res] 120)) (.cells #[.slice v.ra v.rows.length v.rc,.int .i64 v.els] 65)
     rw[World.size_alloc] at h
     rw[hW2,hb2];exact h
    have HSZ:Hid (bf<W2.heap.size∧bv<W2.heap.size):=⟨(Array.getElem?_eq_some_iff.1 H1.out).1,(Array.getElem?_eq_some_iff.1 H2.out).1⟩
    have HFb:Hid (W2.heap[bf]? = some (.cells #[.string f.name,.int .i64 f.len,.int .i64 f.a0,.int .i64 f.a1,.int .i64 f.a2,.int .i64 f.res] 120 (0,0))):=H1
    have HVb:Hid (W2.heap[bv]? = some (.cells #[.slice v.ra v.rows.length v.rc,.int .i64 v.els] 65 (0,0))):=H2
    rw[←hW2]
    rw[←hb2,←hb1]
    clear hW2 hb1 hb2 H1 H2 hHeld c0 c1 c2 w0 w1 q0 q1 q2 q3 q4 q5 p0 p1 hgw hgw2 z0
    have HBL:Hid (∀V,Below W2.heap.size W2 V→Below W0.heap.size W0 V):=fun V hV=>HB.out.trans ((HB2.out.trans (hV.mono HB2.out.size)).mono HB.out.size)
    have HBW:Hid (∀V,Below W2.heap.size W2 V→Below w.heap.size w V):=fun V hV=>HB0.out.trans ((HBL.out V hV).mono HB0.out.size)
    have HS2:Hid (∀V,Below W2.heap.size W2 V→V.cell? ⟨w.heap.size,0,none⟩=some (.slice x.sa x.sorts.length x.sc)∧V.cell? ⟨w.heap.size,1,none⟩=some (.slice (some ⟨g,o,none⟩) x.funs.length x.fc)∧V.cell? ⟨w.heap.size,2,none⟩=some (.slice x.ma x.macs.length x.mc)∧V.cell? ⟨w.heap.size+1,0,none⟩=some (.slice y.sa y.sizes.length y.sc)∧V.cell? ⟨w.heap.size+1,1,none⟩=some (.slice (some ⟨g2,o2,none⟩) y.funs.length y.fc)∧V.cell? ⟨bf,0,none⟩=some (.string f.name)∧V.cell? ⟨bf,1,none⟩=some (.int .i64 f.len)∧V.cell? ⟨bf,2,none⟩=some (.int .i64 f.a0)∧V.cell? ⟨bf,3,none⟩=some (.int .i64 f.a1)∧V.cell? ⟨bf,4,none⟩=some (.int .i64 f.a2)∧V.cell? ⟨bf,5,none⟩=some (.int .i64 f.res)∧V.cell? ⟨bv,0,none⟩=some (.slice v.ra v.rows.length v.rc)∧V.cell? ⟨bv,1,none⟩=some (.int .i64 v.els)):=fun V hV=>by
     obtain⟨c0,c1,c2,w0,w1⟩:=HK.out _ (HBL.out V hV)
     rw[HA1.out] at c1
     rw[HA2.out] at w1
     have h:=(hV.block _ HSZ.out.1).trans HFb.out
     obtain⟨v0,v1,_⟩:=qBy ((hV.block _ HSZ.out.2).trans HVb.out)
     exact⟨c0,c1,c2,w0,w1,(cell_of_row _ _ 0 _ _ _ h).trans rfl,(cell_of_row _ _ 1 _ _ _ h).trans rfl,(cell_of_row _ _ 2 _ _ _ h).trans rfl,(cell_of_row _ _ 3 _ _ _ h).trans rfl,(cell_of_row _ _ 4 _ _ _ h).trans rfl,(cell_of_row _ _ 5 _ _ _ h).trans rfl,v0,v1⟩
    have HZ2:Hid (∀V,Below W2.heap.size W2 V→w.heap.size+1<V.heap.size∧bf<V.heap.size∧bv<V.heap.size):=fun V hV=>by
     have h1:=HZ.out _ (HBL.out V hV)
     have h2:=hV.size
     have h3:=HSZ.out.1
     have h4:=HSZ.out.2
     exact⟨h1,by omega,by omega⟩
    have HI2:Hid (∀s b q,I64 s→I64 b→isB x.sorts.length y.sizes s b=q→∀V,Below W2.heap.size W2 V→Calls Tryz.prog 57 #[.agg #[.slice x.sa x.sorts.length x.sc,.slice (some ⟨g,o,none⟩) x.funs.length x.fc,.slice x.ma x.macs.length x.mc],.agg #[.slice y.sa y.sizes.length y.sc,.slice (some ⟨g2,o2,none⟩) y.funs.length y.fc],.int .i64 s,.int .i64 b] V fun e w'=>e=.returned (.bool q)∧Below W2.heap.size W2 w'):=fun s b q hs hb hq V hV=>by
     have h:=(qQg x y s b q V (HY.out.below (HBW.out V hV)) hs hb (by omega) hq).mono fun e w' ⟨h1,h2⟩=>(⟨h1,hV.trans (h2.mono hV.size)⟩:e=Ending.returned (Value.bool q)∧Below W2.heap.size W2 w')
     rw[HA1.out,HA2.out] at h
     exact h
    have HF2:Hid (∀b0 b1 b2 q,I64 b0→I64 b1→I64 b2→fitB x.sorts.length y.sizes f b0 b1 b2=q→∀V,Below W2.heap.size W2 V→Calls Tryz.prog 58 #[.agg #[.slice x.sa x.sorts.length x.sc,.slice (some ⟨g,o,none⟩) x.funs.length x.fc,.slice x.ma x.macs.length x.mc],.agg #[.slice y.sa y.sizes.length y.sc,.slice (some ⟨g2,o2,none⟩) y.funs.length y.fc],.agg #[.string f.name,.int .i64 f.len,.int .i64 f.a0,.int .i64 f.a1,.int .i64 f.a2,.int .i64 f.res],.agg #[.int .i64 b0,.int .i64 b1,.int .i64 b2]] V fun e w'=>e=.returned (.bool q)∧Below W2.heap.size W2 w'):=fun b0 b1 b2 q h0 h1 h2 hq V hV=>by
     have h:=(qI4 x y f b0 b1 b2 q V (HY.out.below (HBW.out V hV)) hfo h0 h1 h2 (by omega) hq).mono fun e w' ⟨h1,h2⟩=>(⟨h1,hV.trans (h2.mono hV.size)⟩:e=Ending.returned (Value.bool q)∧Below W2.heap.size W2 w')
     rw[HA1.out,HA2.out] at h
     exact h
    have HNo:Hid (fvQ x.sorts.length y.sizes f v=false→r=false):=fun h=>by rw[←HQ2.out];exact qJb HPK.out h
    have HPY:Hid (fvQ x.sorts.length y.sizes f v=true→∀(j:Nat) (p:FunA × FvV),j<k+1→(x.funs.zip y.funs)[j]? = some p→fvQ x.sorts.length y.sizes p.1 p.2=true):=fun h j p hj hy=>by
     by_cases hjk:j<k
     ·exact HP.out j p hjk hy
     ·obtain rfl:j=k:=by omega
      obtain rfl:(f,v)=p:=by rw[HPK.out] at hy;exact Option.some.inj hy
      exact h
    have HVO:=Lib.hid hvo
    have hres:=hfo.res
    clear hvo hfo HB HB2 HFb HVb HP HPK HQ HQ2
    obtain⟨c0,c1,c2,w0,w1,f0,f1,f2,f3,f4,f5,v0,v1⟩:=HS2.out _ (Below.refl _ _)
    obtain⟨z0,z1,z2⟩:=HZ2.out _ (Below.refl _ _)
    by_cases h4:400<v.rows.length
    ·obtain rfl:=HNo.out (by unfold fvQ;rw[decide_eq_false (by omega)];rfl)
     have d4:(400:Int)<(v.rows.length:Int):=by omega
     go_wp2_with fail
     go_ret
     exact⟨rfl,by first|exact HBW.out _ (Below.refl _ W2)|exact HBW.out _ (Below.refl _ W2).drew⟩
    have d4:¬(400:Int)<(v.rows.length:Int):=by omega
    cases hq:isB x.sorts.length y.sizes f.res v.els with
    | false =>
     obtain rfl:=HNo.out (by unfold fvQ;rw[hq];simp)
     have HC2:=Lib.hid (HI2.out _ _ _ hres HVO.out.els hq _ (Below.refl _ W2))
     clear hq
     go_wp2_with (go_at_call 57;refine HC2.out.mono ?_;rintro e w5 ⟨rfl,hb5⟩;have HB5:=Lib.hid hb5;clear hb5;clear c0 c1 c2 w0 w1 f0 f1 f2 f3 f4 f5 v0 v1 z0 z1 z2;obtain⟨c0,c1,c2,w0,w1,f0,f1,f2,f3,f4,f5,v0,v1⟩:=HS2.out _ HB5.out;obtain⟨z0,z1,z2⟩:=HZ2.out _ HB5.out)
     go_ret
     exact⟨rfl,by first|exact HBW.out _ HB5.out|exact HBW.out _ HB5.out.drew⟩
    | true =>
    have HC2:=Lib.hid (HI2.out _ _ _ hres HVO.out.els hq _ (Below.refl _ W2))
    have HNo2:Hid (qE7 (qIr x.sorts.length y.sizes f) [] v.rows=false→r=false):=fun h=>HNo.out (by unfold fvQ;rw[h];simp)
    have HPY2:Hid (qE7 (qIr x.sorts.length y.sizes f) [] v.rows=true→∀(j:Nat) (p:FunA × FvV),j<k+1→(x.funs.zip y.funs)[j]? = some p→fvQ x.sorts.length y.sizes p.1 p.2=true):=fun h=>HPY.out (by unfold fvQ;rw[h,hq,decide_eq_true (by omega)];rfl)
    clear hq HNo HPY
    go_wp2_with (go_at_call 57;refine HC2.out.mono ?_;rintro e w5 ⟨rfl,hb5⟩;have HB5:=Lib.hid hb5;clear hb5;clear c0 c1 c2 w0 w1 f0 f1 f2 f3 f4 f5 v0 v1 z0 z1 z2;obtain⟨c0,c1,c2,w0,w1,f0,f1,f2,f3,f4,f5,v0,v1⟩:=HS2.out _ HB5.out;obtain⟨z0,z1,z2⟩:=HZ2.out _ HB5.out)
    clear c0 c1 c2 w0 w1 f0 f1 f2 f3 f4 f5 v0 v1 z0 z1 z2
    go_loopw [9] (fun i wr=>∃kk:Nat,kk≤v.rows.length∧i=.int .i64 kk∧Hid (qE7 (qIr x.sorts.length y.sizes f) [] (v.rows.take kk)=true)∧Hid (Below W2.heap.size W2 wr)) (fun i _=>v.rows.length-(intOf i).toNat)
    case atStart=>exact⟨0,Nat.zero_le _,rfl,by show _=_;rw[List.take_zero];rfl,by first|exact HB5|exact HB5.out.drew⟩
    case round =>
     obtain⟨kk,hkk,rfl,HQr,HB6⟩:=hrel
     obtain⟨c0,c1,c2,w0,w1,f0,f1,f2,f3,f4,f5,v0,v1⟩:=HS2.out _ HB6.out
     obtain⟨z0,z1,z2⟩:=HZ2.out _ HB6.out
     by_cases hlt3:kk<v.rows.length
     rotate_left
     ·obtain rfl:kk=v.rows.length:=by omega
      have HP3:=Lib.hid (HPY2.out (by have h:=HQr.out;rwa [List.take_length] at h))
      go_wp2_with fail
      go_roundw
      case rel=>exact⟨k+1,by omega,by go_num,HP3,by first|exact HBL.out _ HB6.out|exact(HBL.out _ HB6.out).drew⟩
      case measure=>simp[intOf];omega
     obtain⟨rr,hrr⟩:∃rr,v.rows[kk]? = some rr:=⟨_,List.getElem?_eq_getElem hlt3⟩
     obtain⟨g3,o3,ha3,hg3,hcell3⟩:=HVO.out.rat (by rw[len_flat qBj];omega)
     have HRow:Hid (∀(j:Nat) (s:RowA),v.rows[j]? = some s→∀V,Below W2.heap.size W2 V→V.cell? ⟨g3,o3+j*4,none⟩=some (.int .i64 s.a0)∧V.cell? ⟨g3,o3+j*4+1,none⟩=some (.int .i64 s.a1)∧V.cell? ⟨g3,o3+j*4+2,none⟩=some (.int .i64 s.a2)∧V.cell? ⟨g3,o3+j*4+3,none⟩=some (.int .i64 s.v)∧g3<V.heap.size):=fun j s hs V hV=>by
      have r0:=hcell3 _ _ ((get_flat qBj v.rows j 0 s hs (by omega)).trans rfl)
      have r1:=hcell3 _ _ ((get_flat qBj v.rows j 1 s hs (by omega)).trans rfl)
      have r2:=hcell3 _ _ ((get_flat qBj v.rows j 2 s hs (by omega)).trans rfl)
      have r3:=hcell3 _ _ ((get_flat qBj v.rows j 3 s hs (by omega)).trans rfl)
      simp only[Nat.add_zero,←Nat.add_assoc] at r0 r1 r2 r3
      have hW:=HBW.out V hV
      exact⟨(hW.cell (p:=⟨g3,o3+j*4,none⟩) hg3).trans r0,(hW.cell (p:=⟨g3,o3+j*4+1,none⟩) hg3).trans r1,(hW.cell (p:=⟨g3,o3+j*4+2,none⟩) hg3).trans r2,(hW.cell (p:=⟨g3,o3+j*4+3,none⟩) hg3).trans r3,Nat.lt_of_lt_of_le hg3 hW.size⟩
     have HRR:Hid (v.rows[kk]? = some rr):=hrr
     obtain⟨r0,r1,r2,r3,z3⟩:=HRow.out kk rr hrr _ HB6.out
     have hro:=HVO.out.rok rr (List.mem_of_getElem? hrr)
     have HNX:=Lib.hid (qDl (one:=qIr x.sorts.length y.sizes f) hrr)
     have HNo3:Hid (qIr x.sorts.length y.sizes f (v.rows.take kk) rr=false→r=false):=fun h=>HNo2.out (qGt (k:=kk+1) (by rw[HNX.out,h,Bool.and_false]))
     have hk3:(kk:Int)<(v.rows.length:Int):=by omega
     have hk30:(0:Int)≤(kk:Int):=by omega
     have HS3:Hid (∀V,Below W2.heap.size W2 V→V.cell? ⟨w.heap.size,0,none⟩=some (.slice x.sa x.sorts.length x.sc)∧V.cell? ⟨w.heap.size,1,none⟩=some (.slice (some ⟨g,o,none⟩) x.funs.length x.fc)∧V.cell? ⟨w.heap.size,2,none⟩=some (.slice x.ma x.macs.length x.mc)∧V.cell? ⟨w.heap.size+1,0,none⟩=some (.slice y.sa y.sizes.length y.sc)∧V.cell? ⟨w.heap.size+1,1,none⟩=some (.slice (some ⟨g2,o2,none⟩) y.funs.length y.fc)∧V.cell? ⟨bf,0,none⟩=some (.string f.name)∧V.cell? ⟨bf,1,none⟩=some (.int .i64 f.len)∧V.cell? ⟨bf,2,none⟩=some (.int .i64 f.a0)∧V.cell? ⟨bf,3,none⟩=some (.int .i64 f.a1)∧V.cell? ⟨bf,4,none⟩=some (.int .i64 f.a2)∧V.cell? ⟨bf,5,none⟩=some (.int .i64 f.res)∧V.cell? ⟨bv,0,none⟩=some (.slice (some ⟨g3,o3,none⟩) v.rows.length v.rc)∧V.cell? ⟨bv,1,none⟩=some (.int .i64 v.els)∧V.cell? ⟨g3,o3+kk*4,none⟩=some (.int .i64 rr.a0)∧V.cell? ⟨g3,o3+kk*4+1,none⟩=some (.int .i64 rr.a1)∧V.cell? ⟨g3,o3+kk*4+2,none⟩=some (.int .i64 rr.a2)∧V.cell? ⟨g3,o3+kk*4+3,none⟩=some (.int .i64 rr.v)):=fun V hV=>by
      obtain⟨c0,c1,c2,w0,w1,f0,f1,f2,f3,f4,f5,v0,v1⟩:=HS2.out _ hV
      obtain⟨r0,r1,r2,r3,z3⟩:=HRow.out kk rr hrr _ hV
      rw[ha3] at v0
      exact⟨c0,c1,c2,w0,w1,f0,f1,f2,f3,f4,f5,v0,v1,r0,r1,r2,r3⟩
     rw[ha3] at v0
     have HA3:=Lib.hid ha3
     clear hcell3 hrr ha3
     cases hq1:fitB x.sorts.length y.sizes f rr.a0 rr.a1 rr.a2 with
     | false =>
      obtain rfl:=HNo3.out (by unfold qIr;rw[hq1];rfl)
      have HC3:=Lib.hid (HF2.out _ _ _ _ hro.a0 hro.a1 hro.a2 hq1)
      clear hq1
      go_wp2_with fail
      refine wp_region_held_drew (S:=fun V=>V.cell? ⟨w.heap.size,0,none⟩=some (.slice x.sa x.sorts.length x.sc)∧V.cell? ⟨w.heap.size,1,none⟩=some (.slice (some ⟨g,o,none⟩) x.funs.length x.fc)∧V.cell? ⟨w.heap.size,2,none⟩=some (.slice x.ma x.macs.length x.mc)∧V.cell? ⟨w.heap.size+1,0,none⟩=some (.slice y.sa y.sizes.length y.sc)∧V.cell? ⟨w.heap.size+1,1,none⟩=some (.slice (some ⟨g2,o2,none⟩) y.funs.length y.fc)∧V.cell? ⟨bf,0,none⟩=some (.string f.name)∧V.cell? ⟨bf,1,none⟩=some (.int .i64 f.len)∧V.cell? ⟨bf,2,none⟩=some (.int .i64 f.a0)∧V.cell? ⟨bf,3,none⟩=some (.int .i64 f.a1)∧V.cell? ⟨bf,4,none⟩=some (.int .i64 f.a2)∧V.cell? ⟨bf,5,none⟩=some (.int .i64 f.res)∧V.cell? ⟨bv,0,none⟩=some (.slice (some ⟨g3,o3,none⟩) v.rows.length v.rc)∧V.cell? ⟨bv,1,none⟩=some (.int .i64 v.els)∧V.cell? ⟨g3,o3+kk*4,none⟩=some (.int .i64 rr.a0)∧V.cell? ⟨g3,o3+kk*4+1,none⟩=some (.int .i64 rr.a1)∧V.cell? ⟨g3,o3+kk*4+2,none⟩=some (.int .i64 rr.a2)∧V.cell? ⟨g3,o3+kk*4+3,none⟩=some (.int .i64 rr.v)) (by kernel_rfl) (HS3.out _ HB6.out.drew) (fun hHeld=>?_)
      refine tkY 0 (.agg #[.slice x.sa x.sorts.length x.sc,.slice (some ⟨g,o,none⟩) x.funs.length x.fc,.slice x.ma x.macs.length x.mc]) ?_;try simp only[k4]
      refine tkY 1 (.agg #[.slice y.sa y.sizes.length y.sc,.slice (some ⟨g2,o2,none⟩) y.funs.length y.fc]) ?_;try simp only[k4]
      refine tkY 2 (.agg #[.string f.name,.int .i64 f.len,.int .i64 f.a0,.int .i64 f.a1,.int .i64 f.a2,.int .i64 f.res]) ?_;try simp only[k4]
      refine tkY 3 (.pointer (some ⟨bv,0,none⟩)) ?_;try simp only[k4]
      refine tkY 4 (.slice (some ⟨g3,o3,none⟩) v.rows.length v.rc) ?_;try simp only[k4]
      refine tkY 5 (.int .i64 kk) ?_;try simp only[k4]
      refine tkY 6 (.pointer (some ⟨g3,o3+kk*4,none⟩)) ?_;try simp only[k4]
      refine tkY 7 (.pointer (some ⟨g3,o3+kk*4,none⟩)) ?_;try simp only[k4]
      refine tkY 8 (.agg #[.int .i64 rr.a0,.int .i64 rr.a1,.int .i64 rr.a2]) ?_;try simp only[k4]
      refine wpAnyH_ready (rs:=[9]) (by kernel_rfl) (by simp) ?_
      refine AllReadyH.cons (o:={ dst:=some 100,op:=Op.call { callee:=Callee.value (Operand.func 58),args:=#[Operand.tmp 91,Operand.tmp 92,Operand.tmp 93,Operand.tmp 99],argTypes:=#[26,30,120,52] },type:=4,pos := "ref.go:51", after:=#[{ on:=0,ground:=Ground.data },{ on:=1,ground:=Ground.data },{ on:=2,ground:=Ground.data },{ on:=8,ground:=Ground.data }],guard:=none }) rfl (fun K hK=>?_) AllReadyH.nil
      go_simp
      go_at_call 58
      refine(HC3.out _ HB6.out.drew).mono ?_
      rintro e w7 ⟨rfl,hb7⟩
      have HB7:=Lib.hid hb7
      clear hb7
      go_wp2_with fail
      refine hK.out _ _ ?_ (fun hHeld=>?_)
      ·exact HS3.out _ HB7.out
      clear hK K
      try simp only[Act.put,List.setIfInBounds_toArray,List.set_cons_zero,List.set_cons_succ]
      refine tkY 10 (.bool true) ?_;try simp only[k4]
      refine tkY 11 (.bool true) ?_;try simp only[k4]
      refine tkN 12 ?_;try simp only[k4]
      refine tkN 13 ?_;try simp only[k4]
      refine tkN 14 ?_;try simp only[k4]
      refine tkN 15 ?_;try simp only[k4]
      refine tkN 16 ?_;try simp only[k4]
      refine tkN 17 ?_;try simp only[k4]
      refine tkN 18 ?_;try simp only[k4]
      refine tkN 19 ?_;try simp only[k4]
      refine tkN 20 ?_;try simp only[k4]
      refine tkN 21 ?_;try simp only[k4]
      refine tkN 22 ?_;try simp only[k4]
      refine tkN 23 ?_;try simp only[k4]
      refine tkY 24 (.bool true) ?_;try simp only[k4]
      refine wpAnyH_done (by kernel_rfl) ?_ _
      go_wp2_with fail
      go_ret
      exact⟨rfl,by first|exact HBW.out _ HB7.out|exact HBW.out _ HB7.out.drew⟩
     | true =>
     have HC3:=Lib.hid (HF2.out _ _ _ _ hro.a0 hro.a1 hro.a2 hq1)
     cases hq2:isB x.sorts.length y.sizes f.res rr.v with
     | false =>
      obtain rfl:=HNo3.out (by unfold qIr;rw[hq2];simp)
      have HC4:Hid (∀V,Below W2.heap.size W2 V→Calls Tryz.prog 57 #[.agg #[.slice x.sa x.sorts.length x.sc,.slice (some ⟨g,o,none⟩) x.funs.length x.fc,.slice x.ma x.macs.length x.mc],.agg #[.slice y.sa y.sizes.length y.sc,.slice (some ⟨g2,o2,none⟩) y.funs.length y.fc],.int .i64 f.res,.int .i64 rr.v] V fun e w'=>e=Ending.returned (Value.bool false)∧Below W2.heap.size W2 w'):=HI2.out _ _ _ hres hro.v hq2
      clear hq1 hq2
      go_wp2_with fail
      refine wp_region_held_drew (S:=fun V=>V.cell? ⟨w.heap.size,0,none⟩=some (.slice x.sa x.sorts.length x.sc)∧V.cell? ⟨w.heap.size,1,none⟩=some (.slice (some ⟨g,o,none⟩) x.funs.length x.fc)∧V.cell? ⟨w.heap.size,2,none⟩=some (.slice x.ma x.macs.length x.mc)∧V.cell? ⟨w.heap.size+1,0,none⟩=some (.slice y.sa y.sizes.length y.sc)∧V.cell? ⟨w.heap.size+1,1,none⟩=some (.slice (some ⟨g2,o2,none⟩) y.funs.length y.fc)∧V.cell? ⟨bf,0,none⟩=some (.string f.name)∧V.cell? ⟨bf,1,none⟩=some (.int .i64 f.len)∧V.cell? ⟨bf,2,none⟩=some (.int .i64 f.a0)∧V.cell? ⟨bf,3,none⟩=some (.int .i64 f.a1)∧V.cell? ⟨bf,4,none⟩=some (.int .i64 f.a2)∧V.cell? ⟨bf,5,none⟩=some (.int .i64 f.res)∧V.cell? ⟨bv,0,none⟩=some (.slice (some ⟨g3,o3,none⟩) v.rows.length v.rc)∧V.cell? ⟨bv,1,none⟩=some (.int .i64 v.els)∧V.cell? ⟨g3,o3+kk*4,none⟩=some (.int .i64 rr.a0)∧V.cell? ⟨g3,o3+kk*4+1,none⟩=some (.int .i64 rr.a1)∧V.cell? ⟨g3,o3+kk*4+2,none⟩=some (.int .i64 rr.a2)∧V.cell? ⟨g3,o3+kk*4+3,none⟩=some (.int .i64 rr.v)) (by kernel_rfl) (HS3.out _ HB6.out.drew) (fun hHeld=>?_)
      refine tkY 0 (.agg #[.slice x.sa x.sorts.length x.sc,.slice (some ⟨g,o,none⟩) x.funs.length x.fc,.slice x.ma x.macs.length x.mc]) ?_;try simp only[k4]
      refine tkY 1 (.agg #[.slice y.sa y.sizes.length y.sc,.slice (some ⟨g2,o2,none⟩) y.funs.length y.fc]) ?_;try simp only[k4]
      refine tkY 2 (.agg #[.string f.name,.int .i64 f.len,.int .i64 f.a0,.int .i64 f.a1,.int .i64 f.a2,.int .i64 f.res]) ?_;try simp only[k4]
      refine tkY 3 (.pointer (some ⟨bv,0,none⟩)) ?_;try simp only[k4]
      refine tkY 4 (.slice (some ⟨g3,o3,none⟩) v.rows.length v.rc) ?_;try simp only[k4]
      refine tkY 5 (.int .i64 kk) ?_;try simp only[k4]
      refine tkY 6 (.pointer (some ⟨g3,o3+kk*4,none⟩)) ?_;try simp only[k4]
      refine tkY 7 (.pointer (some ⟨g3,o3+kk*4,none⟩)) ?_;try simp only[k4]
      refine tkY 8 (.agg #[.int .i64 rr.a0,.int .i64 rr.a1,.int .i64 rr.a2]) ?_;try simp only[k4]
      refine wpAnyH_ready (rs:=[9]) (by kernel_rfl) (by simp) ?_
      refine AllReadyH.cons (o:={ dst:=some 100,op:=Op.call { callee:=Callee.value (Operand.func 58),args:=#[Operand.tmp 91,Operand.tmp 92,Operand.tmp 93,Operand.tmp 99],argTypes:=#[26,30,120,52] },type:=4,pos := "ref.go:51", after:=#[{ on:=0,ground:=Ground.data },{ on:=1,ground:=Ground.data },{ on:=2,ground:=Ground.data },{ on:=8,ground:=Ground.data }],guard:=none }) rfl (fun K hK=>?_) AllReadyH.nil
      go_simp
      go_at_call 58
      refine(HC3.out _ HB6.out.drew).mono ?_
      rintro e w7 ⟨rfl,hb7⟩
      have HB7:=Lib.hid hb7
      clear hb7
      go_wp2_with fail
      refine hK.out _ _ ?_ (fun hHeld=>?_)
      ·exact HS3.out _ HB7.out
      clear hK K
      try simp only[Act.put,List.setIfInBounds_toArray,List.set_cons_zero,List.set_cons_succ]
      refine tkY 10 (.bool false) ?_;try simp only[k4]
      refine tkY 11 (.bool false) ?_;try simp only[k4]
      refine tkY 12 (.agg #[.slice x.sa x.sorts.length x.sc,.slice (some ⟨g,o,none⟩) x.funs.length x.fc,.slice x.ma x.macs.length x.mc]) ?_;try simp only[k4]
      refine tkY 13 (.agg #[.slice y.sa y.sizes.length y.sc,.slice (some ⟨g2,o2,none⟩) y.funs.length y.fc]) ?_;try simp only[k4]
      refine tkY 14 (.pointer (some ⟨bf,5,none⟩)) ?_;try simp only[k4]
      refine tkY 15 (.int .i64 f.res) ?_;try simp only[k4]
      refine tkY 16 (.pointer (some ⟨bv,0,none⟩)) ?_;try simp only[k4]
      refine tkY 17 (.slice (some ⟨g3,o3,none⟩) v.rows.length v.rc) ?_;try simp only[k4]
      refine tkY 18 (.int .i64 kk) ?_;try simp only[k4]
      refine tkY 19 (.pointer (some ⟨g3,o3+kk*4,none⟩)) ?_;try simp only[k4]
      refine tkY 20 (.pointer (some ⟨g3,o3+kk*4+3,none⟩)) ?_;try simp only[k4]
      refine tkY 21 (.int .i64 rr.v) ?_;try simp only[k4]
      refine wpAnyH_ready (rs:=[22]) (by kernel_rfl) (by simp) ?_
      refine AllReadyH.cons (o:={ dst:=some 113,op:=Op.call { callee:=Callee.value (Operand.func 57),args:=#[Operand.tmp 103,Operand.tmp 104,Operand.tmp 106,Operand.tmp 112],argTypes:=#[26,30,3,3] },type:=4,pos := "ref.go:51", after:=#[{ on:=12,ground:=Ground.data },{ on:=13,ground:=Ground.data },{ on:=15,ground:=Ground.data },{ on:=21,ground:=Ground.data },{ on:=11,ground:=Ground.chain },{ on:=11,ground:=Ground.guard }],guard:=some (11,false) }) rfl (fun K hK=>?_) AllReadyH.nil
      go_simp
      go_at_call 57
      refine(HC4.out _ HB7.out).mono ?_
      rintro e w8 ⟨rfl,hb8⟩
      have HB8:=Lib.hid hb8
      clear hb8
      go_wp2_with fail
      refine hK.out _ _ ?_ (fun hHeld=>?_)
      ·exact HS3.out _ HB8.out
      clear hK K
      try simp only[Act.put,List.setIfInBounds_toArray,List.set_cons_zero,List.set_cons_succ]
      refine tkY 23 (.bool true) ?_;try simp only[k4]
      refine tkY 24 (.bool true) ?_;try simp only[k4]
      refine wpAnyH_done (by kernel_rfl) ?_ _
      go_wp2_with fail
      go_ret
      exact⟨rfl,by first|exact HBW.out _ HB8.out|exact HBW.out _ HB8.out.drew⟩
     | true =>
     have HC4:Hid (∀V,Below W2.heap.size W2 V→Calls Tryz.prog 57 #[.agg #[.slice x.sa x.sorts.length x.sc,.slice (some ⟨g,o,none⟩) x.funs.length x.fc,.slice x.ma x.macs.length x.mc],.agg #[.slice y.sa y.sizes.length y.sc,.slice (some ⟨g2,o2,none⟩) y.funs.length y.fc],.int .i64 f.res,.int .i64 rr.v] V fun e w'=>e=Ending.returned (Value.bool true)∧Below W2.heap.size W2 w'):=HI2.out _ _ _ hres hro.v hq2
     have HOne:Hid (qIr x.sorts.length y.sizes f (v.rows.take kk) rr = !(v.rows.take kk).any (fun s=>qE4 s rr)):=by show _=_;unfold qIr;rw[hq1,hq2];rfl
     clear hq1 hq2
     go_wp2_with fail
     refine wp_region_held_drew (S:=fun V=>V.cell? ⟨w.heap.size,0,none⟩=some (.slice x.sa x.sorts.length x.sc)∧V.cell? ⟨w.heap.size,1,none⟩=some (.slice (some ⟨g,o,none⟩) x.funs.length x.fc)∧V.cell? ⟨w.heap.size,2,none⟩=some (.slice x.ma x.macs.length x.mc)∧V.cell? ⟨w.heap.size+1,0,none⟩=some (.slice y.sa y.sizes.length y.sc)∧V.cell? ⟨w.heap.size+1,1,none⟩=some (.slice (some ⟨g2,o2,none⟩) y.funs.length y.fc)∧V.cell? ⟨bf,0,none⟩=some (.string f.name)∧V.cell? ⟨bf,1,none⟩=some (.int .i64 f.len)∧V.cell? ⟨bf,2,none⟩=some (.int .i64 f.a0)∧V.cell? ⟨bf,3,none⟩=some (.int .i64 f.a1)∧V.cell? ⟨bf,4,none⟩=some (.int .i64 f.a2)∧V.cell? ⟨bf,5,none⟩=some (.int .i64 f.res)∧V.cell? ⟨bv,0,none⟩=some (.slice (some ⟨g3,o3,none⟩) v.rows.length v.rc)∧V.cell? ⟨bv,1,none⟩=some (.int .i64 v.els)∧V.cell? ⟨g3,o3+kk*4,none⟩=some (.int .i64 rr.a0)∧V.cell? ⟨g3,o3+kk*4+1,none⟩=some (.int .i64 rr.a1)∧V.cell? ⟨g3,o3+kk*4+2,none⟩=some (.int .i64 rr.a2)∧V.cell? ⟨g3,o3+kk*4+3,none⟩=some (.int .i64 rr.v)) (by kernel_rfl) (HS3.out _ HB6.out.drew) (fun hHeld=>?_)
     refine tkY 0 (.agg #[.slice x.sa x.sorts.length x.sc,.slice (some ⟨g,o,none⟩) x.funs.length x.fc,.slice x.ma x.macs.length x.mc]) ?_;try simp only[k4]
     refine tkY 1 (.agg #[.slice y.sa y.sizes.length y.sc,.slice (some ⟨g2,o2,none⟩) y.funs.length y.fc]) ?_;try simp only[k4]
     refine tkY 2 (.agg #[.string f.name,.int .i64 f.len,.int .i64 f.a0,.int .i64 f.a1,.int .i64 f.a2,.int .i64 f.res]) ?_;try simp only[k4]
     refine tkY 3 (.pointer (some ⟨bv,0,none⟩)) ?_;try simp only[k4]
     refine tkY 4 (.slice (some ⟨g3,o3,none⟩) v.rows.length v.rc) ?_;try simp only[k4]
     refine tkY 5 (.int .i64 kk) ?_;try simp only[k4]
     refine tkY 6 (.pointer (some ⟨g3,o3+kk*4,none⟩)) ?_;try simp only[k4]
     refine tkY 7 (.pointer (some ⟨g3,o3+kk*4,none⟩)) ?_;try simp only[k4]
     refine tkY 8 (.agg #[.int .i64 rr.a0,.int .i64 rr.a1,.int .i64 rr.a2]) ?_;try simp only[k4]
     refine wpAnyH_ready (rs:=[9]) (by kernel_rfl) (by simp) ?_
     refine AllReadyH.cons (o:={ dst:=some 100,op:=Op.call { callee:=Callee.value (Operand.func 58),args:=#[Operand.tmp 91,Operand.tmp 92,Operand.tmp 93,Operand.tmp 99],argTypes:=#[26,30,120,52] },type:=4,pos := "ref.go:51", after:=#[{ on:=0,ground:=Ground.data },{ on:=1,ground:=Ground.data },{ on:=2,ground:=Ground.data },{ on:=8,ground:=Ground.data }],guard:=none }) rfl (fun K hK=>?_) AllReadyH.nil
     go_simp
     go_at_call 58
     refine(HC3.out _ HB6.out.drew).mono ?_
     rintro e w7 ⟨rfl,hb7⟩
     have HB7:=Lib.hid hb7
     clear hb7
     go_wp2_with fail
     refine hK.out _ _ ?_ (fun hHeld=>?_)
     ·exact HS3.out _ HB7.out
     clear hK K
     try simp only[Act.put,List.setIfInBounds_toArray,List.set_cons_zero,List.set_cons_succ]
     refine tkY 10 (.bool false) ?_;try simp only[k4]
     refine tkY 11 (.bool false) ?_;try simp only[k4]
     refine tkY 12 (.agg #[.slice x.sa x.sorts.length x.sc,.slice (some ⟨g,o,none⟩) x.funs.length x.fc,.slice x.ma x.macs.length x.mc]) ?_;try simp only[k4]
     refine tkY 13 (.agg #[.slice y.sa y.sizes.length y.sc,.slice (some ⟨g2,o2,none⟩) y.funs.length y.fc]) ?_;try simp only[k4]
     refine tkY 14 (.pointer (some ⟨bf,5,none⟩)) ?_;try simp only[k4]
     refine tkY 15 (.int .i64 f.res) ?_;try simp only[k4]
     refine tkY 16 (.pointer (some ⟨bv,0,none⟩)) ?_;try simp only[k4]
     refine tkY 17 (.slice (some ⟨g3,o3,none⟩) v.rows.length v.rc) ?_;try simp only[k4]
     refine tkY 18 (.int .i64 kk) ?_;try simp only[k4]
     refine tkY 19 (.pointer (some ⟨g3,o3+kk*4,none⟩)) ?_;try simp only[k4]
     refine tkY 20 (.pointer (some ⟨g3,o3+kk*4+3,none⟩)) ?_;try simp only[k4]
     refine tkY 21 (.int .i64 rr.v) ?_;try simp only[k4]
     refine wpAnyH_ready (rs:=[22]) (by kernel_rfl) (by simp) ?_
     refine AllReadyH.cons (o:={ dst:=some 113,op:=Op.call { callee:=Callee.value (Operand.func 57),args:=#[Operand.tmp 103,Operand.tmp 104,Operand.tmp 106,Operand.tmp 112],argTypes:=#[26,30,3,3] },type:=4,pos := "ref.go:51", after:=#[{ on:=12,ground:=Ground.data },{ on:=13,ground:=Ground.data },{ on:=15,ground:=Ground.data },{ on:=21,ground:=Ground.data },{ on:=11,ground:=Ground.chain },{ on:=11,ground:=Ground.guard }],guard:=some (11,false) }) rfl (fun K hK=>?_) AllReadyH.nil
     go_simp
     go_at_call 57
     refine(HC4.out _ HB7.out).mono ?_
     rintro e w8 ⟨rfl,hb8⟩
     have HB8:=Lib.hid hb8
     clear hb8
     go_wp2_with fail
     refine hK.out _ _ ?_ (fun hHeld=>?_)
     ·exact HS3.out _ HB8.out
     clear hK K
     try simp only[Act.put,List.setIfInBounds_toArray,List.set_cons_zero,List.set_cons_succ]
     refine tkY 23 (.bool false) ?_;try simp only[k4]
     refine tkY 24 (.bool false) ?_;try simp only[k4]
     refine wpAnyH_done (by kernel_rfl) ?_ _
     go_wp2_with fail
     clear c0 c1 c2 w0 w1 f0 f1 f2 f3 f4 f5 v0 v1 z0 z1 z2 r0 r1 r2 r3 z3
     go_loopw [10] (fun i wr=>∃jj:Nat,jj≤kk∧i=.int .i64 jj∧Hid (∀(j:Nat) (s:RowA),j<jj→v.rows[j]? = some s→qE4 s rr=false)∧Hid (Below W2.heap.size W2 wr)) (fun i _=>kk-(intOf i).toNat)
     case atStart=>exact⟨0,Nat.zero_le _,rfl,fun j _ hj=>absurd hj (Nat.not_lt_zero _),by first|exact HB8|exact HB8.out.drew⟩
     case round =>
      obtain⟨jj,hjj,rfl,HNs,HB9⟩:=hrel
      obtain⟨c0,c1,c2,w0,w1,f0,f1,f2,f3,f4,f5,v0,v1⟩:=HS2.out _ HB9.out
      obtain⟨z0,z1,z2⟩:=HZ2.out _ HB9.out
      by_cases hlt4:jj<kk
      rotate_left
      ·obtain rfl:jj=kk:=by omega
       have HQ7:Hid (qE7 (qIr x.sorts.length y.sizes f) [] (v.rows.take (jj+1))=true):=by
        show _=_
        rw[HNX.out,HQr.out,HOne.out,qQe (fun j s hs=>by
         rw[List.getElem?_take] at hs
         split at hs
         ·exact HNs.out j s (by assumption) hs
         ·cases hs)];rfl
       go_wp2_with fail
       go_roundw
       case rel=>exact⟨jj+1,by omega,by go_num,HQ7,by first|exact HB9|exact HB9.out.drew⟩
       case measure=>simp[intOf];omega
      rw[HA3.out] at v0
      obtain⟨s,hs⟩:∃s,v.rows[jj]? = some s:=⟨_,List.getElem?_eq_getElem (by omega)⟩
      obtain⟨r0,r1,r2,r3,z3⟩:=HRow.out kk rr HRR.out _ HB9.out
      obtain⟨s0,s1,s2,s3,_⟩:=HRow.out jj s hs _ HB9.out
      have hj3:(jj:Int)<(v.rows.length:Int):=by omega
      have hjk:(jj:Int)<(kk:Int):=by omega
      have HSs:Hid (v.rows[jj]? = some s):=hs
      clear hs
      have hsm:(decide (s.a0=rr.a0)&&(decide (s.a1=rr.a1)&&decide (s.a2=rr.a2)))=qE4 s rr:=rfl
      by_cases hsr:qE4 s rr=true
      ·obtain rfl:=HNo3.out (by rw[HOne.out,qMb (l:=v.rows.take kk) (j:=jj) (y:=s) (by rw[List.getElem?_take,if_pos hlt4];exact HSs.out) hsr];rfl)
       have e0:∀W,(Op.equal 52 (.agg #[.int .i64 s.a0,.int .i64 s.a1,.int .i64 s.a2]) (.agg #[.int .i64 rr.a0,.int .i64 rr.a1,.int .i64 rr.a2])).run Tryz.prog W=.ok true W:=fun W=>by rw[qJa,hsm,hsr]
       have g0:∀W,(Op.equalIn 10000 52 (.agg #[.int .i64 s.a0,.int .i64 s.a1,.int .i64 s.a2]) (.agg #[.int .i64 rr.a0,.int .i64 rr.a1,.int .i64 rr.a2])).run Tryz.prog W=.ok true W:=fun W=>by rw[qFn,hsm,hsr]
       clear hsm hsr
       go_wp2_with fail
       go_quiet (fail)
       go_wp2_with fail
       go_ret
       exact⟨rfl,qAh (HBW.out _ HB9.out)⟩
      ·rw[Bool.not_eq_true] at hsr
       have e0:∀W,(Op.equal 52 (.agg #[.int .i64 s.a0,.int .i64 s.a1,.int .i64 s.a2]) (.agg #[.int .i64 rr.a0,.int .i64 rr.a1,.int .i64 rr.a2])).run Tryz.prog W=.ok false W:=fun W=>by rw[qJa,hsm,hsr]
       have g0:∀W,(Op.equalIn 10000 52 (.agg #[.int .i64 s.a0,.int .i64 s.a1,.int .i64 s.a2]) (.agg #[.int .i64 rr.a0,.int .i64 rr.a1,.int .i64 rr.a2])).run Tryz.prog W=.ok false W:=fun W=>by rw[qFn,hsm,hsr]
       have HN2:Hid (∀(j:Nat) (t:RowA),j<jj+1→v.rows[j]? = some t→qE4 t rr=false):=fun j t hj ht=>by
        by_cases hjk:j<jj
        ·exact HNs.out j t hjk ht
        ·obtain rfl:j=jj:=by omega
         obtain rfl:s=t:=by rw[HSs.out] at ht;exact Option.some.inj ht
         exact hsr
       clear hsm hsr
       go_wp2_with fail
       go_quiet (fail)
       go_wp2_with fail
       go_roundw
       case rel=>exact⟨jj+1,by omega,by go_num,HN2,qAh HB9.out⟩
       case measure=>simp[intOf];omega
   ·go_simp
    refine hK.out _ _ ?_ (fun hHeld=>?_)
    ·exact HSM.out _ ((Below.refl _ wr).alloc (Nat.le_refl _) _).drew
    clear hK K hHeld
    try simp only[Act.put,List.setIfInBounds_toArray,List.set_cons_zero,List.set_cons_succ]
    refine wpAnyH_ready (rs:=[10]) (by kernel_rfl) (by simp) ?_
    refine AllReadyH.cons (o:={ dst:=some 7,op:=Op.alloc 120,type:=0,pos := "ref.go:46", after:=#[],guard:=none }) rfl (fun K hK=>?_) AllReadyH.nil
    go_simp
    refine hK.out _ _ ?_ (fun hHeld=>?_)
    ·exact HSM.out _ (((Below.refl _ wr).alloc (Nat.le_refl _) _).alloc (by simp) _).drew
    clear hK K hHeld
    try simp only[Act.put,List.setIfInBounds_toArray,List.set_cons_zero,List.set_cons_succ]
    refine wpAnyH_ready (rs:=[12]) (by kernel_rfl) (by simp) ?_
    refine AllReadyH.cons (o:={ dst:=none,op:=Op.store 120 (Operand.tmp 7) (Operand.tmp 64),type:=0,pos := "ref.go:46", after:=#[{ on:=10,ground:=Ground.data },{ on:=4,ground:=Ground.data },{ on:=0,ground:=Ground.phase },{ on:=1,ground:=Ground.phase },{ on:=2,ground:=Ground.phase },{ on:=3,ground:=Ground.phase },{ on:=4,ground:=Ground.phase },{ on:=5,ground:=Ground.textOnly Departure.lateStores },{ on:=6,ground:=Ground.textOnly Departure.lateStores },{ on:=7,ground:=Ground.textOnly Departure.lateStores },{ on:=8,ground:=Ground.textOnly Departure.lateStores },{ on:=9,ground:=Ground.textOnly Departure.lateStores },{ on:=10,ground:=Ground.phase },{ on:=11,ground:=Ground.phase }],guard:=none }) rfl (fun K hK=>?_) AllReadyH.nil
    go_simp
    refine hK.out _ _ ?_ (fun hHeld=>?_)
    ·exact HSM.out _ (((Below.refl _ wr).alloc (Nat.le_refl _) _).alloc (by simp) _).drew
    clear hK K hHeld
    try simp only[Act.put,List.setIfInBounds_toArray,List.set_cons_zero,List.set_cons_succ]
    refine wpAnyH_ready (rs:=[13]) (by kernel_rfl) (by simp) ?_
    refine AllReadyH.cons (o:={ dst:=none,op:=Op.store 65 (Operand.tmp 8) (Operand.tmp 69),type:=0,pos := "ref.go:46", after:=#[{ on:=11,ground:=Ground.data },{ on:=9,ground:=Ground.data },{ on:=12,ground:=Ground.chain },{ on:=0,ground:=Ground.phase },{ on:=1,ground:=Ground.phase },{ on:=2,ground:=Ground.phase },{ on:=3,ground:=Ground.phase },{ on:=4,ground:=Ground.phase },{ on:=5,ground:=Ground.phase },{ on:=6,ground:=Ground.phase },{ on:=7,ground:=Ground.phase },{ on:=8,ground:=Ground.phase },{ on:=9,ground:=Ground.phase },{ on:=10,ground:=Ground.phase },{ on:=11,ground:=Ground.phase },{ on:=12,ground:=Ground.phase }],guard:=none }) rfl (fun K hK=>?_) AllReadyH.nil
    go_simp
    refine hK.out _ _ ?_ (fun hHeld=>?_)
    ·exact HSM.out _ (((Below.refl _ wr).alloc (Nat.le_refl _) _).alloc (by simp) _).drew
    clear hK K hHeld
    try simp only[Act.put,List.setIfInBounds_toArray,List.set_cons_zero,List.set_cons_succ]
    refine wpAnyH_done (by kernel_rfl) ?_ _
    obtain⟨W2,hW2⟩:∃W2,W2=((wr.alloc (.cells #[.slice v.ra v.rows.length v.rc,.int .i64 v.els] 65)).alloc (.cells #[.string f.name,.int .i64 f.len,.int .i64 f.a0,.int .i64 f.a1,.int .i64 f.a2,.int .i64 f.res] 120)).drew:=⟨_,rfl⟩
    obtain⟨bv,hb1⟩:∃b,b=wr.heap.size:=⟨_,rfl⟩
    obtain⟨bf,hb2⟩:∃b,b=wr.heap.size+1:=⟨_,rfl⟩
    have HB2:Hid (Below wr.heap.size wr W2):=by rw[hW2];exact(((Below.refl _ wr).alloc (Nat.le_refl _) _).alloc (by simp) _).drew
    have H1:Hid (W2.heap[bv]? = some (.cells #[.slice v.ra v.rows.length v.rc,.int .i64 v.els] 65 (0,0))):=by rw[hW2,hb1];exact(Below.heap_alloc _ _ _ (by simp)).trans (heap_alloc_new wr _)
    have H2:Hid (W2.heap[bf]? = some (.cells #[.string f.name,.int .i64 f.len,.int .i64 f.a0,.int .i64 f.a1,.int .i64 f.a2,.int .i64 f.res] 120 (0,0))):=by
     have h:=heap_alloc_new (wr.alloc (.cells #[.slice v.ra v.rows.length v.rc,.int .i64 v.els] 65)) (.cells #[.string f.name,.int .i64 f.len,.int .i64 f.a0,.int .i64 f.a1,.int .i64 f.a2,.int .i64 f.res] 120)
     rw[World.size_alloc] at h
     rw[hW2,hb2];exact h
    have HSZ:Hid (bf<W2.heap.size∧bv<W2.heap.size):=⟨(Array.getElem?_eq_some_iff.1 H2.out).1,(Array.getElem?_eq_some_iff.1 H1.out).1⟩
    have HFb:Hid (W2.heap[bf]? = some (.cells #[.string f.name,.int .i64 f.len,.int .i64 f.a0,.int .i64 f.a1,.int .i64 f.a2,.int .i64 f.res] 120 (0,0))):=H2
    have HVb:Hid (W2.heap[bv]? = some (.cells #[.slice v.ra v.rows.length v.rc,.int .i64 v.els] 65 (0,0))):=H1
    rw[←hW2]
    rw[←hb2,←hb1]
    clear hW2 hb1 hb2 H1 H2 hHeld c0 c1 c2 w0 w1 q0 q1 q2 q3 q4 q5 p0 p1 hgw hgw2 z0
    have HBL:Hid (∀V,Below W2.heap.size W2 V→Below W0.heap.size W0 V):=fun V hV=>HB.out.trans ((HB2.out.trans (hV.mono HB2.out.size)).mono HB.out.size)
    have HBW:Hid (∀V,Below W2.heap.size W2 V→Below w.heap.size w V):=fun V hV=>HB0.out.trans ((HBL.out V hV).mono HB0.out.size)
    have HS2:Hid (∀V,Below W2.heap.size W2 V→V.cell? ⟨w.heap.size,0,none⟩=some (.slice x.sa x.sorts.length x.sc)∧V.cell? ⟨w.heap.size,1,none⟩=some (.slice (some ⟨g,o,none⟩) x.funs.length x.fc)∧V.cell? ⟨w.heap.size,2,none⟩=some (.slice x.ma x.macs.length x.mc)∧V.cell? ⟨w.heap.size+1,0,none⟩=some (.slice y.sa y.sizes.length y.sc)∧V.cell? ⟨w.heap.size+1,1,none⟩=some (.slice (some ⟨g2,o2,none⟩) y.funs.length y.fc)∧V.cell? ⟨bf,0,none⟩=some (.string f.name)∧V.cell? ⟨bf,1,none⟩=some (.int .i64 f.len)∧V.cell? ⟨bf,2,none⟩=some (.int .i64 f.a0)∧V.cell? ⟨bf,3,none⟩=some (.int .i64 f.a1)∧V.cell? ⟨bf,4,none⟩=some (.int .i64 f.a2)∧V.cell? ⟨bf,5,none⟩=some (.int .i64 f.res)∧V.cell? ⟨bv,0,none⟩=some (.slice v.ra v.rows.length v.rc)∧V.cell? ⟨bv,1,none⟩=some (.int .i64 v.els)):=fun V hV=>by
     obtain⟨c0,c1,c2,w0,w1⟩:=HK.out _ (HBL.out V hV)
     rw[HA1.out] at c1
     rw[HA2.out] at w1
     have h:=(hV.block _ HSZ.out.1).trans HFb.out
     obtain⟨v0,v1,_⟩:=qBy ((hV.block _ HSZ.out.2).trans HVb.out)
     exact⟨c0,c1,c2,w0,w1,(cell_of_row _ _ 0 _ _ _ h).trans rfl,(cell_of_row _ _ 1 _ _ _ h).trans rfl,(cell_of_row _ _ 2 _ _ _ h).trans rfl,(cell_of_row _ _ 3 _ _ _ h).trans rfl,(cell_of_row _ _ 4 _ _ _ h).trans rfl,(cell_of_row _ _ 5 _ _ _ h).trans rfl,v0,v1⟩
    have HZ2:Hid (∀V,Below W2.heap.size W2 V→w.heap.size+1<V.heap.size∧bf<V.heap.size∧bv<V.heap.size):=fun V hV=>by
     have h1:=HZ.out _ (HBL.out V hV)
     have h2:=hV.size
     have h3:=HSZ.out.1
     have h4:=HSZ.out.2
     exact⟨h1,by omega,by omega⟩
    have HI2:Hid (∀s b q,I64 s→I64 b→isB x.sorts.length y.sizes s b=q→∀V,Below W2.heap.size W2 V→Calls Tryz.prog 57 #[.agg #[.slice x.sa x.sorts.length x.sc,.slice (some ⟨g,o,none⟩) x.funs.length x.fc,.slice x.ma x.macs.length x.mc],.agg #[.slice y.sa y.sizes.length y.sc,.slice (some ⟨g2,o2,none⟩) y.funs.length y.fc],.int .i64 s,.int .i64 b] V fun e w'=>e=.returned (.bool q)∧Below W2.heap.size W2 w'):=fun s b q hs hb hq V hV=>by
     have h:=(qQg x y s b q V (HY.out.below (HBW.out V hV)) hs hb (by omega) hq).mono fun e w' ⟨h1,h2⟩=>(⟨h1,hV.trans (h2.mono hV.size)⟩:e=Ending.returned (Value.bool q)∧Below W2.heap.size W2 w')
     rw[HA1.out,HA2.out] at h
     exact h
    have HF2:Hid (∀b0 b1 b2 q,I64 b0→I64 b1→I64 b2→fitB x.sorts.length y.sizes f b0 b1 b2=q→∀V,Below W2.heap.size W2 V→Calls Tryz.prog 58 #[.agg #[.slice x.sa x.sorts.length x.sc,.slice (some ⟨g,o,none⟩) x.funs.length x.fc,.slice x.ma x.macs.length x.mc],.agg #[.slice y.sa y.sizes.length y.sc,.slice (some ⟨g2,o2,none⟩) y.funs.length y.fc],.agg #[.string f.name,.int .i64 f.len,.int .i64 f.a0,.int .i64 f.a1,.int .i64 f.a2,.int .i64 f.res],.agg #[.int .i64 b0,.int .i64 b1,.int .i64 b2]] V fun e w'=>e=.returned (.bool q)∧Below W2.heap.size W2 w'):=fun b0 b1 b2 q h0 h1 h2 hq V hV=>by
     have h:=(qI4 x y f b0 b1 b2 q V (HY.out.below (HBW.out V hV)) hfo h0 h1 h2 (by omega) hq).mono fun e w' ⟨h1,h2⟩=>(⟨h1,hV.trans (h2.mono hV.size)⟩:e=Ending.returned (Value.bool q)∧Below W2.heap.size W2 w')
     rw[HA1.out,HA2.out] at h
     exact h
    have HNo:Hid (fvQ x.sorts.length y.sizes f v=false→r=false):=fun h=>by rw[←HQ2.out];exact qJb HPK.out h
    have HPY:Hid (fvQ x.sorts.length y.sizes f v=true→∀(j:Nat) (p:FunA × FvV),j<k+1→(x.funs.zip y.funs)[j]? = some p→fvQ x.sorts.length y.sizes p.1 p.2=true):=fun h j p hj hy=>by
     by_cases hjk:j<k
     ·exact HP.out j p hjk hy
     ·obtain rfl:j=k:=by omega
      obtain rfl:(f,v)=p:=by rw[HPK.out] at hy;exact Option.some.inj hy
      exact h
    have HVO:=Lib.hid hvo
    have hres:=hfo.res
    clear hvo hfo HB HB2 HFb HVb HP HPK HQ HQ2
    obtain⟨c0,c1,c2,w0,w1,f0,f1,f2,f3,f4,f5,v0,v1⟩:=HS2.out _ (Below.refl _ _)
    obtain⟨z0,z1,z2⟩:=HZ2.out _ (Below.refl _ _)
    by_cases h4:400<v.rows.length
    ·obtain rfl:=HNo.out (by unfold fvQ;rw[decide_eq_false (by omega)];rfl)
     have d4:(400:Int)<(v.rows.length:Int):=by omega
     go_wp2_with fail
     go_ret
     exact⟨rfl,by first|exact HBW.out _ (Below.refl _ W2)|exact HBW.out _ (Below.refl _ W2).drew⟩
    have d4:¬(400:Int)<(v.rows.length:Int):=by omega
    cases hq:isB x.sorts.length y.sizes f.res v.els with
    | false =>
     obtain rfl:=HNo.out (by unfold fvQ;rw[hq];simp)
     have HC2:=Lib.hid (HI2.out _ _ _ hres HVO.out.els hq _ (Below.refl _ W2))
     clear hq
     go_wp2_with (go_at_call 57;refine HC2.out.mono ?_;rintro e w5 ⟨rfl,hb5⟩;have HB5:=Lib.hid hb5;clear hb5;clear c0 c1 c2 w0 w1 f0 f1 f2 f3 f4 f5 v0 v1 z0 z1 z2;obtain⟨c0,c1,c2,w0,w1,f0,f1,f2,f3,f4,f5,v0,v1⟩:=HS2.out _ HB5.out;obtain⟨z0,z1,z2⟩:=HZ2.out _ HB5.out)
     go_ret
     exact⟨rfl,by first|exact HBW.out _ HB5.out|exact HBW.out _ HB5.out.drew⟩
    | true =>
    have HC2:=Lib.hid (HI2.out _ _ _ hres HVO.out.els hq _ (Below.refl _ W2))
    have HNo2:Hid (qE7 (qIr x.sorts.length y.sizes f) [] v.rows=false→r=false):=fun h=>HNo.out (by unfold fvQ;rw[h];simp)
    have HPY2:Hid (qE7 (qIr x.sorts.length y.sizes f) [] v.rows=true→∀(j:Nat) (p:FunA × FvV),j<k+1→(x.funs.zip y.funs)[j]? = some p→fvQ x.sorts.length y.sizes p.1 p.2=true):=fun h=>HPY.out (by unfold fvQ;rw[h,hq,decide_eq_true (by omega)];rfl)
    clear hq HNo HPY
    go_wp2_with (go_at_call 57;refine HC2.out.mono ?_;rintro e w5 ⟨rfl,hb5⟩;have HB5:=Lib.hid hb5;clear hb5;clear c0 c1 c2 w0 w1 f0 f1 f2 f3 f4 f5 v0 v1 z0 z1 z2;obtain⟨c0,c1,c2,w0,w1,f0,f1,f2,f3,f4,f5,v0,v1⟩:=HS2.out _ HB5.out;obtain⟨z0,z1,z2⟩:=HZ2.out _ HB5.out)
    clear c0 c1 c2 w0 w1 f0 f1 f2 f3 f4 f5 v0 v1 z0 z1 z2
    go_loopw [9] (fun i wr=>∃kk:Nat,kk≤v.rows.length∧i=.int .i64 kk∧Hid (qE7 (qIr x.sorts.length y.sizes f) [] (v.rows.take kk)=true)∧Hid (Below W2.heap.size W2 wr)) (fun i _=>v.rows.length-(intOf i).toNat)
    case atStart=>exact⟨0,Nat.zero_le _,rfl,by show _=_;rw[List.take_zero];rfl,by first|exact HB5|exact HB5.out.drew⟩
    case round =>
     obtain⟨kk,hkk,rfl,HQr,HB6⟩:=hrel
     obtain⟨c0,c1,c2,w0,w1,f0,f1,f2,f3,f4,f5,v0,v1⟩:=HS2.out _ HB6.out
     obtain⟨z0,z1,z2⟩:=HZ2.out _ HB6.out
     by_cases hlt3:kk<v.rows.length
     rotate_left
     ·obtain rfl:kk=v.rows.length:=by omega
      have HP3:=Lib.hid (HPY2.out (by have h:=HQr.out;rwa [List.take_length] at h))
      go_wp2_with fail
      go_roundw
      case rel=>exact⟨k+1,by omega,by go_num,HP3,by first|exact HBL.out _ HB6.out|exact(HBL.out _ HB6.out).drew⟩
      case measure=>simp[intOf];omega
     obtain⟨rr,hrr⟩:∃rr,v.rows[kk]? = some rr:=⟨_,List.getElem?_eq_getElem hlt3⟩
     obtain⟨g3,o3,ha3,hg3,hcell3⟩:=HVO.out.rat (by rw[len_flat qBj];omega)
     have HRow:Hid (∀(j:Nat) (s:RowA),v.rows[j]? = some s→∀V,Below W2.heap.size W2 V→V.cell? ⟨g3,o3+j*4,none⟩=some (.int .i64 s.a0)∧V.cell? ⟨g3,o3+j*4+1,none⟩=some (.int .i64 s.a1)∧V.cell? ⟨g3,o3+j*4+2,none⟩=some (.int .i64 s.a2)∧V.cell? ⟨g3,o3+j*4+3,none⟩=some (.int .i64 s.v)∧g3<V.heap.size):=fun j s hs V hV=>by
      have r0:=hcell3 _ _ ((get_flat qBj v.rows j 0 s hs (by omega)).trans rfl)
      have r1:=hcell3 _ _ ((get_flat qBj v.rows j 1 s hs (by omega)).trans rfl)
      have r2:=hcell3 _ _ ((get_flat qBj v.rows j 2 s hs (by omega)).trans rfl)
      have r3:=hcell3 _ _ ((get_flat qBj v.rows j 3 s hs (by omega)).trans rfl)
      simp only[Nat.add_zero,←Nat.add_assoc] at r0 r1 r2 r3
      have hW:=HBW.out V hV
      exact⟨(hW.cell (p:=⟨g3,o3+j*4,none⟩) hg3).trans r0,(hW.cell (p:=⟨g3,o3+j*4+1,none⟩) hg3).trans r1,(hW.cell (p:=⟨g3,o3+j*4+2,none⟩) hg3).trans r2,(hW.cell (p:=⟨g3,o3+j*4+3,none⟩) hg3).trans r3,Nat.lt_of_lt_of_le hg3 hW.size⟩
     have HRR:Hid (v.rows[kk]? = some rr):=hrr
     obtain⟨r0,r1,r2,r3,z3⟩:=HRow.out kk rr hrr _ HB6.out
     have hro:=HVO.out.rok rr (List.mem_of_getElem? hrr)
     have HNX:=Lib.hid (qDl (one:=qIr x.sorts.length y.sizes f) hrr)
     have HNo3:Hid (qIr x.sorts.length y.sizes f (v.rows.take kk) rr=false→r=false):=fun h=>HNo2.out (qGt (k:=kk+1) (by rw[HNX.out,h,Bool.and_false]))
     have hk3:(kk:Int)<(v.rows.length:Int):=by omega
     have hk30:(0:Int)≤(kk:Int):=by omega
     have HS3:Hid (∀V,Below W2.heap.size W2 V→V.cell? ⟨w.heap.size,0,none⟩=some (.slice x.sa x.sorts.length x.sc)∧V.cell? ⟨w.heap.size,1,none⟩=some (.slice (some ⟨g,o,none⟩) x.funs.length x.fc)∧V.cell? ⟨w.heap.size,2,none⟩=some (.slice x.ma x.macs.length x.mc)∧V.cell? ⟨w.heap.size+1,0,none⟩=some (.slice y.sa y.sizes.length y.sc)∧V.cell? ⟨w.heap.size+1,1,none⟩=some (.slice (some ⟨g2,o2,none⟩) y.funs.length y.fc)∧V.cell? ⟨bf,0,none⟩=some (.string f.name)∧V.cell? ⟨bf,1,none⟩=some (.int .i64 f.len)∧V.cell? ⟨bf,2,none⟩=some (.int .i64 f.a0)∧V.cell? ⟨bf,3,none⟩=some (.int .i64 f.a1)∧V.cell? ⟨bf,4,none⟩=some (.int .i64 f.a2)∧V.cell? ⟨bf,5,none⟩=some (.int .i64 f.res)∧V.cell? ⟨bv,0,none⟩=some (.slice (some ⟨g3,o3,none⟩) v.rows.length v.rc)∧V.cell? ⟨bv,1,none⟩=some (.int .i64 v.els)∧V.cell? ⟨g3,o3+kk*4,none⟩=some (.int .i64 rr.a0)∧V.cell? ⟨g3,o3+kk*4+1,none⟩=some (.int .i64 rr.a1)∧V.cell? ⟨g3,o3+kk*4+2,none⟩=some (.int .i64 rr.a2)∧V.cell? ⟨g3,o3+kk*4+3,none⟩=some (.int .i64 rr.v)):=fun V hV=>by
      obtain⟨c0,c1,c2,w0,w1,f0,f1,f2,f3,f4,f5,v0,v1⟩:=HS2.out _ hV
      obtain⟨r0,r1,r2,r3,z3⟩:=HRow.out kk rr hrr _ hV
      rw[ha3] at v0
      exact⟨c0,c1,c2,w0,w1,f0,f1,f2,f3,f4,f5,v0,v1,r0,r1,r2,r3⟩
     rw[ha3] at v0
     have HA3:=Lib.hid ha3
     clear hcell3 hrr ha3
     cases hq1:fitB x.sorts.length y.sizes f rr.a0 rr.a1 rr.a2 with
     | false =>
      obtain rfl:=HNo3.out (by unfold qIr;rw[hq1];rfl)
      have HC3:=Lib.hid (HF2.out _ _ _ _ hro.a0 hro.a1 hro.a2 hq1)
      clear hq1
      go_wp2_with fail
      refine wp_region_held_drew (S:=fun V=>V.cell? ⟨w.heap.size,0,none⟩=some (.slice x.sa x.sorts.length x.sc)∧V.cell? ⟨w.heap.size,1,none⟩=some (.slice (some ⟨g,o,none⟩) x.funs.length x.fc)∧V.cell? ⟨w.heap.size,2,none⟩=some (.slice x.ma x.macs.length x.mc)∧V.cell? ⟨w.heap.size+1,0,none⟩=some (.slice y.sa y.sizes.length y.sc)∧V.cell? ⟨w.heap.size+1,1,none⟩=some (.slice (some ⟨g2,o2,none⟩) y.funs.length y.fc)∧V.cell? ⟨bf,0,none⟩=some (.string f.name)∧V.cell? ⟨bf,1,none⟩=some (.int .i64 f.len)∧V.cell? ⟨bf,2,none⟩=some (.int .i64 f.a0)∧V.cell? ⟨bf,3,none⟩=some (.int .i64 f.a1)∧V.cell? ⟨bf,4,none⟩=some (.int .i64 f.a2)∧V.cell? ⟨bf,5,none⟩=some (.int .i64 f.res)∧V.cell? ⟨bv,0,none⟩=some (.slice (some ⟨g3,o3,none⟩) v.rows.length v.rc)∧V.cell? ⟨bv,1,none⟩=some (.int .i64 v.els)∧V.cell? ⟨g3,o3+kk*4,none⟩=some (.int .i64 rr.a0)∧V.cell? ⟨g3,o3+kk*4+1,none⟩=some (.int .i64 rr.a1)∧V.cell? ⟨g3,o3+kk*4+2,none⟩=some (.int .i64 rr.a2)∧V.cell? ⟨g3,o3+kk*4+3,none⟩=some (.int .i64 rr.v)) (by kernel_rfl) (HS3.out _ HB6.out.drew) (fun hHeld=>?_)
      refine tkY 0 (.agg #[.slice x.sa x.sorts.length x.sc,.slice (some ⟨g,o,none⟩) x.funs.length x.fc,.slice x.ma x.macs.length x.mc]) ?_;try simp only[k4]
      refine tkY 1 (.agg #[.slice y.sa y.sizes.length y.sc,.slice (some ⟨g2,o2,none⟩) y.funs.length y.fc]) ?_;try simp only[k4]
      refine tkY 2 (.agg #[.string f.name,.int .i64 f.len,.int .i64 f.a0,.int .i64 f.a1,.int .i64 f.a2,.int .i64 f.res]) ?_;try simp only[k4]
      refine tkY 3 (.pointer (some ⟨bv,0,none⟩)) ?_;try simp only[k4]
      refine tkY 4 (.slice (some ⟨g3,o3,none⟩) v.rows.length v.rc) ?_;try simp only[k4]
      refine tkY 5 (.int .i64 kk) ?_;try simp only[k4]
      refine tkY 6 (.pointer (some ⟨g3,o3+kk*4,none⟩)) ?_;try simp only[k4]
      refine tkY 7 (.pointer (some ⟨g3,o3+kk*4,none⟩)) ?_;try simp only[k4]
      refine tkY 8 (.agg #[.int .i64 rr.a0,.int .i64 rr.a1,.int .i64 rr.a2]) ?_;try simp only[k4]
      refine wpAnyH_ready (rs:=[9]) (by kernel_rfl) (by simp) ?_
      refine AllReadyH.cons (o:={ dst:=some 100,op:=Op.call { callee:=Callee.value (Operand.func 58),args:=#[Operand.tmp 91,Operand.tmp 92,Operand.tmp 93,Operand.tmp 99],argTypes:=#[26,30,120,52] },type:=4,pos := "ref.go:51", after:=#[{ on:=0,ground:=Ground.data },{ on:=1,ground:=Ground.data },{ on:=2,ground:=Ground.data },{ on:=8,ground:=Ground.data }],guard:=none }) rfl (fun K hK=>?_) AllReadyH.nil
      go_simp
      go_at_call 58
      refine(HC3.out _ HB6.out.drew).mono ?_
      rintro e w7 ⟨rfl,hb7⟩
      have HB7:=Lib.hid hb7
      clear hb7
      go_wp2_with fail
      refine hK.out _ _ ?_ (fun hHeld=>?_)
      ·exact HS3.out _ HB7.out
      clear hK K
      try simp only[Act.put,List.setIfInBounds_toArray,List.set_cons_zero,List.set_cons_succ]
      refine tkY 10 (.bool true) ?_;try simp only[k4]
      refine tkY 11 (.bool true) ?_;try simp only[k4]
      refine tkN 12 ?_;try simp only[k4]
      refine tkN 13 ?_;try simp only[k4]
      refine tkN 14 ?_;try simp only[k4]
      refine tkN 15 ?_;try simp only[k4]
      refine tkN 16 ?_;try simp only[k4]
      refine tkN 17 ?_;try simp only[k4]
      refine tkN 18 ?_;try simp only[k4]
      refine tkN 19 ?_;try simp only[k4]
      refine tkN 20 ?_;try simp only[k4]
      refine tkN 21 ?_;try simp only[k4]
      refine tkN 22 ?_;try simp only[k4]
      refine tkN 23 ?_;try simp only[k4]
      refine tkY 24 (.bool true) ?_;try simp only[k4]
      refine wpAnyH_done (by kernel_rfl) ?_ _
      go_wp2_with fail
      go_ret
      exact⟨rfl,by first|exact HBW.out _ HB7.out|exact HBW.out _ HB7.out.drew⟩
     | true =>
     have HC3:=Lib.hid (HF2.out _ _ _ _ hro.a0 hro.a1 hro.a2 hq1)
     cases hq2:isB x.sorts.length y.sizes f.res rr.v with
     | false =>
      obtain rfl:=HNo3.out (by unfold qIr;rw[hq2];simp)
      have HC4:Hid (∀V,Below W2.heap.size W2 V→Calls Tryz.prog 57 #[.agg #[.slice x.sa x.sorts.length x.sc,.slice (some ⟨g,o,none⟩) x.funs.length x.fc,.slice x.ma x.macs.length x.mc],.agg #[.slice y.sa y.sizes.length y.sc,.slice (some ⟨g2,o2,none⟩) y.funs.length y.fc],.int .i64 f.res,.int .i64 rr.v] V fun e w'=>e=Ending.returned (Value.bool false)∧Below W2.heap.size W2 w'):=HI2.out _ _ _ hres hro.v hq2
      clear hq1 hq2
      go_wp2_with fail
      refine wp_region_held_drew (S:=fun V=>V.cell? ⟨w.heap.size,0,none⟩=some (.slice x.sa x.sorts.length x.sc)∧V.cell? ⟨w.heap.size,1,none⟩=some (.slice (some ⟨g,o,none⟩) x.funs.length x.fc)∧V.cell? ⟨w.heap.size,2,none⟩=some (.slice x.ma x.macs.length x.mc)∧V.cell? ⟨w.heap.size+1,0,none⟩=some (.slice y.sa y.sizes.length y.sc)∧V.cell? ⟨w.heap.size+1,1,none⟩=some (.slice (some ⟨g2,o2,none⟩) y.funs.length y.fc)∧V.cell? ⟨bf,0,none⟩=some (.string f.name)∧V.cell? ⟨bf,1,none⟩=some (.int .i64 f.len)∧V.cell? ⟨bf,2,none⟩=some (.int .i64 f.a0)∧V.cell? ⟨bf,3,none⟩=some (.int .i64 f.a1)∧V.cell? ⟨bf,4,none⟩=some (.int .i64 f.a2)∧V.cell? ⟨bf,5,none⟩=some (.int .i64 f.res)∧V.cell? ⟨bv,0,none⟩=some (.slice (some ⟨g3,o3,none⟩) v.rows.length v.rc)∧V.cell? ⟨bv,1,none⟩=some (.int .i64 v.els)∧V.cell? ⟨g3,o3+kk*4,none⟩=some (.int .i64 rr.a0)∧V.cell? ⟨g3,o3+kk*4+1,none⟩=some (.int .i64 rr.a1)∧V.cell? ⟨g3,o3+kk*4+2,none⟩=some (.int .i64 rr.a2)∧V.cell? ⟨g3,o3+kk*4+3,none⟩=some (.int .i64 rr.v)) (by kernel_rfl) (HS3.out _ HB6.out.drew) (fun hHeld=>?_)
      refine tkY 0 (.agg #[.slice x.sa x.sorts.length x.sc,.slice (some ⟨g,o,none⟩) x.funs.length x.fc,.slice x.ma x.macs.length x.mc]) ?_;try simp only[k4]
      refine tkY 1 (.agg #[.slice y.sa y.sizes.length y.sc,.slice (some ⟨g2,o2,none⟩) y.funs.length y.fc]) ?_;try simp only[k4]
      refine tkY 2 (.agg #[.string f.name,.int .i64 f.len,.int .i64 f.a0,.int .i64 f.a1,.int .i64 f.a2,.int .i64 f.res]) ?_;try simp only[k4]
      refine tkY 3 (.pointer (some ⟨bv,0,none⟩)) ?_;try simp only[k4]
      refine tkY 4 (.slice (some ⟨g3,o3,none⟩) v.rows.length v.rc) ?_;try simp only[k4]
      refine tkY 5 (.int .i64 kk) ?_;try simp only[k4]
      refine tkY 6 (.pointer (some ⟨g3,o3+kk*4,none⟩)) ?_;try simp only[k4]
      refine tkY 7 (.pointer (some ⟨g3,o3+kk*4,none⟩)) ?_;try simp only[k4]
      refine tkY 8 (.agg #[.int .i64 rr.a0,.int .i64 rr.a1,.int .i64 rr.a2]) ?_;try simp only[k4]
      refine wpAnyH_ready (rs:=[9]) (by kernel_rfl) (by simp) ?_
      refine AllReadyH.cons (o:={ dst:=some 100,op:=Op.call { callee:=Callee.value (Operand.func 58),args:=#[Operand.tmp 91,Operand.tmp 92,Operand.tmp 93,Operand.tmp 99],argTypes:=#[26,30,120,52] },type:=4,pos := "ref.go:51", after:=#[{ on:=0,ground:=Ground.data },{ on:=1,ground:=Ground.data },{ on:=2,ground:=Ground.data },{ on:=8,ground:=Ground.data }],guard:=none }) rfl (fun K hK=>?_) AllReadyH.nil
      go_simp
      go_at_call 58
      refine(HC3.out _ HB6.out.drew).mono ?_
      rintro e w7 ⟨rfl,hb7⟩
      have HB7:=Lib.hid hb7
      clear hb7
      go_wp2_with fail
      refine hK.out _ _ ?_ (fun hHeld=>?_)
      ·exact HS3.out _ HB7.out
      clear hK K
      try simp only[Act.put,List.setIfInBounds_toArray,List.set_cons_zero,List.set_cons_succ]
      refine tkY 10 (.bool false) ?_;try simp only[k4]
      refine tkY 11 (.bool false) ?_;try simp only[k4]
      refine tkY 12 (.agg #[.slice x.sa x.sorts.length x.sc,.slice (some ⟨g,o,none⟩) x.funs.length x.fc,.slice x.ma x.macs.length x.mc]) ?_;try simp only[k4]
      refine tkY 13 (.agg #[.slice y.sa y.sizes.length y.sc,.slice (some ⟨g2,o2,none⟩) y.funs.length y.fc]) ?_;try simp only[k4]
      refine tkY 14 (.pointer (some ⟨bf,5,none⟩)) ?_;try simp only[k4]
      refine tkY 15 (.int .i64 f.res) ?_;try simp only[k4]
      refine tkY 16 (.pointer (some ⟨bv,0,none⟩)) ?_;try simp only[k4]
      refine tkY 17 (.slice (some ⟨g3,o3,none⟩) v.rows.length v.rc) ?_;try simp only[k4]
      refine tkY 18 (.int .i64 kk) ?_;try simp only[k4]
      refine tkY 19 (.pointer (some ⟨g3,o3+kk*4,none⟩)) ?_;try simp only[k4]
      refine tkY 20 (.pointer (some ⟨g3,o3+kk*4+3,none⟩)) ?_;try simp only[k4]
      refine tkY 21 (.int .i64 rr.v) ?_;try simp only[k4]
      refine wpAnyH_ready (rs:=[22]) (by kernel_rfl) (by simp) ?_
      refine AllReadyH.cons (o:={ dst:=some 113,op:=Op.call { callee:=Callee.value (Operand.func 57),args:=#[Operand.tmp 103,Operand.tmp 104,Operand.tmp 106,Operand.tmp 112],argTypes:=#[26,30,3,3] },type:=4,pos := "ref.go:51", after:=#[{ on:=12,ground:=Ground.data },{ on:=13,ground:=Ground.data },{ on:=15,ground:=Ground.data },{ on:=21,ground:=Ground.data },{ on:=11,ground:=Ground.chain },{ on:=11,ground:=Ground.guard }],guard:=some (11,false) }) rfl (fun K hK=>?_) AllReadyH.nil
      go_simp
      go_at_call 57
      refine(HC4.out _ HB7.out).mono ?_
      rintro e w8 ⟨rfl,hb8⟩
      have HB8:=Lib.hid hb8
      clear hb8
      go_wp2_with fail
      refine hK.out _ _ ?_ (fun hHeld=>?_)
      ·exact HS3.out _ HB8.out
      clear hK K
      try simp only[Act.put,List.setIfInBounds_toArray,List.set_cons_zero,List.set_cons_succ]
      refine tkY 23 (.bool true) ?_;try simp only[k4]
      refine tkY 24 (.bool true) ?_;try simp only[k4]
      refine wpAnyH_done (by kernel_rfl) ?_ _
      go_wp2_with fail
      go_ret
      exact⟨rfl,by first|exact HBW.out _ HB8.out|exact HBW.out _ HB8.out.drew⟩
     | true =>
     have HC4:Hid (∀V,Below W2.heap.size W2 V→Calls Tryz.prog 57 #[.agg #[.slice x.sa x.sorts.length x.sc,.slice (some ⟨g,o,none⟩) x.funs.length x.fc,.slice x.ma x.macs.length x.mc],.agg #[.slice y.sa y.sizes.length y.sc,.slice (some ⟨g2,o2,none⟩) y.funs.length y.fc],.int .i64 f.res,.int .i64 rr.v] V fun e w'=>e=Ending.returned (Value.bool true)∧Below W2.heap.size W2 w'):=HI2.out _ _ _ hres hro.v hq2
     have HOne:Hid (qIr x.sorts.length y.sizes f (v.rows.take kk) rr = !(v.rows.take kk).any (fun s=>qE4 s rr)):=by show _=_;unfold qIr;rw[hq1,hq2];rfl
     clear hq1 hq2
     go_wp2_with fail
     refine wp_region_held_drew (S:=fun V=>V.cell? ⟨w.heap.size,0,none⟩=some (.slice x.sa x.sorts.length x.sc)∧V.cell? ⟨w.heap.size,1,none⟩=some (.slice (some ⟨g,o,none⟩) x.funs.length x.fc)∧V.cell? ⟨w.heap.size,2,none⟩=some (.slice x.ma x.macs.length x.mc)∧V.cell? ⟨w.heap.size+1,0,none⟩=some (.slice y.sa y.sizes.length y.sc)∧V.cell? ⟨w.heap.size+1,1,none⟩=some (.slice (some ⟨g2,o2,none⟩) y.funs.length y.fc)∧V.cell? ⟨bf,0,none⟩=some (.string f.name)∧V.cell? ⟨bf,1,none⟩=some (.int .i64 f.len)∧V.cell? ⟨bf,2,none⟩=some (.int .i64 f.a0)∧V.cell? ⟨bf,3,none⟩=some (.int .i64 f.a1)∧V.cell? ⟨bf,4,none⟩=some (.int .i64 f.a2)∧V.cell? ⟨bf,5,none⟩=some (.int .i64 f.res)∧V.cell? ⟨bv,0,none⟩=some (.slice (some ⟨g3,o3,none⟩) v.rows.length v.rc)∧V.cell? ⟨bv,1,none⟩=some (.int .i64 v.els)∧V.cell? ⟨g3,o3+kk*4,none⟩=some (.int .i64 rr.a0)∧V.cell? ⟨g3,o3+kk*4+1,none⟩=some (.int .i64 rr.a1)∧V.cell? ⟨g3,o3+kk*4+2,none⟩=some (.int .i64 rr.a2)∧V.cell? ⟨g3,o3+kk*4+3,none⟩=some (.int .i64 rr.v)) (by kernel_rfl) (HS3.out _ HB6.out.drew) (fun hHeld=>?_)
     refine tkY 0 (.agg #[.slice x.sa x.sorts.length x.sc,.slice (some ⟨g,o,none⟩) x.funs.length x.fc,.slice x.ma x.macs.length x.mc]) ?_;try simp only[k4]
     refine tkY 1 (.agg #[.slice y.sa y.sizes.length y.sc,.slice (some ⟨g2,o2,none⟩) y.funs.length y.fc]) ?_;try simp only[k4]
     refine tkY 2 (.agg #[.string f.name,.int .i64 f.len,.int .i64 f.a0,.int .i64 f.a1,.int .i64 f.a2,.int .i64 f.res]) ?_;try simp only[k4]
     refine tkY 3 (.pointer (some ⟨bv,0,none⟩)) ?_;try simp only[k4]
     refine tkY 4 (.slice (some ⟨g3,o3,none⟩) v.rows.length v.rc) ?_;try simp only[k4]
     refine tkY 5 (.int .i64 kk) ?_;try simp only[k4]
     refine tkY 6 (.pointer (some ⟨g3,o3+kk*4,none⟩)) ?_;try simp only[k4]
     refine tkY 7 (.pointer (some ⟨g3,o3+kk*4,none⟩)) ?_;try simp only[k4]
     refine tkY 8 (.agg #[.int .i64 rr.a0,.int .i64 rr.a1,.int .i64 rr.a2]) ?_;try simp only[k4]
     refine wpAnyH_ready (rs:=[9]) (by kernel_rfl) (by simp) ?_
     refine AllReadyH.cons (o:={ dst:=some 100,op:=Op.call { callee:=Callee.value (Operand.func 58),args:=#[Operand.tmp 91,Operand.tmp 92,Operand.tmp 93,Operand.tmp 99],argTypes:=#[26,30,120,52] },type:=4,pos := "ref.go:51", after:=#[{ on:=0,ground:=Ground.data },{ on:=1,ground:=Ground.data },{ on:=2,ground:=Ground.data },{ on:=8,ground:=Ground.data }],guard:=none }) rfl (fun K hK=>?_) AllReadyH.nil
     go_simp
     go_at_call 58
     refine(HC3.out _ HB6.out.drew).mono ?_
     rintro e w7 ⟨rfl,hb7⟩
     have HB7:=Lib.hid hb7
     clear hb7
     go_wp2_with fail
     refine hK.out _ _ ?_ (fun hHeld=>?_)
     ·exact HS3.out _ HB7.out
     clear hK K
     try simp only[Act.put,List.setIfInBounds_toArray,List.set_cons_zero,List.set_cons_succ]
     refine tkY 10 (.bool false) ?_;try simp only[k4]
     refine tkY 11 (.bool false) ?_;try simp only[k4]
     refine tkY 12 (.agg #[.slice x.sa x.sorts.length x.sc,.slice (some ⟨g,o,none⟩) x.funs.length x.fc,.slice x.ma x.macs.length x.mc]) ?_;try simp only[k4]
     refine tkY 13 (.agg #[.slice y.sa y.sizes.length y.sc,.slice (some ⟨g2,o2,none⟩) y.funs.length y.fc]) ?_;try simp only[k4]
     refine tkY 14 (.pointer (some ⟨bf,5,none⟩)) ?_;try simp only[k4]
     refine tkY 15 (.int .i64 f.res) ?_;try simp only[k4]
     refine tkY 16 (.pointer (some ⟨bv,0,none⟩)) ?_;try simp only[k4]
     refine tkY 17 (.slice (some ⟨g3,o3,none⟩) v.rows.length v.rc) ?_;try simp only[k4]
     refine tkY 18 (.int .i64 kk) ?_;try simp only[k4]
     refine tkY 19 (.pointer (some ⟨g3,o3+kk*4,none⟩)) ?_;try simp only[k4]
     refine tkY 20 (.pointer (some ⟨g3,o3+kk*4+3,none⟩)) ?_;try simp only[k4]
     refine tkY 21 (.int .i64 rr.v) ?_;try simp only[k4]
     refine wpAnyH_ready (rs:=[22]) (by kernel_rfl) (by simp) ?_
     refine AllReadyH.cons (o:={ dst:=some 113,op:=Op.call { callee:=Callee.value (Operand.func 57),args:=#[Operand.tmp 103,Operand.tmp 104,Operand.tmp 106,Operand.tmp 112],argTypes:=#[26,30,3,3] },type:=4,pos := "ref.go:51", after:=#[{ on:=12,ground:=Ground.data },{ on:=13,ground:=Ground.data },{ on:=15,ground:=Ground.data },{ on:=21,ground:=Ground.data },{ on:=11,ground:=Ground.chain },{ on:=11,ground:=Ground.guard }],guard:=some (11,false) }) rfl (fun K hK=>?_) AllReadyH.nil
     go_simp
     go_at_call 57
     refine(HC4.out _ HB7.out).mono ?_
     rintro e w8 ⟨rfl,hb8⟩
     have HB8:=Lib.hid hb8
     clear hb8
     go_wp2_with fail
     refine hK.out _ _ ?_ (fun hHeld=>?_)
     ·exact HS3.out _ HB8.out
     clear hK K
     try simp only[Act.put,List.setIfInBounds_toArray,List.set_cons_zero,List.set_cons_succ]
     refine tkY 23 (.bool false) ?_;try simp only[k4]
     refine tkY 24 (.bool false) ?_;try simp only[k4]
     refine wpAnyH_done (by kernel_rfl) ?_ _
     go_wp2_with fail
     clear c0 c1 c2 w0 w1 f0 f1 f2 f3 f4 f5 v0 v1 z0 z1 z2 r0 r1 r2 r3 z3
     go_loopw [10] (fun i wr=>∃jj:Nat,jj≤kk∧i=.int .i64 jj∧Hid (∀(j:Nat) (s:RowA),j<jj→v.rows[j]? = some s→qE4 s rr=false)∧Hid (Below W2.heap.size W2 wr)) (fun i _=>kk-(intOf i).toNat)
     case atStart=>exact⟨0,Nat.zero_le _,rfl,fun j _ hj=>absurd hj (Nat.not_lt_zero _),by first|exact HB8|exact HB8.out.drew⟩
     case round =>
      obtain⟨jj,hjj,rfl,HNs,HB9⟩:=hrel
      obtain⟨c0,c1,c2,w0,w1,f0,f1,f2,f3,f4,f5,v0,v1⟩:=HS2.out _ HB9.out
      obtain⟨z0,z1,z2⟩:=HZ2.out _ HB9.out
      by_cases hlt4:jj<kk
      rotate_left
      ·obtain rfl:jj=kk:=by omega
       have HQ7:Hid (qE7 (qIr x.sorts.length y.sizes f) [] (v.rows.take (jj+1))=true):=by
        show _=_
        rw[HNX.out,HQr.out,HOne.out,qQe (fun j s hs=>by
         rw[List.getElem?_take] at hs
         split at hs
         ·exact HNs.out j s (by assumption) hs
         ·cases hs)];rfl
       go_wp2_with fail
       go_roundw
       case rel=>exact⟨jj+1,by omega,by go_num,HQ7,by first|exact HB9|exact HB9.out.drew⟩
       case measure=>simp[intOf];omega
      rw[HA3.out] at v0
      obtain⟨s,hs⟩:∃s,v.rows[jj]? = some s:=⟨_,List.getElem?_eq_getElem (by omega)⟩
      obtain⟨r0,r1,r2,r3,z3⟩:=HRow.out kk rr HRR.out _ HB9.out
      obtain⟨s0,s1,s2,s3,_⟩:=HRow.out jj s hs _ HB9.out
      have hj3:(jj:Int)<(v.rows.length:Int):=by omega
      have hjk:(jj:Int)<(kk:Int):=by omega
      have HSs:Hid (v.rows[jj]? = some s):=hs
      clear hs
      have hsm:(decide (s.a0=rr.a0)&&(decide (s.a1=rr.a1)&&decide (s.a2=rr.a2)))=qE4 s rr:=rfl
      by_cases hsr:qE4 s rr=true
      ·obtain rfl:=HNo3.out (by rw[HOne.out,qMb (l:=v.rows.take kk) (j:=jj) (y:=s) (by rw[List.getElem?_take,if_pos hlt4];exact HSs.out) hsr];rfl)
       have e0:∀W,(Op.equal 52 (.agg #[.int .i64 s.a0,.int .i64 s.a1,.int .i64 s.a2]) (.agg #[.int .i64 rr.a0,.int .i64 rr.a1,.int .i64 rr.a2])).run Tryz.prog W=.ok true W:=fun W=>by rw[qJa,hsm,hsr]
       have g0:∀W,(Op.equalIn 10000 52 (.agg #[.int .i64 s.a0,.int .i64 s.a1,.int .i64 s.a2]) (.agg #[.int .i64 rr.a0,.int .i64 rr.a1,.int .i64 rr.a2])).run Tryz.prog W=.ok true W:=fun W=>by rw[qFn,hsm,hsr]
       clear hsm hsr
       go_wp2_with fail
       go_quiet (fail)
       go_wp2_with fail
       go_ret
       exact⟨rfl,qAh (HBW.out _ HB9.out)⟩
      ·rw[Bool.not_eq_true] at hsr
       have e0:∀W,(Op.equal 52 (.agg #[.int .i64 s.a0,.int .i64 s.a1,.int .i64 s.a2]) (.agg #[.int .i64 rr.a0,.int .i64 rr.a1,.int .i64 rr.a2])).run Tryz.prog W=.ok false W:=fun W=>by rw[qJa,hsm,hsr]
       have g0:∀W,(Op.equalIn 10000 52 (.agg #[.int .i64 s.a0,.int .i64 s.a1,.int .i64 s.a2]) (.agg #[.int .i64 rr.a0,.int .i64 rr.a1,.int .i64 rr.a2])).run Tryz.prog W=.ok false W:=fun W=>by rw[qFn,hsm,hsr]
       have HN2:Hid (∀(j:Nat) (t:RowA),j<jj+1→v.rows[j]? = some t→qE4 t rr=false):=fun j t hj ht=>by
        by_cases hjk:j<jj
        ·exact HNs.out j t hjk ht
        ·obtain rfl:j=jj:=by omega
         obtain rfl:s=t:=by rw[HSs.out] at ht;exact Option.some.inj ht
         exact hsr
       clear hsm hsr
       go_wp2_with fail
       go_quiet (fail)
       go_wp2_with fail
       go_roundw
       case rel=>exact⟨jj+1,by omega,by go_num,HN2,qAh HB9.out⟩
       case measure=>simp[intOf];omega
end Go.Proofs.YtfgpimhdjlmapaaGreatDoor
