/- Conjunctions, disjunctions, equalities. -/
import Derived.Deep.LoopGhost
import Derived.Test.YtfgpimhdjlmapaaGreatDoorShf
import Derived.Test.YtfgpimhdjlmapaaGreatDoorShD
namespace Go.Proofs.YtfgpimhdjlmapaaGreatDoor.Tm
open Go.RowKit
set_option linter.unusedVariables false
set_option maxRecDepth 100000
theorem MkrR.lit {V:World} {c:List NodeA} {a:Option Addr} {ca:Nat} {la:Option Addr} (h:MkrR V c a ca la) {k:Nat} (hk:k<c.length):∃g o:Nat,la=some ⟨g,o,none⟩∧g<V.heap.size∧V.cell? ⟨g,o+k,none⟩=some (.int .i64 (qAb c k)):=h.lits.cell (qGd hk)
theorem qAp {c:List NodeA} (hC:Cl c) {k:Nat} (hk:k<c.length):I64 (qAb c k):=qKg hC _ (List.mem_of_getElem? (qGd hk))
theorem qCl {V W:World} {xs:List Int} {v:Value} (h:qFo V 0 xs v) (hb:Below V.heap.size V W):qFo W 0 xs v:=h.keep hb
theorem qFo.slice {V:World} {b:Nat} {xs:List Int} {v:Value} (h:qFo V b xs v):∃a l c,v=.slice a l c:=by
 rcases h.2 with⟨rfl,_⟩|⟨g,cap,cur,rfl,_⟩
 ·exact⟨_,_,_,rfl⟩
 ·exact⟨_,_,_,rfl⟩
theorem qMp {xs:List Int} (h:∀x∈xs,I64 x):∀x∈clM xs,I64 x:=fun x hx=>h x (qEn.1 hx)
theorem i1 {x:Int} (hx:I64 x):∀z∈clM [x],I64 z:=qMp (fun z hz=>by simp at hz;subst hz;exact hx)
theorem i2 {x y:Int} (hx:I64 x) (hy:I64 y):∀z∈clM [x,y],I64 z:=qMp (fun z hz=>by simp at hz;rcases hz with rfl|rfl<;>assumption)
theorem i3 {x y u:Int} (hx:I64 x) (hy:I64 y) (hu:I64 u):∀z∈clM [x,y,u],I64 z:=qMp (fun z hz=>by simp at hz;rcases hz with rfl|rfl|rfl<;>assumption)
theorem qNs (V:World) (xs:List Int) (h:xs.length≤100):qFo (V.alloc (.cells (qCd xs) 3)) V.heap.size xs (.slice (some ⟨V.heap.size,0,none⟩) xs.length xs.length) :=
 ⟨by simp,.inr ⟨V.heap.size,xs.length,_,rfl,Nat.le_refl _,heap_alloc_new _ _,Nat.le_refl _,Nat.le_trans h (by decide),by simp[qCd],by rw[Nat.mul_one];unfold qCd;rw[List.toList_toArray,List.take_of_length_le (by simp)]⟩⟩
theorem qGz (xs:List Int) (h:xs.length≤100) (V:World) :
  Calls Tryz.prog 88 #[.slice (some ⟨V.heap.size,0,none⟩) xs.length xs.length] (V.alloc (.cells (qCd xs) 3)) fun e w'=>∃a l c,e=.returned (.slice a l c)∧Hid (qFo w' 0 (clM xs) (.slice a l c))∧Hid (Below V.heap.size V w') :=
 (qOr xs _ V.heap.size _ (qNs V xs h) (by simp) h).mono fun e w' ⟨v',h1,h2,h3⟩=>by
  obtain⟨a,l,c,rfl⟩:=h2.slice
  exact⟨a,l,c,h1,h2.base (Nat.zero_le _),((Below.refl _ V).alloc (Nat.le_refl _) _).trans h3⟩
theorem qY5 (x:Int) (V:World) :
  Calls Tryz.prog 88 #[.slice (some ⟨V.heap.size,0,none⟩) 1 1] (V.alloc (.cells #[.int .i64 x] 3)) fun e w'=>∃a l c,e=.returned (.slice a l c)∧Hid (qFo w' 0 (clM [x]) (.slice a l c))∧Hid (Below V.heap.size V w'):=qGz [x] (by simp) V
theorem qDc (x y:Int) (V:World) :
  Calls Tryz.prog 88 #[.slice (some ⟨V.heap.size,0,none⟩) 2 2] (V.alloc (.cells #[.int .i64 x,.int .i64 y] 3)) fun e w'=>∃a l c,e=.returned (.slice a l c)∧Hid (qFo w' 0 (clM [x,y]) (.slice a l c))∧Hid (Below V.heap.size V w'):=qGz [x,y] (by simp) V
theorem qDd (x y u:Int) (V:World) :
  Calls Tryz.prog 88 #[.slice (some ⟨V.heap.size,0,none⟩) 3 3] (V.alloc (.cells #[.int .i64 x,.int .i64 y,.int .i64 u] 3)) fun e w'=>∃a l c,e=.returned (.slice a l c)∧Hid (qFo w' 0 (clM [x,y,u]) (.slice a l c))∧Hid (Below V.heap.size V w'):=qGz [x,y,u] (by simp) V
def qY6 (V:World) (rs:List RowD):Prop:=∀r∈rs,∀g o,r.a=some ⟨g,o,none⟩→∃cs,V.heap[g]? = some (.cells cs 3 (0,0))
theorem qY6.below {V W:World} {rs:List RowD} (h:qY6 V rs) (hb:Below V.heap.size V W):qY6 W rs:=fun r hr g o e=>by
 obtain⟨cs,hc⟩:=h r hr g o e
 exact⟨cs,(hb.block _ (Array.getElem?_eq_some_iff.1 hc).1).trans hc⟩
def qAm (V:World) (v:Value) (xss:List (List Int)):Prop:=∃rs a c,v=.slice a rs.length c∧rs.map RowD.xs=xss∧RowsR V rs a c∧qY6 V rs
theorem qAm.below {V W:World} {v:Value} {xss:List (List Int)} (h:qAm V v xss) (hb:Below V.heap.size V W):qAm W v xss:=by
 obtain⟨rs,a,c,h1,h2,h3,h4⟩:=h
 exact⟨rs,a,c,h1,h2,h3.below hb,h4.below hb⟩
theorem qFo.block {V:World} {b:Nat} {xs:List Int} {v:Value} (h:qFo V b xs v):∀a l c g o,v=.slice a l c→a=some ⟨g,o,none⟩→∃cs,V.heap[g]? = some (.cells cs 3 (0,0)):=by
 rintro a l c g o rfl rfl
 rcases h.2 with⟨e,_⟩|⟨g',cap,cur,e,_,h2,_⟩
 ·cases e
 ·cases e
  exact⟨cur,h2⟩
inductive F2 (R:List Int→Value→Prop):List (List Int)→List Value→Prop where
 | nil:F2 R [] []
 | cons {x y l m}:R x y→F2 R l m→F2 R (x :: l) (y :: m)
theorem qY7 {V:World} {xss:List (List Int)} {vs:List Value} (h:F2 (fun xs v=>qFo V 0 xs v∧∀x∈xs,I64 x) xss vs):∃rs:List RowD,rs.map RowD.xs=xss∧rs.map rowV=vs∧(∀r∈rs,IntsR V r.xs r.a r.c)∧qY6 V rs:=by
 induction h with
 | nil=>exact⟨[],rfl,rfl,fun _ h=>by simp at h,fun _ h=>by simp at h⟩
 | @cons xs v xss vs h1 h2 ih =>
  obtain⟨rs,e1,e2,e3,e4⟩:=ih
  obtain⟨a,c,ev,hI⟩:=h1.1.ints h1.2
  refine⟨⟨xs,a,c⟩ :: rs,by rw[List.map_cons,e1],by rw[List.map_cons,e2,ev];rfl,fun r hr=>?_,fun r hr g o e=>?_⟩
  ·rcases List.mem_cons.1 hr with rfl|hr
   ·exact hI
   ·exact e3 r hr
  ·rcases List.mem_cons.1 hr with rfl|hr
   ·exact h1.1.block _ _ _ g o ev e
   ·exact e4 r hr g o e
theorem qE0 {V:World} {xss:List (List Int)} {vs:List Value} (h:F2 (fun xs v=>qFo V 0 xs v∧∀x∈xs,I64 x) xss vs) (hm:vs.length≤100:=by simp):qAm (V.alloc (.cells vs.toArray 27)) (.slice (some ⟨V.heap.size,0,none⟩) vs.length vs.length) xss:=by
 obtain⟨rs,e1,e2,e3,e4⟩:=qY7 h
 have hl:rs.length=vs.length:=by rw[←e2,List.length_map]
 have hc:vs.length≤maxLen:=Nat.le_trans hm (by decide)
 refine⟨rs,_,vs.length,by rw[hl],e1,⟨by omega,hc,?_,fun r hr=>(e3 r hr).below ((Below.refl _ V).alloc (Nat.le_refl _) _)⟩,e4.below ((Below.refl _ V).alloc (Nat.le_refl _) _)⟩
 rw[e2]
 intro _
 exact⟨V.heap.size,0,rfl,by simp,fun i v hv=>by rw[cell_of_row _ _ _ _ _ _ (heap_alloc_new V _),Nat.zero_add,←Array.getElem?_toList];exact hv⟩
theorem qF7 (V:World):qAm V (.slice none 0 0) []:=⟨[],none,0,rfl,rfl,⟨Nat.le_refl _,Nat.zero_le _,fun h=>absurd h (by simp),fun _ h=>by simp at h⟩,fun _ h=>by simp at h⟩
set_option maxHeartbeats 8000000 in
theorem qOs (t c a b:Int) (ht:I64 t) (hc:I64 c) (ha:I64 a) (hb:I64 b) (w:World) :
  Calls Tryz.prog 89 #[.int .i64 t,.int .i64 c,.int .i64 a,.int .i64 b] w fun e w'=>∃v,e=.returned v∧Hid (qAm w' v [clM [ngL t,ngL c,a],clM [ngL t,c,b],clM [t,ngL c,ngL a],clM [t,c,ngL b]])∧Hid (Below w.heap.size w w'):=by
 have HB0:Hid (Below w.heap.size w w):=Below.refl _ _
 have ht:=Lib.hid ht
 have hc:=Lib.hid hc
 have ha:=Lib.hid ha
 have hb:=Lib.hid hb
 go_enter Tryz.func89,Tryz.ntmps89
 go_wp2_with (first
  | (have _hh:=HB3.out;go_at_call 88;refine(qDd _ _ _ _).mono ?_;rintro e w4 ⟨va4,vl4,vc4,rfl,HR4,HB4⟩)
  | (have _hh:=HB2.out;go_at_call 88;refine(qDd _ _ _ _).mono ?_;rintro e w3 ⟨va3,vl3,vc3,rfl,HR3,HB3⟩)
  | (have _hh:=HB1.out;go_at_call 88;refine(qDd _ _ _ _).mono ?_;rintro e w2 ⟨va2,vl2,vc2,rfl,HR2,HB2⟩)
  | (go_at_call 88;refine(qDd _ _ _ _).mono ?_;rintro e w1 ⟨va1,vl1,vc1,rfl,HR1,HB1⟩)
  | (go_at_call 67;refine(qEm _ _ (by first|exact ht.out|exact hc.out|exact ha.out|exact hb.out)).mono ?_;rintro e w9 ⟨rfl,rfl⟩)
 )
 go_ret
 exact⟨_,rfl,qE0 (.cons ⟨(qCl (qCl (qCl HR1.out HB2.out) HB3.out) HB4.out),(i3 (qB9 ht.out) (qB9 hc.out) (ha.out))⟩ (.cons ⟨(qCl (qCl HR2.out HB3.out) HB4.out),(i3 (qB9 ht.out) (hc.out) (hb.out))⟩ (.cons ⟨(qCl HR3.out HB4.out),(i3 (ht.out) (qB9 hc.out) (qB9 ha.out))⟩ (.cons ⟨HR4.out,(i3 (ht.out) (hc.out) (qB9 hb.out))⟩ .nil)))),((qA5 (qA5 (qA5 (qA5 HB0.out HB1.out) HB2.out) HB3.out) HB4.out)).alloc ((qA5 (qA5 (qA5 (qA5 HB0.out HB1.out) HB2.out) HB3.out) HB4.out)).size _⟩
theorem qRb (c:List NodeA) (a:Option Addr) (ca:Nat) (la:Option Addr) (k:Nat) (hk:k≤3000) (w:World) :
  Calls Tryz.prog 69 #[.agg #[.slice a c.length ca,.slice la c.length c.length,.func (.func 69) #[] #[],.nilFunc,.func (.func 70) #[] #[],.func (.func 71) #[] #[],.nilFunc,.nilFunc,.func (.func 72) #[] #[],.func (.func 73) #[] #[],.nilFunc,.nilFunc,.nilFunc,.nilFunc,.nilFunc,.nilFunc],.int .i64 k] w fun e w'=>∃v,e=.returned v∧Hid (qAm w' v [clM [2*(k:Int)]])∧Hid (Below w.heap.size w w'):=by
 have HMk:Hid (∀V,Calls Tryz.prog 66 #[.int .i64 k,.bool false] V fun e w'=>e=.returned (.int .i64 (2*(k:Int)))∧V=w'):=fun V=>qNq k V hk
 obtain⟨W0,hW0⟩:∃W0,W0=w.alloc (.cells #[.slice a c.length ca,.slice la c.length c.length,.func (.func 69) #[] #[],.nilFunc,.func (.func 70) #[] #[],.func (.func 71) #[] #[],.nilFunc,.nilFunc,.func (.func 72) #[] #[],.func (.func 73) #[] #[],.nilFunc,.nilFunc,.nilFunc,.nilFunc,.nilFunc,.nilFunc] 85):=⟨_,rfl⟩
 have HB0:Hid (Below w.heap.size w W0):=by rw[hW0];exact(Below.refl _ w).alloc (Nat.le_refl _) _
 have ht:I64 (2*(k:Int)):=⟨by omega,by omega⟩
 go_enter Tryz.func69,Tryz.ntmps69
 go_wp2_with fail
 rw[←hW0]
 clear hW0
 go_wp2_with (first
  | (go_at_call 66;refine(HMk.out _).mono ?_;rintro e w9 ⟨rfl,rfl⟩)
  | (go_at_call 88;refine(qY5 (2*(k:Int)) _).mono ?_;rintro e w1 ⟨va1,vl1,vc1,rfl,HR1,HB1⟩))
 go_ret
 exact⟨_,rfl,qE0 (.cons ⟨HR1.out,i1 ht⟩ .nil),(qA5 HB0.out HB1.out).alloc (qA5 HB0.out HB1.out).size _⟩
theorem qAu {w W0:World} {cs:Array Value} {ty:TypeId} (hW0:W0=w.alloc (.cells cs ty)):Below w.heap.size w W0∧W0.heap[w.heap.size]? = some (.cells cs ty (0,0))∧w.heap.size<W0.heap.size:=by
 subst hW0
 exact⟨(Below.refl _ w).alloc (Nat.le_refl _) _,heap_alloc_new w _,by simp⟩
theorem MkrR.lit0 {V:World} {c:List NodeA} {a:Option Addr} {ca:Nat} {g o:Nat} (h:MkrR V c a ca (some ⟨g,o,none⟩)) {k:Nat} (hk:k<c.length):V.cell? ⟨g,o+k,none⟩=some (.int .i64 (qAb c k)):=by
 obtain⟨_,_,e,_,r⟩:=h.lit hk
 cases e
 exact r
theorem MkrR.nod0 {V:World} {c:List NodeA} {g o:Nat} {ca:Nat} {la:Option Addr} (h:MkrR V c (some ⟨g,o,none⟩) ca la) {k:Nat} {n:NodeA} (hk:c[k]? = some n):V.cell? ⟨g,o+k*8+5,none⟩=some (.int .i64 n.sort):=by
 obtain⟨_,_,e,_,_,_,_,_,_,r,_⟩:=h.tab.node hk
 cases e
 exact r
set_option maxHeartbeats 8000000 in
theorem qY8 (c:List NodeA) (hC:Cl c) (a:Option Addr) (ca:Nat) (la:Option Addr) (k:Nat) (n:NodeA) (w:World) (hM:MkrR w c a ca la) (hn:c[k]? = some n) (i j:Nat) (hi:n.a0=i) (hj:n.a1=j) (hic:i<c.length) (hjc:j<c.length) :
  Calls Tryz.prog 70 #[.agg #[.slice a c.length ca,.slice la c.length c.length,.func (.func 69) #[] #[],.nilFunc,.func (.func 70) #[] #[],.func (.func 71) #[] #[],.nilFunc,.nilFunc,.func (.func 72) #[] #[],.func (.func 73) #[] #[],.nilFunc,.nilFunc,.nilFunc,.nilFunc,.nilFunc,.nilFunc],.int .i64 k] w fun e w'=>∃v,e=.returned v∧Hid (qAm w' v [clM [ngL (qAb c k),(qAb c i)],clM [ngL (qAb c k),(qAb c j)],clM [(qAb c k),ngL (qAb c i),ngL (qAb c j)]])∧Hid (Below w.heap.size w w'):=by
 have hkc:k<c.length:=(List.getElem?_eq_some_iff.1 hn).1
 have hlen:c.length≤2000:=hC.len
 obtain⟨W0,hW0⟩:∃W0,W0=w.alloc (.cells #[.slice a c.length ca,.slice la c.length c.length,.func (.func 69) #[] #[],.nilFunc,.func (.func 70) #[] #[],.func (.func 71) #[] #[],.nilFunc,.nilFunc,.func (.func 72) #[] #[],.func (.func 73) #[] #[],.nilFunc,.nilFunc,.nilFunc,.nilFunc,.nilFunc,.nilFunc] 85):=⟨_,rfl⟩
 obtain⟨hB0',hbx,hbz⟩:=qAu hW0
 have hM0:=hM.below hB0'
 have HB0:Hid (Below w.heap.size w W0):=hB0'
 obtain⟨g,o,rfl,hg,q0,q1,q2,q3,q4,q5,q6,q7⟩:=hM0.tab.node hn
 obtain⟨gl,ol,rfl,hgl,r0⟩:=hM0.lit hkc
 have b0:W0.cell? ⟨w.heap.size,0,none⟩=some (.slice (some ⟨g,o,none⟩) c.length ca):=(cell_of_row _ _ 0 _ _ _ hbx).trans rfl
 have b1:W0.cell? ⟨w.heap.size,1,none⟩=some (.slice (some ⟨gl,ol,none⟩) c.length c.length):=(cell_of_row _ _ 1 _ _ _ hbx).trans rfl
 have hki:(k:Int)<(c.length:Int):=by omega
 have hk0:(0:Int)≤(k:Int):=by omega
 have ht':=qAp hC hkc
 have r1:=hM0.lit0 hic
 have ha':=qAp hC hic
 rw[hi] at q2
 have hii:(i:Int)<(c.length:Int):=by omega
 have hi0:(0:Int)≤(i:Int):=by omega
 have r2:=hM0.lit0 hjc
 have hb':=qAp hC hjc
 rw[hj] at q3
 have hji:(j:Int)<(c.length:Int):=by omega
 have hj0:(0:Int)≤(j:Int):=by omega
 obtain⟨t,ht_⟩:∃t,t=qAb c k:=⟨_,rfl⟩
 obtain⟨a,ha_⟩:∃t,t=qAb c i:=⟨_,rfl⟩
 obtain⟨b,hb_⟩:∃t,t=qAb c j:=⟨_,rfl⟩
 rw[←ht_] at r0 ht' ⊢
 rw[←ha_] at r1 ha' ⊢
 rw[←hb_] at r2 hb' ⊢
 have ht:=Lib.hid ht'
 have ha:=Lib.hid ha'
 have hb:=Lib.hid hb'
 clear hbx hn hM hM0 hC hB0' ht_ ha_ hb_ ht' ha' hb'
 have hA0:=hW0.symm
 clear hW0
 go_enter Tryz.func70,Tryz.ntmps70
 go_wp2
 go_quiet (fail)
 obtain⟨V0,hV0⟩:∃V0,V0=(W0.alloc (.cells #[.int .i8 n.op,.int .i8 n.len,.int .i64 i,.int .i64 j,.int .i64 n.a2,.int .i64 n.sort,.int .i64 n.fn,.int .i64 n.num] 54)).drewN nq:=⟨_,rfl⟩
 have HV0:Hid (Below w.heap.size w V0):=by rw[hV0];exact qA1 (HB0.out.alloc (Nat.le_of_lt hbz) _)
 rw[←hV0]
 clear hV0 hA0 q0 q1 q2 q3 q4 q5 q6 q7 b0 b1 r0 r1 r2
 go_wp2_with (first
  | (have _hh:=HB2.out;go_at_call 88;refine(qDd _ _ _ _).mono ?_;rintro e w3 ⟨va3,vl3,vc3,rfl,HR3,HB3⟩)
  | (have _hh:=HB1.out;go_at_call 88;refine(qDc _ _ _).mono ?_;rintro e w2 ⟨va2,vl2,vc2,rfl,HR2,HB2⟩)
  | (go_at_call 88;refine(qDc _ _ _).mono ?_;rintro e w1 ⟨va1,vl1,vc1,rfl,HR1,HB1⟩)
  | (go_at_call 67;refine(qEm _ _ (by first|exact ht.out|exact ha.out|exact hb.out)).mono ?_;rintro e w9 ⟨rfl,rfl⟩)
 )
 go_ret
 exact⟨_,rfl,qE0 (.cons ⟨(qCl (qCl HR1.out HB2.out) HB3.out),(i2 (qB9 ht.out) (ha.out))⟩ (.cons ⟨(qCl HR2.out HB3.out),(i2 (qB9 ht.out) (hb.out))⟩ (.cons ⟨HR3.out,(i3 (ht.out) (qB9 ha.out) (qB9 hb.out))⟩ .nil))),((qA5 (qA5 (qA5 HV0.out HB1.out) HB2.out) HB3.out)).alloc ((qA5 (qA5 (qA5 HV0.out HB1.out) HB2.out) HB3.out)).size _⟩
set_option maxHeartbeats 8000000 in
theorem zB1 (c:List NodeA) (hC:Cl c) (a:Option Addr) (ca:Nat) (la:Option Addr) (k:Nat) (n:NodeA) (w:World) (hM:MkrR w c a ca la) (hn:c[k]? = some n) (i j:Nat) (hi:n.a0=i) (hj:n.a1=j) (hic:i<c.length) (hjc:j<c.length) :
  Calls Tryz.prog 71 #[.agg #[.slice a c.length ca,.slice la c.length c.length,.func (.func 69) #[] #[],.nilFunc,.func (.func 70) #[] #[],.func (.func 71) #[] #[],.nilFunc,.nilFunc,.func (.func 72) #[] #[],.func (.func 73) #[] #[],.nilFunc,.nilFunc,.nilFunc,.nilFunc,.nilFunc,.nilFunc],.int .i64 k] w fun e w'=>∃v,e=.returned v∧Hid (qAm w' v [clM [(qAb c k),ngL (qAb c i)],clM [(qAb c k),ngL (qAb c j)],clM [ngL (qAb c k),(qAb c i),(qAb c j)]])∧Hid (Below w.heap.size w w'):=by
 have hkc:k<c.length:=(List.getElem?_eq_some_iff.1 hn).1
 have hlen:c.length≤2000:=hC.len
 obtain⟨W0,hW0⟩:∃W0,W0=w.alloc (.cells #[.slice a c.length ca,.slice la c.length c.length,.func (.func 69) #[] #[],.nilFunc,.func (.func 70) #[] #[],.func (.func 71) #[] #[],.nilFunc,.nilFunc,.func (.func 72) #[] #[],.func (.func 73) #[] #[],.nilFunc,.nilFunc,.nilFunc,.nilFunc,.nilFunc,.nilFunc] 85):=⟨_,rfl⟩
 obtain⟨hB0',hbx,hbz⟩:=qAu hW0
 have hM0:=hM.below hB0'
 have HB0:Hid (Below w.heap.size w W0):=hB0'
 obtain⟨g,o,rfl,hg,q0,q1,q2,q3,q4,q5,q6,q7⟩:=hM0.tab.node hn
 obtain⟨gl,ol,rfl,hgl,r0⟩:=hM0.lit hkc
 have b0:W0.cell? ⟨w.heap.size,0,none⟩=some (.slice (some ⟨g,o,none⟩) c.length ca):=(cell_of_row _ _ 0 _ _ _ hbx).trans rfl
 have b1:W0.cell? ⟨w.heap.size,1,none⟩=some (.slice (some ⟨gl,ol,none⟩) c.length c.length):=(cell_of_row _ _ 1 _ _ _ hbx).trans rfl
 have hki:(k:Int)<(c.length:Int):=by omega
 have hk0:(0:Int)≤(k:Int):=by omega
 have ht':=qAp hC hkc
 have r1:=hM0.lit0 hic
 have ha':=qAp hC hic
 rw[hi] at q2
 have hii:(i:Int)<(c.length:Int):=by omega
 have hi0:(0:Int)≤(i:Int):=by omega
 have r2:=hM0.lit0 hjc
 have hb':=qAp hC hjc
 rw[hj] at q3
 have hji:(j:Int)<(c.length:Int):=by omega
 have hj0:(0:Int)≤(j:Int):=by omega
 obtain⟨t,ht_⟩:∃t,t=qAb c k:=⟨_,rfl⟩
 obtain⟨a,ha_⟩:∃t,t=qAb c i:=⟨_,rfl⟩
 obtain⟨b,hb_⟩:∃t,t=qAb c j:=⟨_,rfl⟩
 rw[←ht_] at r0 ht' ⊢
 rw[←ha_] at r1 ha' ⊢
 rw[←hb_] at r2 hb' ⊢
 have ht:=Lib.hid ht'
 have ha:=Lib.hid ha'
 have hb:=Lib.hid hb'
 clear hbx hn hM hM0 hC hB0' ht_ ha_ hb_ ht' ha' hb'
 have hA0:=hW0.symm
 clear hW0
 go_enter Tryz.func71,Tryz.ntmps71
 go_wp2
 go_quiet (fail)
 obtain⟨V0,hV0⟩:∃V0,V0=(W0.alloc (.cells #[.int .i8 n.op,.int .i8 n.len,.int .i64 i,.int .i64 j,.int .i64 n.a2,.int .i64 n.sort,.int .i64 n.fn,.int .i64 n.num] 54)).drewN nq:=⟨_,rfl⟩
 have HV0:Hid (Below w.heap.size w V0):=by rw[hV0];exact qA1 (HB0.out.alloc (Nat.le_of_lt hbz) _)
 rw[←hV0]
 clear hV0 hA0 q0 q1 q2 q3 q4 q5 q6 q7 b0 b1 r0 r1 r2
 go_wp2_with (first
  | (have _hh:=HB2.out;go_at_call 88;refine(qDd _ _ _ _).mono ?_;rintro e w3 ⟨va3,vl3,vc3,rfl,HR3,HB3⟩)
  | (have _hh:=HB1.out;go_at_call 88;refine(qDc _ _ _).mono ?_;rintro e w2 ⟨va2,vl2,vc2,rfl,HR2,HB2⟩)
  | (go_at_call 88;refine(qDc _ _ _).mono ?_;rintro e w1 ⟨va1,vl1,vc1,rfl,HR1,HB1⟩)
  | (go_at_call 67;refine(qEm _ _ (by first|exact ht.out|exact ha.out|exact hb.out)).mono ?_;rintro e w9 ⟨rfl,rfl⟩)
 )
 go_ret
 exact⟨_,rfl,qE0 (.cons ⟨(qCl (qCl HR1.out HB2.out) HB3.out),(i2 (ht.out) (qB9 ha.out))⟩ (.cons ⟨(qCl HR2.out HB3.out),(i2 (ht.out) (qB9 hb.out))⟩ (.cons ⟨HR3.out,(i3 (qB9 ht.out) (ha.out) (hb.out))⟩ .nil))),((qA5 (qA5 (qA5 HV0.out HB1.out) HB2.out) HB3.out)).alloc ((qA5 (qA5 (qA5 HV0.out HB1.out) HB2.out) HB3.out)).size _⟩
set_option maxHeartbeats 8000000 in
theorem qRc (c:List NodeA) (hC:Cl c) (a:Option Addr) (ca:Nat) (la:Option Addr) (k:Nat) (n:NodeA) (w:World) (hM:MkrR w c a ca la) (hn:c[k]? = some n) (i j:Nat) (hi:n.a0=i) (hj:n.a1=j) (hic:i<c.length) (hjc:j<c.length) (ni nj:NodeA) (hni:c[i]? = some ni) (hnj:c[j]? = some nj) (h0:ni.sort=0) (h1:nj.sort=0) :
  Calls Tryz.prog 72 #[.agg #[.slice a c.length ca,.slice la c.length c.length,.func (.func 69) #[] #[],.nilFunc,.func (.func 70) #[] #[],.func (.func 71) #[] #[],.nilFunc,.nilFunc,.func (.func 72) #[] #[],.func (.func 73) #[] #[],.nilFunc,.nilFunc,.nilFunc,.nilFunc,.nilFunc,.nilFunc],.int .i64 k] w fun e w'=>∃v,e=.returned v∧Hid (qAm w' v [clM [ngL (qAb c k),ngL (qAb c i),(qAb c j)],clM [ngL (qAb c k),(qAb c i),ngL (qAb c j)],clM [(qAb c k),(qAb c i),(qAb c j)],clM [(qAb c k),ngL (qAb c i),ngL (qAb c j)]])∧Hid (Below w.heap.size w w'):=by
 have hkc:k<c.length:=(List.getElem?_eq_some_iff.1 hn).1
 have hlen:c.length≤2000:=hC.len
 obtain⟨W0,hW0⟩:∃W0,W0=w.alloc (.cells #[.slice a c.length ca,.slice la c.length c.length,.func (.func 69) #[] #[],.nilFunc,.func (.func 70) #[] #[],.func (.func 71) #[] #[],.nilFunc,.nilFunc,.func (.func 72) #[] #[],.func (.func 73) #[] #[],.nilFunc,.nilFunc,.nilFunc,.nilFunc,.nilFunc,.nilFunc] 85):=⟨_,rfl⟩
 obtain⟨hB0',hbx,hbz⟩:=qAu hW0
 have hM0:=hM.below hB0'
 have HB0:Hid (Below w.heap.size w W0):=hB0'
 obtain⟨g,o,rfl,hg,q0,q1,q2,q3,q4,q5,q6,q7⟩:=hM0.tab.node hn
 obtain⟨gl,ol,rfl,hgl,r0⟩:=hM0.lit hkc
 have b0:W0.cell? ⟨w.heap.size,0,none⟩=some (.slice (some ⟨g,o,none⟩) c.length ca):=(cell_of_row _ _ 0 _ _ _ hbx).trans rfl
 have b1:W0.cell? ⟨w.heap.size,1,none⟩=some (.slice (some ⟨gl,ol,none⟩) c.length c.length):=(cell_of_row _ _ 1 _ _ _ hbx).trans rfl
 have hki:(k:Int)<(c.length:Int):=by omega
 have hk0:(0:Int)≤(k:Int):=by omega
 have ht':=qAp hC hkc
 have r1:=hM0.lit0 hic
 have ha':=qAp hC hic
 rw[hi] at q2
 have hii:(i:Int)<(c.length:Int):=by omega
 have hi0:(0:Int)≤(i:Int):=by omega
 have r2:=hM0.lit0 hjc
 have hb':=qAp hC hjc
 rw[hj] at q3
 have hji:(j:Int)<(c.length:Int):=by omega
 have hj0:(0:Int)≤(j:Int):=by omega
 have p1:=hM0.nod0 hni
 have p2:=hM0.nod0 hnj
 obtain⟨t,ht_⟩:∃t,t=qAb c k:=⟨_,rfl⟩
 obtain⟨a,ha_⟩:∃t,t=qAb c i:=⟨_,rfl⟩
 obtain⟨b,hb_⟩:∃t,t=qAb c j:=⟨_,rfl⟩
 rw[←ht_] at r0 ht' ⊢
 rw[←ha_] at r1 ha' ⊢
 rw[←hb_] at r2 hb' ⊢
 have ht:=Lib.hid ht'
 have ha:=Lib.hid ha'
 have hb:=Lib.hid hb'
 clear hbx hn hni hnj hM hM0 hC hB0' ht_ ha_ hb_ ht' ha' hb'
 rw[h0] at p1
 rw[h1] at p2
 have hA0:=hW0.symm
 clear hW0
 go_enter Tryz.func72,Tryz.ntmps72
 go_wp2
 go_quiet (fail)
 obtain⟨V0,hV0⟩:∃V0,V0=(W0.alloc (.cells #[.int .i8 n.op,.int .i8 n.len,.int .i64 i,.int .i64 j,.int .i64 n.a2,.int .i64 n.sort,.int .i64 n.fn,.int .i64 n.num] 54)).drewN nq:=⟨_,rfl⟩
 have HV0:Hid (Below w.heap.size w V0):=by rw[hV0];exact qA1 (HB0.out.alloc (Nat.le_of_lt hbz) _)
 rw[←hV0]
 clear hV0 hA0 q0 q1 q2 q3 q4 q5 q6 q7 b0 b1 r0 r1 r2 p1 p2
 go_wp2_with (first
  | (have _hh:=HB3.out;go_at_call 88;refine(qDd _ _ _ _).mono ?_;rintro e w4 ⟨va4,vl4,vc4,rfl,HR4,HB4⟩)
  | (have _hh:=HB2.out;go_at_call 88;refine(qDd _ _ _ _).mono ?_;rintro e w3 ⟨va3,vl3,vc3,rfl,HR3,HB3⟩)
  | (have _hh:=HB1.out;go_at_call 88;refine(qDd _ _ _ _).mono ?_;rintro e w2 ⟨va2,vl2,vc2,rfl,HR2,HB2⟩)
  | (go_at_call 88;refine(qDd _ _ _ _).mono ?_;rintro e w1 ⟨va1,vl1,vc1,rfl,HR1,HB1⟩)
  | (go_at_call 67;refine(qEm _ _ (by first|exact ht.out|exact ha.out|exact hb.out)).mono ?_;rintro e w9 ⟨rfl,rfl⟩)
 )
 go_ret
 exact⟨_,rfl,qE0 (.cons ⟨(qCl (qCl (qCl HR1.out HB2.out) HB3.out) HB4.out),(i3 (qB9 ht.out) (qB9 ha.out) (hb.out))⟩ (.cons ⟨(qCl (qCl HR2.out HB3.out) HB4.out),(i3 (qB9 ht.out) (ha.out) (qB9 hb.out))⟩ (.cons ⟨(qCl HR3.out HB4.out),(i3 (ht.out) (ha.out) (hb.out))⟩ (.cons ⟨HR4.out,(i3 (ht.out) (qB9 ha.out) (qB9 hb.out))⟩ .nil)))),((qA5 (qA5 (qA5 (qA5 HV0.out HB1.out) HB2.out) HB3.out) HB4.out)).alloc ((qA5 (qA5 (qA5 (qA5 HV0.out HB1.out) HB2.out) HB3.out) HB4.out)).size _⟩
set_option maxHeartbeats 8000000 in
theorem qRd (c:List NodeA) (hC:Cl c) (a:Option Addr) (ca:Nat) (la:Option Addr) (k:Nat) (n:NodeA) (w:World) (hM:MkrR w c a ca la) (hn:c[k]? = some n) (i j:Nat) (hi:n.a0=i) (hj:n.a1=j) (hic:i<c.length) (hjc:j<c.length) (ni nj:NodeA) (hni:c[i]? = some ni) (hnj:c[j]? = some nj) (h0:¬ni.sort=0) :
  Calls Tryz.prog 72 #[.agg #[.slice a c.length ca,.slice la c.length c.length,.func (.func 69) #[] #[],.nilFunc,.func (.func 70) #[] #[],.func (.func 71) #[] #[],.nilFunc,.nilFunc,.func (.func 72) #[] #[],.func (.func 73) #[] #[],.nilFunc,.nilFunc,.nilFunc,.nilFunc,.nilFunc,.nilFunc],.int .i64 k] w fun e w'=>∃v,e=.returned v∧Hid (qAm w' v [])∧Hid (Below w.heap.size w w'):=by
 have hkc:k<c.length:=(List.getElem?_eq_some_iff.1 hn).1
 have hlen:c.length≤2000:=hC.len
 obtain⟨W0,hW0⟩:∃W0,W0=w.alloc (.cells #[.slice a c.length ca,.slice la c.length c.length,.func (.func 69) #[] #[],.nilFunc,.func (.func 70) #[] #[],.func (.func 71) #[] #[],.nilFunc,.nilFunc,.func (.func 72) #[] #[],.func (.func 73) #[] #[],.nilFunc,.nilFunc,.nilFunc,.nilFunc,.nilFunc,.nilFunc] 85):=⟨_,rfl⟩
 obtain⟨hB0',hbx,hbz⟩:=qAu hW0
 have hM0:=hM.below hB0'
 have HB0:Hid (Below w.heap.size w W0):=hB0'
 obtain⟨g,o,rfl,hg,q0,q1,q2,q3,q4,q5,q6,q7⟩:=hM0.tab.node hn
 obtain⟨gl,ol,rfl,hgl,r0⟩:=hM0.lit hkc
 have b0:W0.cell? ⟨w.heap.size,0,none⟩=some (.slice (some ⟨g,o,none⟩) c.length ca):=(cell_of_row _ _ 0 _ _ _ hbx).trans rfl
 have b1:W0.cell? ⟨w.heap.size,1,none⟩=some (.slice (some ⟨gl,ol,none⟩) c.length c.length):=(cell_of_row _ _ 1 _ _ _ hbx).trans rfl
 have hki:(k:Int)<(c.length:Int):=by omega
 have hk0:(0:Int)≤(k:Int):=by omega
 have ht':=qAp hC hkc
 have r1:=hM0.lit0 hic
 have ha':=qAp hC hic
 rw[hi] at q2
 have hii:(i:Int)<(c.length:Int):=by omega
 have hi0:(0:Int)≤(i:Int):=by omega
 have r2:=hM0.lit0 hjc
 have hb':=qAp hC hjc
 rw[hj] at q3
 have hji:(j:Int)<(c.length:Int):=by omega
 have hj0:(0:Int)≤(j:Int):=by omega
 have p1:=hM0.nod0 hni
 have p2:=hM0.nod0 hnj
 obtain⟨t,ht_⟩:∃t,t=qAb c k:=⟨_,rfl⟩
 obtain⟨a,ha_⟩:∃t,t=qAb c i:=⟨_,rfl⟩
 obtain⟨b,hb_⟩:∃t,t=qAb c j:=⟨_,rfl⟩
 rw[←ht_] at r0 ht'
 rw[←ha_] at r1 ha'
 rw[←hb_] at r2 hb'
 have ht:=Lib.hid ht'
 have ha:=Lib.hid ha'
 have hb:=Lib.hid hb'
 clear hbx hn hni hnj hM hM0 hC hB0' ht_ ha_ hb_ ht' ha' hb'
 have d0:=qDf h0
 have hA0:=hW0.symm
 clear hW0
 go_enter Tryz.func72,Tryz.ntmps72
 go_wp2
 go_ret
 exact⟨_,rfl,qF7 _,HB0.out.alloc (Nat.le_of_lt hbz) _⟩
end Go.Proofs.YtfgpimhdjlmapaaGreatDoor.Tm
