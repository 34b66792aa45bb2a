/- shape.literals, walked. -/
import Derived.Laws.MakeOwn
import Derived.Laws.CopyOwn
import Derived.Deep.LoopGhost
import Derived.Laws.EntriesVeiled
import Derived.ScopeJumps
import Derived.WalkMore
import Derived.Test.YtfgpimhdjlmapaaGreatDoorShf
import Derived.Test.YtfgpimhdjlmapaaGreatDoorCqF
import Derived.Test.YtfgpimhdjlmapaaGreatDoorShA
import Derived.Test.YtfgpimhdjlmapaaGreatDoorOfJ
import Derived.Test.YtfgpimhdjlmapaaGreatDoorNumMay
namespace Go.Proofs.YtfgpimhdjlmapaaGreatDoor.Tm
open Go.RowKit
set_option linter.unusedVariables false
set_option maxRecDepth 100000
def qCd (xs:List Int):Array Value:=(xs.map (Value.int .i64)).toArray
theorem qKc {w:World} {b:Nat} {xs:List Int} {ty:TypeId} (h:w.heap[b]? = some (.cells (qCd xs) ty (0,0))) {i:Nat} {x:Int} (hx:xs[i]? = some x):w.cell? ⟨b,i,none⟩=some (.int .i64 x):=by
 rw[cell_of_row w b i _ _ _ h,←Array.getElem?_toList]
 simp[qCd,hx]
theorem qY4 {w:World} {b:Nat} {xs:List Int} {ty:TypeId} (h:w.heap[b]? = some (.cells (qCd xs) ty (0,0))) (i:Nat) (x:Int):(w.setCell ⟨b,i,none⟩ (.int .i64 x)).heap[b]? = some (.cells (qCd (xs.set i x)) ty (0,0)):=by
 simp[World.setCell,Array.getElem?_modify,h,qCd,List.map_set]
theorem qF6 {w:World} {b:Nat} {cs:Array Value} {ty:TypeId} (h:w.heap[b]? = some (.cells cs ty (0,0))) (i:Nat):w.frozen? ⟨b,i,none⟩=false:=by simp[World.frozen?,h]
theorem qU4 (k:Nat):madeCells (Value.int .i64 0).cells (k*1)=qCd (List.replicate k 0):=by
 apply Array.ext
 ·simp[size_madeCells,qCd]
 ·intro i h1 h2
  simp[madeCells,qCd,Value.cells,Nat.mod_one]
theorem qU5 (c:Int) (k:Nat) (hc:c=k) (hk:k≤3000) (w:World):(Instr.makeSlice 27 (.int .i64 c) (.int .i64 c)).run Tryz.prog w=.ok (.slice (some ⟨w.heap.size,0,none⟩) k k) (w.alloc (.cells (qCd (List.replicate k 0)) 3)):=by
 obtain⟨i0,hi,hz0,hz1,hz2⟩:=info_parts info_int
 have:=run_make (P:=Tryz.prog) w 27 3 i0 _ Tryz.underlying27 hi hz0 .i64 .i64 c c (by omega) (by omega) (by rw[hz2];omega) (by omega)
 rw[hz1] at this
 subst hc
 rw[Int.toNat_natCast,qU4] at this
 exact this
theorem qBf {l:List NodeA} {k:Nat} {n:NodeA} (h:l[k]? = some n):qAd l (k:Int)=n:=by
 unfold qAd
 rw[List.getD_eq_getElem?_getD,Int.toNat_natCast,h];rfl
def qIe (c:List NodeA) (k:Nat):Int:=if (qAd c k).op=1 then 2*(qAd c k).a0+1 else 2*(k:Int)
def qAb (c:List NodeA) (k:Nat):Int:=if (qAd c k).sort=0 then qIe c k else -1
def qE6 (c:List NodeA):List Int:=(List.range c.length).map (qIe c)
def qCf (c:List NodeA):List Int:=(List.range c.length).map (qAb c)
theorem qCz (c:List NodeA):(qCf c).length=c.length:=by unfold qCf;simp
theorem qDo (c:List NodeA):(qE6 c).length=c.length:=by unfold qE6;simp
theorem qGd {c:List NodeA} {k:Nat} (h:k<c.length):(qCf c)[k]? = some (qAb c k):=by unfold qCf;rw[List.getElem?_map,List.getElem?_range h];rfl
theorem qHq {c:List NodeA} {k:Nat} (h:k<c.length):(qE6 c)[k]? = some (qIe c k):=by unfold qE6;rw[List.getElem?_map,List.getElem?_range h];rfl
def qFp (xs ys:List Int) (k:Nat):List Int:=xs.take k++ys.drop k
theorem qLc (xs ys:List Int):qFp xs ys 0=ys:=rfl
theorem qKd {xs ys:List Int} (h:xs.length=ys.length):qFp xs ys xs.length=xs:=by unfold qFp;rw[List.take_length,h,List.drop_length,List.append_nil]
theorem qNr {xs ys:List Int} (h:xs.length=ys.length) {k:Nat} (hk:k≤xs.length):(qFp xs ys k).length=xs.length:=by unfold qFp;rw[List.length_append,List.length_take,List.length_drop];omega
theorem qKe {xs ys:List Int} {k j:Nat} (hj:j<k) (hk:k≤xs.length):(qFp xs ys k)[j]? = xs[j]?:=by
 unfold qFp
 rw[List.getElem?_append_left (by rw[List.length_take];omega),List.getElem?_take_of_lt hj]
theorem qKf {xs ys:List Int} (h:xs.length=ys.length) {k j:Nat} (hj:k≤j) (hk:k≤xs.length):(qFp xs ys k)[j]? = ys[j]?:=by
 unfold qFp
 rw[List.getElem?_append_right (by rw[List.length_take];omega),List.length_take,List.getElem?_drop]
 congr 1
 omega
theorem qD0 {xs ys:List Int} (h:xs.length=ys.length) {k:Nat} {x:Int} (hx:xs[k]? = some x):(qFp xs ys k).set k x=qFp xs ys (k+1):=by
 have hk:=(List.getElem?_eq_some_iff.1 hx).1
 refine List.ext_getElem? fun j=>?_
 rw[List.getElem?_set]
 have hl:=qNr h (k:=k) (by omega)
 by_cases e:k=j
 ·subst e
  rw[if_pos rfl,if_pos (by omega),qKe (by omega) (by omega),hx]
 ·rw[if_neg e]
  by_cases hj:j<k
  ·rw[qKe hj (by omega),qKe (by omega) (by omega)]
  ·rw[qKf h (by omega) (by omega),qKf h (by omega) (by omega)]
theorem qMn {c:List NodeA} (h:Cl c) {k:Nat} (hk:k<c.length):0≤qIe c k∧qIe c k<2*(c.length:Int):=by
 unfold qIe
 split
 ·rename_i ho
  have:=qCw (h.st (nodA_get hk)) (.inl ho)
  omega
 ·omega
theorem qHr {c:List NodeA} (h:Cl c) {k:Nat} (hk:k<c.length) (ho:(qAd c k).op=1):∃m:Nat,(qAd c k).a0=(m:Int)∧m<k∧qIe c m=2*(m:Int)∧qIe c k=2*(m:Int)+1∧¬(qAd c m).op=1:=by
 obtain⟨h1,h2⟩:=qCw (h.st (nodA_get hk)) (.inl ho)
 have hnn:=h.nn _ (qD6 hk) ho
 refine⟨(qAd c k).a0.toNat,by omega,by omega,?_,?_,?_⟩
 ·unfold qIe
  rw[if_neg (by rw[Int.toNat_of_nonneg h1];exact hnn)]
 ·unfold qIe
  rw[if_pos ho]
  omega
 ·rw[Int.toNat_of_nonneg h1];exact hnn
theorem qLd {c:List NodeA} (h:Cl c) {k:Nat} (hk:k<c.length) (h0:(qAd c k).sort=0):∃m:Nat,qIe c k / 2=(m:Int)∧m≤k∧(qAd c m).sort=0∧¬(qAd c m).op=1:=by
 by_cases ho:(qAd c k).op=1
 ·obtain⟨m,h1,h2,h3,h4,h5⟩:=qHr h hk ho
  have hw:=(h.ws _ (qD6 hk)).s1 ho
  refine⟨m,by omega,by omega,?_,h5⟩
  have:=hw.2
  unfold srt at this
  rw[h1] at this
  exact this
 ·refine⟨k,?_,Nat.le_refl _,h0,ho⟩
  unfold qIe
  rw[if_neg ho]
  omega
theorem qMo (m:Nat):ngL (2*(m:Int))=2*(m:Int)+1:=by unfold ngL;rw[if_pos (by omega)]
structure LitR (w V:World) (l:List NodeA) (a:Option Addr) (c:Nat) (xs:List Int):Prop where
 row:V.heap[w.heap.size+1]? = some (.cells (qCd xs) 3 (0,0))
 box:V.heap[w.heap.size]? = some (.cells #[.slice a l.length c] 33 (0,0))
 bel:Below w.heap.size w V
theorem LitR.set {w V:World} {l:List NodeA} {a:Option Addr} {c:Nat} {xs:List Int} (h:LitR w V l a c xs) (i:Nat) (x:Int):LitR w (V.setCell ⟨w.heap.size+1,i,none⟩ (.int .i64 x)) l a c (xs.set i x) :=
 ⟨qY4 h.row i x,(Below.heap_setCell _ _ _ _ (by show w.heap.size≠w.heap.size+1;omega)).trans h.box,h.bel.setCell (by show w.heap.size≤w.heap.size+1;omega) _⟩
theorem LitR.alloc {w V:World} {l:List NodeA} {a:Option Addr} {c:Nat} {xs:List Int} (h:LitR w V l a c xs) (o:Obj):LitR w (V.alloc o) l a c xs :=
 ⟨(Below.heap_alloc _ _ _ (Array.getElem?_eq_some_iff.1 h.row).1).trans h.row,(Below.heap_alloc _ _ _ (Array.getElem?_eq_some_iff.1 h.box).1).trans h.box,h.bel.alloc h.bel.size _⟩
theorem LitR.drew {w V:World} {l:List NodeA} {a:Option Addr} {c:Nat} {xs:List Int} (h:LitR w V l a c xs):LitR w V.drew l a c xs:=⟨h.row,h.box,h.bel.drew⟩
set_option maxHeartbeats 8000000 in
theorem qLe (c:List NodeA) (hC:Cl c) (a:Option Addr) (ca:Nat) (w:World) (hA:TabR w c a ca) :
  Calls Tryz.prog 38 #[.agg #[.slice a c.length ca]] w fun e w'=>e=.returned (.slice (some ⟨w.heap.size+1,0,none⟩) c.length c.length)∧LitR w w' c a ca (qCf c):=by
 have hlen:c.length≤2000:=hC.len
 have hmk:=qU5 c.length c.length rfl (by omega)
 have hle:=hA.le
 have HA:Hid (∀V,Below w.heap.size w V→TabR V c a ca):=fun V hV=>hA.below hV
 have HC:=Lib.hid hC
 have HMk:Hid (∀V (k:Nat),k<c.length→Calls Tryz.prog 66 #[.int .i64 k,.bool false] V fun e w'=>e=.returned (.int .i64 (2*(k:Int)))∧V=w'):=fun V k hk=>qNq k V (by omega)
 have HNg:Hid (∀V (m:Nat),m<c.length→Calls Tryz.prog 67 #[.int .i64 (2*(m:Int))] V fun e w'=>e=.returned (.int .i64 (2*(m:Int)+1))∧V=w'):=fun V m hm=>by
  have h:=qEm (2*(m:Int)) V ⟨by omega,by omega⟩
  rw[qMo] at h
  exact h
 have HNo:Hid (∀V (x:Int) (m:Nat),x / 2=(m:Int)→I64 x→Calls Tryz.prog 68 #[.int .i64 x] V fun e w'=>e=.returned (.int .i64 m)∧V=w'):=fun V x m hm hx=>by rw[←hm];exact qU3 x V hx
 have hzl:(qE6 c).length=(List.replicate c.length (0:Int)).length:=by rw[qDo];simp
 have hml:(qCf c).length=(qE6 c).length:=by rw[qDo,qCz]
 have HZl:=Lib.hid (And.intro hzl hml)
 have H0:Hid (LitR w ((w.alloc (.cells #[.slice a c.length ca] 33)).alloc (.cells (qCd (List.replicate c.length 0)) 3)) c a ca (qFp (qE6 c) (List.replicate c.length 0) 0)):=by
  have h1:=heap_alloc_new w (.cells #[.slice a c.length ca] 33)
  have h2:=heap_alloc_new (w.alloc (.cells #[.slice a c.length ca] 33)) (.cells (qCd (List.replicate c.length 0)) 3)
  rw[World.size_alloc] at h2
  exact⟨by rw[qLc];exact h2,(Below.heap_alloc _ _ _ (by simp)).trans h1,((Below.refl _ w).alloc (Nat.le_refl _) _).alloc (by simp) _⟩
 clear hA hC hzl hml
 go_enter Tryz.func38,Tryz.ntmps38
 go_wp2
 go_loopw [15] (fun i wr=>∃k:Nat,k≤c.length∧i=.int .i64 k∧Hid (LitR w wr c a ca (qFp (qE6 c) (List.replicate c.length 0) k))) (fun i _=>c.length-(intOf i).toNat)
 case atStart=>exact⟨0,Nat.zero_le _,rfl,H0⟩
 case round =>
  clear H0
  rename World=>U
  obtain⟨k,hk,rfl,HF⟩:=hrel
  by_cases hlt:k<c.length
  ·obtain⟨n,hn⟩:∃n,c[k]? = some n:=⟨_,List.getElem?_eq_getElem hlt⟩
   obtain⟨g,o,rfl,hg,q0,q1,q2,q3,q4,q5,q6,q7⟩:=(HA.out _ HF.out.bel).node hn
   have hnn:=qBf hn
   obtain⟨x0,hx0⟩:∃x,(qFp (qE6 c) (List.replicate c.length 0) k)[k]? = some x:=⟨_,List.getElem?_eq_getElem (by rw[qNr HZl.out.1 (by rw[qDo];exact hk),qDo];exact hlt)⟩
   have r0:=qKc HF.out.row hx0
   have rf:=qF6 HF.out.row k
   have rz:=(Array.getElem?_eq_some_iff.1 HF.out.row).1
   have b0:U.cell? ⟨w.heap.size,0,none⟩=some (.slice (some ⟨g,o,none⟩) c.length ca):=(cell_of_row _ _ 0 _ _ _ HF.out.box).trans rfl
   have bz:=(Array.getElem?_eq_some_iff.1 HF.out.box).1
   have hki:(k:Int)<(c.length:Int):=by omega
   have hk0:(0:Int)≤(k:Int):=by omega
   have hbl:w.heap.size≤U.heap.size:=HF.out.bel.size
   have HMkk:=Lib.hid (HMk.out · k hlt)
   by_cases h1:n.op=1
   ·obtain⟨m,hm0,hmk2,hvm,hvk,_⟩:=qHr HC.out hlt (by rw[hnn];exact h1)
    rw[hnn] at hm0
    have rm:U.cell? ⟨w.heap.size+1,m,none⟩=some (.int .i64 (2*(m:Int))):=qKc HF.out.row (by rw[qKe hmk2 (by rw[qDo];exact hk),qHq (by omega),hvm])
    have hmne:¬m=k:=by omega
    have hkne:¬k=m:=by omega
    have hmi:(m:Int)<(c.length:Int):=by omega
    have hm00:(0:Int)≤(m:Int):=by omega
    have hmc:m<c.length:=by omega
    have d1:(n.op==1)=true:=qC9 h1
    have HNgm:=Lib.hid (HNg.out · m hmc)
    have HN:Hid (LitR w ((U.setCell ⟨w.heap.size+1,k,none⟩ (.int .i64 (2*(k:Int)))).setCell ⟨w.heap.size+1,k,none⟩ (.int .i64 (2*(m:Int)+1))) c (some ⟨g,o,none⟩) ca (qFp (qE6 c) (List.replicate c.length 0) (k+1))):=by
     have h:=(HF.out.set k (2*(k:Int))).set k (2*(m:Int)+1)
     rw[List.set_set,qD0 HZl.out.1 (by rw[qHq hlt,hvk])] at h
     exact h
    have HN2:=Lib.hid (fun ob=>HN.out.alloc ob)
    rw[hm0] at q2
    clear hn hnn hx0 hvm hvk h1 hm0
    go_wp2_with (first|(go_at_call 66;refine(HMkk.out _).mono ?_;rintro e w1 ⟨rfl,rfl⟩)|(go_at_call 67;refine(HNgm.out _).mono ?_;rintro e w1 ⟨rfl,rfl⟩))
    go_roundw
    case rel=>exact⟨k+1,by omega,by go_num,HN2.out _⟩
    case measure=>simp[intOf];omega
   ·have d1:(n.op==1)=false:=qB7 h1
    have hvk:qIe c k=2*(k:Int):=by unfold qIe;rw[hnn,if_neg h1]
    have HN:Hid (LitR w (U.setCell ⟨w.heap.size+1,k,none⟩ (.int .i64 (2*(k:Int)))) c (some ⟨g,o,none⟩) ca (qFp (qE6 c) (List.replicate c.length 0) (k+1))):=by
     have h:=HF.out.set k (2*(k:Int))
     rw[qD0 HZl.out.1 (by rw[qHq hlt,hvk])] at h
     exact h
    have HN2:=Lib.hid (fun ob=>HN.out.alloc ob)
    clear hn hnn hx0 hvk h1
    go_wp2_with (first|(go_at_call 66;refine(HMkk.out _).mono ?_;rintro e w1 ⟨rfl,rfl⟩))
    go_roundw
    case rel=>exact⟨k+1,by omega,by go_num,HN2.out _⟩
    case measure=>simp[intOf];omega
  ·obtain rfl:k=c.length:=by omega
   have HF6:Hid (LitR w U c a ca (qFp (qCf c) (qE6 c) 0)):=by
    have h:=HF.out
    have e:=qKd HZl.out.1
    rw[qDo] at e
    rw[e] at h
    exact h
   clear HF
   go_wp2
   go_loopw [41] (fun i wr=>∃k:Nat,k≤c.length∧i=.int .i64 k∧Hid (LitR w wr c a ca (qFp (qCf c) (qE6 c) k))) (fun i _=>c.length-(intOf i).toNat)
   case atStart=>exact⟨0,Nat.zero_le _,rfl,HF6⟩
   case round =>
    clear HF6
    obtain⟨k,hk,rfl,HF⟩:=hrel
    by_cases hlt:k<c.length
    ·obtain⟨n,hn⟩:∃n,c[k]? = some n:=⟨_,List.getElem?_eq_getElem hlt⟩
     obtain⟨g,o,rfl,hg,q0,q1,q2,q3,q4,q5,q6,q7⟩:=(HA.out _ HF.out.bel).node hn
     have hnn:=qBf hn
     have hx0:(qFp (qCf c) (qE6 c) k)[k]? = some (qIe c k):=by rw[qKf HZl.out.2 (Nat.le_refl _) (by rw[qCz];exact hk),qHq hlt]
     have r0:=qKc HF.out.row hx0
     have rf:=qF6 HF.out.row k
     have rz:=(Array.getElem?_eq_some_iff.1 HF.out.row).1
     have b0:wr.cell? ⟨w.heap.size,0,none⟩=some (.slice (some ⟨g,o,none⟩) c.length ca):=(cell_of_row _ _ 0 _ _ _ HF.out.box).trans rfl
     have bz:=(Array.getElem?_eq_some_iff.1 HF.out.box).1
     have hki:(k:Int)<(c.length:Int):=by omega
     have hk0:(0:Int)≤(k:Int):=by omega
     have hvl:=qMn HC.out hlt
     have hv64:I64 (qIe c k):=⟨by omega,by omega⟩
     by_cases h0:n.sort=0
     ·obtain⟨m,hm,hmk2,hms,_⟩:=qLd HC.out hlt (by rw[hnn];exact h0)
      obtain⟨nm,hnm⟩:∃x,c[m]? = some x:=⟨_,List.getElem?_eq_getElem (by omega)⟩
      obtain⟨g',o',e',_,_,_,_,_,_,p5,_,_⟩:=(HA.out _ HF.out.bel).node hnm
      cases e'
      rw[qBf hnm] at hms
      rw[hms] at p5
      rw[h0] at q5
      have hmi:(m:Int)<(c.length:Int):=by omega
      have hm0:(0:Int)≤(m:Int):=by omega
      have HNm:=Lib.hid (HNo.out · (qIe c k) m hm hv64)
      have hsk:qAb c k=qIe c k:=by unfold qAb;rw[hnn,if_pos h0]
      have HN:Hid (LitR w wr c (some ⟨g,o,none⟩) ca (qFp (qCf c) (qE6 c) (k+1))):=by
       have h:=HF.out
       have e:qFp (qCf c) (qE6 c) (k+1)=qFp (qCf c) (qE6 c) k:=by
        rw[←qD0 HZl.out.2 (qGd hlt),hsk]
        refine List.ext_getElem? fun j=>?_
        rw[List.getElem?_set]
        by_cases e:k=j
        ·subst e
         rw[if_pos rfl,hx0]
         split
         ·rfl
         ·rename_i hh
          exact absurd (List.getElem?_eq_some_iff.1 hx0).1 hh
        ·rw[if_neg e]
       show LitR _ _ _ _ _ _
       rw[e]
       exact h
      have HS:Hid ((fun V:World=>V.cell? ⟨w.heap.size,0,none⟩=some (.slice (some ⟨g,o,none⟩) c.length ca)∧V.cell? ⟨g,o+k*8+5,none⟩=some (.int .i64 0)∧V.cell? ⟨g,o+m*8+5,none⟩=some (.int .i64 0)∧w.heap.size<V.heap.size∧g<V.heap.size) wr.drew):=⟨b0,q5,p5,bz,hg⟩
      clear hn hnn hx0 h0 hnm hms hm hsk hvl hv64 b0 q5 p5 bz hg q0 q1 q2 q3 q4 q6 q7
      go_wp2
      refine wp_region_held_drew (S:=fun V=>V.cell? ⟨w.heap.size,0,none⟩=some (.slice (some ⟨g,o,none⟩) c.length ca)∧V.cell? ⟨g,o+k*8+5,none⟩=some (.int .i64 0)∧V.cell? ⟨g,o+m*8+5,none⟩=some (.int .i64 0)∧w.heap.size<V.heap.size∧g<V.heap.size) (by kernel_rfl) HS.out (fun hHeld=>?_)
      refine tkY 0 (.pointer (some ⟨w.heap.size,0,none⟩)) ?_;try simp only[k4]
      refine tkY 1 (.slice (some ⟨g,o,none⟩) c.length ca) ?_;try simp only[k4]
      refine tkY 2 (.int .i64 k) ?_;try simp only[k4]
      refine tkY 3 (.pointer (some ⟨g,o+k*8,none⟩)) ?_;try simp only[k4]
      refine tkY 4 (.pointer (some ⟨g,o+k*8+5,none⟩)) ?_;try simp only[k4]
      refine tkY 5 (.int .i64 0) ?_;try simp only[k4]
      refine tkY 6 (.bool false) ?_;try simp only[k4]
      refine tkY 7 (.bool false) ?_;try simp only[k4]
      refine tkY 8 (.pointer (some ⟨w.heap.size,0,none⟩)) ?_;try simp only[k4]
      refine tkY 9 (.slice (some ⟨g,o,none⟩) c.length ca) ?_;try simp only[k4]
      refine tkY 10 (.int .i64 (qIe c k)) ?_;try simp only[k4]
      refine tkC 11 ?_
      intro K hK
      go_simp
      go_at_call 68
      refine(HNm.out _).mono ?_
      rintro e w5 ⟨rfl,rfl⟩
      go_wp2_with fail
      refine hK.out _ _ ?_ (fun hHeld=>?_)
      ·exact HS.out
      clear hK K;try simp only[k4]
      refine tkY 12 (.pointer (some ⟨g,o+m*8,none⟩)) ?_;try simp only[k4]
      refine tkY 13 (.pointer (some ⟨g,o+m*8+5,none⟩)) ?_;try simp only[k4]
      refine tkY 14 (.int .i64 0) ?_;try simp only[k4]
      refine tkY 15 (.bool false) ?_;try simp only[k4]
      refine tkY 16 (.bool false) ?_;try simp only[k4]
      refine wpAnyH_done (by kernel_rfl) ?_ _
      clear hHeld
      go_wp2
      go_roundw
      case rel=>exact⟨k+1,by omega,by go_num,HN.out.drew⟩
      case measure=>simp[intOf];omega
     ·have hsk:qAb c k=-1:=by unfold qAb;rw[hnn,if_neg h0]
      have HN:Hid (LitR w (wr.setCell ⟨w.heap.size+1,k,none⟩ (.int .i64 (-1))) c (some ⟨g,o,none⟩) ca (qFp (qCf c) (qE6 c) (k+1))):=by
       have h:=HF.out.set k (-1)
       rw[qD0 HZl.out.2 (by rw[qGd hlt,hsk])] at h
       exact h
      have hne:(n.sort != 0)=true:=qDf h0
      have HS:Hid ((fun V:World=>V.cell? ⟨w.heap.size,0,none⟩=some (.slice (some ⟨g,o,none⟩) c.length ca)∧V.cell? ⟨g,o+k*8+5,none⟩=some (.int .i64 n.sort)∧w.heap.size<V.heap.size∧g<V.heap.size) wr.drew):=⟨b0,q5,bz,hg⟩
      clear hn hnn hx0 h0 hsk hvl hv64 b0 q5 bz hg q0 q1 q2 q3 q4 q6 q7
      go_wp2
      refine wp_region_held_drew (S:=fun V=>V.cell? ⟨w.heap.size,0,none⟩=some (.slice (some ⟨g,o,none⟩) c.length ca)∧V.cell? ⟨g,o+k*8+5,none⟩=some (.int .i64 n.sort)∧w.heap.size<V.heap.size∧g<V.heap.size) (by kernel_rfl) HS.out (fun hHeld=>?_)
      refine tkY 0 (.pointer (some ⟨w.heap.size,0,none⟩)) ?_;try simp only[k4]
      refine tkY 1 (.slice (some ⟨g,o,none⟩) c.length ca) ?_;try simp only[k4]
      refine tkY 2 (.int .i64 k) ?_;try simp only[k4]
      refine tkY 3 (.pointer (some ⟨g,o+k*8,none⟩)) ?_;try simp only[k4]
      refine tkY 4 (.pointer (some ⟨g,o+k*8+5,none⟩)) ?_;try simp only[k4]
      refine tkY 5 (.int .i64 n.sort) ?_;try simp only[k4]
      refine tkY 6 (.bool true) ?_;try simp only[k4]
      refine tkY 7 (.bool true) ?_;try simp only[k4]
      refine tkN 8 ?_;try simp only[k4]
      refine tkN 9 ?_;try simp only[k4]
      refine tkN 10 ?_;try simp only[k4]
      refine tkN 11 ?_;try simp only[k4]
      refine tkN 12 ?_;try simp only[k4]
      refine tkN 13 ?_;try simp only[k4]
      refine tkN 14 ?_;try simp only[k4]
      refine tkN 15 ?_;try simp only[k4]
      refine tkY 16 (.bool true) ?_;try simp only[k4]
      refine wpAnyH_done (by kernel_rfl) ?_ _
      clear hHeld
      have r0':wr.drew.cell? ⟨w.heap.size+1,k,none⟩=some (.int .i64 (qIe c k)):=r0
      have rf':wr.drew.frozen? ⟨w.heap.size+1,k,none⟩=false:=rf
      go_wp2
      go_roundw
      case rel=>exact⟨k+1,by omega,by go_num,HN.out.drew⟩
      case measure=>simp[intOf];omega
    ·obtain rfl:k=c.length:=by omega
     have HFz:Hid (LitR w wr c a ca (qCf c)):=by
      have h:=HF.out
      rw[←qCz c,qKd HZl.out.2] at h
      exact h
     clear HF
     go_wp2
     go_ret
     exact⟨rfl,HFz.out⟩
end Go.Proofs.YtfgpimhdjlmapaaGreatDoor.Tm
