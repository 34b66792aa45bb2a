/- What a maker tells of a node: the program. -/
import Derived.WalkSpells
import Derived.Deep.LoopGhost
import Derived.Laws.Bits128
import Derived.Test.YtfgpimhdjlmapaaGreatDoorShf
import Derived.Test.YtfgpimhdjlmapaaGreatDoorShJ
namespace Go.Proofs.YtfgpimhdjlmapaaGreatDoor.Tm
open Go.RowKit Go.Lib Go.Sort
set_option linter.unusedVariables false
set_option maxRecDepth 100000
theorem qMq {P:Program} (w:World) (d:Nat) (t:TypeId) {ps rs:Array TypeId} {v:Bool} (f:Nat) (h:P.underlying t=some (.func ps rs v)):(Op.equalIn (d+1) t (.func (.func f) #[] #[]) .nilFunc).run P w=.ok false w:=by
 simp[Op.equalIn,run_underlying h]
theorem qMr {P:Program} (w:World) (d:Nat) (t:TypeId) {ps rs:Array TypeId} {v:Bool} (h:P.underlying t=some (.func ps rs v)):(Op.equalIn (d+1) t .nilFunc .nilFunc).run P w=.ok true w:=by
 simp[Op.equalIn,run_underlying h]
theorem qIh (f:Nat) (w:World):(binOp .eql 79 (.func (.func f) #[] #[]) .nilFunc).run Tryz.prog w=.ok (.bool false) w:=by
 simp only[binOp]
 simp[Op.equal,Op.maxDepth,qMq w 9999 _ f Tryz.underlying79]
theorem qDe (w:World):(binOp .eql 79 .nilFunc .nilFunc).run Tryz.prog w=.ok (.bool true) w:=by
 simp only[binOp]
 simp[Op.equal,Op.maxDepth,qMr w 9999 _ Tryz.underlying79]
theorem qOu {c:List NodeA} {xss:List (List Int)} (h:∀xs∈xss,qHe c xs):xss.any (fun xs=>decide (xs.headD 0<0))=false:=by
 rw[List.any_eq_false]
 intro xs hx
 obtain⟨h0,h1,_⟩:=h xs hx
 obtain⟨x,r,rfl⟩:=List.exists_cons_of_ne_nil h0
 have:=(h1 x (by simp)).1
 simp
 exact this
theorem qDp (c:List NodeA) (v:Value) (xss:List (List Int)) (w:World) (hR:qAm w v xss) (h:∀xs∈xss,qHe c xs) :
  Calls Tryz.prog 28 #[v,.func (.func 41) #[] #[]] w fun e w'=>e=.returned (.bool false)∧Hid (Below w.heap.size w w'):=by
 obtain⟨rs,a,c',rfl,rfl,hA,_⟩:=hR
 refine(qLh (fun xs=>decide (xs.headD 0<0)) (fun xs=>xs≠[]) 41 #[] (enters_of Tryz.func41 (by kernel_rfl) rfl) rs a c' w hA (fun r hr=>(h r.xs (List.mem_map.2 ⟨r,hr,rfl⟩)).1) (fun W r hW hI hq=>qRe r.xs hq r.a r.c W hI)).mono fun e w' ⟨h1,h2⟩=>⟨by rw[h1,qOu h],h2⟩
theorem qIi {c:List NodeA} (hC:Cl c) {a:Option Addr} {ca:Nat} {la:Option Addr} {k:Nat} {n:NodeA} {w:World} (hG:GT w) (hM:MkrR w c a ca la) (hn:c[k]? = some n) (F:Nat) (hF:(n.op=0∧F=69)∨(n.op=2∧F=70)∨(n.op=3∧F=71)∨(n.op=6∧F=72)∨(n.op=7∧F=73)) :
  Calls Tryz.prog F #[.agg #[.slice a c.length ca,.slice la c.length c.length,.func (.func 69) #[] #[],.nilFunc,.func (.func 70) #[] #[],.func (.func 71) #[] #[],.nilFunc,.nilFunc,.func (.func 72) #[] #[],.func (.func 73) #[] #[],.nilFunc,.nilFunc,.nilFunc,.nilFunc,.nilFunc,.nilFunc],.int .i64 k] w fun e w'=>∃v,e=.returned v∧Hid (qAm w' v (qAy c k))∧Hid (Below w.heap.size w w'):=by
 have hkc:k<c.length:=(List.getElem?_eq_some_iff.1 hn).1
 have hnn:=qBf hn
 have hlen:c.length≤2000:=hC.len
 have hw:=hC.ws n (List.mem_of_getElem? hn)
 rcases hF with⟨ho,rfl⟩|⟨ho,rfl⟩|⟨ho,rfl⟩|⟨ho,rfl⟩|⟨ho,rfl⟩
 ·have e:qAy c k=[clM [2*(k:Int)]]:=by unfold qAy;rw[hnn,if_pos ho]
  rw[e]
  exact qRb c a ca la k (by omega) w
 ·obtain⟨i,j,ei,ej,hi,hj⟩:=qH1 hC hn (.inl ho)
  have e:qAy c k=[clM [ngL (qAb c k),qAb c i],clM [ngL (qAb c k),qAb c j],clM [qAb c k,ngL (qAb c i),ngL (qAb c j)]]:=by unfold qAy;rw[hnn,if_neg (by omega),if_pos ho,ei,ej,Int.toNat_natCast,Int.toNat_natCast]
  rw[e]
  exact qY8 c hC a ca la k n w hM hn i j ei ej (by omega) (by omega)
 ·obtain⟨i,j,ei,ej,hi,hj⟩:=qH1 hC hn (.inr (.inl ho))
  have e:qAy c k=[clM [qAb c k,ngL (qAb c i)],clM [qAb c k,ngL (qAb c j)],clM [ngL (qAb c k),qAb c i,qAb c j]]:=by unfold qAy;rw[hnn,if_neg (by omega),if_neg (by omega),if_pos ho,ei,ej,Int.toNat_natCast,Int.toNat_natCast]
  rw[e]
  exact zB1 c hC a ca la k n w hM hn i j ei ej (by omega) (by omega)
 ·obtain⟨i,j,ei,ej,hi,hj⟩:=qH1 hC hn (.inr (.inr ho))
  obtain⟨ni,hni⟩:∃z,c[i]? = some z:=⟨_,List.getElem?_eq_getElem (by omega)⟩
  obtain⟨nj,hnj⟩:∃z,c[j]? = some z:=⟨_,List.getElem?_eq_getElem (by omega)⟩
  have si:srt c n.a0=ni.sort:=by unfold srt;rw[ei,qBf hni]
  have sj:srt c n.a1=nj.sort:=by unfold srt;rw[ej,qBf hnj]
  have ss:=(hw.s6 ho).2
  by_cases h0:ni.sort=0
  ·have e:qAy c k=[clM [ngL (qAb c k),ngL (qAb c i),qAb c j],clM [ngL (qAb c k),qAb c i,ngL (qAb c j)],clM [qAb c k,qAb c i,qAb c j],clM [qAb c k,ngL (qAb c i),ngL (qAb c j)]]:=by unfold qAy;rw[hnn,if_neg (by omega),if_neg (by omega),if_neg (by omega),if_pos ho,if_pos (by rw[si];exact h0),ei,ej,Int.toNat_natCast,Int.toNat_natCast]
   rw[e]
   exact qRc c hC a ca la k n w hM hn i j ei ej (by omega) (by omega) ni nj hni hnj h0 (by rw[←sj,←ss,si];exact h0)
  ·have e:qAy c k=[]:=by unfold qAy;rw[hnn,if_neg (by omega),if_neg (by omega),if_neg (by omega),if_pos ho,if_neg (by rw[si];exact h0)]
   rw[e]
   exact qRd c hC a ca la k n w hM hn i j ei ej (by omega) (by omega) ni nj hni hnj h0
 ·obtain⟨i,j,l,ei,ej,el,hi,hj,hl⟩:=qUc hC hn ho
  obtain⟨g0,g1,g2⟩:=hC.ite k n hn ho
  by_cases hs:n.sort=0
  ·have e:qAy c k=[clM [ngL (qAb c k),ngL (qAb c i),qAb c j],clM [ngL (qAb c k),qAb c i,qAb c l],clM [qAb c k,ngL (qAb c i),ngL (qAb c j)],clM [qAb c k,qAb c i,ngL (qAb c l)]]:=by unfold qAy;rw[hnn,if_neg (by omega),if_neg (by omega),if_neg (by omega),if_neg (by omega),if_pos ho,if_pos hs,ei,ej,el,Int.toNat_natCast,Int.toNat_natCast,Int.toNat_natCast]
   rw[e]
   exact qU9 c hC a ca la k n w hG hM hn ho i j l ei ej el (by omega) hj hl hs
  by_cases hs1:n.sort=1
  ·obtain⟨f1,f2⟩:=g1 hs1 n.a1 (.inl rfl)
   obtain⟨f3,f4⟩:=g1 hs1 n.a2 (.inr rfl)
   rw[ej] at f1 f2
   rw[el] at f3 f4
   have e:qAy c k=[clM [ngL (qAb c i),qAb c (qD2 c (qAk 12 (k:Nat) (qA0 c j).1 (qA0 c j).2))],clM [ngL (qAb c i),qAb c (qD2 c (qAk 12 (qA0 c j).1 (k:Nat) (-(qA0 c j).2)))],clM [qAb c i,qAb c (qD2 c (qAk 12 (k:Nat) (qA0 c l).1 (qA0 c l).2))],clM [qAb c i,qAb c (qD2 c (qAk 12 (qA0 c l).1 (k:Nat) (-(qA0 c l).2)))]]:=by unfold qAy;rw[hnn,if_neg (by omega),if_neg (by omega),if_neg (by omega),if_neg (by omega),if_pos ho,if_neg hs,if_pos hs1,ei,ej,el,Int.toNat_natCast];rfl
   rw[e]
   exact qUa c hC a ca la k n w hG hM hn ho i j l ei ej el (by omega) hj hl hs1 f1 f2 f3 f4
  ·have f1:=g2 hs hs1 n.a1 (.inl rfl)
   have f2:=g2 hs hs1 n.a2 (.inr rfl)
   rw[ej] at f1
   rw[el] at f2
   have e:qAy c k=[clM [ngL (qAb c i),qAb c (qD2 c (qAk 6 (j:Nat) (k:Nat) 0))],clM [qAb c i,qAb c (qD2 c (qAk 6 (l:Nat) (k:Nat) 0))]]:=by unfold qAy;rw[hnn,if_neg (by omega),if_neg (by omega),if_neg (by omega),if_neg (by omega),if_pos ho,if_neg hs,if_neg hs1,ei,ej,el,Int.toNat_natCast];rfl
   rw[e]
   exact qUb c hC a ca la k n w hG hM hn ho i j l ei ej el (by omega) hj hl hs hs1 f1 f2
theorem qIj {c:List NodeA} {k:Nat} {n:NodeA} (hn:c[k]? = some n) (h:¬n.op=0∧¬n.op=2∧¬n.op=3∧¬n.op=6∧¬n.op=7):qAy c k=[]:=by
 unfold qAy
 rw[qBf hn,if_neg h.1,if_neg h.2.1,if_neg h.2.2.1,if_neg h.2.2.2.1,if_neg h.2.2.2.2]
set_option maxHeartbeats 8000000 in
theorem qUd (c:List NodeA) (hC:Cl c) (a:Option Addr) (ca:Nat) (la:Option Addr) (k:Nat) (n:NodeA) (w:World) (hG:GT w) (hM:MkrR w c a ca la) (hn:c[k]? = some n) (ho:n.op=0) :
  Calls Tryz.prog 27 #[.agg #[.slice a c.length ca,.slice la c.length c.length,.func (.func 69) #[] #[],.nilFunc,.func (.func 70) #[] #[],.func (.func 71) #[] #[],.nilFunc,.nilFunc,.func (.func 72) #[] #[],.func (.func 73) #[] #[],.nilFunc,.nilFunc,.nilFunc,.nilFunc,.nilFunc,.nilFunc],.int .i64 k] w fun e w'=>∃v,e=.returned (.tuple #[v,.int .i64 0])∧Hid (qAm w' v (qAy c k))∧Hid (Below w.heap.size w w'):=by
 have hkc:k<c.length:=(List.getElem?_eq_some_iff.1 hn).1
 have hok:=Lib.hid (qCm hC hkc)
 obtain⟨W0,hW0⟩:∃W0,W0=w.alloc (.cells #[.slice a c.length ca,.slice la c.length c.length,.func (.func 69) #[] #[],.nilFunc,.func (.func 70) #[] #[],.func (.func 71) #[] #[],.nilFunc,.nilFunc,.func (.func 72) #[] #[],.func (.func 73) #[] #[],.nilFunc,.nilFunc,.nilFunc,.nilFunc,.nilFunc,.nilFunc] 85):=⟨_,rfl⟩
 obtain⟨hB0',hbx,hbz⟩:=qAu hW0
 have hM0:=hM.below hB0'
 have hG0:=hG.below hB0'
 have HB0:Hid (Below w.heap.size w W0):=hB0'
 obtain⟨g,o,rfl,hg,q0,q1,q2,q3,q4,q5,q6,q7⟩:=hM0.tab.node hn
 have b0:W0.cell? ⟨w.heap.size,0,none⟩=some (.slice (some ⟨g,o,none⟩) c.length ca):=(cell_of_row _ _ 0 _ _ _ hbx).trans rfl
 have b1:W0.cell? ⟨w.heap.size,1,none⟩=some (.slice la c.length c.length):=(cell_of_row _ _ 1 _ _ _ hbx).trans rfl
 have b2:W0.cell? ⟨w.heap.size,2,none⟩=some (.func (.func 69) #[] #[]):=(cell_of_row _ _ 2 _ _ _ hbx).trans rfl
 have b3:W0.cell? ⟨w.heap.size,3,none⟩=some (.nilFunc):=(cell_of_row _ _ 3 _ _ _ hbx).trans rfl
 have b4:W0.cell? ⟨w.heap.size,4,none⟩=some (.func (.func 70) #[] #[]):=(cell_of_row _ _ 4 _ _ _ hbx).trans rfl
 have b5:W0.cell? ⟨w.heap.size,5,none⟩=some (.func (.func 71) #[] #[]):=(cell_of_row _ _ 5 _ _ _ hbx).trans rfl
 have b6:W0.cell? ⟨w.heap.size,6,none⟩=some (.nilFunc):=(cell_of_row _ _ 6 _ _ _ hbx).trans rfl
 have b7:W0.cell? ⟨w.heap.size,7,none⟩=some (.nilFunc):=(cell_of_row _ _ 7 _ _ _ hbx).trans rfl
 have b8:W0.cell? ⟨w.heap.size,8,none⟩=some (.func (.func 72) #[] #[]):=(cell_of_row _ _ 8 _ _ _ hbx).trans rfl
 have b9:W0.cell? ⟨w.heap.size,9,none⟩=some (.func (.func 73) #[] #[]):=(cell_of_row _ _ 9 _ _ _ hbx).trans rfl
 have b10:W0.cell? ⟨w.heap.size,10,none⟩=some (.nilFunc):=(cell_of_row _ _ 10 _ _ _ hbx).trans rfl
 have b11:W0.cell? ⟨w.heap.size,11,none⟩=some (.nilFunc):=(cell_of_row _ _ 11 _ _ _ hbx).trans rfl
 have b12:W0.cell? ⟨w.heap.size,12,none⟩=some (.nilFunc):=(cell_of_row _ _ 12 _ _ _ hbx).trans rfl
 have b13:W0.cell? ⟨w.heap.size,13,none⟩=some (.nilFunc):=(cell_of_row _ _ 13 _ _ _ hbx).trans rfl
 have b14:W0.cell? ⟨w.heap.size,14,none⟩=some (.nilFunc):=(cell_of_row _ _ 14 _ _ _ hbx).trans rfl
 have b15:W0.cell? ⟨w.heap.size,15,none⟩=some (.nilFunc):=(cell_of_row _ _ 15 _ _ _ hbx).trans rfl
 have HF:Hid (Calls Tryz.prog 69 #[.agg #[.slice (some ⟨g,o,none⟩) c.length ca,.slice la c.length c.length,.func (.func 69) #[] #[],.nilFunc,.func (.func 70) #[] #[],.func (.func 71) #[] #[],.nilFunc,.nilFunc,.func (.func 72) #[] #[],.func (.func 73) #[] #[],.nilFunc,.nilFunc,.nilFunc,.nilFunc,.nilFunc,.nilFunc],.int .i64 k] W0 fun e w'=>∃v,e=.returned v∧Hid (qAm w' v (qAy c k))∧Hid (Below W0.heap.size W0 w')):=qIi hC hG0 hM0 hn 69 (.inl ⟨ho,rfl⟩)
 have HLk:Hid (∀V v,qAm V v (qAy c k)→Calls Tryz.prog 28 #[v,.func (.func 41) #[] #[]] V fun e w'=>e=.returned (.bool false)∧Hid (Below V.heap.size V w')):=fun V v hv=>qDp c v _ V hv hok.out
 have hki:(k:Int)<(c.length:Int):=by omega
 have hk0:(0:Int)≤(k:Int):=by omega
 rw[ho] at q0
 obtain⟨xss,hxs⟩:∃x,x=qAy c k:=⟨_,rfl⟩
 rw[←hxs] at HF HLk ⊢
 have qF:=qIh
 have qN:=qDe
 have hA0:=hW0.symm
 clear hW0 hbx hn hM hM0 hG hG0 hC hB0' hxs hok
 go_enter Tryz.func27,Tryz.ntmps27
 go_wp2_with (first
  | (go_at_call 28;refine(HLk.out _ _ HR1b.out).mono ?_;rintro e w2 ⟨rfl,HB2⟩)
  | (go_at_call 69;refine HF.out.mono ?_;rintro e w1 ⟨v1,rfl,HR1b,HB1⟩;obtain⟨rs1,ra1,rc1,rfl,_⟩:=HR1b.out))
 go_ret2
 exact⟨_,rfl,HR1b.out.below HB2.out,(HB0.out.trans (HB1.out.mono HB0.out.size)).trans (HB2.out.mono (HB0.out.trans (HB1.out.mono HB0.out.size)).size)⟩
set_option maxHeartbeats 8000000 in
theorem zB6 (c:List NodeA) (hC:Cl c) (a:Option Addr) (ca:Nat) (la:Option Addr) (k:Nat) (n:NodeA) (w:World) (hG:GT w) (hM:MkrR w c a ca la) (hn:c[k]? = some n) (ho:n.op=2) :
  Calls Tryz.prog 27 #[.agg #[.slice a c.length ca,.slice la c.length c.length,.func (.func 69) #[] #[],.nilFunc,.func (.func 70) #[] #[],.func (.func 71) #[] #[],.nilFunc,.nilFunc,.func (.func 72) #[] #[],.func (.func 73) #[] #[],.nilFunc,.nilFunc,.nilFunc,.nilFunc,.nilFunc,.nilFunc],.int .i64 k] w fun e w'=>∃v,e=.returned (.tuple #[v,.int .i64 0])∧Hid (qAm w' v (qAy c k))∧Hid (Below w.heap.size w w'):=by
 have hkc:k<c.length:=(List.getElem?_eq_some_iff.1 hn).1
 have hok:=Lib.hid (qCm hC hkc)
 obtain⟨W0,hW0⟩:∃W0,W0=w.alloc (.cells #[.slice a c.length ca,.slice la c.length c.length,.func (.func 69) #[] #[],.nilFunc,.func (.func 70) #[] #[],.func (.func 71) #[] #[],.nilFunc,.nilFunc,.func (.func 72) #[] #[],.func (.func 73) #[] #[],.nilFunc,.nilFunc,.nilFunc,.nilFunc,.nilFunc,.nilFunc] 85):=⟨_,rfl⟩
 obtain⟨hB0',hbx,hbz⟩:=qAu hW0
 have hM0:=hM.below hB0'
 have hG0:=hG.below hB0'
 have HB0:Hid (Below w.heap.size w W0):=hB0'
 obtain⟨g,o,rfl,hg,q0,q1,q2,q3,q4,q5,q6,q7⟩:=hM0.tab.node hn
 have b0:W0.cell? ⟨w.heap.size,0,none⟩=some (.slice (some ⟨g,o,none⟩) c.length ca):=(cell_of_row _ _ 0 _ _ _ hbx).trans rfl
 have b1:W0.cell? ⟨w.heap.size,1,none⟩=some (.slice la c.length c.length):=(cell_of_row _ _ 1 _ _ _ hbx).trans rfl
 have b2:W0.cell? ⟨w.heap.size,2,none⟩=some (.func (.func 69) #[] #[]):=(cell_of_row _ _ 2 _ _ _ hbx).trans rfl
 have b3:W0.cell? ⟨w.heap.size,3,none⟩=some (.nilFunc):=(cell_of_row _ _ 3 _ _ _ hbx).trans rfl
 have b4:W0.cell? ⟨w.heap.size,4,none⟩=some (.func (.func 70) #[] #[]):=(cell_of_row _ _ 4 _ _ _ hbx).trans rfl
 have b5:W0.cell? ⟨w.heap.size,5,none⟩=some (.func (.func 71) #[] #[]):=(cell_of_row _ _ 5 _ _ _ hbx).trans rfl
 have b6:W0.cell? ⟨w.heap.size,6,none⟩=some (.nilFunc):=(cell_of_row _ _ 6 _ _ _ hbx).trans rfl
 have b7:W0.cell? ⟨w.heap.size,7,none⟩=some (.nilFunc):=(cell_of_row _ _ 7 _ _ _ hbx).trans rfl
 have b8:W0.cell? ⟨w.heap.size,8,none⟩=some (.func (.func 72) #[] #[]):=(cell_of_row _ _ 8 _ _ _ hbx).trans rfl
 have b9:W0.cell? ⟨w.heap.size,9,none⟩=some (.func (.func 73) #[] #[]):=(cell_of_row _ _ 9 _ _ _ hbx).trans rfl
 have b10:W0.cell? ⟨w.heap.size,10,none⟩=some (.nilFunc):=(cell_of_row _ _ 10 _ _ _ hbx).trans rfl
 have b11:W0.cell? ⟨w.heap.size,11,none⟩=some (.nilFunc):=(cell_of_row _ _ 11 _ _ _ hbx).trans rfl
 have b12:W0.cell? ⟨w.heap.size,12,none⟩=some (.nilFunc):=(cell_of_row _ _ 12 _ _ _ hbx).trans rfl
 have b13:W0.cell? ⟨w.heap.size,13,none⟩=some (.nilFunc):=(cell_of_row _ _ 13 _ _ _ hbx).trans rfl
 have b14:W0.cell? ⟨w.heap.size,14,none⟩=some (.nilFunc):=(cell_of_row _ _ 14 _ _ _ hbx).trans rfl
 have b15:W0.cell? ⟨w.heap.size,15,none⟩=some (.nilFunc):=(cell_of_row _ _ 15 _ _ _ hbx).trans rfl
 have HF:Hid (Calls Tryz.prog 70 #[.agg #[.slice (some ⟨g,o,none⟩) c.length ca,.slice la c.length c.length,.func (.func 69) #[] #[],.nilFunc,.func (.func 70) #[] #[],.func (.func 71) #[] #[],.nilFunc,.nilFunc,.func (.func 72) #[] #[],.func (.func 73) #[] #[],.nilFunc,.nilFunc,.nilFunc,.nilFunc,.nilFunc,.nilFunc],.int .i64 k] W0 fun e w'=>∃v,e=.returned v∧Hid (qAm w' v (qAy c k))∧Hid (Below W0.heap.size W0 w')):=qIi hC hG0 hM0 hn 70 (.inr (.inl ⟨ho,rfl⟩))
 have HLk:Hid (∀V v,qAm V v (qAy c k)→Calls Tryz.prog 28 #[v,.func (.func 41) #[] #[]] V fun e w'=>e=.returned (.bool false)∧Hid (Below V.heap.size V w')):=fun V v hv=>qDp c v _ V hv hok.out
 have hki:(k:Int)<(c.length:Int):=by omega
 have hk0:(0:Int)≤(k:Int):=by omega
 rw[ho] at q0
 obtain⟨xss,hxs⟩:∃x,x=qAy c k:=⟨_,rfl⟩
 rw[←hxs] at HF HLk ⊢
 have qF:=qIh
 have qN:=qDe
 have hA0:=hW0.symm
 clear hW0 hbx hn hM hM0 hG hG0 hC hB0' hxs hok
 go_enter Tryz.func27,Tryz.ntmps27
 go_wp2_with (first
  | (go_at_call 28;refine(HLk.out _ _ HR1b.out).mono ?_;rintro e w2 ⟨rfl,HB2⟩)
  | (go_at_call 70;refine HF.out.mono ?_;rintro e w1 ⟨v1,rfl,HR1b,HB1⟩;obtain⟨rs1,ra1,rc1,rfl,_⟩:=HR1b.out))
 go_ret2
 exact⟨_,rfl,HR1b.out.below HB2.out,(HB0.out.trans (HB1.out.mono HB0.out.size)).trans (HB2.out.mono (HB0.out.trans (HB1.out.mono HB0.out.size)).size)⟩
set_option maxHeartbeats 8000000 in
theorem zCu (c:List NodeA) (hC:Cl c) (a:Option Addr) (ca:Nat) (la:Option Addr) (k:Nat) (n:NodeA) (w:World) (hG:GT w) (hM:MkrR w c a ca la) (hn:c[k]? = some n) (ho:n.op=3) :
  Calls Tryz.prog 27 #[.agg #[.slice a c.length ca,.slice la c.length c.length,.func (.func 69) #[] #[],.nilFunc,.func (.func 70) #[] #[],.func (.func 71) #[] #[],.nilFunc,.nilFunc,.func (.func 72) #[] #[],.func (.func 73) #[] #[],.nilFunc,.nilFunc,.nilFunc,.nilFunc,.nilFunc,.nilFunc],.int .i64 k] w fun e w'=>∃v,e=.returned (.tuple #[v,.int .i64 0])∧Hid (qAm w' v (qAy c k))∧Hid (Below w.heap.size w w'):=by
 have hkc:k<c.length:=(List.getElem?_eq_some_iff.1 hn).1
 have hok:=Lib.hid (qCm hC hkc)
 obtain⟨W0,hW0⟩:∃W0,W0=w.alloc (.cells #[.slice a c.length ca,.slice la c.length c.length,.func (.func 69) #[] #[],.nilFunc,.func (.func 70) #[] #[],.func (.func 71) #[] #[],.nilFunc,.nilFunc,.func (.func 72) #[] #[],.func (.func 73) #[] #[],.nilFunc,.nilFunc,.nilFunc,.nilFunc,.nilFunc,.nilFunc] 85):=⟨_,rfl⟩
 obtain⟨hB0',hbx,hbz⟩:=qAu hW0
 have hM0:=hM.below hB0'
 have hG0:=hG.below hB0'
 have HB0:Hid (Below w.heap.size w W0):=hB0'
 obtain⟨g,o,rfl,hg,q0,q1,q2,q3,q4,q5,q6,q7⟩:=hM0.tab.node hn
 have b0:W0.cell? ⟨w.heap.size,0,none⟩=some (.slice (some ⟨g,o,none⟩) c.length ca):=(cell_of_row _ _ 0 _ _ _ hbx).trans rfl
 have b1:W0.cell? ⟨w.heap.size,1,none⟩=some (.slice la c.length c.length):=(cell_of_row _ _ 1 _ _ _ hbx).trans rfl
 have b2:W0.cell? ⟨w.heap.size,2,none⟩=some (.func (.func 69) #[] #[]):=(cell_of_row _ _ 2 _ _ _ hbx).trans rfl
 have b3:W0.cell? ⟨w.heap.size,3,none⟩=some (.nilFunc):=(cell_of_row _ _ 3 _ _ _ hbx).trans rfl
 have b4:W0.cell? ⟨w.heap.size,4,none⟩=some (.func (.func 70) #[] #[]):=(cell_of_row _ _ 4 _ _ _ hbx).trans rfl
 have b5:W0.cell? ⟨w.heap.size,5,none⟩=some (.func (.func 71) #[] #[]):=(cell_of_row _ _ 5 _ _ _ hbx).trans rfl
 have b6:W0.cell? ⟨w.heap.size,6,none⟩=some (.nilFunc):=(cell_of_row _ _ 6 _ _ _ hbx).trans rfl
 have b7:W0.cell? ⟨w.heap.size,7,none⟩=some (.nilFunc):=(cell_of_row _ _ 7 _ _ _ hbx).trans rfl
 have b8:W0.cell? ⟨w.heap.size,8,none⟩=some (.func (.func 72) #[] #[]):=(cell_of_row _ _ 8 _ _ _ hbx).trans rfl
 have b9:W0.cell? ⟨w.heap.size,9,none⟩=some (.func (.func 73) #[] #[]):=(cell_of_row _ _ 9 _ _ _ hbx).trans rfl
 have b10:W0.cell? ⟨w.heap.size,10,none⟩=some (.nilFunc):=(cell_of_row _ _ 10 _ _ _ hbx).trans rfl
 have b11:W0.cell? ⟨w.heap.size,11,none⟩=some (.nilFunc):=(cell_of_row _ _ 11 _ _ _ hbx).trans rfl
 have b12:W0.cell? ⟨w.heap.size,12,none⟩=some (.nilFunc):=(cell_of_row _ _ 12 _ _ _ hbx).trans rfl
 have b13:W0.cell? ⟨w.heap.size,13,none⟩=some (.nilFunc):=(cell_of_row _ _ 13 _ _ _ hbx).trans rfl
 have b14:W0.cell? ⟨w.heap.size,14,none⟩=some (.nilFunc):=(cell_of_row _ _ 14 _ _ _ hbx).trans rfl
 have b15:W0.cell? ⟨w.heap.size,15,none⟩=some (.nilFunc):=(cell_of_row _ _ 15 _ _ _ hbx).trans rfl
 have HF:Hid (Calls Tryz.prog 71 #[.agg #[.slice (some ⟨g,o,none⟩) c.length ca,.slice la c.length c.length,.func (.func 69) #[] #[],.nilFunc,.func (.func 70) #[] #[],.func (.func 71) #[] #[],.nilFunc,.nilFunc,.func (.func 72) #[] #[],.func (.func 73) #[] #[],.nilFunc,.nilFunc,.nilFunc,.nilFunc,.nilFunc,.nilFunc],.int .i64 k] W0 fun e w'=>∃v,e=.returned v∧Hid (qAm w' v (qAy c k))∧Hid (Below W0.heap.size W0 w')):=qIi hC hG0 hM0 hn 71 (.inr (.inr (.inl ⟨ho,rfl⟩)))
 have HLk:Hid (∀V v,qAm V v (qAy c k)→Calls Tryz.prog 28 #[v,.func (.func 41) #[] #[]] V fun e w'=>e=.returned (.bool false)∧Hid (Below V.heap.size V w')):=fun V v hv=>qDp c v _ V hv hok.out
 have hki:(k:Int)<(c.length:Int):=by omega
 have hk0:(0:Int)≤(k:Int):=by omega
 rw[ho] at q0
 obtain⟨xss,hxs⟩:∃x,x=qAy c k:=⟨_,rfl⟩
 rw[←hxs] at HF HLk ⊢
 have qF:=qIh
 have qN:=qDe
 have hA0:=hW0.symm
 clear hW0 hbx hn hM hM0 hG hG0 hC hB0' hxs hok
 go_enter Tryz.func27,Tryz.ntmps27
 go_wp2_with (first
  | (go_at_call 28;refine(HLk.out _ _ HR1b.out).mono ?_;rintro e w2 ⟨rfl,HB2⟩)
  | (go_at_call 71;refine HF.out.mono ?_;rintro e w1 ⟨v1,rfl,HR1b,HB1⟩;obtain⟨rs1,ra1,rc1,rfl,_⟩:=HR1b.out))
 go_ret2
 exact⟨_,rfl,HR1b.out.below HB2.out,(HB0.out.trans (HB1.out.mono HB0.out.size)).trans (HB2.out.mono (HB0.out.trans (HB1.out.mono HB0.out.size)).size)⟩
set_option maxHeartbeats 8000000 in
theorem qUe (c:List NodeA) (hC:Cl c) (a:Option Addr) (ca:Nat) (la:Option Addr) (k:Nat) (n:NodeA) (w:World) (hG:GT w) (hM:MkrR w c a ca la) (hn:c[k]? = some n) (ho:n.op=6) :
  Calls Tryz.prog 27 #[.agg #[.slice a c.length ca,.slice la c.length c.length,.func (.func 69) #[] #[],.nilFunc,.func (.func 70) #[] #[],.func (.func 71) #[] #[],.nilFunc,.nilFunc,.func (.func 72) #[] #[],.func (.func 73) #[] #[],.nilFunc,.nilFunc,.nilFunc,.nilFunc,.nilFunc,.nilFunc],.int .i64 k] w fun e w'=>∃v,e=.returned (.tuple #[v,.int .i64 0])∧Hid (qAm w' v (qAy c k))∧Hid (Below w.heap.size w w'):=by
 have hkc:k<c.length:=(List.getElem?_eq_some_iff.1 hn).1
 have hok:=Lib.hid (qCm hC hkc)
 obtain⟨W0,hW0⟩:∃W0,W0=w.alloc (.cells #[.slice a c.length ca,.slice la c.length c.length,.func (.func 69) #[] #[],.nilFunc,.func (.func 70) #[] #[],.func (.func 71) #[] #[],.nilFunc,.nilFunc,.func (.func 72) #[] #[],.func (.func 73) #[] #[],.nilFunc,.nilFunc,.nilFunc,.nilFunc,.nilFunc,.nilFunc] 85):=⟨_,rfl⟩
 obtain⟨hB0',hbx,hbz⟩:=qAu hW0
 have hM0:=hM.below hB0'
 have hG0:=hG.below hB0'
 have HB0:Hid (Below w.heap.size w W0):=hB0'
 obtain⟨g,o,rfl,hg,q0,q1,q2,q3,q4,q5,q6,q7⟩:=hM0.tab.node hn
 have b0:W0.cell? ⟨w.heap.size,0,none⟩=some (.slice (some ⟨g,o,none⟩) c.length ca):=(cell_of_row _ _ 0 _ _ _ hbx).trans rfl
 have b1:W0.cell? ⟨w.heap.size,1,none⟩=some (.slice la c.length c.length):=(cell_of_row _ _ 1 _ _ _ hbx).trans rfl
 have b2:W0.cell? ⟨w.heap.size,2,none⟩=some (.func (.func 69) #[] #[]):=(cell_of_row _ _ 2 _ _ _ hbx).trans rfl
 have b3:W0.cell? ⟨w.heap.size,3,none⟩=some (.nilFunc):=(cell_of_row _ _ 3 _ _ _ hbx).trans rfl
 have b4:W0.cell? ⟨w.heap.size,4,none⟩=some (.func (.func 70) #[] #[]):=(cell_of_row _ _ 4 _ _ _ hbx).trans rfl
 have b5:W0.cell? ⟨w.heap.size,5,none⟩=some (.func (.func 71) #[] #[]):=(cell_of_row _ _ 5 _ _ _ hbx).trans rfl
 have b6:W0.cell? ⟨w.heap.size,6,none⟩=some (.nilFunc):=(cell_of_row _ _ 6 _ _ _ hbx).trans rfl
 have b7:W0.cell? ⟨w.heap.size,7,none⟩=some (.nilFunc):=(cell_of_row _ _ 7 _ _ _ hbx).trans rfl
 have b8:W0.cell? ⟨w.heap.size,8,none⟩=some (.func (.func 72) #[] #[]):=(cell_of_row _ _ 8 _ _ _ hbx).trans rfl
 have b9:W0.cell? ⟨w.heap.size,9,none⟩=some (.func (.func 73) #[] #[]):=(cell_of_row _ _ 9 _ _ _ hbx).trans rfl
 have b10:W0.cell? ⟨w.heap.size,10,none⟩=some (.nilFunc):=(cell_of_row _ _ 10 _ _ _ hbx).trans rfl
 have b11:W0.cell? ⟨w.heap.size,11,none⟩=some (.nilFunc):=(cell_of_row _ _ 11 _ _ _ hbx).trans rfl
 have b12:W0.cell? ⟨w.heap.size,12,none⟩=some (.nilFunc):=(cell_of_row _ _ 12 _ _ _ hbx).trans rfl
 have b13:W0.cell? ⟨w.heap.size,13,none⟩=some (.nilFunc):=(cell_of_row _ _ 13 _ _ _ hbx).trans rfl
 have b14:W0.cell? ⟨w.heap.size,14,none⟩=some (.nilFunc):=(cell_of_row _ _ 14 _ _ _ hbx).trans rfl
 have b15:W0.cell? ⟨w.heap.size,15,none⟩=some (.nilFunc):=(cell_of_row _ _ 15 _ _ _ hbx).trans rfl
 have HF:Hid (Calls Tryz.prog 72 #[.agg #[.slice (some ⟨g,o,none⟩) c.length ca,.slice la c.length c.length,.func (.func 69) #[] #[],.nilFunc,.func (.func 70) #[] #[],.func (.func 71) #[] #[],.nilFunc,.nilFunc,.func (.func 72) #[] #[],.func (.func 73) #[] #[],.nilFunc,.nilFunc,.nilFunc,.nilFunc,.nilFunc,.nilFunc],.int .i64 k] W0 fun e w'=>∃v,e=.returned v∧Hid (qAm w' v (qAy c k))∧Hid (Below W0.heap.size W0 w')):=qIi hC hG0 hM0 hn 72 (.inr (.inr (.inr (.inl ⟨ho,rfl⟩))))
 have HLk:Hid (∀V v,qAm V v (qAy c k)→Calls Tryz.prog 28 #[v,.func (.func 41) #[] #[]] V fun e w'=>e=.returned (.bool false)∧Hid (Below V.heap.size V w')):=fun V v hv=>qDp c v _ V hv hok.out
 have hki:(k:Int)<(c.length:Int):=by omega
 have hk0:(0:Int)≤(k:Int):=by omega
 rw[ho] at q0
 obtain⟨xss,hxs⟩:∃x,x=qAy c k:=⟨_,rfl⟩
 rw[←hxs] at HF HLk ⊢
 have qF:=qIh
 have qN:=qDe
 have hA0:=hW0.symm
 clear hW0 hbx hn hM hM0 hG hG0 hC hB0' hxs hok
 go_enter Tryz.func27,Tryz.ntmps27
 go_wp2_with (first
  | (go_at_call 28;refine(HLk.out _ _ HR1b.out).mono ?_;rintro e w2 ⟨rfl,HB2⟩)
  | (go_at_call 72;refine HF.out.mono ?_;rintro e w1 ⟨v1,rfl,HR1b,HB1⟩;obtain⟨rs1,ra1,rc1,rfl,_⟩:=HR1b.out))
 go_ret2
 exact⟨_,rfl,HR1b.out.below HB2.out,(HB0.out.trans (HB1.out.mono HB0.out.size)).trans (HB2.out.mono (HB0.out.trans (HB1.out.mono HB0.out.size)).size)⟩
set_option maxHeartbeats 8000000 in
theorem zB7 (c:List NodeA) (hC:Cl c) (a:Option Addr) (ca:Nat) (la:Option Addr) (k:Nat) (n:NodeA) (w:World) (hG:GT w) (hM:MkrR w c a ca la) (hn:c[k]? = some n) (ho:n.op=7) :
  Calls Tryz.prog 27 #[.agg #[.slice a c.length ca,.slice la c.length c.length,.func (.func 69) #[] #[],.nilFunc,.func (.func 70) #[] #[],.func (.func 71) #[] #[],.nilFunc,.nilFunc,.func (.func 72) #[] #[],.func (.func 73) #[] #[],.nilFunc,.nilFunc,.nilFunc,.nilFunc,.nilFunc,.nilFunc],.int .i64 k] w fun e w'=>∃v,e=.returned (.tuple #[v,.int .i64 0])∧Hid (qAm w' v (qAy c k))∧Hid (Below w.heap.size w w'):=by
 have hkc:k<c.length:=(List.getElem?_eq_some_iff.1 hn).1
 have hok:=Lib.hid (qCm hC hkc)
 obtain⟨W0,hW0⟩:∃W0,W0=w.alloc (.cells #[.slice a c.length ca,.slice la c.length c.length,.func (.func 69) #[] #[],.nilFunc,.func (.func 70) #[] #[],.func (.func 71) #[] #[],.nilFunc,.nilFunc,.func (.func 72) #[] #[],.func (.func 73) #[] #[],.nilFunc,.nilFunc,.nilFunc,.nilFunc,.nilFunc,.nilFunc] 85):=⟨_,rfl⟩
 obtain⟨hB0',hbx,hbz⟩:=qAu hW0
 have hM0:=hM.below hB0'
 have hG0:=hG.below hB0'
 have HB0:Hid (Below w.heap.size w W0):=hB0'
 obtain⟨g,o,rfl,hg,q0,q1,q2,q3,q4,q5,q6,q7⟩:=hM0.tab.node hn
 have b0:W0.cell? ⟨w.heap.size,0,none⟩=some (.slice (some ⟨g,o,none⟩) c.length ca):=(cell_of_row _ _ 0 _ _ _ hbx).trans rfl
 have b1:W0.cell? ⟨w.heap.size,1,none⟩=some (.slice la c.length c.length):=(cell_of_row _ _ 1 _ _ _ hbx).trans rfl
 have b2:W0.cell? ⟨w.heap.size,2,none⟩=some (.func (.func 69) #[] #[]):=(cell_of_row _ _ 2 _ _ _ hbx).trans rfl
 have b3:W0.cell? ⟨w.heap.size,3,none⟩=some (.nilFunc):=(cell_of_row _ _ 3 _ _ _ hbx).trans rfl
 have b4:W0.cell? ⟨w.heap.size,4,none⟩=some (.func (.func 70) #[] #[]):=(cell_of_row _ _ 4 _ _ _ hbx).trans rfl
 have b5:W0.cell? ⟨w.heap.size,5,none⟩=some (.func (.func 71) #[] #[]):=(cell_of_row _ _ 5 _ _ _ hbx).trans rfl
 have b6:W0.cell? ⟨w.heap.size,6,none⟩=some (.nilFunc):=(cell_of_row _ _ 6 _ _ _ hbx).trans rfl
 have b7:W0.cell? ⟨w.heap.size,7,none⟩=some (.nilFunc):=(cell_of_row _ _ 7 _ _ _ hbx).trans rfl
 have b8:W0.cell? ⟨w.heap.size,8,none⟩=some (.func (.func 72) #[] #[]):=(cell_of_row _ _ 8 _ _ _ hbx).trans rfl
 have b9:W0.cell? ⟨w.heap.size,9,none⟩=some (.func (.func 73) #[] #[]):=(cell_of_row _ _ 9 _ _ _ hbx).trans rfl
 have b10:W0.cell? ⟨w.heap.size,10,none⟩=some (.nilFunc):=(cell_of_row _ _ 10 _ _ _ hbx).trans rfl
 have b11:W0.cell? ⟨w.heap.size,11,none⟩=some (.nilFunc):=(cell_of_row _ _ 11 _ _ _ hbx).trans rfl
 have b12:W0.cell? ⟨w.heap.size,12,none⟩=some (.nilFunc):=(cell_of_row _ _ 12 _ _ _ hbx).trans rfl
 have b13:W0.cell? ⟨w.heap.size,13,none⟩=some (.nilFunc):=(cell_of_row _ _ 13 _ _ _ hbx).trans rfl
 have b14:W0.cell? ⟨w.heap.size,14,none⟩=some (.nilFunc):=(cell_of_row _ _ 14 _ _ _ hbx).trans rfl
 have b15:W0.cell? ⟨w.heap.size,15,none⟩=some (.nilFunc):=(cell_of_row _ _ 15 _ _ _ hbx).trans rfl
 have HF:Hid (Calls Tryz.prog 73 #[.agg #[.slice (some ⟨g,o,none⟩) c.length ca,.slice la c.length c.length,.func (.func 69) #[] #[],.nilFunc,.func (.func 70) #[] #[],.func (.func 71) #[] #[],.nilFunc,.nilFunc,.func (.func 72) #[] #[],.func (.func 73) #[] #[],.nilFunc,.nilFunc,.nilFunc,.nilFunc,.nilFunc,.nilFunc],.int .i64 k] W0 fun e w'=>∃v,e=.returned v∧Hid (qAm w' v (qAy c k))∧Hid (Below W0.heap.size W0 w')):=qIi hC hG0 hM0 hn 73 (.inr (.inr (.inr (.inr (⟨ho,rfl⟩)))))
 have HLk:Hid (∀V v,qAm V v (qAy c k)→Calls Tryz.prog 28 #[v,.func (.func 41) #[] #[]] V fun e w'=>e=.returned (.bool false)∧Hid (Below V.heap.size V w')):=fun V v hv=>qDp c v _ V hv hok.out
 have hki:(k:Int)<(c.length:Int):=by omega
 have hk0:(0:Int)≤(k:Int):=by omega
 rw[ho] at q0
 obtain⟨xss,hxs⟩:∃x,x=qAy c k:=⟨_,rfl⟩
 rw[←hxs] at HF HLk ⊢
 have qF:=qIh
 have qN:=qDe
 have hA0:=hW0.symm
 clear hW0 hbx hn hM hM0 hG hG0 hC hB0' hxs hok
 go_enter Tryz.func27,Tryz.ntmps27
 go_wp2_with (first
  | (go_at_call 28;refine(HLk.out _ _ HR1b.out).mono ?_;rintro e w2 ⟨rfl,HB2⟩)
  | (go_at_call 73;refine HF.out.mono ?_;rintro e w1 ⟨v1,rfl,HR1b,HB1⟩;obtain⟨rs1,ra1,rc1,rfl,_⟩:=HR1b.out))
 go_ret2
 exact⟨_,rfl,HR1b.out.below HB2.out,(HB0.out.trans (HB1.out.mono HB0.out.size)).trans (HB2.out.mono (HB0.out.trans (HB1.out.mono HB0.out.size)).size)⟩
set_option maxHeartbeats 8000000 in
theorem qYb (c:List NodeA) (hC:Cl c) (a:Option Addr) (ca:Nat) (la:Option Addr) (k:Nat) (n:NodeA) (w:World) (hG:GT w) (hM:MkrR w c a ca la) (hn:c[k]? = some n) (ho:n.op=1) :
  Calls Tryz.prog 27 #[.agg #[.slice a c.length ca,.slice la c.length c.length,.func (.func 69) #[] #[],.nilFunc,.func (.func 70) #[] #[],.func (.func 71) #[] #[],.nilFunc,.nilFunc,.func (.func 72) #[] #[],.func (.func 73) #[] #[],.nilFunc,.nilFunc,.nilFunc,.nilFunc,.nilFunc,.nilFunc],.int .i64 k] w fun e w'=>∃v,e=.returned (.tuple #[v,.int .i64 0])∧Hid (qAm w' v (qAy c k))∧Hid (Below w.heap.size w w'):=by
 have hkc:k<c.length:=(List.getElem?_eq_some_iff.1 hn).1
 have hok:=Lib.hid (qCm hC hkc)
 obtain⟨W0,hW0⟩:∃W0,W0=w.alloc (.cells #[.slice a c.length ca,.slice la c.length c.length,.func (.func 69) #[] #[],.nilFunc,.func (.func 70) #[] #[],.func (.func 71) #[] #[],.nilFunc,.nilFunc,.func (.func 72) #[] #[],.func (.func 73) #[] #[],.nilFunc,.nilFunc,.nilFunc,.nilFunc,.nilFunc,.nilFunc] 85):=⟨_,rfl⟩
 obtain⟨hB0',hbx,hbz⟩:=qAu hW0
 have hM0:=hM.below hB0'
 have hG0:=hG.below hB0'
 have HB0:Hid (Below w.heap.size w W0):=hB0'
 obtain⟨g,o,rfl,hg,q0,q1,q2,q3,q4,q5,q6,q7⟩:=hM0.tab.node hn
 have b0:W0.cell? ⟨w.heap.size,0,none⟩=some (.slice (some ⟨g,o,none⟩) c.length ca):=(cell_of_row _ _ 0 _ _ _ hbx).trans rfl
 have b1:W0.cell? ⟨w.heap.size,1,none⟩=some (.slice la c.length c.length):=(cell_of_row _ _ 1 _ _ _ hbx).trans rfl
 have b2:W0.cell? ⟨w.heap.size,2,none⟩=some (.func (.func 69) #[] #[]):=(cell_of_row _ _ 2 _ _ _ hbx).trans rfl
 have b3:W0.cell? ⟨w.heap.size,3,none⟩=some (.nilFunc):=(cell_of_row _ _ 3 _ _ _ hbx).trans rfl
 have b4:W0.cell? ⟨w.heap.size,4,none⟩=some (.func (.func 70) #[] #[]):=(cell_of_row _ _ 4 _ _ _ hbx).trans rfl
 have b5:W0.cell? ⟨w.heap.size,5,none⟩=some (.func (.func 71) #[] #[]):=(cell_of_row _ _ 5 _ _ _ hbx).trans rfl
 have b6:W0.cell? ⟨w.heap.size,6,none⟩=some (.nilFunc):=(cell_of_row _ _ 6 _ _ _ hbx).trans rfl
 have b7:W0.cell? ⟨w.heap.size,7,none⟩=some (.nilFunc):=(cell_of_row _ _ 7 _ _ _ hbx).trans rfl
 have b8:W0.cell? ⟨w.heap.size,8,none⟩=some (.func (.func 72) #[] #[]):=(cell_of_row _ _ 8 _ _ _ hbx).trans rfl
 have b9:W0.cell? ⟨w.heap.size,9,none⟩=some (.func (.func 73) #[] #[]):=(cell_of_row _ _ 9 _ _ _ hbx).trans rfl
 have b10:W0.cell? ⟨w.heap.size,10,none⟩=some (.nilFunc):=(cell_of_row _ _ 10 _ _ _ hbx).trans rfl
 have b11:W0.cell? ⟨w.heap.size,11,none⟩=some (.nilFunc):=(cell_of_row _ _ 11 _ _ _ hbx).trans rfl
 have b12:W0.cell? ⟨w.heap.size,12,none⟩=some (.nilFunc):=(cell_of_row _ _ 12 _ _ _ hbx).trans rfl
 have b13:W0.cell? ⟨w.heap.size,13,none⟩=some (.nilFunc):=(cell_of_row _ _ 13 _ _ _ hbx).trans rfl
 have b14:W0.cell? ⟨w.heap.size,14,none⟩=some (.nilFunc):=(cell_of_row _ _ 14 _ _ _ hbx).trans rfl
 have b15:W0.cell? ⟨w.heap.size,15,none⟩=some (.nilFunc):=(cell_of_row _ _ 15 _ _ _ hbx).trans rfl
 have hki:(k:Int)<(c.length:Int):=by omega
 have hk0:(0:Int)≤(k:Int):=by omega
 rw[qIj hn (by rw[ho];decide)]
 rw[ho] at q0
 have qN:=qDe
 have hA0:=hW0.symm
 clear hW0 hbx hn hM hM0 hG hG0 hC hB0' hok
 go_enter Tryz.func27,Tryz.ntmps27
 go_wp2
 go_ret2
 exact⟨_,rfl,qF7 _,HB0.out⟩
set_option maxHeartbeats 8000000 in
theorem qUf (c:List NodeA) (hC:Cl c) (a:Option Addr) (ca:Nat) (la:Option Addr) (k:Nat) (n:NodeA) (w:World) (hG:GT w) (hM:MkrR w c a ca la) (hn:c[k]? = some n) (ho:n.op=10) :
  Calls Tryz.prog 27 #[.agg #[.slice a c.length ca,.slice la c.length c.length,.func (.func 69) #[] #[],.nilFunc,.func (.func 70) #[] #[],.func (.func 71) #[] #[],.nilFunc,.nilFunc,.func (.func 72) #[] #[],.func (.func 73) #[] #[],.nilFunc,.nilFunc,.nilFunc,.nilFunc,.nilFunc,.nilFunc],.int .i64 k] w fun e w'=>∃v,e=.returned (.tuple #[v,.int .i64 0])∧Hid (qAm w' v (qAy c k))∧Hid (Below w.heap.size w w'):=by
 have hkc:k<c.length:=(List.getElem?_eq_some_iff.1 hn).1
 have hok:=Lib.hid (qCm hC hkc)
 obtain⟨W0,hW0⟩:∃W0,W0=w.alloc (.cells #[.slice a c.length ca,.slice la c.length c.length,.func (.func 69) #[] #[],.nilFunc,.func (.func 70) #[] #[],.func (.func 71) #[] #[],.nilFunc,.nilFunc,.func (.func 72) #[] #[],.func (.func 73) #[] #[],.nilFunc,.nilFunc,.nilFunc,.nilFunc,.nilFunc,.nilFunc] 85):=⟨_,rfl⟩
 obtain⟨hB0',hbx,hbz⟩:=qAu hW0
 have hM0:=hM.below hB0'
 have hG0:=hG.below hB0'
 have HB0:Hid (Below w.heap.size w W0):=hB0'
 obtain⟨g,o,rfl,hg,q0,q1,q2,q3,q4,q5,q6,q7⟩:=hM0.tab.node hn
 have b0:W0.cell? ⟨w.heap.size,0,none⟩=some (.slice (some ⟨g,o,none⟩) c.length ca):=(cell_of_row _ _ 0 _ _ _ hbx).trans rfl
 have b1:W0.cell? ⟨w.heap.size,1,none⟩=some (.slice la c.length c.length):=(cell_of_row _ _ 1 _ _ _ hbx).trans rfl
 have b2:W0.cell? ⟨w.heap.size,2,none⟩=some (.func (.func 69) #[] #[]):=(cell_of_row _ _ 2 _ _ _ hbx).trans rfl
 have b3:W0.cell? ⟨w.heap.size,3,none⟩=some (.nilFunc):=(cell_of_row _ _ 3 _ _ _ hbx).trans rfl
 have b4:W0.cell? ⟨w.heap.size,4,none⟩=some (.func (.func 70) #[] #[]):=(cell_of_row _ _ 4 _ _ _ hbx).trans rfl
 have b5:W0.cell? ⟨w.heap.size,5,none⟩=some (.func (.func 71) #[] #[]):=(cell_of_row _ _ 5 _ _ _ hbx).trans rfl
 have b6:W0.cell? ⟨w.heap.size,6,none⟩=some (.nilFunc):=(cell_of_row _ _ 6 _ _ _ hbx).trans rfl
 have b7:W0.cell? ⟨w.heap.size,7,none⟩=some (.nilFunc):=(cell_of_row _ _ 7 _ _ _ hbx).trans rfl
 have b8:W0.cell? ⟨w.heap.size,8,none⟩=some (.func (.func 72) #[] #[]):=(cell_of_row _ _ 8 _ _ _ hbx).trans rfl
 have b9:W0.cell? ⟨w.heap.size,9,none⟩=some (.func (.func 73) #[] #[]):=(cell_of_row _ _ 9 _ _ _ hbx).trans rfl
 have b10:W0.cell? ⟨w.heap.size,10,none⟩=some (.nilFunc):=(cell_of_row _ _ 10 _ _ _ hbx).trans rfl
 have b11:W0.cell? ⟨w.heap.size,11,none⟩=some (.nilFunc):=(cell_of_row _ _ 11 _ _ _ hbx).trans rfl
 have b12:W0.cell? ⟨w.heap.size,12,none⟩=some (.nilFunc):=(cell_of_row _ _ 12 _ _ _ hbx).trans rfl
 have b13:W0.cell? ⟨w.heap.size,13,none⟩=some (.nilFunc):=(cell_of_row _ _ 13 _ _ _ hbx).trans rfl
 have b14:W0.cell? ⟨w.heap.size,14,none⟩=some (.nilFunc):=(cell_of_row _ _ 14 _ _ _ hbx).trans rfl
 have b15:W0.cell? ⟨w.heap.size,15,none⟩=some (.nilFunc):=(cell_of_row _ _ 15 _ _ _ hbx).trans rfl
 have hki:(k:Int)<(c.length:Int):=by omega
 have hk0:(0:Int)≤(k:Int):=by omega
 rw[qIj hn (by rw[ho];decide)]
 rw[ho] at q0
 have qN:=qDe
 have hA0:=hW0.symm
 clear hW0 hbx hn hM hM0 hG hG0 hC hB0' hok
 go_enter Tryz.func27,Tryz.ntmps27
 go_wp2
 go_ret2
 exact⟨_,rfl,qF7 _,HB0.out⟩
set_option maxHeartbeats 8000000 in
theorem qUg (c:List NodeA) (hC:Cl c) (a:Option Addr) (ca:Nat) (la:Option Addr) (k:Nat) (n:NodeA) (w:World) (hG:GT w) (hM:MkrR w c a ca la) (hn:c[k]? = some n) (ho:n.op=11) :
  Calls Tryz.prog 27 #[.agg #[.slice a c.length ca,.slice la c.length c.length,.func (.func 69) #[] #[],.nilFunc,.func (.func 70) #[] #[],.func (.func 71) #[] #[],.nilFunc,.nilFunc,.func (.func 72) #[] #[],.func (.func 73) #[] #[],.nilFunc,.nilFunc,.nilFunc,.nilFunc,.nilFunc,.nilFunc],.int .i64 k] w fun e w'=>∃v,e=.returned (.tuple #[v,.int .i64 0])∧Hid (qAm w' v (qAy c k))∧Hid (Below w.heap.size w w'):=by
 have hkc:k<c.length:=(List.getElem?_eq_some_iff.1 hn).1
 have hok:=Lib.hid (qCm hC hkc)
 obtain⟨W0,hW0⟩:∃W0,W0=w.alloc (.cells #[.slice a c.length ca,.slice la c.length c.length,.func (.func 69) #[] #[],.nilFunc,.func (.func 70) #[] #[],.func (.func 71) #[] #[],.nilFunc,.nilFunc,.func (.func 72) #[] #[],.func (.func 73) #[] #[],.nilFunc,.nilFunc,.nilFunc,.nilFunc,.nilFunc,.nilFunc] 85):=⟨_,rfl⟩
 obtain⟨hB0',hbx,hbz⟩:=qAu hW0
 have hM0:=hM.below hB0'
 have hG0:=hG.below hB0'
 have HB0:Hid (Below w.heap.size w W0):=hB0'
 obtain⟨g,o,rfl,hg,q0,q1,q2,q3,q4,q5,q6,q7⟩:=hM0.tab.node hn
 have b0:W0.cell? ⟨w.heap.size,0,none⟩=some (.slice (some ⟨g,o,none⟩) c.length ca):=(cell_of_row _ _ 0 _ _ _ hbx).trans rfl
 have b1:W0.cell? ⟨w.heap.size,1,none⟩=some (.slice la c.length c.length):=(cell_of_row _ _ 1 _ _ _ hbx).trans rfl
 have b2:W0.cell? ⟨w.heap.size,2,none⟩=some (.func (.func 69) #[] #[]):=(cell_of_row _ _ 2 _ _ _ hbx).trans rfl
 have b3:W0.cell? ⟨w.heap.size,3,none⟩=some (.nilFunc):=(cell_of_row _ _ 3 _ _ _ hbx).trans rfl
 have b4:W0.cell? ⟨w.heap.size,4,none⟩=some (.func (.func 70) #[] #[]):=(cell_of_row _ _ 4 _ _ _ hbx).trans rfl
 have b5:W0.cell? ⟨w.heap.size,5,none⟩=some (.func (.func 71) #[] #[]):=(cell_of_row _ _ 5 _ _ _ hbx).trans rfl
 have b6:W0.cell? ⟨w.heap.size,6,none⟩=some (.nilFunc):=(cell_of_row _ _ 6 _ _ _ hbx).trans rfl
 have b7:W0.cell? ⟨w.heap.size,7,none⟩=some (.nilFunc):=(cell_of_row _ _ 7 _ _ _ hbx).trans rfl
 have b8:W0.cell? ⟨w.heap.size,8,none⟩=some (.func (.func 72) #[] #[]):=(cell_of_row _ _ 8 _ _ _ hbx).trans rfl
 have b9:W0.cell? ⟨w.heap.size,9,none⟩=some (.func (.func 73) #[] #[]):=(cell_of_row _ _ 9 _ _ _ hbx).trans rfl
 have b10:W0.cell? ⟨w.heap.size,10,none⟩=some (.nilFunc):=(cell_of_row _ _ 10 _ _ _ hbx).trans rfl
 have b11:W0.cell? ⟨w.heap.size,11,none⟩=some (.nilFunc):=(cell_of_row _ _ 11 _ _ _ hbx).trans rfl
 have b12:W0.cell? ⟨w.heap.size,12,none⟩=some (.nilFunc):=(cell_of_row _ _ 12 _ _ _ hbx).trans rfl
 have b13:W0.cell? ⟨w.heap.size,13,none⟩=some (.nilFunc):=(cell_of_row _ _ 13 _ _ _ hbx).trans rfl
 have b14:W0.cell? ⟨w.heap.size,14,none⟩=some (.nilFunc):=(cell_of_row _ _ 14 _ _ _ hbx).trans rfl
 have b15:W0.cell? ⟨w.heap.size,15,none⟩=some (.nilFunc):=(cell_of_row _ _ 15 _ _ _ hbx).trans rfl
 have hki:(k:Int)<(c.length:Int):=by omega
 have hk0:(0:Int)≤(k:Int):=by omega
 rw[qIj hn (by rw[ho];decide)]
 rw[ho] at q0
 have qN:=qDe
 have hA0:=hW0.symm
 clear hW0 hbx hn hM hM0 hG hG0 hC hB0' hok
 go_enter Tryz.func27,Tryz.ntmps27
 go_wp2
 go_ret2
 exact⟨_,rfl,qF7 _,HB0.out⟩
set_option maxHeartbeats 8000000 in
theorem qUh (c:List NodeA) (hC:Cl c) (a:Option Addr) (ca:Nat) (la:Option Addr) (k:Nat) (n:NodeA) (w:World) (hG:GT w) (hM:MkrR w c a ca la) (hn:c[k]? = some n) (ho:n.op=12) :
  Calls Tryz.prog 27 #[.agg #[.slice a c.length ca,.slice la c.length c.length,.func (.func 69) #[] #[],.nilFunc,.func (.func 70) #[] #[],.func (.func 71) #[] #[],.nilFunc,.nilFunc,.func (.func 72) #[] #[],.func (.func 73) #[] #[],.nilFunc,.nilFunc,.nilFunc,.nilFunc,.nilFunc,.nilFunc],.int .i64 k] w fun e w'=>∃v,e=.returned (.tuple #[v,.int .i64 0])∧Hid (qAm w' v (qAy c k))∧Hid (Below w.heap.size w w'):=by
 have hkc:k<c.length:=(List.getElem?_eq_some_iff.1 hn).1
 have hok:=Lib.hid (qCm hC hkc)
 obtain⟨W0,hW0⟩:∃W0,W0=w.alloc (.cells #[.slice a c.length ca,.slice la c.length c.length,.func (.func 69) #[] #[],.nilFunc,.func (.func 70) #[] #[],.func (.func 71) #[] #[],.nilFunc,.nilFunc,.func (.func 72) #[] #[],.func (.func 73) #[] #[],.nilFunc,.nilFunc,.nilFunc,.nilFunc,.nilFunc,.nilFunc] 85):=⟨_,rfl⟩
 obtain⟨hB0',hbx,hbz⟩:=qAu hW0
 have hM0:=hM.below hB0'
 have hG0:=hG.below hB0'
 have HB0:Hid (Below w.heap.size w W0):=hB0'
 obtain⟨g,o,rfl,hg,q0,q1,q2,q3,q4,q5,q6,q7⟩:=hM0.tab.node hn
 have b0:W0.cell? ⟨w.heap.size,0,none⟩=some (.slice (some ⟨g,o,none⟩) c.length ca):=(cell_of_row _ _ 0 _ _ _ hbx).trans rfl
 have b1:W0.cell? ⟨w.heap.size,1,none⟩=some (.slice la c.length c.length):=(cell_of_row _ _ 1 _ _ _ hbx).trans rfl
 have b2:W0.cell? ⟨w.heap.size,2,none⟩=some (.func (.func 69) #[] #[]):=(cell_of_row _ _ 2 _ _ _ hbx).trans rfl
 have b3:W0.cell? ⟨w.heap.size,3,none⟩=some (.nilFunc):=(cell_of_row _ _ 3 _ _ _ hbx).trans rfl
 have b4:W0.cell? ⟨w.heap.size,4,none⟩=some (.func (.func 70) #[] #[]):=(cell_of_row _ _ 4 _ _ _ hbx).trans rfl
 have b5:W0.cell? ⟨w.heap.size,5,none⟩=some (.func (.func 71) #[] #[]):=(cell_of_row _ _ 5 _ _ _ hbx).trans rfl
 have b6:W0.cell? ⟨w.heap.size,6,none⟩=some (.nilFunc):=(cell_of_row _ _ 6 _ _ _ hbx).trans rfl
 have b7:W0.cell? ⟨w.heap.size,7,none⟩=some (.nilFunc):=(cell_of_row _ _ 7 _ _ _ hbx).trans rfl
 have b8:W0.cell? ⟨w.heap.size,8,none⟩=some (.func (.func 72) #[] #[]):=(cell_of_row _ _ 8 _ _ _ hbx).trans rfl
 have b9:W0.cell? ⟨w.heap.size,9,none⟩=some (.func (.func 73) #[] #[]):=(cell_of_row _ _ 9 _ _ _ hbx).trans rfl
 have b10:W0.cell? ⟨w.heap.size,10,none⟩=some (.nilFunc):=(cell_of_row _ _ 10 _ _ _ hbx).trans rfl
 have b11:W0.cell? ⟨w.heap.size,11,none⟩=some (.nilFunc):=(cell_of_row _ _ 11 _ _ _ hbx).trans rfl
 have b12:W0.cell? ⟨w.heap.size,12,none⟩=some (.nilFunc):=(cell_of_row _ _ 12 _ _ _ hbx).trans rfl
 have b13:W0.cell? ⟨w.heap.size,13,none⟩=some (.nilFunc):=(cell_of_row _ _ 13 _ _ _ hbx).trans rfl
 have b14:W0.cell? ⟨w.heap.size,14,none⟩=some (.nilFunc):=(cell_of_row _ _ 14 _ _ _ hbx).trans rfl
 have b15:W0.cell? ⟨w.heap.size,15,none⟩=some (.nilFunc):=(cell_of_row _ _ 15 _ _ _ hbx).trans rfl
 have hki:(k:Int)<(c.length:Int):=by omega
 have hk0:(0:Int)≤(k:Int):=by omega
 rw[qIj hn (by rw[ho];decide)]
 rw[ho] at q0
 have qN:=qDe
 have hA0:=hW0.symm
 clear hW0 hbx hn hM hM0 hG hG0 hC hB0' hok
 go_enter Tryz.func27,Tryz.ntmps27
 go_wp2
 go_ret2
 exact⟨_,rfl,qF7 _,HB0.out⟩
set_option maxHeartbeats 8000000 in
theorem qUi (c:List NodeA) (hC:Cl c) (a:Option Addr) (ca:Nat) (la:Option Addr) (k:Nat) (n:NodeA) (w:World) (hG:GT w) (hM:MkrR w c a ca la) (hn:c[k]? = some n) (ho:n.op=13) :
  Calls Tryz.prog 27 #[.agg #[.slice a c.length ca,.slice la c.length c.length,.func (.func 69) #[] #[],.nilFunc,.func (.func 70) #[] #[],.func (.func 71) #[] #[],.nilFunc,.nilFunc,.func (.func 72) #[] #[],.func (.func 73) #[] #[],.nilFunc,.nilFunc,.nilFunc,.nilFunc,.nilFunc,.nilFunc],.int .i64 k] w fun e w'=>∃v,e=.returned (.tuple #[v,.int .i64 0])∧Hid (qAm w' v (qAy c k))∧Hid (Below w.heap.size w w'):=by
 have hkc:k<c.length:=(List.getElem?_eq_some_iff.1 hn).1
 have hok:=Lib.hid (qCm hC hkc)
 obtain⟨W0,hW0⟩:∃W0,W0=w.alloc (.cells #[.slice a c.length ca,.slice la c.length c.length,.func (.func 69) #[] #[],.nilFunc,.func (.func 70) #[] #[],.func (.func 71) #[] #[],.nilFunc,.nilFunc,.func (.func 72) #[] #[],.func (.func 73) #[] #[],.nilFunc,.nilFunc,.nilFunc,.nilFunc,.nilFunc,.nilFunc] 85):=⟨_,rfl⟩
 obtain⟨hB0',hbx,hbz⟩:=qAu hW0
 have hM0:=hM.below hB0'
 have hG0:=hG.below hB0'
 have HB0:Hid (Below w.heap.size w W0):=hB0'
 obtain⟨g,o,rfl,hg,q0,q1,q2,q3,q4,q5,q6,q7⟩:=hM0.tab.node hn
 have b0:W0.cell? ⟨w.heap.size,0,none⟩=some (.slice (some ⟨g,o,none⟩) c.length ca):=(cell_of_row _ _ 0 _ _ _ hbx).trans rfl
 have b1:W0.cell? ⟨w.heap.size,1,none⟩=some (.slice la c.length c.length):=(cell_of_row _ _ 1 _ _ _ hbx).trans rfl
 have b2:W0.cell? ⟨w.heap.size,2,none⟩=some (.func (.func 69) #[] #[]):=(cell_of_row _ _ 2 _ _ _ hbx).trans rfl
 have b3:W0.cell? ⟨w.heap.size,3,none⟩=some (.nilFunc):=(cell_of_row _ _ 3 _ _ _ hbx).trans rfl
 have b4:W0.cell? ⟨w.heap.size,4,none⟩=some (.func (.func 70) #[] #[]):=(cell_of_row _ _ 4 _ _ _ hbx).trans rfl
 have b5:W0.cell? ⟨w.heap.size,5,none⟩=some (.func (.func 71) #[] #[]):=(cell_of_row _ _ 5 _ _ _ hbx).trans rfl
 have b6:W0.cell? ⟨w.heap.size,6,none⟩=some (.nilFunc):=(cell_of_row _ _ 6 _ _ _ hbx).trans rfl
 have b7:W0.cell? ⟨w.heap.size,7,none⟩=some (.nilFunc):=(cell_of_row _ _ 7 _ _ _ hbx).trans rfl
 have b8:W0.cell? ⟨w.heap.size,8,none⟩=some (.func (.func 72) #[] #[]):=(cell_of_row _ _ 8 _ _ _ hbx).trans rfl
 have b9:W0.cell? ⟨w.heap.size,9,none⟩=some (.func (.func 73) #[] #[]):=(cell_of_row _ _ 9 _ _ _ hbx).trans rfl
 have b10:W0.cell? ⟨w.heap.size,10,none⟩=some (.nilFunc):=(cell_of_row _ _ 10 _ _ _ hbx).trans rfl
 have b11:W0.cell? ⟨w.heap.size,11,none⟩=some (.nilFunc):=(cell_of_row _ _ 11 _ _ _ hbx).trans rfl
 have b12:W0.cell? ⟨w.heap.size,12,none⟩=some (.nilFunc):=(cell_of_row _ _ 12 _ _ _ hbx).trans rfl
 have b13:W0.cell? ⟨w.heap.size,13,none⟩=some (.nilFunc):=(cell_of_row _ _ 13 _ _ _ hbx).trans rfl
 have b14:W0.cell? ⟨w.heap.size,14,none⟩=some (.nilFunc):=(cell_of_row _ _ 14 _ _ _ hbx).trans rfl
 have b15:W0.cell? ⟨w.heap.size,15,none⟩=some (.nilFunc):=(cell_of_row _ _ 15 _ _ _ hbx).trans rfl
 have hki:(k:Int)<(c.length:Int):=by omega
 have hk0:(0:Int)≤(k:Int):=by omega
 rw[qIj hn (by rw[ho];decide)]
 rw[ho] at q0
 have qN:=qDe
 have hA0:=hW0.symm
 clear hW0 hbx hn hM hM0 hG hG0 hC hB0' hok
 go_enter Tryz.func27,Tryz.ntmps27
 go_wp2
 go_ret2
 exact⟨_,rfl,qF7 _,HB0.out⟩
theorem qRf (c:List NodeA) (hC:Cl c) (a:Option Addr) (ca:Nat) (la:Option Addr) (k:Nat) (n:NodeA) (w:World) (hG:GT w) (hM:MkrR w c a ca la) (hn:c[k]? = some n) :
  Calls Tryz.prog 27 #[.agg #[.slice a c.length ca,.slice la c.length c.length,.func (.func 69) #[] #[],.nilFunc,.func (.func 70) #[] #[],.func (.func 71) #[] #[],.nilFunc,.nilFunc,.func (.func 72) #[] #[],.func (.func 73) #[] #[],.nilFunc,.nilFunc,.nilFunc,.nilFunc,.nilFunc,.nilFunc],.int .i64 k] w fun e w'=>∃v,e=.returned (.tuple #[v,.int .i64 0])∧Hid (qAm w' v (qAy c k))∧Hid (Below w.heap.size w w'):=by
 obtain⟨⟨o1,o2,_⟩,_⟩:=hC.fits hn
 have hno:=hC.no4 n (List.mem_of_getElem? hn)
 by_cases h0:n.op=0
 ·exact qUd c hC a ca la k n w hG hM hn h0
 by_cases h2:n.op=2
 ·exact zB6 c hC a ca la k n w hG hM hn h2
 by_cases h3:n.op=3
 ·exact zCu c hC a ca la k n w hG hM hn h3
 by_cases h6:n.op=6
 ·exact qUe c hC a ca la k n w hG hM hn h6
 by_cases h7:n.op=7
 ·exact zB7 c hC a ca la k n w hG hM hn h7
 by_cases h1:n.op=1
 ·exact qYb c hC a ca la k n w hG hM hn h1
 by_cases h10:n.op=10
 ·exact qUf c hC a ca la k n w hG hM hn h10
 by_cases h11:n.op=11
 ·exact qUg c hC a ca la k n w hG hM hn h11
 by_cases h12:n.op=12
 ·exact qUh c hC a ca la k n w hG hM hn h12
 by_cases h13:n.op=13
 ·exact qUi c hC a ca la k n w hG hM hn h13
 omega
end Go.Proofs.YtfgpimhdjlmapaaGreatDoor.Tm
