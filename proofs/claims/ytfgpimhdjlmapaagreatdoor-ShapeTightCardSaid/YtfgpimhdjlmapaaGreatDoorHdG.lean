/- The document's Check of a signature. -/
import Derived.Test.YtfgpimhdjlmapaaGreatDoorHdC
import Derived.Laws.Strings
import Derived.Test.YtfgpimhdjlmapaaGreatDoorNumMay
import Derived.Maps.AppendAt
import Derived.Deep.AppendLies
import Derived.Deep.RegionHeldLaw
import Derived.Deep.RegionLaw
import Derived.Test.YtfgpimhdjlmapaaGreatDoorTmJ
namespace Go.Proofs.YtfgpimhdjlmapaaGreatDoor
open Go.RowKit
set_option linter.unusedVariables false
set_option maxRecDepth 100000
def qJ1 (l:List ByteArray) (s:ByteArray):Bool:=l.any (fun y=>decide (y=s))
theorem qHm {l:List ByteArray} {s y:ByteArray} {k:Nat} (h:l[k]? = some y) (he:y=s):qJ1 l s=true :=
 List.any_eq_true.2 ⟨y,List.mem_of_getElem? h,decide_eq_true he⟩
theorem qG1 {l:List ByteArray} {s y:ByteArray} {k:Nat} (h:l[k]? = some y):qJ1 (l.take (k+1)) s=(qJ1 (l.take k) s || decide (y=s)):=by
 unfold qJ1
 rw[qEi h,List.any_append];simp
def qTb (ss:List ByteArray) (s:ByteArray):Bool:=(s.toList == [66,111,111,108]) || ((s.toList == [73,110,116]) || qJ1 ss s)
theorem RSort_any (x:SigV) (s:ByteArray) (q:Bool) (w:World) (hR:SigR w x) (hq:qTb x.sorts s=q) :
  Calls Tryz.prog 95 #[.agg #[.slice x.sa x.sorts.length x.sc,.slice x.fa x.funs.length x.fc,.slice x.ma x.macs.length x.mc],.string s] w fun e w'=>(∃n:Int,e=.returned (.tuple #[.int .i64 n,.bool q]))∧Below w.heap.size w w':=by
 have HAt:=Lib.hid hR.sat
 have hll:=hR.sl
 have hmx:=hR.sm
 have hlm:x.sorts.length≤9223372036854775807:=by simp only[maxLen] at hmx;omega
 obtain⟨ss,sa,sc,fs,fa,fc,ms,ma,mc⟩:=x
 simp only at hq HAt hll hmx hlm ⊢
 obtain⟨W0,hW0⟩:∃W0,W0=w.alloc (.cells #[.slice sa ss.length sc,.slice fa fs.length fc,.slice ma ms.length mc] 26):=⟨_,rfl⟩
 have HB0:Hid (Below w.heap.size w W0):=by show Below _ _ _;rw[hW0];exact(Below.refl _ w).alloc (Nat.le_refl _) _
 obtain⟨x0,x1,x2,xz⟩:=qAx (show W0.heap[w.heap.size]? = some (.cells #[.slice sa ss.length sc,.slice fa fs.length fc,.slice ma ms.length mc] 26 (0,0)) by rw[hW0];exact heap_alloc_new w _)
 unfold qTb at hq
 clear hR
 by_cases h1:(s.toList == [66,111,111,108])=true
 ·obtain rfl:q=true:=by rw[←hq,h1];rfl
  clear hq x0 x1 x2 xz
  go_enter Tryz.func95,Tryz.ntmps95
  go_wp2
  rw[←hW0]
  go_ret2
  exact⟨⟨_,rfl⟩,HB0.out⟩
 rw[Bool.not_eq_true] at h1
 by_cases h2:(s.toList == [73,110,116])=true
 ·obtain rfl:q=true:=by rw[←hq,h1,h2];rfl
  clear hq x0 x1 x2 xz
  go_enter Tryz.func95,Tryz.ntmps95
  go_wp2
  rw[←hW0]
  go_ret2
  exact⟨⟨_,rfl⟩,HB0.out⟩
 rw[Bool.not_eq_true] at h2
 rw[h1,h2,Bool.false_or,Bool.false_or] at hq
 have HQ:=Lib.hid hq
 clear hq
 go_enter Tryz.func95,Tryz.ntmps95
 go_wp2
 rw[←hW0]
 clear hW0 h1 h2
 go_loop [6] (fun i=>∃k:Nat,k≤ss.length∧i=.int .i64 k∧Hid (qJ1 (ss.take k) s=false)) (fun i=>ss.length-(intOf i).toNat)
 case atStart=>exact⟨0,Nat.zero_le _,rfl,by show _=_;rw[List.take_zero];rfl⟩
 case round =>
  obtain⟨k,hk,rfl,HN⟩:=hrel
  by_cases hlt:k<ss.length
  ·obtain⟨y,hy⟩:∃y,ss[k]? = some y:=⟨_,List.getElem?_eq_getElem hlt⟩
   obtain⟨g,o,rfl,hg,hcell⟩:=HAt.out.below HB0.out (by rw[len_flat qDz];omega)
   have c0:=hcell _ _ ((get_flat qDz ss k 0 y hy (by omega)).trans rfl)
   simp only[Nat.mul_one,Nat.add_zero] at c0
   have hgw:g<W0.heap.size:=Nat.lt_of_lt_of_le hg HB0.out.size
   have HM:=Lib.hid hy
   have hki:(k:Int)<(ss.length:Int):=by omega
   have hk0:(0:Int)≤(k:Int):=by omega
   clear hy hcell
   by_cases he:y=s
   ·have e0:=qNe s
    have HF:Hid (q=true):=by show _=_;rw[←HQ.out];exact qHm HM.out he
    rw[he] at c0
    clear he
    go_wp2
    go_ret2
    exact⟨⟨_,qBl rfl (qF0 HF.out.symm)⟩,HB0.out⟩
   ·have e0:=qT9 he
    have HNX:Hid (qJ1 (ss.take (k+1)) s=false):=by show _=_;rw[qG1 HM.out,HN.out,decide_eq_false he];rfl
    clear he
    go_wp2
    go_round
    case rel=>exact⟨k+1,by omega,by go_num,HNX⟩
    case measure=>simp[intOf];omega
  ·obtain rfl:k=ss.length:=by omega
   have HF:Hid (q=false):=by show _=_;rw[←HQ.out];have h:=HN.out;rwa [List.take_length] at h
   go_wp2
   go_ret2
   exact⟨⟨_,qBl rfl (qF0 HF.out.symm)⟩,HB0.out⟩
theorem qTc (x:SigV) (s:ByteArray) (q:Bool) (w:World) (hR:SigR w x) (hq:qJ1 (x.funs.map (·.name)) s=q) :
  Calls Tryz.prog 96 #[.agg #[.slice x.sa x.sorts.length x.sc,.slice x.fa x.funs.length x.fc,.slice x.ma x.macs.length x.mc],.string s] w fun e w'=>(∃n:Int,e=.returned (.tuple #[.int .i64 n,.bool q]))∧Below w.heap.size w w':=by
 have HQ:=Lib.hid hq
 have HAt:=Lib.hid hR.fat
 have hll:=hR.fl
 have hmx:=hR.fm
 have hlm:x.funs.length≤9223372036854775807:=by simp only[maxLen] at hmx;omega
 obtain⟨ss,sa,sc,fs,fa,fc,ms,ma,mc⟩:=x
 simp only at HQ HAt hll hmx hlm ⊢
 obtain⟨W0,hW0⟩:∃W0,W0=w.alloc (.cells #[.slice sa ss.length sc,.slice fa fs.length fc,.slice ma ms.length mc] 26):=⟨_,rfl⟩
 have HB0:Hid (Below w.heap.size w W0):=by show Below _ _ _;rw[hW0];exact(Below.refl _ w).alloc (Nat.le_refl _) _
 obtain⟨x0,x1,x2,xz⟩:=qAx (show W0.heap[w.heap.size]? = some (.cells #[.slice sa ss.length sc,.slice fa fs.length fc,.slice ma ms.length mc] 26 (0,0)) by rw[hW0];exact heap_alloc_new w _)
 clear hq hR
 go_enter Tryz.func96,Tryz.ntmps96
 go_wp2
 rw[←hW0]
 clear hW0
 go_loop [6] (fun i=>∃k:Nat,k≤fs.length∧i=.int .i64 k∧Hid (qJ1 ((fs.map (·.name)).take k) s=false)) (fun i=>fs.length-(intOf i).toNat)
 case atStart=>exact⟨0,Nat.zero_le _,rfl,by show _=_;rw[List.take_zero];rfl⟩
 case round =>
  obtain⟨k,hk,rfl,HN⟩:=hrel
  by_cases hlt:k<fs.length
  ·obtain⟨y,hy⟩:∃y,fs[k]? = some y:=⟨_,List.getElem?_eq_getElem hlt⟩
   obtain⟨g,o,rfl,hg,hcell⟩:=HAt.out.below HB0.out (by rw[len_flat qAj];omega)
   have c0:=hcell _ _ ((get_flat qAj fs k 0 y hy (by omega)).trans rfl)
   simp only[Nat.add_zero] at c0
   have hgw:g<W0.heap.size:=Nat.lt_of_lt_of_le hg HB0.out.size
   have hm:(fs.map (·.name))[k]? = some y.name:=by rw[List.getElem?_map,hy];rfl
   have HM:=Lib.hid hm
   have hki:(k:Int)<(fs.length:Int):=by omega
   have hk0:(0:Int)≤(k:Int):=by omega
   clear hy hcell hm
   by_cases he:y.name=s
   ·have e0:=qNe s
    have HF:Hid (q=true):=by show _=_;rw[←HQ.out];exact qHm HM.out he
    rw[he] at c0
    clear he
    go_wp2
    go_ret2
    exact⟨⟨_,qBl rfl (qF0 HF.out.symm)⟩,HB0.out⟩
   ·have e0:=qT9 he
    have HNX:Hid (qJ1 ((fs.map (·.name)).take (k+1)) s=false):=by show _=_;rw[qG1 HM.out,HN.out,decide_eq_false he];rfl
    clear he
    go_wp2
    go_round
    case rel=>exact⟨k+1,by omega,by go_num,HNX⟩
    case measure=>simp[intOf];omega
  ·obtain rfl:k=fs.length:=by omega
   have HF:Hid (q=false):=by show _=_;rw[←HQ.out];have h:=HN.out;rwa [List.take_of_length_le (by rw[List.length_map];omega)] at h
   go_wp2
   go_ret2
   exact⟨⟨_,qBl rfl (qF0 HF.out.symm)⟩,HB0.out⟩
theorem qOb (x:SigV) (s:ByteArray) (q:Bool) (w:World) (hR:SigR w x) (hq:qJ1 (x.macs.map (·.m.name)) s=q) :
  Calls Tryz.prog 97 #[.agg #[.slice x.sa x.sorts.length x.sc,.slice x.fa x.funs.length x.fc,.slice x.ma x.macs.length x.mc],.string s] w fun e w'=>(∃n:Int,e=.returned (.tuple #[.int .i64 n,.bool q]))∧Below w.heap.size w w':=by
 have HQ:=Lib.hid hq
 have HAt:=Lib.hid hR.mat
 have hll:=hR.ml
 have hmx:=hR.mm
 have hlm:x.macs.length≤9223372036854775807:=by simp only[maxLen] at hmx;omega
 obtain⟨ss,sa,sc,fs,fa,fc,ms,ma,mc⟩:=x
 simp only at HQ HAt hll hmx hlm ⊢
 obtain⟨W0,hW0⟩:∃W0,W0=w.alloc (.cells #[.slice sa ss.length sc,.slice fa fs.length fc,.slice ma ms.length mc] 26):=⟨_,rfl⟩
 have HB0:Hid (Below w.heap.size w W0):=by show Below _ _ _;rw[hW0];exact(Below.refl _ w).alloc (Nat.le_refl _) _
 obtain⟨x0,x1,x2,xz⟩:=qAx (show W0.heap[w.heap.size]? = some (.cells #[.slice sa ss.length sc,.slice fa fs.length fc,.slice ma ms.length mc] 26 (0,0)) by rw[hW0];exact heap_alloc_new w _)
 clear hq hR
 go_enter Tryz.func97,Tryz.ntmps97
 go_wp2
 rw[←hW0]
 clear hW0
 go_loop [6] (fun i=>∃k:Nat,k≤ms.length∧i=.int .i64 k∧Hid (qJ1 ((ms.map (·.m.name)).take k) s=false)) (fun i=>ms.length-(intOf i).toNat)
 case atStart=>exact⟨0,Nat.zero_le _,rfl,by show _=_;rw[List.take_zero];rfl⟩
 case round =>
  obtain⟨k,hk,rfl,HN⟩:=hrel
  by_cases hlt:k<ms.length
  ·obtain⟨y,hy⟩:∃y,ms[k]? = some y:=⟨_,List.getElem?_eq_getElem hlt⟩
   obtain⟨g,o,rfl,hg,hcell⟩:=HAt.out.below HB0.out (by rw[len_flat qBn];omega)
   have c0:=hcell _ _ ((get_flat qBn ms k 0 y hy (by omega)).trans rfl)
   simp only[Nat.add_zero] at c0
   have hgw:g<W0.heap.size:=Nat.lt_of_lt_of_le hg HB0.out.size
   have hm:(ms.map (·.m.name))[k]? = some y.m.name:=by rw[List.getElem?_map,hy];rfl
   have HM:=Lib.hid hm
   have hki:(k:Int)<(ms.length:Int):=by omega
   have hk0:(0:Int)≤(k:Int):=by omega
   clear hy hcell hm
   by_cases he:y.m.name=s
   ·have e0:=qNe s
    have HF:Hid (q=true):=by show _=_;rw[←HQ.out];exact qHm HM.out he
    rw[he] at c0
    clear he
    go_wp2
    go_ret2
    exact⟨⟨_,qBl rfl (qF0 HF.out.symm)⟩,HB0.out⟩
   ·have e0:=qT9 he
    have HNX:Hid (qJ1 ((ms.map (·.m.name)).take (k+1)) s=false):=by show _=_;rw[qG1 HM.out,HN.out,decide_eq_false he];rfl
    clear he
    go_wp2
    go_round
    case rel=>exact⟨k+1,by omega,by go_num,HNX⟩
    case measure=>simp[intOf];omega
  ·obtain rfl:k=ms.length:=by omega
   have HF:Hid (q=false):=by show _=_;rw[←HQ.out];have h:=HN.out;rwa [List.take_of_length_le (by rw[List.length_map];omega)] at h
   go_wp2
   go_ret2
   exact⟨⟨_,qBl rfl (qF0 HF.out.symm)⟩,HB0.out⟩
theorem qNf (s:ByteArray):(decide (s.size≤100)&&s.data.toList.all qFd)=qJ0 s.data.toList:=by
 unfold qJ0
 have h:s.data.toList.length=s.size:=by simp
 rw[h]
def qG2 (ss fs ms:List ByteArray) (s:ByteArray) (sort:Bool):Int :=
 if qJ0 s.data.toList=true then (if qR4 s.data.toList=true then 31 else if sort=true then (if qTb ss s=true then 32 else 0) else (if (qJ1 fs s || (qJ1 ms s || qTa s.data.toList))=true then 32 else 0)) else 31
set_option maxHeartbeats 2000000 in
theorem qI0 (x:SigV) (s:ByteArray) (sort:Bool) (r:Int) (w:World) (hR:SigR w x) (hs:s.size≤maxLen) (hr:qG2 x.sorts (x.funs.map (·.name)) (x.macs.map (·.m.name)) s sort=r) :
  Calls Tryz.prog 80 #[.agg #[.slice x.sa x.sorts.length x.sc,.slice x.fa x.funs.length x.fc,.slice x.ma x.macs.length x.mc],.string s,.bool sort] w fun e w'=>e=.returned (.int .i64 r)∧Below w.heap.size w w':=by
 obtain⟨W0,hW0⟩:∃W0,W0=w.alloc (.cells #[.slice x.sa x.sorts.length x.sc,.slice x.fa x.funs.length x.fc,.slice x.ma x.macs.length x.mc] 26):=⟨_,rfl⟩
 have hB0:Below w.heap.size w W0:=by rw[hW0];exact(Below.refl _ w).alloc (Nat.le_refl _) _
 have HB0:=Lib.hid hB0
 have HX:Hid (∀V,Below W0.heap.size W0 V→V.cell? ⟨w.heap.size,0,none⟩=some (.slice x.sa x.sorts.length x.sc)∧V.cell? ⟨w.heap.size,1,none⟩=some (.slice x.fa x.funs.length x.fc)∧V.cell? ⟨w.heap.size,2,none⟩=some (.slice x.ma x.macs.length x.mc)∧w.heap.size<V.heap.size):=fun V hV=>by
  have h:W0.heap[w.heap.size]? = some (.cells #[.slice x.sa x.sorts.length x.sc,.slice x.fa x.funs.length x.fc,.slice x.ma x.macs.length x.mc] 26 (0,0)):=by rw[hW0];exact heap_alloc_new w _
  exact qAx ((hV.block _ (Array.getElem?_eq_some_iff.1 h).1).trans h)
 obtain⟨qn,hqn⟩:∃q,qJ0 s.data.toList=q:=⟨_,rfl⟩
 obtain⟨qr,hqr⟩:∃q,qR4 s.data.toList=q:=⟨_,rfl⟩
 obtain⟨qs,hqs⟩:∃q,qTb x.sorts s=q:=⟨_,rfl⟩
 obtain⟨qf,hqf⟩:∃q,qJ1 (x.funs.map (·.name)) s=q:=⟨_,rfl⟩
 obtain⟨qm,hqm⟩:∃q,qJ1 (x.macs.map (·.m.name)) s=q:=⟨_,rfl⟩
 obtain⟨qc,hqc⟩:∃q,qTa s.data.toList=q:=⟨_,rfl⟩
 have HMy:Hid (∀V,Calls Tryz.prog 93 #[.string s] V fun e w'=>e=.returned (.bool qn)∧V=w'):=fun V=>qJz s qn V (by simp only[maxLen] at hs;omega) (by rw[←hqn];exact qNf s)
 have HRs:Hid (∀V,Calls Tryz.prog 94 #[.string s] V fun e w'=>e=.returned (.bool qr)∧V=w'):=fun V=>by
  cases qr with
  | true=>exact qNa s V hqr
  | false=>exact qQa s V hqr
 have HSo:Hid (∀V,Below W0.heap.size W0 V→Calls Tryz.prog 95 #[.agg #[.slice x.sa x.sorts.length x.sc,.slice x.fa x.funs.length x.fc,.slice x.ma x.macs.length x.mc],.string s] V fun e w'=>(∃n:Int,e=.returned (.tuple #[.int .i64 n,.bool qs]))∧Below W0.heap.size W0 w'):=fun V hV=>(RSort_any x s qs V (hR.below (hB0.trans (hV.mono hB0.size))) hqs).mono fun e w' ⟨h1,h2⟩=>⟨h1,hV.trans (h2.mono hV.size)⟩
 have HFu:Hid (∀V,Below W0.heap.size W0 V→Calls Tryz.prog 96 #[.agg #[.slice x.sa x.sorts.length x.sc,.slice x.fa x.funs.length x.fc,.slice x.ma x.macs.length x.mc],.string s] V fun e w'=>(∃n:Int,e=.returned (.tuple #[.int .i64 n,.bool qf]))∧Below W0.heap.size W0 w'):=fun V hV=>(qTc x s qf V (hR.below (hB0.trans (hV.mono hB0.size))) hqf).mono fun e w' ⟨h1,h2⟩=>⟨h1,hV.trans (h2.mono hV.size)⟩
 have HMa:Hid (∀V,Below W0.heap.size W0 V→Calls Tryz.prog 97 #[.agg #[.slice x.sa x.sorts.length x.sc,.slice x.fa x.funs.length x.fc,.slice x.ma x.macs.length x.mc],.string s] V fun e w'=>(∃n:Int,e=.returned (.tuple #[.int .i64 n,.bool qm]))∧Below W0.heap.size W0 w'):=fun V hV=>(qOb x s qm V (hR.below (hB0.trans (hV.mono hB0.size))) hqm).mono fun e w' ⟨h1,h2⟩=>⟨h1,hV.trans (h2.mono hV.size)⟩
 have HCo:Hid (∀V,Calls Tryz.prog 98 #[.string s] V fun e w'=>e=.returned (.bool qc)∧V=w'):=fun V=>qXb s qc V hqc
 have hr2:(if qn=true then (if qr=true then (31:Int) else if sort=true then (if qs=true then 32 else 0) else (if (qf || (qm || qc))=true then 32 else 0)) else 31)=r:=by
  rw[←hr];unfold qG2;rw[hqn,hqr,hqs,hqf,hqm,hqc]
 obtain⟨t0,t1,t2,tz⟩:=HX.out _ (Below.refl _ _)
 clear hR hr hqn hqr hqs hqf hqm hqc hB0 hs
 cases qn with
 | false =>
  obtain rfl:31=r:=hr2
  go_enter Tryz.func80,Tryz.ntmps80
  go_wp2_with (first|(go_at_call 93;rw[←hW0];clear hW0;refine(HMy.out _).mono ?_;rintro e w1 ⟨rfl,rfl⟩))
  go_ret
  exact⟨rfl,HB0.out⟩
 | true =>
 cases qr with
 | true =>
  obtain rfl:31=r:=hr2
  go_enter Tryz.func80,Tryz.ntmps80
  go_wp2_with (first|(go_at_call 93;rw[←hW0];clear hW0;refine(HMy.out _).mono ?_;rintro e w1 ⟨rfl,rfl⟩)|(go_at_call 94;refine(HRs.out _).mono ?_;rintro e w1 ⟨rfl,rfl⟩))
  go_ret
  exact⟨rfl,HB0.out⟩
 | false =>
 cases sort with
 | true =>
  cases qs
  all_goals
   first|(obtain rfl:32=r:=hr2)|(obtain rfl:0=r:=hr2)
   go_enter Tryz.func80,Tryz.ntmps80
   go_wp2_with (first|(go_at_call 93;rw[←hW0];clear hW0;refine(HMy.out _).mono ?_;rintro e w1 ⟨rfl,rfl⟩)|(go_at_call 94;refine(HRs.out _).mono ?_;rintro e w1 ⟨rfl,rfl⟩)|(go_at_call 95;refine(HSo.out _ (Below.refl _ _)).mono ?_;rintro e w2 ⟨⟨n2,rfl⟩,hb2⟩))
   go_ret
   exact⟨rfl,HB0.out.trans (hb2.mono HB0.out.size)⟩
 | false =>
  cases qf
  all_goals cases qm
  all_goals cases qc
  all_goals
   first|(obtain rfl:32=r:=hr2)|(obtain rfl:0=r:=hr2)
   go_enter Tryz.func80,Tryz.ntmps80
   go_wp2_with (first|(go_at_call 93;rw[←hW0];clear hW0;refine(HMy.out _).mono ?_;rintro e w1 ⟨rfl,rfl⟩)|(go_at_call 94;refine(HRs.out _).mono ?_;rintro e w1 ⟨rfl,rfl⟩)|(go_at_call 95;refine(HSo.out _ (Below.refl _ _)).mono ?_;rintro e w2 ⟨⟨n2,rfl⟩,hb2⟩;have HB2:=Lib.hid hb2;clear hb2 t0 t1 t2 tz;obtain⟨t0,t1,t2,tz⟩:=HX.out _ HB2.out)|(go_at_call 96;refine(HFu.out _ HB2.out).mono ?_;rintro e w3 ⟨⟨n3,rfl⟩,hb3⟩;have HB3:=Lib.hid hb3;clear hb3 t0 t1 t2 tz;obtain⟨t0,t1,t2,tz⟩:=HX.out _ HB3.out)|(go_at_call 97;refine(HMa.out _ HB3.out).mono ?_;rintro e w4 ⟨⟨n4,rfl⟩,hb4⟩;have HB4:=Lib.hid hb4;clear hb4 t0 t1 t2 tz;obtain⟨t0,t1,t2,tz⟩:=HX.out _ HB4.out)|(go_at_call 98;refine(HCo.out _).mono ?_;rintro e w5 ⟨rfl,rfl⟩))
   go_ret
   exact⟨rfl,HB0.out.trans (HB4.out.mono HB0.out.size)⟩
def qNg (f:FunA) (k:Nat):Int:=if k=0 then f.a0 else if k=1 then f.a1 else f.a2
def qDk (n:Nat) (f:FunA) (k:Nat):Bool:=if (k:Int)<f.len then qBg n (qNg f k) else decide (qNg f k=0)
def qNh (n:Nat) (f:FunA):Bool:=decide (0≤f.len)&&(decide (f.len≤3)&&(qBg n f.res&&(qDk n f 0&&(qDk n f 1&&qDk n f 2))))
theorem qXc {n:Nat} {f:FunA} {k:Nat} (hk:k<3) (h:qDk n f k=false):qNh n f=false:=by
 unfold qNh
 obtain rfl|rfl|rfl:k=0∨k=1∨k=2:=by omega
 all_goals simp[h]
theorem qTd {n:Nat} {f:FunA} (h0:0≤f.len) (h1:f.len≤3) (h2:qBg n f.res=true) (h:∀j,j<3→qDk n f j=true):qNh n f=true:=by
 unfold qNh
 rw[decide_eq_true h0,decide_eq_true h1,h2,h 0 (by omega),h 1 (by omega),h 2 (by omega)];rfl

theorem qAh {B:Nat} {w w':World} (h:Below B w w') {k:Nat}:Below B w (w'.drewN k):=⟨h.os,h.tape,h.output,h.size,h.block⟩
set_option maxHeartbeats 4000000 in
theorem qTe (x:SigV) (f:FunA) (r:Bool) (w:World) (hR:SigR w x) (hf:FunOk f) (hl:x.sorts.length≤100) (hr:qNh x.sorts.length f=r) :
  Calls Tryz.prog 81 #[.agg #[.slice x.sa x.sorts.length x.sc,.slice x.fa x.funs.length x.fc,.slice x.ma x.macs.length x.mc],.agg #[.string f.name,.int .i64 f.len,.int .i64 f.a0,.int .i64 f.a1,.int .i64 f.a2,.int .i64 f.res]] w fun e w'=>e=.returned (.bool r)∧Below w.heap.size w w':=by
 obtain⟨W0,hW0⟩:∃W0,W0=(w.alloc (.cells #[.slice x.sa x.sorts.length x.sc,.slice x.fa x.funs.length x.fc,.slice x.ma x.macs.length x.mc] 26)).alloc (.cells #[.string f.name,.int .i64 f.len,.int .i64 f.a0,.int .i64 f.a1,.int .i64 f.a2,.int .i64 f.res] 120):=⟨_,rfl⟩
 have hB0:Below w.heap.size w W0:=by rw[hW0];exact((Below.refl _ w).alloc (Nat.le_refl _) _).alloc (by simp) _
 have HB0:=Lib.hid hB0
 have hX0:W0.heap[w.heap.size]? = some (.cells #[.slice x.sa x.sorts.length x.sc,.slice x.fa x.funs.length x.fc,.slice x.ma x.macs.length x.mc] 26 (0,0)):=by rw[hW0];exact(Below.heap_alloc _ _ _ (by simp)).trans (heap_alloc_new w _)
 have hY0:W0.heap[w.heap.size+1]? = some (.cells #[.string f.name,.int .i64 f.len,.int .i64 f.a0,.int .i64 f.a1,.int .i64 f.a2,.int .i64 f.res] 120 (0,0)):=by
  have:=heap_alloc_new (w.alloc (.cells #[.slice x.sa x.sorts.length x.sc,.slice x.fa x.funs.length x.fc,.slice x.ma x.macs.length x.mc] 26)) (.cells #[.string f.name,.int .i64 f.len,.int .i64 f.a0,.int .i64 f.a1,.int .i64 f.a2,.int .i64 f.res] 120)
  rw[World.size_alloc] at this
  rw[hW0];exact this
 have HK:Hid (∀V,Below W0.heap.size W0 V→V.cell? ⟨w.heap.size,0,none⟩=some (.slice x.sa x.sorts.length x.sc)∧V.cell? ⟨w.heap.size,1,none⟩=some (.slice x.fa x.funs.length x.fc)∧V.cell? ⟨w.heap.size,2,none⟩=some (.slice x.ma x.macs.length x.mc)∧V.cell? ⟨w.heap.size+1,1,none⟩=some (.int .i64 f.len)∧V.cell? ⟨w.heap.size+1,2,none⟩=some (.int .i64 f.a0)∧V.cell? ⟨w.heap.size+1,3,none⟩=some (.int .i64 f.a1)∧V.cell? ⟨w.heap.size+1,4,none⟩=some (.int .i64 f.a2)∧V.cell? ⟨w.heap.size+1,5,none⟩=some (.int .i64 f.res)):=fun V hV=>by
  obtain⟨c0,c1,c2,_⟩:=qAx ((hV.block _ (Array.getElem?_eq_some_iff.1 hX0).1).trans hX0)
  have h:=(hV.block _ (Array.getElem?_eq_some_iff.1 hY0).1).trans hY0
  exact⟨c0,c1,c2,(cell_of_row _ _ 1 _ _ _ h).trans rfl,(cell_of_row _ _ 2 _ _ _ h).trans rfl,(cell_of_row _ _ 3 _ _ _ h).trans rfl,(cell_of_row _ _ 4 _ _ _ h).trans rfl,(cell_of_row _ _ 5 _ _ _ h).trans rfl⟩
 have HZ:Hid (∀V,Below W0.heap.size W0 V→w.heap.size<V.heap.size∧w.heap.size+1<V.heap.size):=fun V hV=>by
  have h1:=(Array.getElem?_eq_some_iff.1 hY0).1
  have h2:=hV.size
  exact⟨by omega,by omega⟩
 have HT:Hid (∀i,I64 i→∀V,Below W0.heap.size W0 V→Calls Tryz.prog 99 #[.agg #[.slice x.sa x.sorts.length x.sc,.slice x.fa x.funs.length x.fc,.slice x.ma x.macs.length x.mc],.int .i64 i] V fun e w'=>e=.returned (.bool (qBg x.sorts.length i))∧Below W0.heap.size W0 w'):=fun i hi V hV=>(qJ9 x i _ V (hR.below (hB0.trans (hV.mono hB0.size))) rfl hi hl).mono fun e w' ⟨h1,h2⟩=>⟨h1,hV.trans (h2.mono hV.size)⟩
 obtain⟨c0,c1,c2,y1,y2,y3,y4,y5⟩:=HK.out _ (Below.refl _ _)
 obtain⟨z0,z1⟩:=HZ.out _ (Below.refl _ _)
 have HF:=Lib.hid hf
 clear hR hX0 hY0 hf hl hB0
 by_cases h0:f.len<0
 ·obtain rfl:r=false:=by rw[←hr];unfold qNh;rw[decide_eq_false (by omega)];rfl
  clear hr
  go_enter Tryz.func81,Tryz.ntmps81
  go_wp2
  rw[←hW0]
  go_ret
  exact⟨rfl,HB0.out⟩
 by_cases h1:3<f.len
 ·obtain rfl:r=false:=by rw[←hr];unfold qNh;rw[decide_eq_false (p:=f.len≤3) (by omega)];simp
  clear hr
  go_enter Tryz.func81,Tryz.ntmps81
  go_wp2
  rw[←hW0]
  go_ret
  exact⟨rfl,HB0.out⟩
 have HRes:=Lib.hid (HT.out _ HF.out.res W0 (Below.refl _ _))
 cases hq:qBg x.sorts.length f.res with
 | false =>
  obtain rfl:r=false:=by rw[←hr];unfold qNh;rw[hq];simp
  rw[hq] at HRes
  clear hr hq
  go_enter Tryz.func81,Tryz.ntmps81
  go_wp2_with (go_at_call 99;rw[←hW0];clear hW0;refine HRes.out.mono ?_;rintro e w1 ⟨rfl,hb1⟩)
  go_ret
  exact⟨rfl,HB0.out.trans (hb1.mono HB0.out.size)⟩
 | true =>
 rw[hq] at HRes
 have HYes:Hid ((∀j,j<3→qDk x.sorts.length f j=true)→r=true):=fun h=>by rw[←hr];exact qTd (by omega) (by omega) hq h
 have HNo:Hid (∀k,k<3→qDk x.sorts.length f k=false→r=false):=fun k hk h=>by rw[←hr];exact qXc hk h
 clear hr hq
 go_enter Tryz.func81,Tryz.ntmps81
 go_wp2_with (go_at_call 99;rw[←hW0];clear hW0;refine HRes.out.mono ?_;rintro e w1 ⟨rfl,hb1⟩;have HB1:=Lib.hid hb1;clear hb1)
 clear c0 c1 c2 y1 y2 y3 y4 y5 z0 z1
 go_loopw [5] (fun i wr=>∃k:Nat,k≤3∧i=.int .i64 k∧Hid (∀j,j<k→qDk x.sorts.length f j=true)∧Hid (Below W0.heap.size W0 wr)) (fun i _=>3-(intOf i).toNat)
 case atStart=>exact⟨0,by omega,rfl,fun j hj=>by omega,HB1⟩
 case round =>
  obtain⟨k,hk3,rfl,HP,HB⟩:=hrel
  obtain⟨c0,c1,c2,y1,y2,y3,y4,y5⟩:=HK.out _ HB.out
  obtain⟨z0,z1⟩:=HZ.out _ HB.out
  have hk:k=0∨k=1∨k=2∨k=3:=by omega
  clear hk3
  rcases hk with rfl|rfl|rfl|rfl
  ·by_cases hkl:(0:Int)<f.len
   ·have hat:qDk x.sorts.length f 0=qBg x.sorts.length f.a0:=if_pos hkl
    have HC:=Lib.hid (HT.out _ HF.out.a0)
    have dk:decide ((0:Int)<f.len)=true:=decide_eq_true hkl
    have dg:decide (f.len≤(0:Int))=false:=decide_eq_false (by omega)
    cases hq:qBg x.sorts.length f.a0 with
    | true =>
     rw[hq] at hat HC
     have HP2:Hid (∀j,j<0+1→qDk x.sorts.length f j=true):=fun j hj=>by
      by_cases hjk:j<0
      ·exact HP.out j hjk
      ·obtain rfl:j=0:=by omega
       exact hat
     clear hq hat
     go_wp2_with fail
     refine wp_region_held_drew (S:=fun V=>V.cell? ⟨w.heap.size,0,none⟩=some (.slice x.sa x.sorts.length x.sc)∧V.cell? ⟨w.heap.size,1,none⟩=some (.slice x.fa x.funs.length x.fc)∧V.cell? ⟨w.heap.size,2,none⟩=some (.slice x.ma x.macs.length x.mc)∧V.cell? ⟨w.heap.size+1,1,none⟩=some (.int .i64 f.len)∧V.cell? ⟨w.heap.size+1,2,none⟩=some (.int .i64 f.a0)∧V.cell? ⟨w.heap.size+1,3,none⟩=some (.int .i64 f.a1)∧V.cell? ⟨w.heap.size+1,4,none⟩=some (.int .i64 f.a2)∧V.cell? ⟨w.heap.size+1,5,none⟩=some (.int .i64 f.res)) (by kernel_rfl) (HK.out _ HB.out.drew) (fun hHeld=>?_)
     refine tkY 0 (.int .i64 0) ?_;try simp only[k4]
     refine tkY 1 (.pointer (some ⟨w.heap.size+1,1,none⟩)) ?_;try simp only[k4]
     refine tkY 2 (.int .i64 f.len) ?_;try simp only[k4]
     refine tkY 3 (.bool true) ?_;try simp only[k4]
     refine tkY 4 (.bool true) ?_;try simp only[k4]
     refine tkY 5 (.agg #[.slice x.sa x.sorts.length x.sc,.slice x.fa x.funs.length x.fc,.slice x.ma x.macs.length x.mc]) ?_;try simp only[k4]
     refine tkY 6 (.int .i64 0) ?_;try simp only[k4]
     refine tkY 7 (.pointer (some ⟨w.heap.size+1,2,none⟩)) ?_;try simp only[k4]
     refine tkY 8 (.pointer (some ⟨w.heap.size+1,2,none⟩)) ?_;try simp only[k4]
     refine tkY 9 (.int .i64 f.a0) ?_;try simp only[k4]
     refine wpAnyH_ready (rs:=[10]) (by kernel_rfl) (by simp) ?_
     refine AllReadyH.cons (o:={ dst:=some 35,op:=Op.call { callee:=Callee.value (Operand.func 99),args:=#[Operand.tmp 30,Operand.tmp 34],argTypes:=#[26,3] },type:=4,pos := "ref.go:100", after:=#[{ on:=5,ground:=Ground.data },{ on:=9,ground:=Ground.data },{ on:=4,ground:=Ground.chain },{ on:=4,ground:=Ground.guard }],guard:=some (4,true) }) rfl (fun K hK=>?_) AllReadyH.nil
     go_simp
     go_at_call 99
     refine(HC.out _ HB.out.drew).mono ?_
     rintro e w2 ⟨rfl,hb2⟩
     have HB2:=Lib.hid hb2
     clear hb2
     go_wp2_with fail
     refine hK.out _ _ ?_ (fun hHeld=>?_)
     ·exact HK.out _ HB2.out
     clear hK K
     try simp only[Act.put,List.setIfInBounds_toArray,List.set_cons_zero,List.set_cons_succ]
     refine tkY 11 (.bool false) ?_;try simp only[k4]
     refine tkY 12 (.bool false) ?_;try simp only[k4]
     refine tkY 13 (.bool false) ?_;try simp only[k4]
     refine tkY 14 (.int .i64 0) ?_;try simp only[k4]
     refine tkY 15 (.pointer (some ⟨w.heap.size+1,1,none⟩)) ?_;try simp only[k4]
     refine tkY 16 (.int .i64 f.len) ?_;try simp only[k4]
     refine tkY 17 (.bool false) ?_;try simp only[k4]
     refine tkY 18 (.bool false) ?_;try simp only[k4]
     refine tkN 19 ?_;try simp only[k4]
     refine tkN 20 ?_;try simp only[k4]
     refine tkN 21 ?_;try simp only[k4]
     refine tkN 22 ?_;try simp only[k4]
     refine tkN 23 ?_;try simp only[k4]
     refine tkY 24 (.bool false) ?_;try simp only[k4]
     refine tkY 25 (.bool false) ?_;try simp only[k4]
     refine wpAnyH_done (by kernel_rfl) ?_ _
     go_wp2_with fail
     go_roundw
     case rel=>exact⟨0+1,by omega,by go_num,HP2,by first|exact HB2|exact HB2.out.drew⟩
     case measure=>simp[intOf]
    | false =>
     rw[hq] at hat HC
     obtain rfl:=HNo.out 0 (by omega) hat
     clear hq hat
     go_wp2_with fail
     refine wp_region_held_drew (S:=fun V=>V.cell? ⟨w.heap.size,0,none⟩=some (.slice x.sa x.sorts.length x.sc)∧V.cell? ⟨w.heap.size,1,none⟩=some (.slice x.fa x.funs.length x.fc)∧V.cell? ⟨w.heap.size,2,none⟩=some (.slice x.ma x.macs.length x.mc)∧V.cell? ⟨w.heap.size+1,1,none⟩=some (.int .i64 f.len)∧V.cell? ⟨w.heap.size+1,2,none⟩=some (.int .i64 f.a0)∧V.cell? ⟨w.heap.size+1,3,none⟩=some (.int .i64 f.a1)∧V.cell? ⟨w.heap.size+1,4,none⟩=some (.int .i64 f.a2)∧V.cell? ⟨w.heap.size+1,5,none⟩=some (.int .i64 f.res)) (by kernel_rfl) (HK.out _ HB.out.drew) (fun hHeld=>?_)
     refine tkY 0 (.int .i64 0) ?_;try simp only[k4]
     refine tkY 1 (.pointer (some ⟨w.heap.size+1,1,none⟩)) ?_;try simp only[k4]
     refine tkY 2 (.int .i64 f.len) ?_;try simp only[k4]
     refine tkY 3 (.bool true) ?_;try simp only[k4]
     refine tkY 4 (.bool true) ?_;try simp only[k4]
     refine tkY 5 (.agg #[.slice x.sa x.sorts.length x.sc,.slice x.fa x.funs.length x.fc,.slice x.ma x.macs.length x.mc]) ?_;try simp only[k4]
     refine tkY 6 (.int .i64 0) ?_;try simp only[k4]
     refine tkY 7 (.pointer (some ⟨w.heap.size+1,2,none⟩)) ?_;try simp only[k4]
     refine tkY 8 (.pointer (some ⟨w.heap.size+1,2,none⟩)) ?_;try simp only[k4]
     refine tkY 9 (.int .i64 f.a0) ?_;try simp only[k4]
     refine wpAnyH_ready (rs:=[10]) (by kernel_rfl) (by simp) ?_
     refine AllReadyH.cons (o:={ dst:=some 35,op:=Op.call { callee:=Callee.value (Operand.func 99),args:=#[Operand.tmp 30,Operand.tmp 34],argTypes:=#[26,3] },type:=4,pos := "ref.go:100", after:=#[{ on:=5,ground:=Ground.data },{ on:=9,ground:=Ground.data },{ on:=4,ground:=Ground.chain },{ on:=4,ground:=Ground.guard }],guard:=some (4,true) }) rfl (fun K hK=>?_) AllReadyH.nil
     go_simp
     go_at_call 99
     refine(HC.out _ HB.out.drew).mono ?_
     rintro e w2 ⟨rfl,hb2⟩
     have HB2:=Lib.hid hb2
     clear hb2
     go_wp2_with fail
     refine hK.out _ _ ?_ (fun hHeld=>?_)
     ·exact HK.out _ HB2.out
     clear hK K
     try simp only[Act.put,List.setIfInBounds_toArray,List.set_cons_zero,List.set_cons_succ]
     refine tkY 11 (.bool true) ?_;try simp only[k4]
     refine tkY 12 (.bool true) ?_;try simp only[k4]
     refine tkY 13 (.bool true) ?_;try simp only[k4]
     refine tkN 14 ?_;try simp only[k4]
     refine tkN 15 ?_;try simp only[k4]
     refine tkN 16 ?_;try simp only[k4]
     refine tkN 17 ?_;try simp only[k4]
     refine tkN 18 ?_;try simp only[k4]
     refine tkN 19 ?_;try simp only[k4]
     refine tkN 20 ?_;try simp only[k4]
     refine tkN 21 ?_;try simp only[k4]
     refine tkN 22 ?_;try simp only[k4]
     refine tkN 23 ?_;try simp only[k4]
     refine tkN 24 ?_;try simp only[k4]
     refine tkY 25 (.bool true) ?_;try simp only[k4]
     refine wpAnyH_done (by kernel_rfl) ?_ _
     go_wp2_with fail
     go_ret
     exact⟨rfl,by first|exact HB0.out.trans (HB2.out.mono HB0.out.size)|exact(HB0.out.trans (HB2.out.mono HB0.out.size)).drew⟩
   ·have hat:qDk x.sorts.length f 0=decide (f.a0=0):=if_neg hkl
    have dk:decide ((0:Int)<f.len)=false:=decide_eq_false hkl
    have dg:decide (f.len≤(0:Int))=true:=decide_eq_true (by omega)
    by_cases hv:f.a0=0
    ·rw[decide_eq_true hv] at hat
     have e1:=qB3 hv
     have HP2:Hid (∀j,j<0+1→qDk x.sorts.length f j=true):=fun j hj=>by
      by_cases hjk:j<0
      ·exact HP.out j hjk
      ·obtain rfl:j=0:=by omega
       exact hat
     clear hat hv
     go_wp2_with fail
     go_quiet (fail)
     go_wp2_with fail
     go_roundw
     case rel=>exact⟨0+1,by omega,by go_num,HP2,qAh HB.out⟩
     case measure=>simp[intOf]
    ·rw[decide_eq_false hv] at hat
     obtain rfl:=HNo.out 0 (by omega) hat
     have e1:=qAr hv
     clear hat hv
     go_wp2_with fail
     go_quiet (fail)
     go_wp2_with fail
     go_ret
     exact⟨rfl,qAh (HB0.out.trans (HB.out.mono HB0.out.size))⟩
  ·by_cases hkl:(1:Int)<f.len
   ·have hat:qDk x.sorts.length f 1=qBg x.sorts.length f.a1:=if_pos hkl
    have HC:=Lib.hid (HT.out _ HF.out.a1)
    have dk:decide ((1:Int)<f.len)=true:=decide_eq_true hkl
    have dg:decide (f.len≤(1:Int))=false:=decide_eq_false (by omega)
    cases hq:qBg x.sorts.length f.a1 with
    | true =>
     rw[hq] at hat HC
     have HP2:Hid (∀j,j<1+1→qDk x.sorts.length f j=true):=fun j hj=>by
      by_cases hjk:j<1
      ·exact HP.out j hjk
      ·obtain rfl:j=1:=by omega
       exact hat
     clear hq hat
     go_wp2_with fail
     refine wp_region_held_drew (S:=fun V=>V.cell? ⟨w.heap.size,0,none⟩=some (.slice x.sa x.sorts.length x.sc)∧V.cell? ⟨w.heap.size,1,none⟩=some (.slice x.fa x.funs.length x.fc)∧V.cell? ⟨w.heap.size,2,none⟩=some (.slice x.ma x.macs.length x.mc)∧V.cell? ⟨w.heap.size+1,1,none⟩=some (.int .i64 f.len)∧V.cell? ⟨w.heap.size+1,2,none⟩=some (.int .i64 f.a0)∧V.cell? ⟨w.heap.size+1,3,none⟩=some (.int .i64 f.a1)∧V.cell? ⟨w.heap.size+1,4,none⟩=some (.int .i64 f.a2)∧V.cell? ⟨w.heap.size+1,5,none⟩=some (.int .i64 f.res)) (by kernel_rfl) (HK.out _ HB.out.drew) (fun hHeld=>?_)
     refine tkY 0 (.int .i64 1) ?_;try simp only[k4]
     refine tkY 1 (.pointer (some ⟨w.heap.size+1,1,none⟩)) ?_;try simp only[k4]
     refine tkY 2 (.int .i64 f.len) ?_;try simp only[k4]
     refine tkY 3 (.bool true) ?_;try simp only[k4]
     refine tkY 4 (.bool true) ?_;try simp only[k4]
     refine tkY 5 (.agg #[.slice x.sa x.sorts.length x.sc,.slice x.fa x.funs.length x.fc,.slice x.ma x.macs.length x.mc]) ?_;try simp only[k4]
     refine tkY 6 (.int .i64 1) ?_;try simp only[k4]
     refine tkY 7 (.pointer (some ⟨w.heap.size+1,2,none⟩)) ?_;try simp only[k4]
     refine tkY 8 (.pointer (some ⟨w.heap.size+1,3,none⟩)) ?_;try simp only[k4]
     refine tkY 9 (.int .i64 f.a1) ?_;try simp only[k4]
     refine wpAnyH_ready (rs:=[10]) (by kernel_rfl) (by simp) ?_
     refine AllReadyH.cons (o:={ dst:=some 35,op:=Op.call { callee:=Callee.value (Operand.func 99),args:=#[Operand.tmp 30,Operand.tmp 34],argTypes:=#[26,3] },type:=4,pos := "ref.go:100", after:=#[{ on:=5,ground:=Ground.data },{ on:=9,ground:=Ground.data },{ on:=4,ground:=Ground.chain },{ on:=4,ground:=Ground.guard }],guard:=some (4,true) }) rfl (fun K hK=>?_) AllReadyH.nil
     go_simp
     go_at_call 99
     refine(HC.out _ HB.out.drew).mono ?_
     rintro e w2 ⟨rfl,hb2⟩
     have HB2:=Lib.hid hb2
     clear hb2
     go_wp2_with fail
     refine hK.out _ _ ?_ (fun hHeld=>?_)
     ·exact HK.out _ HB2.out
     clear hK K
     try simp only[Act.put,List.setIfInBounds_toArray,List.set_cons_zero,List.set_cons_succ]
     refine tkY 11 (.bool false) ?_;try simp only[k4]
     refine tkY 12 (.bool false) ?_;try simp only[k4]
     refine tkY 13 (.bool false) ?_;try simp only[k4]
     refine tkY 14 (.int .i64 1) ?_;try simp only[k4]
     refine tkY 15 (.pointer (some ⟨w.heap.size+1,1,none⟩)) ?_;try simp only[k4]
     refine tkY 16 (.int .i64 f.len) ?_;try simp only[k4]
     refine tkY 17 (.bool false) ?_;try simp only[k4]
     refine tkY 18 (.bool false) ?_;try simp only[k4]
     refine tkN 19 ?_;try simp only[k4]
     refine tkN 20 ?_;try simp only[k4]
     refine tkN 21 ?_;try simp only[k4]
     refine tkN 22 ?_;try simp only[k4]
     refine tkN 23 ?_;try simp only[k4]
     refine tkY 24 (.bool false) ?_;try simp only[k4]
     refine tkY 25 (.bool false) ?_;try simp only[k4]
     refine wpAnyH_done (by kernel_rfl) ?_ _
     go_wp2_with fail
     go_roundw
     case rel=>exact⟨1+1,by omega,by go_num,HP2,by first|exact HB2|exact HB2.out.drew⟩
     case measure=>simp[intOf]
    | false =>
     rw[hq] at hat HC
     obtain rfl:=HNo.out 1 (by omega) hat
     clear hq hat
     go_wp2_with fail
     refine wp_region_held_drew (S:=fun V=>V.cell? ⟨w.heap.size,0,none⟩=some (.slice x.sa x.sorts.length x.sc)∧V.cell? ⟨w.heap.size,1,none⟩=some (.slice x.fa x.funs.length x.fc)∧V.cell? ⟨w.heap.size,2,none⟩=some (.slice x.ma x.macs.length x.mc)∧V.cell? ⟨w.heap.size+1,1,none⟩=some (.int .i64 f.len)∧V.cell? ⟨w.heap.size+1,2,none⟩=some (.int .i64 f.a0)∧V.cell? ⟨w.heap.size+1,3,none⟩=some (.int .i64 f.a1)∧V.cell? ⟨w.heap.size+1,4,none⟩=some (.int .i64 f.a2)∧V.cell? ⟨w.heap.size+1,5,none⟩=some (.int .i64 f.res)) (by kernel_rfl) (HK.out _ HB.out.drew) (fun hHeld=>?_)
     refine tkY 0 (.int .i64 1) ?_;try simp only[k4]
     refine tkY 1 (.pointer (some ⟨w.heap.size+1,1,none⟩)) ?_;try simp only[k4]
     refine tkY 2 (.int .i64 f.len) ?_;try simp only[k4]
     refine tkY 3 (.bool true) ?_;try simp only[k4]
     refine tkY 4 (.bool true) ?_;try simp only[k4]
     refine tkY 5 (.agg #[.slice x.sa x.sorts.length x.sc,.slice x.fa x.funs.length x.fc,.slice x.ma x.macs.length x.mc]) ?_;try simp only[k4]
     refine tkY 6 (.int .i64 1) ?_;try simp only[k4]
     refine tkY 7 (.pointer (some ⟨w.heap.size+1,2,none⟩)) ?_;try simp only[k4]
     refine tkY 8 (.pointer (some ⟨w.heap.size+1,3,none⟩)) ?_;try simp only[k4]
     refine tkY 9 (.int .i64 f.a1) ?_;try simp only[k4]
     refine wpAnyH_ready (rs:=[10]) (by kernel_rfl) (by simp) ?_
     refine AllReadyH.cons (o:={ dst:=some 35,op:=Op.call { callee:=Callee.value (Operand.func 99),args:=#[Operand.tmp 30,Operand.tmp 34],argTypes:=#[26,3] },type:=4,pos := "ref.go:100", after:=#[{ on:=5,ground:=Ground.data },{ on:=9,ground:=Ground.data },{ on:=4,ground:=Ground.chain },{ on:=4,ground:=Ground.guard }],guard:=some (4,true) }) rfl (fun K hK=>?_) AllReadyH.nil
     go_simp
     go_at_call 99
     refine(HC.out _ HB.out.drew).mono ?_
     rintro e w2 ⟨rfl,hb2⟩
     have HB2:=Lib.hid hb2
     clear hb2
     go_wp2_with fail
     refine hK.out _ _ ?_ (fun hHeld=>?_)
     ·exact HK.out _ HB2.out
     clear hK K
     try simp only[Act.put,List.setIfInBounds_toArray,List.set_cons_zero,List.set_cons_succ]
     refine tkY 11 (.bool true) ?_;try simp only[k4]
     refine tkY 12 (.bool true) ?_;try simp only[k4]
     refine tkY 13 (.bool true) ?_;try simp only[k4]
     refine tkN 14 ?_;try simp only[k4]
     refine tkN 15 ?_;try simp only[k4]
     refine tkN 16 ?_;try simp only[k4]
     refine tkN 17 ?_;try simp only[k4]
     refine tkN 18 ?_;try simp only[k4]
     refine tkN 19 ?_;try simp only[k4]
     refine tkN 20 ?_;try simp only[k4]
     refine tkN 21 ?_;try simp only[k4]
     refine tkN 22 ?_;try simp only[k4]
     refine tkN 23 ?_;try simp only[k4]
     refine tkN 24 ?_;try simp only[k4]
     refine tkY 25 (.bool true) ?_;try simp only[k4]
     refine wpAnyH_done (by kernel_rfl) ?_ _
     go_wp2_with fail
     go_ret
     exact⟨rfl,by first|exact HB0.out.trans (HB2.out.mono HB0.out.size)|exact(HB0.out.trans (HB2.out.mono HB0.out.size)).drew⟩
   ·have hat:qDk x.sorts.length f 1=decide (f.a1=0):=if_neg hkl
    have dk:decide ((1:Int)<f.len)=false:=decide_eq_false hkl
    have dg:decide (f.len≤(1:Int))=true:=decide_eq_true (by omega)
    by_cases hv:f.a1=0
    ·rw[decide_eq_true hv] at hat
     have e1:=qB3 hv
     have HP2:Hid (∀j,j<1+1→qDk x.sorts.length f j=true):=fun j hj=>by
      by_cases hjk:j<1
      ·exact HP.out j hjk
      ·obtain rfl:j=1:=by omega
       exact hat
     clear hat hv
     go_wp2_with fail
     go_quiet (fail)
     go_wp2_with fail
     go_roundw
     case rel=>exact⟨1+1,by omega,by go_num,HP2,qAh HB.out⟩
     case measure=>simp[intOf]
    ·rw[decide_eq_false hv] at hat
     obtain rfl:=HNo.out 1 (by omega) hat
     have e1:=qAr hv
     clear hat hv
     go_wp2_with fail
     go_quiet (fail)
     go_wp2_with fail
     go_ret
     exact⟨rfl,qAh (HB0.out.trans (HB.out.mono HB0.out.size))⟩
  ·by_cases hkl:(2:Int)<f.len
   ·have hat:qDk x.sorts.length f 2=qBg x.sorts.length f.a2:=if_pos hkl
    have HC:=Lib.hid (HT.out _ HF.out.a2)
    have dk:decide ((2:Int)<f.len)=true:=decide_eq_true hkl
    have dg:decide (f.len≤(2:Int))=false:=decide_eq_false (by omega)
    cases hq:qBg x.sorts.length f.a2 with
    | true =>
     rw[hq] at hat HC
     have HP2:Hid (∀j,j<2+1→qDk x.sorts.length f j=true):=fun j hj=>by
      by_cases hjk:j<2
      ·exact HP.out j hjk
      ·obtain rfl:j=2:=by omega
       exact hat
     clear hq hat
     go_wp2_with fail
     refine wp_region_held_drew (S:=fun V=>V.cell? ⟨w.heap.size,0,none⟩=some (.slice x.sa x.sorts.length x.sc)∧V.cell? ⟨w.heap.size,1,none⟩=some (.slice x.fa x.funs.length x.fc)∧V.cell? ⟨w.heap.size,2,none⟩=some (.slice x.ma x.macs.length x.mc)∧V.cell? ⟨w.heap.size+1,1,none⟩=some (.int .i64 f.len)∧V.cell? ⟨w.heap.size+1,2,none⟩=some (.int .i64 f.a0)∧V.cell? ⟨w.heap.size+1,3,none⟩=some (.int .i64 f.a1)∧V.cell? ⟨w.heap.size+1,4,none⟩=some (.int .i64 f.a2)∧V.cell? ⟨w.heap.size+1,5,none⟩=some (.int .i64 f.res)) (by kernel_rfl) (HK.out _ HB.out.drew) (fun hHeld=>?_)
     refine tkY 0 (.int .i64 2) ?_;try simp only[k4]
     refine tkY 1 (.pointer (some ⟨w.heap.size+1,1,none⟩)) ?_;try simp only[k4]
     refine tkY 2 (.int .i64 f.len) ?_;try simp only[k4]
     refine tkY 3 (.bool true) ?_;try simp only[k4]
     refine tkY 4 (.bool true) ?_;try simp only[k4]
     refine tkY 5 (.agg #[.slice x.sa x.sorts.length x.sc,.slice x.fa x.funs.length x.fc,.slice x.ma x.macs.length x.mc]) ?_;try simp only[k4]
     refine tkY 6 (.int .i64 2) ?_;try simp only[k4]
     refine tkY 7 (.pointer (some ⟨w.heap.size+1,2,none⟩)) ?_;try simp only[k4]
     refine tkY 8 (.pointer (some ⟨w.heap.size+1,4,none⟩)) ?_;try simp only[k4]
     refine tkY 9 (.int .i64 f.a2) ?_;try simp only[k4]
     refine wpAnyH_ready (rs:=[10]) (by kernel_rfl) (by simp) ?_
     refine AllReadyH.cons (o:={ dst:=some 35,op:=Op.call { callee:=Callee.value (Operand.func 99),args:=#[Operand.tmp 30,Operand.tmp 34],argTypes:=#[26,3] },type:=4,pos := "ref.go:100", after:=#[{ on:=5,ground:=Ground.data },{ on:=9,ground:=Ground.data },{ on:=4,ground:=Ground.chain },{ on:=4,ground:=Ground.guard }],guard:=some (4,true) }) rfl (fun K hK=>?_) AllReadyH.nil
     go_simp
     go_at_call 99
     refine(HC.out _ HB.out.drew).mono ?_
     rintro e w2 ⟨rfl,hb2⟩
     have HB2:=Lib.hid hb2
     clear hb2
     go_wp2_with fail
     refine hK.out _ _ ?_ (fun hHeld=>?_)
     ·exact HK.out _ HB2.out
     clear hK K
     try simp only[Act.put,List.setIfInBounds_toArray,List.set_cons_zero,List.set_cons_succ]
     refine tkY 11 (.bool false) ?_;try simp only[k4]
     refine tkY 12 (.bool false) ?_;try simp only[k4]
     refine tkY 13 (.bool false) ?_;try simp only[k4]
     refine tkY 14 (.int .i64 2) ?_;try simp only[k4]
     refine tkY 15 (.pointer (some ⟨w.heap.size+1,1,none⟩)) ?_;try simp only[k4]
     refine tkY 16 (.int .i64 f.len) ?_;try simp only[k4]
     refine tkY 17 (.bool false) ?_;try simp only[k4]
     refine tkY 18 (.bool false) ?_;try simp only[k4]
     refine tkN 19 ?_;try simp only[k4]
     refine tkN 20 ?_;try simp only[k4]
     refine tkN 21 ?_;try simp only[k4]
     refine tkN 22 ?_;try simp only[k4]
     refine tkN 23 ?_;try simp only[k4]
     refine tkY 24 (.bool false) ?_;try simp only[k4]
     refine tkY 25 (.bool false) ?_;try simp only[k4]
     refine wpAnyH_done (by kernel_rfl) ?_ _
     go_wp2_with fail
     go_roundw
     case rel=>exact⟨2+1,by omega,by go_num,HP2,by first|exact HB2|exact HB2.out.drew⟩
     case measure=>simp[intOf]
    | false =>
     rw[hq] at hat HC
     obtain rfl:=HNo.out 2 (by omega) hat
     clear hq hat
     go_wp2_with fail
     refine wp_region_held_drew (S:=fun V=>V.cell? ⟨w.heap.size,0,none⟩=some (.slice x.sa x.sorts.length x.sc)∧V.cell? ⟨w.heap.size,1,none⟩=some (.slice x.fa x.funs.length x.fc)∧V.cell? ⟨w.heap.size,2,none⟩=some (.slice x.ma x.macs.length x.mc)∧V.cell? ⟨w.heap.size+1,1,none⟩=some (.int .i64 f.len)∧V.cell? ⟨w.heap.size+1,2,none⟩=some (.int .i64 f.a0)∧V.cell? ⟨w.heap.size+1,3,none⟩=some (.int .i64 f.a1)∧V.cell? ⟨w.heap.size+1,4,none⟩=some (.int .i64 f.a2)∧V.cell? ⟨w.heap.size+1,5,none⟩=some (.int .i64 f.res)) (by kernel_rfl) (HK.out _ HB.out.drew) (fun hHeld=>?_)
     refine tkY 0 (.int .i64 2) ?_;try simp only[k4]
     refine tkY 1 (.pointer (some ⟨w.heap.size+1,1,none⟩)) ?_;try simp only[k4]
     refine tkY 2 (.int .i64 f.len) ?_;try simp only[k4]
     refine tkY 3 (.bool true) ?_;try simp only[k4]
     refine tkY 4 (.bool true) ?_;try simp only[k4]
     refine tkY 5 (.agg #[.slice x.sa x.sorts.length x.sc,.slice x.fa x.funs.length x.fc,.slice x.ma x.macs.length x.mc]) ?_;try simp only[k4]
     refine tkY 6 (.int .i64 2) ?_;try simp only[k4]
     refine tkY 7 (.pointer (some ⟨w.heap.size+1,2,none⟩)) ?_;try simp only[k4]
     refine tkY 8 (.pointer (some ⟨w.heap.size+1,4,none⟩)) ?_;try simp only[k4]
     refine tkY 9 (.int .i64 f.a2) ?_;try simp only[k4]
     refine wpAnyH_ready (rs:=[10]) (by kernel_rfl) (by simp) ?_
     refine AllReadyH.cons (o:={ dst:=some 35,op:=Op.call { callee:=Callee.value (Operand.func 99),args:=#[Operand.tmp 30,Operand.tmp 34],argTypes:=#[26,3] },type:=4,pos := "ref.go:100", after:=#[{ on:=5,ground:=Ground.data },{ on:=9,ground:=Ground.data },{ on:=4,ground:=Ground.chain },{ on:=4,ground:=Ground.guard }],guard:=some (4,true) }) rfl (fun K hK=>?_) AllReadyH.nil
     go_simp
     go_at_call 99
     refine(HC.out _ HB.out.drew).mono ?_
     rintro e w2 ⟨rfl,hb2⟩
     have HB2:=Lib.hid hb2
     clear hb2
     go_wp2_with fail
     refine hK.out _ _ ?_ (fun hHeld=>?_)
     ·exact HK.out _ HB2.out
     clear hK K
     try simp only[Act.put,List.setIfInBounds_toArray,List.set_cons_zero,List.set_cons_succ]
     refine tkY 11 (.bool true) ?_;try simp only[k4]
     refine tkY 12 (.bool true) ?_;try simp only[k4]
     refine tkY 13 (.bool true) ?_;try simp only[k4]
     refine tkN 14 ?_;try simp only[k4]
     refine tkN 15 ?_;try simp only[k4]
     refine tkN 16 ?_;try simp only[k4]
     refine tkN 17 ?_;try simp only[k4]
     refine tkN 18 ?_;try simp only[k4]
     refine tkN 19 ?_;try simp only[k4]
     refine tkN 20 ?_;try simp only[k4]
     refine tkN 21 ?_;try simp only[k4]
     refine tkN 22 ?_;try simp only[k4]
     refine tkN 23 ?_;try simp only[k4]
     refine tkN 24 ?_;try simp only[k4]
     refine tkY 25 (.bool true) ?_;try simp only[k4]
     refine wpAnyH_done (by kernel_rfl) ?_ _
     go_wp2_with fail
     go_ret
     exact⟨rfl,by first|exact HB0.out.trans (HB2.out.mono HB0.out.size)|exact(HB0.out.trans (HB2.out.mono HB0.out.size)).drew⟩
   ·have hat:qDk x.sorts.length f 2=decide (f.a2=0):=if_neg hkl
    have dk:decide ((2:Int)<f.len)=false:=decide_eq_false hkl
    have dg:decide (f.len≤(2:Int))=true:=decide_eq_true (by omega)
    by_cases hv:f.a2=0
    ·rw[decide_eq_true hv] at hat
     have e1:=qB3 hv
     have HP2:Hid (∀j,j<2+1→qDk x.sorts.length f j=true):=fun j hj=>by
      by_cases hjk:j<2
      ·exact HP.out j hjk
      ·obtain rfl:j=2:=by omega
       exact hat
     clear hat hv
     go_wp2_with fail
     go_quiet (fail)
     go_wp2_with fail
     go_roundw
     case rel=>exact⟨2+1,by omega,by go_num,HP2,qAh HB.out⟩
     case measure=>simp[intOf]
    ·rw[decide_eq_false hv] at hat
     obtain rfl:=HNo.out 2 (by omega) hat
     have e1:=qAr hv
     clear hat hv
     go_wp2_with fail
     go_quiet (fail)
     go_wp2_with fail
     go_ret
     exact⟨rfl,qAh (HB0.out.trans (HB.out.mono HB0.out.size))⟩
  ·obtain rfl:=HYes.out HP.out
   go_wp2
   go_ret
   exact⟨rfl,HB0.out.trans (HB.out.mono HB0.out.size)⟩
def zC1 (n:Nat) (ahead:List ParA) (p:ParA):Bool:=qJ0 p.name.data.toList&&(!qR4 p.name.data.toList&&(qBg n p.sort && !qJ1 (ahead.map (·.name)) p.name))
def qNi (n:Nat) (ahead:List ParA):List ParA→Bool
 | []=>true
 | p :: r=>zC1 n ahead p&&qNi n (ahead++[p]) r
theorem qFk (n:Nat):∀(l m a:List ParA),qNi n a (l++m)=(qNi n a l&&qNi n (a++l) m)
 | [],m,a=>by simp[qNi]
 | y :: r,m,a=>by
  simp only[List.cons_append,qNi]
  rw[qFk n r m,List.append_assoc]
  simp only[Bool.and_assoc];rfl
theorem qQd {n:Nat} {l:List ParA} {k:Nat} {p:ParA} (h:l[k]? = some p):qNi n [] (l.take (k+1))=(qNi n [] (l.take k)&&zC1 n (l.take k) p):=by
 rw[qEi h,qFk];simp[qNi]
theorem qXd {n:Nat} {l:List ParA} {k:Nat} (h:qNi n [] (l.take k)=false):qNi n [] l=false:=by
 have:=qFk n (l.take k) (l.drop k) []
 rw[List.take_append_drop,h] at this
 rw[this];rfl
def qXe (n:Nat) (m:MacA):Bool:=decide (m.params.length≤3)&&(qBg n m.res&&(sxB m.body&&qNi n [] m.params))
theorem qXf {V:World} {B:Nat} {n s:Value} {ty:TypeId} (h:V.heap[B]? = some (.cells #[n,s] ty (0,0))):V.cell? ⟨B,0,none⟩=some n∧V.cell? ⟨B,1,none⟩=some s∧B<V.heap.size :=
 ⟨(cell_of_row _ _ 0 _ _ _ h).trans rfl,(cell_of_row _ _ 1 _ _ _ h).trans rfl,(Array.getElem?_eq_some_iff.1 h).1⟩
set_option maxHeartbeats 4000000 in
theorem qOc (x:SigV) (name:ByteArray) (ps:List ParA) (pa:Option Addr) (pc:Nat) (res:Int) (t:Tree) (ba:Option Addr) (bc:Nat) (r:Bool) (w:World) (hR:SigR w x) (hm:MacOk w w.heap.size ⟨⟨name,ps,res,t⟩,pa,pc,ba,bc⟩) (hl:x.sorts.length≤100) (hr:qXe x.sorts.length ⟨name,ps,res,t⟩=r) :
  Calls Tryz.prog 82 #[.agg #[.slice x.sa x.sorts.length x.sc,.slice x.fa x.funs.length x.fc,.slice x.ma x.macs.length x.mc],.agg #[.string name,.slice pa ps.length pc,.int .i64 res,.int .i8 t.kind,.string (qA8 t.text),.slice ba t.kids.length bc]] w fun e w'=>e=.returned (.bool r)∧Below w.heap.size w w':=by
 obtain⟨W0,hW0⟩:∃W0,W0=(w.alloc (.cells #[.slice x.sa x.sorts.length x.sc,.slice x.fa x.funs.length x.fc,.slice x.ma x.macs.length x.mc] 26)).alloc (.cells #[.string name,.slice pa ps.length pc,.int .i64 res,.int .i8 t.kind,.string (qA8 t.text),.slice ba t.kids.length bc] 62):=⟨_,rfl⟩
 have hB0:Below w.heap.size w W0:=by rw[hW0];exact((Below.refl _ w).alloc (Nat.le_refl _) _).alloc (by simp) _
 have HB0:=Lib.hid hB0
 have hX0:W0.heap[w.heap.size]? = some (.cells #[.slice x.sa x.sorts.length x.sc,.slice x.fa x.funs.length x.fc,.slice x.ma x.macs.length x.mc] 26 (0,0)):=by rw[hW0];exact(Below.heap_alloc _ _ _ (by simp)).trans (heap_alloc_new w _)
 have hY0:W0.heap[w.heap.size+1]? = some (.cells #[.string name,.slice pa ps.length pc,.int .i64 res,.int .i8 t.kind,.string (qA8 t.text),.slice ba t.kids.length bc] 62 (0,0)):=by
  have:=heap_alloc_new (w.alloc (.cells #[.slice x.sa x.sorts.length x.sc,.slice x.fa x.funs.length x.fc,.slice x.ma x.macs.length x.mc] 26)) (.cells #[.string name,.slice pa ps.length pc,.int .i64 res,.int .i8 t.kind,.string (qA8 t.text),.slice ba t.kids.length bc] 62)
  rw[World.size_alloc] at this
  rw[hW0];exact this
 have HK:Hid (∀V,Below W0.heap.size W0 V→V.cell? ⟨w.heap.size,0,none⟩=some (.slice x.sa x.sorts.length x.sc)∧V.cell? ⟨w.heap.size,1,none⟩=some (.slice x.fa x.funs.length x.fc)∧V.cell? ⟨w.heap.size,2,none⟩=some (.slice x.ma x.macs.length x.mc)∧V.cell? ⟨w.heap.size+1,1,none⟩=some (.slice pa ps.length pc)∧V.cell? ⟨w.heap.size+1,2,none⟩=some (.int .i64 res)∧V.cell? ⟨w.heap.size+1,3,none⟩=some (.int .i8 t.kind)∧V.cell? ⟨w.heap.size+1,4,none⟩=some (.string (qA8 t.text))∧V.cell? ⟨w.heap.size+1,5,none⟩=some (.slice ba t.kids.length bc)∧w.heap.size<V.heap.size∧w.heap.size+1<V.heap.size):=fun V hV=>by
  obtain⟨c0,c1,c2,z0⟩:=qAx ((hV.block _ (Array.getElem?_eq_some_iff.1 hX0).1).trans hX0)
  have h:=(hV.block _ (Array.getElem?_eq_some_iff.1 hY0).1).trans hY0
  exact⟨c0,c1,c2,(cell_of_row _ _ 1 _ _ _ h).trans rfl,(cell_of_row _ _ 2 _ _ _ h).trans rfl,(cell_of_row _ _ 3 _ _ _ h).trans rfl,(cell_of_row _ _ 4 _ _ _ h).trans rfl,(cell_of_row _ _ 5 _ _ _ h).trans rfl,z0,(Array.getElem?_eq_some_iff.1 h).1⟩
 have HT:Hid (∀i,I64 i→∀V,Below W0.heap.size W0 V→Calls Tryz.prog 99 #[.agg #[.slice x.sa x.sorts.length x.sc,.slice x.fa x.funs.length x.fc,.slice x.ma x.macs.length x.mc],.int .i64 i] V fun e w'=>e=.returned (.bool (qBg x.sorts.length i))∧Below W0.heap.size W0 w'∧Below V.heap.size V w'):=fun i hi V hV=>(qJ9 x i _ V (hR.below (hB0.trans (hV.mono hB0.size))) rfl hi hl).mono fun e w' ⟨h1,h2⟩=>⟨h1,hV.trans (h2.mono hV.size),h2⟩
 have HBody:Hid (∀V,Below W0.heap.size W0 V→Calls Tryz.prog 100 #[.agg #[.int .i8 t.kind,.string (qA8 t.text),.slice ba t.kids.length bc]] V fun e w'=>e=.returned (.bool (sxB t))∧Below W0.heap.size W0 w'):=fun V hV=>(qQc t _ _ V (hm.body.below (hB0.trans (hV.mono hB0.size))) rfl).mono fun e w' ⟨h1,h2⟩=>⟨h1,hV.trans (h2.mono hV.size)⟩
 have HMy:Hid (∀(s:ByteArray) V,s.size≤maxLen→Calls Tryz.prog 93 #[.string s] V fun e w'=>e=.returned (.bool (qJ0 s.data.toList))∧V=w'):=fun s V hs=>qJz s _ V (by simp only[maxLen] at hs;omega) (qNf s)
 have HRs:Hid (∀(s:ByteArray) q V,qR4 s.data.toList=q→Calls Tryz.prog 94 #[.string s] V fun e w'=>e=.returned (.bool q)∧V=w'):=fun s q V hq=>by
  cases q with
  | true=>exact qNa s V hq
  | false=>exact qQa s V hq
 have HAt:Hid (∀V,Below W0.heap.size W0 V→At V w.heap.size (ps.flatMap zAx) pa):=fun V hV=>hm.pat.below (hB0.trans (hV.mono hB0.size))
 have HP:Hid (∀p∈ps,ParOk p):=hm.pok
 have hpl:=hm.plen
 have hrs:=hm.res
 simp only at hpl
 have hw0:=hB0.size
 obtain⟨c0,c1,c2,y1,y2,y3,y4,y5,z0,z1⟩:=HK.out _ (Below.refl _ _)
 unfold qXe at hr
 simp only at hr
 clear hR hX0 hY0 hm hl hB0
 by_cases h0:3<ps.length
 ·obtain rfl:r=false:=by rw[←hr,decide_eq_false (by omega)];rfl
  have d0:(3:Int)<(ps.length:Int):=by omega
  clear hr
  go_enter Tryz.func82,Tryz.ntmps82
  go_wp2
  rw[←hW0]
  go_ret
  exact⟨rfl,HB0.out⟩
 rw[decide_eq_true (by omega),Bool.true_and] at hr
 have d0:¬(3:Int)<(ps.length:Int):=by omega
 have HRes:=Lib.hid (HT.out res hrs W0 (Below.refl _ _))
 cases hq:qBg x.sorts.length res with
 | false =>
  obtain rfl:r=false:=by rw[←hr,hq];rfl
  rw[hq] at HRes
  clear hr hq
  go_enter Tryz.func82,Tryz.ntmps82
  go_wp2_with (go_at_call 99;rw[←hW0];clear hW0;refine HRes.out.mono ?_;rintro e w1 ⟨rfl,hb1,_⟩)
  go_ret
  exact⟨rfl,HB0.out.trans (hb1.mono HB0.out.size)⟩
 | true =>
 rw[hq] at HRes hr
 rw[Bool.true_and] at hr
 clear hq
 cases hq:sxB t with
 | false =>
  obtain rfl:r=false:=by rw[←hr,hq];rfl
  rw[hq] at HBody
  clear hr hq
  go_enter Tryz.func82,Tryz.ntmps82
  go_wp2_with (first|(go_at_call 99;rw[←hW0];clear hW0;refine HRes.out.mono ?_;rintro e w1 ⟨rfl,hb1,_⟩;have HB1:=Lib.hid hb1;clear hb1 c0 c1 c2 y1 y2 y3 y4 y5 z0 z1;obtain⟨c0,c1,c2,y1,y2,y3,y4,y5,z0,z1⟩:=HK.out _ HB1.out)|(go_at_call 100;refine(HBody.out _ HB1.out).mono ?_;rintro e w2 ⟨rfl,hb2⟩))
  go_ret
  exact⟨rfl,HB0.out.trans (hb2.mono HB0.out.size)⟩
 | true =>
 rw[hq] at HBody hr
 rw[Bool.true_and] at hr
 have HPar:=Lib.hid hr
 clear hq hr
 go_enter Tryz.func82,Tryz.ntmps82
 go_wp2_with (first|(go_at_call 99;rw[←hW0];clear hW0;refine HRes.out.mono ?_;rintro e w1 ⟨rfl,hb1,_⟩;have HB1:=Lib.hid hb1;clear hb1 c0 c1 c2 y1 y2 y3 y4 y5 z0 z1;obtain⟨c0,c1,c2,y1,y2,y3,y4,y5,z0,z1⟩:=HK.out _ HB1.out)|(go_at_call 100;refine(HBody.out _ HB1.out).mono ?_;rintro e w2 ⟨rfl,hb2⟩;have HB2:=Lib.hid hb2;clear hb2 c0 c1 c2 y1 y2 y3 y4 y5 z0 z1))
 go_loopw [5] (fun i wr=>∃k:Nat,k≤ps.length∧i=.int .i64 k∧Hid (qNi x.sorts.length [] (ps.take k)=true)∧Hid (Below W0.heap.size W0 wr)) (fun i _=>ps.length-(intOf i).toNat)
 case atStart=>exact⟨0,Nat.zero_le _,rfl,by show _=_;rw[List.take_zero];rfl,HB2⟩
 case round =>
  obtain⟨k,hk,rfl,HQ,HB⟩:=hrel
  obtain⟨c0,c1,c2,y1,y2,y3,y4,y5,z0,z1⟩:=HK.out _ HB.out
  by_cases hlt:k<ps.length
  rotate_left
  ·obtain rfl:k=ps.length:=by omega
   obtain rfl:r=true:=by rw[←HPar.out];have h:=HQ.out;rwa [List.take_length] at h
   go_wp2
   go_ret
   exact⟨rfl,HB0.out.trans (HB.out.mono HB0.out.size)⟩
  obtain⟨p,hp⟩:∃p,ps[k]? = some p:=⟨_,List.getElem?_eq_getElem hlt⟩
  have hpo:=HP.out p (List.mem_of_getElem? hp)
  obtain⟨g,o,rfl,hg,hcell⟩:=HAt.out _ HB.out (by rw[len_flat qF4];omega)
  have q0:=hcell _ _ ((get_flat qF4 ps k 0 p hp (by omega)).trans rfl)
  have q1:=hcell _ _ ((get_flat qF4 ps k 1 p hp (by omega)).trans rfl)
  simp only[Nat.add_zero,←Nat.add_assoc] at q0 q1
  have hgw:g<wr.heap.size:=by have:=HB.out.size;omega
  have hki:(k:Int)<(ps.length:Int):=by omega
  have hk0:(0:Int)≤(k:Int):=by omega
  have HNX:=Lib.hid (qQd (n:=x.sorts.length) hp)
  have HMyp:=Lib.hid (HMy.out p.name (wr.alloc (.cells #[.string p.name,.int .i64 p.sort] 160)) hpo.name)
  have hoq:zC1 x.sorts.length (ps.take k) p=(qJ0 p.name.data.toList&&(!qR4 p.name.data.toList&&(qBg x.sorts.length p.sort && !qJ1 ((ps.take k).map (·.name)) p.name))):=rfl
  have HNo:Hid (zC1 x.sorts.length (ps.take k) p=false→r=false):=fun h=>by rw[←HPar.out];exact qXd (k:=k+1) (by rw[HNX.out,h,Bool.and_false])
  have HBA:Hid (Below W0.heap.size W0 (wr.alloc (.cells #[.string p.name,.int .i64 p.sort] 160))):=HB.out.alloc HB.out.size _
  have HPn:=Lib.hid hp
  have HPo:=Lib.hid hpo
  clear hp hpo hcell
  cases hn:qJ0 p.name.data.toList with
  | false =>
   rw[hn] at HMyp hoq
   obtain rfl:=HNo.out hoq
   clear hn hoq
   go_wp2_with (go_at_call 93;refine HMyp.out.mono ?_;rintro e w3 ⟨rfl,rfl⟩)
   go_ret
   exact⟨rfl,HB0.out.trans (HBA.out.mono HB0.out.size)⟩
  | true =>
  rw[hn] at HMyp hoq
  clear hn
  cases hrv:qR4 p.name.data.toList with
  | true =>
   rw[hrv] at hoq
   obtain rfl:=HNo.out hoq
   have HRp:=Lib.hid (HRs.out p.name true (wr.alloc (.cells #[.string p.name,.int .i64 p.sort] 160)) hrv)
   clear hrv hoq
   go_wp2_with (first|(go_at_call 93;refine HMyp.out.mono ?_;rintro e w3 ⟨rfl,rfl⟩)|(go_at_call 94;refine HRp.out.mono ?_;rintro e w3 ⟨rfl,rfl⟩))
   go_ret
   exact⟨rfl,HB0.out.trans (HBA.out.mono HB0.out.size)⟩
  | false =>
  rw[hrv] at hoq
  have HRp:=Lib.hid (HRs.out p.name false (wr.alloc (.cells #[.string p.name,.int .i64 p.sort] 160)) hrv)
  have HTp:=Lib.hid (HT.out p.sort HPo.out.sort (wr.alloc (.cells #[.string p.name,.int .i64 p.sort] 160)) HBA.out)
  clear hrv
  cases htv:qBg x.sorts.length p.sort with
  | false =>
   rw[htv] at hoq HTp
   obtain rfl:=HNo.out hoq
   clear htv hoq
   go_wp2_with (first|(go_at_call 93;refine HMyp.out.mono ?_;rintro e w3 ⟨rfl,rfl⟩)|(go_at_call 94;refine HRp.out.mono ?_;rintro e w3 ⟨rfl,rfl⟩)|(go_at_call 99;refine HTp.out.mono ?_;rintro e w3 ⟨rfl,hb3,_⟩))
   go_ret
   exact⟨rfl,HB0.out.trans (hb3.mono HB0.out.size)⟩
  | true =>
  rw[htv] at hoq HTp
  have HOQ:=Lib.hid hoq
  have hz6:wr.heap.size<(wr.alloc (.cells #[.string p.name,.int .i64 p.sort] 160)).heap.size:=by simp
  have HPB:Hid (∀V,Below (wr.alloc (.cells #[.string p.name,.int .i64 p.sort] 160)).heap.size (wr.alloc (.cells #[.string p.name,.int .i64 p.sort] 160)) V→V.heap[wr.heap.size]? = some (.cells #[.string p.name,.int .i64 p.sort] 160 (0,0))):=fun V hV=>(hV.block _ (by simp)).trans (heap_alloc_new wr _)
  clear htv hoq
  go_wp2_with (first|(go_at_call 93;refine HMyp.out.mono ?_;rintro e w3 ⟨rfl,rfl⟩)|(go_at_call 94;refine HRp.out.mono ?_;rintro e w3 ⟨rfl,rfl⟩)|(go_at_call 99;refine HTp.out.mono ?_;rintro e w3 ⟨rfl,hb3,hv3⟩;have HB3:=Lib.hid hb3;have HV3:=Lib.hid hv3;clear hb3 hv3))
  clear c0 c1 c2 y1 y2 y3 y4 y5 z0 z1 q0 q1 hgw
  obtain⟨Bp,hBp⟩:∃Bp,Bp=wr.heap.size:=⟨_,rfl⟩
  have HPV:Hid (∀V,Below w3.heap.size w3 V→V.heap[Bp]? = some (.cells #[.string p.name,.int .i64 p.sort] 160 (0,0))):=fun V hV=>by
   rw[hBp];exact HPB.out V (HV3.out.trans (hV.mono HV3.out.size))
  rw[←hBp]
  clear HPB HV3 hz6 hBp HMyp HRp HTp HBA
  go_loopw [7] (fun i wq=>∃j:Nat,j≤k∧i=.int .i64 j∧Hid (qJ1 (((ps.take k).map (·.name)).take j) p.name=false)∧Hid (Below w3.heap.size w3 wq)) (fun i _=>k-(intOf i).toNat)
  case atStart=>exact⟨0,Nat.zero_le _,rfl,by show _=_;rw[List.take_zero];rfl,Below.refl _ _⟩
  case round =>
   obtain⟨j,hj,rfl,HN,HX⟩:=hrel
   have HXB:Hid (Below W0.heap.size W0 wr):=HB3.out.trans (HX.out.mono HB3.out.size)
   obtain⟨c0,c1,c2,y1,y2,y3,y4,y5,z0,z1⟩:=HK.out _ HXB.out
   obtain⟨p0,p1,pz⟩:=qXf (HPV.out _ HX.out)
   by_cases hjl:j<k
   ·obtain⟨y,hy⟩:∃y,ps[j]? = some y:=⟨_,List.getElem?_eq_getElem (by omega)⟩
    obtain⟨g',o',he,hg',hcell⟩:=HAt.out _ HXB.out (by rw[len_flat qF4];omega)
    cases he
    have q0:=hcell _ _ ((get_flat qF4 ps j 0 y hy (by omega)).trans rfl)
    simp only[Nat.add_zero] at q0
    have hgw:g<wr.heap.size:=by have:=HXB.out.size;omega
    have hji:(j:Int)<(ps.length:Int):=by omega
    have hj0:(0:Int)≤(j:Int):=by omega
    have hme:((ps.take k).map (·.name))[j]? = some y.name:=by rw[List.getElem?_map,List.getElem?_take,if_pos hjl,hy];rfl
    have HM:=Lib.hid hme
    clear hy hcell hme
    by_cases hen:y.name=p.name
    ·have e0:=qNe p.name
     obtain rfl:r=false:=HNo.out (by rw[HOQ.out,qHm HM.out hen];rfl)
     rw[hen] at q0
     clear hen
     go_wp2
     go_quiet (fail)
     go_wp2
     go_ret
     exact⟨rfl,qAh (HB0.out.trans (HXB.out.mono HB0.out.size))⟩
    ·have e0:=qT9 hen
     have HNX2:Hid (qJ1 (((ps.take k).map (·.name)).take (j+1)) p.name=false):=by show _=_;rw[qG1 HM.out,HN.out,decide_eq_false hen];rfl
     clear hen
     go_wp2
     go_quiet (fail)
     go_wp2
     go_roundw
     case rel=>exact⟨j+1,by omega,by go_num,HNX2,qAh HX.out⟩
     case measure=>simp[intOf];omega
   ·obtain rfl:j=k:=by omega
    have HQ2:Hid (qNi x.sorts.length [] (ps.take (j+1))=true):=by
     show _=_
     have h:=HN.out
     rw[List.take_of_length_le (by rw[List.length_map,List.length_take];omega)] at h
     rw[HNX.out,HQ.out,HOQ.out,h]
     rfl
    go_wp2
    go_roundw
    case rel=>exact⟨j+1,by omega,by go_num,HQ2,HXB⟩
    case measure=>simp[intOf];omega
theorem qOd (x:SigV) (m:MacV) (r:Bool) (w:World) (hR:SigR w x) (hm:MacOk w w.heap.size m) (hl:x.sorts.length≤100) (hr:qXe x.sorts.length m.m=r) :
  Calls Tryz.prog 82 #[.agg #[.slice x.sa x.sorts.length x.sc,.slice x.fa x.funs.length x.fc,.slice x.ma x.macs.length x.mc],.agg #[.string m.m.name,.slice m.pa m.m.params.length m.pc,.int .i64 m.m.res,.int .i8 m.m.body.kind,.string (qA8 m.m.body.text),.slice m.ba m.m.body.kids.length m.bc]] w fun e w'=>e=.returned (.bool r)∧Below w.heap.size w w':=by
 obtain⟨⟨name,ps,res,t⟩,pa,pc,ba,bc⟩:=m
 exact qOc x name ps pa pc res t ba bc r w hR hm hl hr
def qE7 {α:Type} (one:List α→α→Bool) (ahead:List α):List α→Bool
 | []=>true
 | y :: r=>one ahead y&&qE7 one (ahead++[y]) r
theorem qFl {α:Type} (one:List α→α→Bool):∀(l m a:List α),qE7 one a (l++m)=(qE7 one a l&&qE7 one (a++l) m)
 | [],m,a=>by simp[qE7]
 | y :: r,m,a=>by
  simp only[List.cons_append,qE7]
  rw[qFl one r m,List.append_assoc]
  simp only[Bool.and_assoc];rfl
theorem qDl {α:Type} {one:List α→α→Bool} {l:List α} {k:Nat} {p:α} (h:l[k]? = some p):qE7 one [] (l.take (k+1))=(qE7 one [] (l.take k)&&one (l.take k) p):=by
 rw[qEi h,qFl];simp[qE7]
theorem qGt {α:Type} {one:List α→α→Bool} {l:List α} {k:Nat} (h:qE7 one [] (l.take k)=false):qE7 one [] l=false:=by
 have:=qFl one (l.take k) (l.drop k) []
 rw[List.take_append_drop,h] at this
 rw[this];rfl
def qXg (ahead:List ByteArray) (s:ByteArray):Bool:=qG2 ahead [] [] s true==0
def qS6 (ss:List ByteArray) (ahead:List FunA) (f:FunA):Bool:=qG2 ss (ahead.map (·.name)) [] f.name false==0&&qNh ss.length f
def qVn (ss:List ByteArray) (fs:List FunA) (ahead:List MacA) (m:MacA):Bool:=qG2 ss (fs.map (·.name)) (ahead.map (·.name)) m.name false==0&&qXe ss.length m
def qC1 (x:SigA):Bool:=decide (x.sorts.length≤4)&&(decide (x.funs.length≤12)&&(decide (x.macros.length≤12)&&(qE7 qXg [] x.sorts&&(qE7 (qS6 x.sorts) [] x.funs&&qE7 (qVn x.sorts x.funs) [] x.macros))))
theorem qTf:(Tryz.prog.info? 9).map (fun i=>(i.zero,i.size,i.bytes))=some (some (.string ⟨#[]⟩),1,16):=by kernel_rfl
theorem qTg:(Tryz.prog.info? 120).map (fun i=>(i.zero,i.size,i.bytes))=some (some (.agg #[.string ⟨#[]⟩,.int .i64 0,.int .i64 0,.int .i64 0,.int .i64 0,.int .i64 0]),6,56):=by kernel_rfl
theorem qTh:(Tryz.prog.info? 62).map (fun i=>(i.zero,i.size,i.bytes))=some (some (.agg #[.string ⟨#[]⟩,.slice none 0 0,.int .i64 0,.int .i8 0,.string ⟨#[]⟩,.slice none 0 0]),6,96):=by kernel_rfl
structure OB (W1 V:World) (y:SigV):Prop where
 below:Below W1.heap.size W1 V
 box:V.heap[W1.heap.size]? = some (.cells #[.slice y.sa y.sorts.length y.sc,.slice y.fa y.funs.length y.fc,.slice y.ma y.macs.length y.mc] 26 (0,0))
 so:V.ownsRow (W1.heap.size+1) 9 1 (.slice y.sa y.sorts.length y.sc) y.sorts.length (y.sorts.flatMap qP5)
 fo:V.ownsRow (W1.heap.size+1) 120 6 (.slice y.fa y.funs.length y.fc) y.funs.length (y.funs.flatMap qOn)
 mo:V.ownsRow (W1.heap.size+1) 62 6 (.slice y.ma y.macs.length y.mc) y.macs.length (y.macs.flatMap qOo)
theorem qK2 {w w':World} {base size n:Nat} {E:TypeId} {v:Value} {L:List Value} (h:w.ownsRow base E size v n L) (hb:Below w.heap.size w w'):w'.ownsRow base E size v n L:=Tm.own_heap h (fun k _ hk=>hb.block k hk)
theorem OB.keep {W1 V V':World} {y:SigV} (h:OB W1 V y) (hb:Below V.heap.size V V'):OB W1 V' y :=
 ⟨h.below.trans (hb.mono h.below.size),(hb.block _ (Array.getElem?_eq_some_iff.1 h.box).1).trans h.box,qK2 h.so hb,qK2 h.fo hb,qK2 h.mo hb⟩
theorem OB.drew {W1 V:World} {y:SigV} (h:OB W1 V y):OB W1 V.drew y:=h.keep (Below.refl _ _).drew
theorem OB.cells {W1 V:World} {y:SigV} (h:OB W1 V y):V.cell? ⟨W1.heap.size,0,none⟩=some (.slice y.sa y.sorts.length y.sc)∧V.cell? ⟨W1.heap.size,1,none⟩=some (.slice y.fa y.funs.length y.fc)∧V.cell? ⟨W1.heap.size,2,none⟩=some (.slice y.ma y.macs.length y.mc)∧W1.heap.size<V.heap.size∧∀i,V.frozen? ⟨W1.heap.size,i,none⟩=false:=by
 obtain⟨a,b,c,d⟩:=qAx h.box
 have hb:=h.box
 exact⟨a,b,c,d,fun i=>by simp[World.frozen?,hb]⟩
theorem qH7 {w:World} {base size n:Nat} {E:TypeId} {a:Option Addr} {c:Nat} {L:List Value} (h:w.ownsRow base E size (.slice a n c) n L):n≤c∧c≤maxLen∧At w w.heap.size L a:=by
 obtain⟨a',c',e,h1,h2,h3,_⟩:=Tm.own_at h
 cases e
 exact⟨h1,h2,h3⟩
theorem MacOk.up {w w':World} {x:MacV} (h:MacOk w w.heap.size x) (hb:Below w.heap.size w w'):MacOk w' w'.heap.size x:=by
 have:=h.below hb
 exact⟨this.name,this.plen,this.pcap,this.pat.more hb.size,this.pok,this.res,this.body⟩
theorem OB.sig {w W1 V:World} {x y:SigV} (h:OB W1 V y) (hw:Below w.heap.size w W1) (hR:SigR w x) (hs:∀s∈y.sorts,s∈x.sorts) (hf:∀f∈y.funs,f∈x.funs) (hm:∀m∈y.macs,m∈x.macs):SigR V y:=by
 obtain⟨s1,s2,s3⟩:=qH7 h.so
 obtain⟨f1,f2,f3⟩:=qH7 h.fo
 obtain⟨m1,m2,m3⟩:=qH7 h.mo
 have hb:Below w.heap.size w V:=hw.trans (h.below.mono hw.size)
 exact⟨s1,s2,s3,fun s hs'=>hR.sok s (hs s hs'),f1,f2,f3,fun f hf'=>hR.fok f (hf f hf'),m1,m2,m3,fun m hm'=>(hR.mok m (hm m hm')).up hb⟩
theorem qCy {w:World} {base base' size size' n n':Nat} {E E':TypeId} {v v':Value} {L L':List Value} (h:w.ownsRow base E size v n L) (h':w.ownsRow base' E' size' v' n' L') (hne:E≠E') {g:Nat} (hg:v.ownBlock=some g):v'.ownBlock≠some g:=by
 rcases h.2 with⟨rfl,_⟩|⟨g1,cap,cur,rfl,h1,h2,_⟩
 ·cases hg
 ·rcases h'.2 with⟨rfl,_⟩|⟨g2,cap',cur',rfl,h1',h2',_⟩
  ·exact fun e=>by cases e
  ·intro e
   have e1:g1=g:=by simpa [Value.ownBlock] using hg
   have e2:g2=g:=by simpa [Value.ownBlock] using e
   subst e1 e2
   rw[h2] at h2'
   cases h2'
   exact hne rfl
theorem qBh {w:World} {base size n:Nat} {E:TypeId} {v:Value} {L:List Value} (h:w.ownsRow base E size v n L) {g:Nat} (hg:v.ownBlock=some g):base≤g∧g<w.heap.size:=by
 rcases h.2 with⟨rfl,_⟩|⟨g1,cap,cur,rfl,h1,h2,_⟩
 ·cases hg
 ·have e1:g1=g:=by simpa [Value.ownBlock] using hg
  subst e1
  exact⟨h1,(Array.getElem?_eq_some_iff.1 h2).1⟩
theorem qFm {w w':World} {base size n:Nat} {E:TypeId} {v:Value} {L:List Value} (h:w.ownsRow base E size v n L) (hk:∀g,v.ownBlock=some g→w'.heap[g]? = w.heap[g]?):w'.ownsRow base E size v n L:=by
 refine⟨h.1,?_⟩
 rcases h.2 with h1|⟨g,cap,cur,rfl,h1,h2,h3⟩
 ·exact .inl h1
 ·exact .inr ⟨g,cap,cur,rfl,h1,(hk g (by simp[Value.ownBlock])).trans h2,h3⟩
theorem zAn:(9:TypeId)≠120:=by decide
theorem zAo:(9:TypeId)≠62:=by decide
theorem zAp:(120:TypeId)≠62:=by decide
structure Push (W1 V V2:World) (o:Obj) (row:Option Nat) (g:Nat):Prop where
 grown:(V.alloc o).drew.grownBy V2 row
 at_:row=some g∨g=V.heap.size+1
theorem Push.block {W1 V V2:World} {o:Obj} {row:Option Nat} {g b:Nat} (h:Push W1 V V2 o row g) (hb:b<V.heap.size) (hne:some b≠row):V2.heap[b]? = V.heap[b]? :=
 (h.grown.block b (by show b<(V.alloc o).heap.size;simp;omega) hne).trans (Below.heap_alloc V o b hb)
theorem Push.size {W1 V V2:World} {o:Obj} {row:Option Nat} {g:Nat} (h:Push W1 V V2 o row g):V.heap.size<V2.heap.size:=by
 have:=h.grown.size
 have h2:(V.alloc o).drew.heap.size=V.heap.size+1:=by show (V.alloc o).heap.size=_;simp
 omega
theorem OB.pushed {W1 V V2:World} {y:SigV} {o:Obj} {row:Option Nat} {g:Nat} (h:OB W1 V y) (hp:Push W1 V V2 o row g) (hne:some W1.heap.size≠row):V2.cell? ⟨W1.heap.size,0,none⟩=some (.slice y.sa y.sorts.length y.sc)∧V2.cell? ⟨W1.heap.size,1,none⟩=some (.slice y.fa y.funs.length y.fc)∧V2.cell? ⟨W1.heap.size,2,none⟩=some (.slice y.ma y.macs.length y.mc)∧W1.heap.size<V2.heap.size∧∀i,V2.frozen? ⟨W1.heap.size,i,none⟩=false:=by
 have hb:=(hp.block (Array.getElem?_eq_some_iff.1 h.box).1 hne).trans h.box
 obtain⟨a,b,c,d⟩:=qAx hb
 exact⟨a,b,c,d,fun i=>by simp[World.frozen?,hb]⟩
theorem qI1 {V:World} {o:Obj} {g:Nat} (h:g=(V.alloc o).drew.heap.size):g=V.heap.size+1:=by rw[h];show (V.alloc o).heap.size=_;simp
theorem OB.ne_s {W1 V:World} {y:SigV} (h:OB W1 V y):some W1.heap.size≠(Value.slice y.sa y.sorts.length y.sc).ownBlock:=fun e=>by have:=(qBh h.so e.symm).1;omega
theorem OB.ne_f {W1 V:World} {y:SigV} (h:OB W1 V y):some W1.heap.size≠(Value.slice y.fa y.funs.length y.fc).ownBlock:=fun e=>by have:=(qBh h.fo e.symm).1;omega
theorem OB.ne_m {W1 V:World} {y:SigV} (h:OB W1 V y):some W1.heap.size≠(Value.slice y.ma y.macs.length y.mc).ownBlock:=fun e=>by have:=(qBh h.mo e.symm).1;omega
theorem OB.push_s {W1 V V2:World} {y:SigV} {o:Obj} {g cap:Nat} {e:ByteArray} (h:OB W1 V y) (hp:Push W1 V V2 o (Value.slice y.sa y.sorts.length y.sc).ownBlock g) (hown:V2.ownsRow (W1.heap.size+1) 9 1 (.slice (some ⟨g,0,none⟩) (y.sorts.length+1) cap) (y.sorts.length+1) (y.sorts.flatMap qP5++qP5 e)):OB W1 (V2.setCell ⟨W1.heap.size,0,none⟩ (.slice (some ⟨g,0,none⟩) (y.sorts.length+1) cap)) { y with sorts:=y.sorts++[e],sa:=some ⟨g,0,none⟩,sc:=cap }:=by
 have hz:=(Array.getElem?_eq_some_iff.1 h.box).1
 have hne:some W1.heap.size≠(Value.slice y.sa y.sorts.length y.sc).ownBlock:=fun e'=>by have:=(qBh h.so e'.symm).1;omega
 have hgne:g≠W1.heap.size:=by
  rcases hp.at_ with e'|e'
  ·have:=(qBh h.so e').1;omega
  ·omega
 have hbox:=(hp.block hz hne).trans h.box
 have hkeep:∀b,b≠W1.heap.size→(V2.setCell ⟨W1.heap.size,0,none⟩ (.slice (some ⟨g,0,none⟩) (y.sorts.length+1) cap)).heap[b]? = V2.heap[b]?:=fun b hb=>Below.heap_setCell _ _ _ _ hb
 have hlen:(y.sorts++[e]).length=y.sorts.length+1:=by simp
 have hfl:(y.sorts++[e]).flatMap qP5=y.sorts.flatMap qP5++qP5 e:=by simp
 have hB:Below W1.heap.size W1 (V2.setCell ⟨W1.heap.size,0,none⟩ (.slice (some ⟨g,0,none⟩) (y.sorts.length+1) cap)) :=
  ⟨hp.grown.os.trans h.below.os,hp.grown.tape.trans h.below.tape,hp.grown.output.trans h.below.output,by have:=hp.size;have:=h.below.size;simp;omega,fun k hk=>(hkeep k (by omega)).trans ((hp.block (by have:=h.below.size;omega) (fun e'=>by have:=(qBh h.so e'.symm).1;omega)).trans (h.below.block k hk))⟩
 have hnew:=Tm.own_heap (w':=(V2.setCell ⟨W1.heap.size,0,none⟩ (.slice (some ⟨g,0,none⟩) (y.sorts.length+1) cap))) hown (fun k hk _=>hkeep k (by omega))
 have hf:=qFm (w':=(V2.setCell ⟨W1.heap.size,0,none⟩ (.slice (some ⟨g,0,none⟩) (y.sorts.length+1) cap))) h.fo (fun k hk=>(hkeep k (by have:=(qBh h.fo hk).1;omega)).trans (hp.block (qBh h.fo hk).2 (fun e'=>qCy h.fo h.so zAn.symm hk e'.symm)))
 have hm:=qFm (w':=(V2.setCell ⟨W1.heap.size,0,none⟩ (.slice (some ⟨g,0,none⟩) (y.sorts.length+1) cap))) h.mo (fun k hk=>(hkeep k (by have:=(qBh h.mo hk).1;omega)).trans (hp.block (qBh h.mo hk).2 (fun e'=>qCy h.mo h.so zAo.symm hk e'.symm)))
 refine⟨hB,?_,(by show World.ownsRow _ _ _ _ _ _ _;rw[hlen,hfl];exact hnew),hf,hm⟩
 show _=some (Obj.cells #[.slice (some ⟨g,0,none⟩) (y.sorts++[e]).length cap,.slice y.fa y.funs.length y.fc,.slice y.ma y.macs.length y.mc] 26 (0,0))
 rw[hlen]
 exact heap_setCell_same V2 W1.heap.size 0 _ _ _ hbox
theorem OB.push_f {W1 V V2:World} {y:SigV} {o:Obj} {g cap:Nat} {e:FunA} (h:OB W1 V y) (hp:Push W1 V V2 o (Value.slice y.fa y.funs.length y.fc).ownBlock g) (hown:V2.ownsRow (W1.heap.size+1) 120 6 (.slice (some ⟨g,0,none⟩) (y.funs.length+1) cap) (y.funs.length+1) (y.funs.flatMap qOn++qOn e)):OB W1 (V2.setCell ⟨W1.heap.size,1,none⟩ (.slice (some ⟨g,0,none⟩) (y.funs.length+1) cap)) { y with funs:=y.funs++[e],fa:=some ⟨g,0,none⟩,fc:=cap }:=by
 have hz:=(Array.getElem?_eq_some_iff.1 h.box).1
 have hne:some W1.heap.size≠(Value.slice y.fa y.funs.length y.fc).ownBlock:=fun e'=>by have:=(qBh h.fo e'.symm).1;omega
 have hgne:g≠W1.heap.size:=by
  rcases hp.at_ with e'|e'
  ·have:=(qBh h.fo e').1;omega
  ·omega
 have hbox:=(hp.block hz hne).trans h.box
 have hkeep:∀b,b≠W1.heap.size→(V2.setCell ⟨W1.heap.size,1,none⟩ (.slice (some ⟨g,0,none⟩) (y.funs.length+1) cap)).heap[b]? = V2.heap[b]?:=fun b hb=>Below.heap_setCell _ _ _ _ hb
 have hlen:(y.funs++[e]).length=y.funs.length+1:=by simp
 have hfl:(y.funs++[e]).flatMap qOn=y.funs.flatMap qOn++qOn e:=by simp
 have hB:Below W1.heap.size W1 (V2.setCell ⟨W1.heap.size,1,none⟩ (.slice (some ⟨g,0,none⟩) (y.funs.length+1) cap)) :=
  ⟨hp.grown.os.trans h.below.os,hp.grown.tape.trans h.below.tape,hp.grown.output.trans h.below.output,by have:=hp.size;have:=h.below.size;simp;omega,fun k hk=>(hkeep k (by omega)).trans ((hp.block (by have:=h.below.size;omega) (fun e'=>by have:=(qBh h.fo e'.symm).1;omega)).trans (h.below.block k hk))⟩
 have hnew:=Tm.own_heap (w':=(V2.setCell ⟨W1.heap.size,1,none⟩ (.slice (some ⟨g,0,none⟩) (y.funs.length+1) cap))) hown (fun k hk _=>hkeep k (by omega))
 have hs:=qFm (w':=(V2.setCell ⟨W1.heap.size,1,none⟩ (.slice (some ⟨g,0,none⟩) (y.funs.length+1) cap))) h.so (fun k hk=>(hkeep k (by have:=(qBh h.so hk).1;omega)).trans (hp.block (qBh h.so hk).2 (fun e'=>qCy h.so h.fo zAn hk e'.symm)))
 have hm:=qFm (w':=(V2.setCell ⟨W1.heap.size,1,none⟩ (.slice (some ⟨g,0,none⟩) (y.funs.length+1) cap))) h.mo (fun k hk=>(hkeep k (by have:=(qBh h.mo hk).1;omega)).trans (hp.block (qBh h.mo hk).2 (fun e'=>qCy h.mo h.fo zAp.symm hk e'.symm)))
 refine⟨hB,?_,hs,(by show World.ownsRow _ _ _ _ _ _ _;rw[hlen,hfl];exact hnew),hm⟩
 show _=some (Obj.cells #[.slice y.sa y.sorts.length y.sc,.slice (some ⟨g,0,none⟩) (y.funs++[e]).length cap,.slice y.ma y.macs.length y.mc] 26 (0,0))
 rw[hlen]
 exact heap_setCell_same V2 W1.heap.size 1 _ _ _ hbox
theorem OB.push_m {W1 V V2:World} {y:SigV} {o:Obj} {g cap:Nat} {e:MacV} (h:OB W1 V y) (hp:Push W1 V V2 o (Value.slice y.ma y.macs.length y.mc).ownBlock g) (hown:V2.ownsRow (W1.heap.size+1) 62 6 (.slice (some ⟨g,0,none⟩) (y.macs.length+1) cap) (y.macs.length+1) (y.macs.flatMap qOo++qOo e)):OB W1 (V2.setCell ⟨W1.heap.size,2,none⟩ (.slice (some ⟨g,0,none⟩) (y.macs.length+1) cap)) { y with macs:=y.macs++[e],ma:=some ⟨g,0,none⟩,mc:=cap }:=by
 have hz:=(Array.getElem?_eq_some_iff.1 h.box).1
 have hne:some W1.heap.size≠(Value.slice y.ma y.macs.length y.mc).ownBlock:=fun e'=>by have:=(qBh h.mo e'.symm).1;omega
 have hgne:g≠W1.heap.size:=by
  rcases hp.at_ with e'|e'
  ·have:=(qBh h.mo e').1;omega
  ·omega
 have hbox:=(hp.block hz hne).trans h.box
 have hkeep:∀b,b≠W1.heap.size→(V2.setCell ⟨W1.heap.size,2,none⟩ (.slice (some ⟨g,0,none⟩) (y.macs.length+1) cap)).heap[b]? = V2.heap[b]?:=fun b hb=>Below.heap_setCell _ _ _ _ hb
 have hlen:(y.macs++[e]).length=y.macs.length+1:=by simp
 have hfl:(y.macs++[e]).flatMap qOo=y.macs.flatMap qOo++qOo e:=by simp
 have hB:Below W1.heap.size W1 (V2.setCell ⟨W1.heap.size,2,none⟩ (.slice (some ⟨g,0,none⟩) (y.macs.length+1) cap)) :=
  ⟨hp.grown.os.trans h.below.os,hp.grown.tape.trans h.below.tape,hp.grown.output.trans h.below.output,by have:=hp.size;have:=h.below.size;simp;omega,fun k hk=>(hkeep k (by omega)).trans ((hp.block (by have:=h.below.size;omega) (fun e'=>by have:=(qBh h.mo e'.symm).1;omega)).trans (h.below.block k hk))⟩
 have hnew:=Tm.own_heap (w':=(V2.setCell ⟨W1.heap.size,2,none⟩ (.slice (some ⟨g,0,none⟩) (y.macs.length+1) cap))) hown (fun k hk _=>hkeep k (by omega))
 have hs:=qFm (w':=(V2.setCell ⟨W1.heap.size,2,none⟩ (.slice (some ⟨g,0,none⟩) (y.macs.length+1) cap))) h.so (fun k hk=>(hkeep k (by have:=(qBh h.so hk).1;omega)).trans (hp.block (qBh h.so hk).2 (fun e'=>qCy h.so h.mo zAo hk e'.symm)))
 have hf:=qFm (w':=(V2.setCell ⟨W1.heap.size,2,none⟩ (.slice (some ⟨g,0,none⟩) (y.macs.length+1) cap))) h.fo (fun k hk=>(hkeep k (by have:=(qBh h.fo hk).1;omega)).trans (hp.block (qBh h.fo hk).2 (fun e'=>qCy h.fo h.mo zAp hk e'.symm)))
 refine⟨hB,?_,hs,hf,(by show World.ownsRow _ _ _ _ _ _ _;rw[hlen,hfl];exact hnew)⟩
 show _=some (Obj.cells #[.slice y.sa y.sorts.length y.sc,.slice y.fa y.funs.length y.fc,.slice (some ⟨g,0,none⟩) (y.macs++[e]).length cap] 26 (0,0))
 rw[hlen]
 exact heap_setCell_same V2 W1.heap.size 2 _ _ _ hbox
set_option maxHeartbeats 8000000 in
theorem qK3 (ss:List ByteArray) (sa:Option Addr) (sc:Nat) (fs:List FunA) (fa:Option Addr) (fc:Nat) (ms:List MacV) (ma:Option Addr) (mc:Nat) (r:Bool) (w:World) (hR:SigR w ⟨ss,sa,sc,fs,fa,fc,ms,ma,mc⟩) (hr:qC1 ⟨ss,fs,ms.map (·.m)⟩=r) :
  Calls Tryz.prog 56 #[.agg #[.slice sa ss.length sc,.slice fa fs.length fc,.slice ma ms.length mc]] w fun e w'=>e=.returned (.int .i64 (if r=true then 0 else 2))∧Below w.heap.size w w':=by
 obtain⟨W1,hW1⟩:∃W1,W1=w.alloc (.cells #[.slice sa ss.length sc,.slice fa fs.length fc,.slice ma ms.length mc] 26):=⟨_,rfl⟩
 have hB1:Below w.heap.size w W1:=by rw[hW1];exact(Below.refl _ w).alloc (Nat.le_refl _) _
 have HB1:=Lib.hid hB1
 have hX1:W1.heap[w.heap.size]? = some (.cells #[.slice sa ss.length sc,.slice fa fs.length fc,.slice ma ms.length mc] 26 (0,0)):=by rw[hW1];exact heap_alloc_new w _
 have HX:Hid (∀V,Below W1.heap.size W1 V→V.cell? ⟨w.heap.size,0,none⟩=some (.slice sa ss.length sc)∧V.cell? ⟨w.heap.size,1,none⟩=some (.slice fa fs.length fc)∧V.cell? ⟨w.heap.size,2,none⟩=some (.slice ma ms.length mc)∧w.heap.size<V.heap.size):=fun V hV=>qAx ((hV.block _ (Array.getElem?_eq_some_iff.1 hX1).1).trans hX1)
 have HR:=Lib.hid hR
 unfold qC1 at hr
 simp only[List.length_map] at hr
 obtain⟨t0,t1,t2,tz⟩:=HX.out _ (Below.refl _ _)
 by_cases l4:ss.length≤4
 rotate_left
 ·obtain rfl:r=false:=by rw[←hr,decide_eq_false l4];rfl
  have d0:(4:Int)<(ss.length:Int):=by omega
  clear hr hR hX1
  go_enter Tryz.func56,Tryz.ntmps56
  go_wp2
  rw[←hW1]
  go_ret
  exact⟨rfl,HB1.out⟩
 rw[decide_eq_true l4,Bool.true_and] at hr
 have d0:¬(4:Int)<(ss.length:Int):=by omega
 by_cases l12:fs.length≤12
 rotate_left
 ·obtain rfl:r=false:=by rw[←hr,decide_eq_false l12];rfl
  have d1:(12:Int)<(fs.length:Int):=by omega
  clear hr hR hX1
  go_enter Tryz.func56,Tryz.ntmps56
  go_wp2
  rw[←hW1]
  go_ret
  exact⟨rfl,HB1.out⟩
 rw[decide_eq_true l12,Bool.true_and] at hr
 have d1:¬(12:Int)<(fs.length:Int):=by omega
 by_cases m12:ms.length≤12
 rotate_left
 ·obtain rfl:r=false:=by rw[←hr,decide_eq_false m12];rfl
  have d2:(12:Int)<(ms.length:Int):=by omega
  clear hr hR hX1
  go_enter Tryz.func56,Tryz.ntmps56
  go_wp2
  rw[←hW1]
  go_ret
  exact⟨rfl,HB1.out⟩
 rw[decide_eq_true m12,Bool.true_and] at hr
 have d2:¬(12:Int)<(ms.length:Int):=by omega
 have HRr:=Lib.hid hr
 have HO1:Hid (OB W1 (W1.alloc (.cells #[.slice none 0 0,.slice none 0 0,.slice none 0 0] 26)) ⟨[],none,0,[],none,0,[],none,0⟩) :=
  ⟨(Below.refl _ W1).alloc (Nat.le_refl _) _,heap_alloc_new W1 _,World.ownsRow_nil _ _ _ _,World.ownsRow_nil _ _ _ _,World.ownsRow_nil _ _ _ _⟩
 have hO:W1.heap.size=w.heap.size+1:=by rw[hW1];simp
 obtain⟨is0,his,hs0,hs1,hs2⟩:=info_parts qTf
 obtain⟨if0,hif,hf0,hf1,hf2⟩:=info_parts qTg
 obtain⟨im0,him,hm0,hm1,hm2⟩:=info_parts qTh
 clear hr hR hX1
 go_enter Tryz.func56,Tryz.ntmps56
 go_wp2
 rw[←hW1]
 rw[←hO]
 have hOl:w.heap.size<W1.heap.size:=by omega
 clear hW1 t0 t1 t2 tz hO
 obtain⟨W2,hW2⟩:∃W2,W2=W1.alloc (.cells #[.slice none 0 0,.slice none 0 0,.slice none 0 0] 26):=⟨_,rfl⟩
 rw[←hW2] at HO1 ⊢
 clear hW2
 go_loopw [4] (fun i wr=>∃(k:Nat) (oa:Option Addr) (oc:Nat),k≤ss.length∧i=.int .i64 k∧Hid (qE7 qXg [] (ss.take k)=true)∧Hid (OB W1 wr ⟨ss.take k,oa,oc,[],none,0,[],none,0⟩)) (fun i _=>ss.length-(intOf i).toNat)
 case atStart=>exact⟨0,none,0,Nat.zero_le _,rfl,by show _=_;rw[List.take_zero];rfl,HO1⟩
 case round =>
  obtain⟨k,oa,oc,hk,rfl,HQ,HOB⟩:=hrel
  obtain⟨t0,t1,t2,tz⟩:=HX.out _ HOB.out.below
  obtain⟨o0,o1,o2,oz,of⟩:=HOB.out.cells
  by_cases hlt:k<ss.length
  ·obtain⟨s,hs⟩:∃s,ss[k]? = some s:=⟨_,List.getElem?_eq_getElem hlt⟩
   obtain⟨g,o,ha,hg,hcell⟩:=HR.out.sat.below (HB1.out.trans (HOB.out.below.mono HB1.out.size)) (by show 0<(ss.flatMap qP5).length;rw[len_flat qDz];omega)
   obtain rfl:sa=some ⟨g,o,none⟩:=ha
   have q0:=hcell _ _ ((get_flat qDz ss k 0 s hs (by omega)).trans rfl)
   simp only[Nat.mul_one,Nat.add_zero] at q0
   have hgw:g<wr.heap.size:=by have:=HOB.out.below.size;have:=HB1.out.size;omega
   have hgO:g<W1.heap.size:=by omega
   have hlk:(ss.take k).length=k:=by rw[List.length_take];omega
   have hsz:s.size≤maxLen:=HR.out.sok s (List.mem_of_getElem? hs)
   have hsl:=HR.out.sl
   simp only at hsl
   have hki:(k:Int)<(ss.length:Int):=by omega
   have hk0:(0:Int)≤(k:Int):=by omega
   simp only[hlk,List.length_nil] at o0 o1 o2
   have HFr:Hid (Calls Tryz.prog 80 #[.agg #[.slice oa k oc,.slice none 0 0,.slice none 0 0],.string s,.bool true] wr.drew fun e w'=>e=.returned (.int .i64 (qG2 (ss.take k) [] [] s true))∧Below wr.heap.size wr w'):=by
    have h:=qI0 ⟨ss.take k,oa,oc,[],none,0,[],none,0⟩ s true _ wr.drew (HOB.out.drew.sig HB1.out HR.out (fun x hx=>List.mem_of_mem_take hx) (fun _ hf=>by simp at hf) (fun _ hm=>by simp at hm)) hsz rfl
    simp only[hlk,List.length_nil,List.map_nil] at h
    exact h.mono fun e w' ⟨h1,h2⟩=>⟨h1,(Below.refl _ wr).drew.trans h2⟩
   have HNX:=Lib.hid (qDl (one:=qXg) hs)
   have hone:qXg (ss.take k) s=(qG2 (ss.take k) [] [] s true==0):=rfl
   generalize qG2 (ss.take k) [] [] s true=fr at HFr hone
   have HSn:Hid (ss.take (k+1)=ss.take k++[s]):=qEi hs
   have HKK:Hid (∀V,Below wr.heap.size wr V→V.cell? ⟨W1.heap.size,0,none⟩=some (.slice oa k oc)∧V.cell? ⟨W1.heap.size,1,none⟩=some (.slice none 0 0)∧V.cell? ⟨W1.heap.size,2,none⟩=some (.slice none 0 0)∧V.cell? ⟨w.heap.size,0,none⟩=some (.slice (some ⟨g,o,none⟩) ss.length sc)∧V.cell? ⟨g,o+k,none⟩=some (.string s)):=fun V hV =>
    ⟨(hV.cell (p:=⟨W1.heap.size,0,none⟩) oz).trans o0,(hV.cell (p:=⟨W1.heap.size,1,none⟩) oz).trans o1,(hV.cell (p:=⟨W1.heap.size,2,none⟩) oz).trans o2,(hV.cell (p:=⟨w.heap.size,0,none⟩) tz).trans t0,(hV.cell (p:=⟨g,o+k,none⟩) hgw).trans q0⟩
   clear hs hcell
   by_cases hf:fr=0
   rotate_left
   ·obtain rfl:r=false:=by
     rw[←HRr.out,qGt (one:=qXg) (l:=ss) (k:=k+1) (by rw[HNX.out,hone,qA9 hf,Bool.and_false])];rfl
    have e1:=qAr hf
    clear hf hone
    go_wp2_with fail
    go_region_held3 (fun V=>V.cell? ⟨W1.heap.size,0,none⟩=some (.slice oa k oc)∧V.cell? ⟨W1.heap.size,1,none⟩=some (.slice none 0 0)∧V.cell? ⟨W1.heap.size,2,none⟩=some (.slice none 0 0)∧V.cell? ⟨w.heap.size,0,none⟩=some (.slice (some ⟨g,o,none⟩) ss.length sc)∧V.cell? ⟨g,o+k,none⟩=some (.string s)) (first|exact HKK.out _ (Below.refl _ _)|exact HKK.out _ (Below.refl _ _).drew|exact HKK.out _ HB2.out|go_keep) (first|(go_at_call 80;with_reducible refine HFr.out.mono ?_;rintro e w2 ⟨rfl,hb2⟩;have HB2:=Lib.hid hb2;clear hb2))
    go_wp2_with fail
    go_ret
    exact⟨rfl,HB1.out.trans ((HOB.out.below.trans (HB2.out.mono HOB.out.below.size)).mono HB1.out.size)⟩
   subst hf
   have HQ2:Hid (qE7 qXg [] (ss.take (k+1))=true):=by show _=_;rw[HNX.out,hone,HQ.out];rfl
   clear hone
   go_wp2_with fail
   go_region_held3 (fun V=>V.cell? ⟨W1.heap.size,0,none⟩=some (.slice oa k oc)∧V.cell? ⟨W1.heap.size,1,none⟩=some (.slice none 0 0)∧V.cell? ⟨W1.heap.size,2,none⟩=some (.slice none 0 0)∧V.cell? ⟨w.heap.size,0,none⟩=some (.slice (some ⟨g,o,none⟩) ss.length sc)∧V.cell? ⟨g,o+k,none⟩=some (.string s)) (first|exact HKK.out _ (Below.refl _ _)|exact HKK.out _ (Below.refl _ _).drew|exact HKK.out _ HB2.out|go_keep) (first|(go_at_call 80;with_reducible refine HFr.out.mono ?_;rintro e w2 ⟨rfl,hb2⟩;have HB2:=Lib.hid hb2;clear hb2))
   have HOB2:Hid (OB W1 w2 ⟨ss.take k,oa,oc,[],none,0,[],none,0⟩):=HOB.out.keep HB2.out
   have hbs:=HB2.out.size
   clear o0 o1 o2 oz of t0 t1 t2 tz q0
   obtain⟨t0,t1,t2,tz⟩:=HX.out _ HOB2.out.below
   obtain⟨o0,o1,o2,oz,of⟩:=HOB2.out.cells
   simp only[hlk,List.length_nil] at o0 o1 o2
   have q0:=(HKK.out _ HB2.out).2.2.2.2
   have hgw2:g<w2.heap.size:=by omega
   have hgO1:¬g=W1.heap.size:=by omega
   have hown:w2.ownsRow (W1.heap.size+1) 9 1 (.slice oa k oc) k ((ss.take k).flatMap qP5):=by have h:=HOB2.out.so;simp only[hlk] at h;exact h
   go_wp2_with fail
   go_region_law (refine step_append_lies _ rfl (.tmp 40) (.tmp 46) 22 rfl (W1.heap.size+1) 9 is0 _ 1 16 Tryz.underlying22 his hs0 hs1 hs2 rfl (by decide) (.slice oa k oc) k ((ss.take k).flatMap qP5) (by rfl) (hown.alloc _) ⟨w2.heap.size,0,none⟩ 1 1 [.string s] (by rfl) rfl (World.news_of_block (B:=w2.heap.size) (cs:=#[.string s]) (t:=9) (fr:=(0,0)) (heap_alloc_new w2 _)) (by simp[Value.oneCell']) (by omega) (by simp only[maxLen];omega) (by omega) (by simp;omega) _ rfl ?_;intro g9 c9 w9 hown9 hgrow9 hat9 hlt9;have P9:Push W1 w2 w9 (.cells #[.string s] 9) (Value.slice oa k oc).ownBlock g9:=⟨hgrow9,hat9.imp id (fun e=>qI1 e)⟩;have hne9:some W1.heap.size≠(Value.slice oa k oc).ownBlock:=(by have h:=HOB2.out.ne_s;simp only[hlk] at h;exact h);obtain⟨k0,_,_,kz,kf⟩:=HOB2.out.pushed P9 hne9;simp only[hlk] at k0;have HP9:=Lib.hid P9;have HOwn9:=Lib.hid hown9;clear hown9 hgrow9 hat9 hne9 P9)
   all_goals
    have HOB3:Hid (OB W1 (w9.setCell ⟨W1.heap.size,0,none⟩ (.slice (some ⟨g9,0,none⟩) (k+1) c9)) ⟨ss.take (k+1),some ⟨g9,0,none⟩,c9,[],none,0,[],none,0⟩):=by
     show OB _ _ _
     rw[HSn.out]
     have h:=HOB2.out.push_s (o:=.cells #[.string s] 9) (g:=g9) (cap:=c9) (e:=s) (V2:=w9) (by simp only[hlk];exact HP9.out) (by simp only[hlk];exact HOwn9.out)
     simp only[hlk] at h
     exact h
    go_wp2_with fail
    go_roundw
    case rel=>exact⟨k+1,some ⟨g9,0,none⟩,c9,by omega,by go_num,HQ2,by first|exact HOB3|exact HOB3.out.drew⟩
    case measure=>simp[intOf];omega
  ·obtain rfl:k=ss.length:=by omega
   have HSq:Hid (qE7 qXg [] ss=true):=by show _=_;have h:=HQ.out;rwa [List.take_length] at h
   have HO2:Hid (OB W1 wr ⟨ss,oa,oc,[],none,0,[],none,0⟩):=by show OB _ _ _;have h:=HOB.out;rwa [List.take_length] at h
   go_wp2_with fail
   clear t0 t1 t2 tz o0 o1 o2 oz of HQ HOB
   go_loopw [5] (fun i wr=>∃(k:Nat) (pa:Option Addr) (pc:Nat),k≤fs.length∧i=.int .i64 k∧Hid (qE7 (qS6 ss) [] (fs.take k)=true)∧Hid (OB W1 wr ⟨ss,oa,oc,fs.take k,pa,pc,[],none,0⟩)) (fun i _=>fs.length-(intOf i).toNat)
   case atStart=>exact⟨0,none,0,Nat.zero_le _,rfl,by show _=_;rw[List.take_zero];rfl,HO2⟩
   case round =>
    obtain⟨k,pa,pc,hk,rfl,HQ,HOB⟩:=hrel
    obtain⟨t0,t1,t2,tz⟩:=HX.out _ HOB.out.below
    obtain⟨o0,o1,o2,oz,of⟩:=HOB.out.cells
    by_cases hlt:k<fs.length
    ·obtain⟨f,hf'⟩:∃f,fs[k]? = some f:=⟨_,List.getElem?_eq_getElem hlt⟩
     obtain⟨g,o,ha,hg,hcell⟩:=HR.out.fat.below (HB1.out.trans (HOB.out.below.mono HB1.out.size)) (by show 0<(fs.flatMap qOn).length;rw[len_flat qAj];omega)
     obtain rfl:fa=some ⟨g,o,none⟩:=ha
     have q0:=hcell _ _ ((get_flat qAj fs k 0 f hf' (by omega)).trans rfl)
     have q1:=hcell _ _ ((get_flat qAj fs k 1 f hf' (by omega)).trans rfl)
     have q2:=hcell _ _ ((get_flat qAj fs k 2 f hf' (by omega)).trans rfl)
     have q3:=hcell _ _ ((get_flat qAj fs k 3 f hf' (by omega)).trans rfl)
     have q4:=hcell _ _ ((get_flat qAj fs k 4 f hf' (by omega)).trans rfl)
     have q5:=hcell _ _ ((get_flat qAj fs k 5 f hf' (by omega)).trans rfl)
     simp only[Nat.add_zero,←Nat.add_assoc] at q0 q1 q2 q3 q4 q5
     have hgw:g<wr.heap.size:=by have:=HOB.out.below.size;have:=HB1.out.size;omega
     have hgO:g<W1.heap.size:=by omega
     have hlk:(fs.take k).length=k:=by rw[List.length_take];omega
     have hfo:FunOk f:=HR.out.fok f (List.mem_of_getElem? hf')
     have hsl:=HR.out.fl
     simp only at hsl
     have hki:(k:Int)<(fs.length:Int):=by omega
     have hk0:(0:Int)≤(k:Int):=by omega
     simp only[hlk,List.length_nil] at o0 o1 o2
     have HFr:Hid (Calls Tryz.prog 80 #[.agg #[.slice oa ss.length oc,.slice pa k pc,.slice none 0 0],.string f.name,.bool false] wr.drew fun e w'=>e=.returned (.int .i64 (qG2 ss ((fs.take k).map (·.name)) [] f.name false))∧Below wr.heap.size wr w'):=by
      have h:=qI0 ⟨ss,oa,oc,fs.take k,pa,pc,[],none,0⟩ f.name false _ wr.drew (HOB.out.drew.sig HB1 HR.out (fun x hx=>hx) (fun x hx=>List.mem_of_mem_take hx) (fun _ hm=>by simp at hm)) hfo.name rfl
      simp only[hlk,List.length_nil,List.map_nil] at h
      exact h.mono fun e w' ⟨h1,h2⟩=>⟨h1,(Below.refl _ wr).drew.trans h2⟩
     have HSec:Hid (∀V,Below wr.heap.size wr V→Calls Tryz.prog 81 #[.agg #[.slice oa ss.length oc,.slice pa k pc,.slice none 0 0],.agg #[.string f.name,.int .i64 f.len,.int .i64 f.a0,.int .i64 f.a1,.int .i64 f.a2,.int .i64 f.res]] V fun e w'=>e=.returned (.bool (qNh ss.length f))∧Below wr.heap.size wr w'):=fun V hV=>by
      have hob:=HOB.out.keep hV
      have h:=qTe ⟨ss,oa,oc,fs.take k,pa,pc,[],none,0⟩ f _ V (hob.sig HB1 HR.out (fun x hx=>hx) (fun x hx=>List.mem_of_mem_take hx) (fun _ hm=>by simp at hm)) hfo (by show ss.length≤100;omega) rfl
      simp only[hlk,List.length_nil] at h
      exact h.mono fun e w' ⟨h1,h2⟩=>⟨h1,hV.trans (h2.mono hV.size)⟩
     have HNX:=Lib.hid (qDl (one:=qS6 ss) (l:=fs) (k:=k) (p:=f) hf')
     have hone:qS6 ss (fs.take k) f=((qG2 ss ((fs.take k).map (·.name)) [] f.name false)==0&&qNh ss.length f):=rfl
     have HSn:Hid (fs.take (k+1)=fs.take k++[f]):=qEi hf'
     have HKK:Hid (∀V,Below wr.heap.size wr V→V.cell? ⟨W1.heap.size,0,none⟩=some (.slice oa ss.length oc)∧V.cell? ⟨W1.heap.size,1,none⟩=some (.slice pa k pc)∧V.cell? ⟨W1.heap.size,2,none⟩=some (.slice none 0 0)∧V.cell? ⟨w.heap.size,1,none⟩=some (.slice (some ⟨g,o,none⟩) fs.length fc)∧V.cell? ⟨g,o+k*6,none⟩=some (.string f.name)∧V.cell? ⟨g,o+k*6+1,none⟩=some (.int .i64 f.len)∧V.cell? ⟨g,o+k*6+2,none⟩=some (.int .i64 f.a0)∧V.cell? ⟨g,o+k*6+3,none⟩=some (.int .i64 f.a1)∧V.cell? ⟨g,o+k*6+4,none⟩=some (.int .i64 f.a2)∧V.cell? ⟨g,o+k*6+5,none⟩=some (.int .i64 f.res)):=fun V hV =>
      ⟨(hV.cell (p:=⟨W1.heap.size,0,none⟩) oz).trans o0,(hV.cell (p:=⟨W1.heap.size,1,none⟩) oz).trans o1,(hV.cell (p:=⟨W1.heap.size,2,none⟩) oz).trans o2,(hV.cell (p:=⟨w.heap.size,1,none⟩) tz).trans t1,(hV.cell (p:=⟨g,o+k*6,none⟩) hgw).trans q0,(hV.cell (p:=⟨g,o+k*6+1,none⟩) hgw).trans q1,(hV.cell (p:=⟨g,o+k*6+2,none⟩) hgw).trans q2,(hV.cell (p:=⟨g,o+k*6+3,none⟩) hgw).trans q3,(hV.cell (p:=⟨g,o+k*6+4,none⟩) hgw).trans q4,(hV.cell (p:=⟨g,o+k*6+5,none⟩) hgw).trans q5⟩
     generalize qG2 ss ((fs.take k).map (·.name)) [] f.name false=fr at HFr hone
     generalize hqq:qNh ss.length f=qs at HSec hone
     clear hf' hcell hqq
     have HNo:Hid (qS6 ss (fs.take k) f=false→r=false):=fun h=>by
      have h2:qE7 (qS6 ss) [] (fs)=false:=qGt (k:=k+1) (by rw[HNX.out,h,Bool.and_false])
      rw[←HRr.out,HSq.out,Bool.true_and,h2];rfl
     by_cases hf:fr=0
     rotate_left
     ·obtain rfl:r=false:=HNo.out (by rw[hone,qA9 hf];rfl)
      have e1:=qAr hf
      clear hf hone
      go_wp2_with fail
      refine wp_region_held_drew (S:=fun V=>V.cell? ⟨W1.heap.size,0,none⟩=some (.slice oa ss.length oc)∧V.cell? ⟨W1.heap.size,1,none⟩=some (.slice pa k pc)∧V.cell? ⟨W1.heap.size,2,none⟩=some (.slice none 0 0)∧V.cell? ⟨w.heap.size,1,none⟩=some (.slice (some ⟨g,o,none⟩) fs.length fc)∧V.cell? ⟨g,o+k*6,none⟩=some (.string f.name)∧V.cell? ⟨g,o+k*6+1,none⟩=some (.int .i64 f.len)∧V.cell? ⟨g,o+k*6+2,none⟩=some (.int .i64 f.a0)∧V.cell? ⟨g,o+k*6+3,none⟩=some (.int .i64 f.a1)∧V.cell? ⟨g,o+k*6+4,none⟩=some (.int .i64 f.a2)∧V.cell? ⟨g,o+k*6+5,none⟩=some (.int .i64 f.res)) (by kernel_rfl) (HKK.out _ (Below.refl _ _).drew) (fun hHeld=>?_)
      refine tkY 0 (.agg #[.slice oa ss.length oc,.slice pa k pc,.slice none 0 0]) ?_;try simp only[k4]
      refine tkY 1 (.pointer (some ⟨w.heap.size,1,none⟩)) ?_;try simp only[k4]
      refine tkY 2 (.slice (some ⟨g,o,none⟩) fs.length fc) ?_;try simp only[k4]
      refine tkY 3 (.int .i64 k) ?_;try simp only[k4]
      refine tkY 4 (.pointer (some ⟨g,o+k*6,none⟩)) ?_;try simp only[k4]
      refine tkY 5 (.pointer (some ⟨g,o+k*6,none⟩)) ?_;try simp only[k4]
      refine tkY 6 (.string f.name) ?_;try simp only[k4]
      refine wpAnyH_ready (rs:=[7]) (by kernel_rfl) (by simp) ?_
      refine AllReadyH.cons (o:={ dst:=some 63,op:=Op.call { callee:=Callee.value (Operand.func 80),args:=#[Operand.tmp 56,Operand.tmp 62,Operand.const (Value.bool false)],argTypes:=#[26,9,4] },type:=38,pos := "ref.go:139", after:=#[{ on:=0,ground:=Ground.data },{ on:=6,ground:=Ground.data }],guard:=none }) rfl (fun K hK=>?_) AllReadyH.nil
      go_simp
      go_at_call 80
      refine HFr.out.mono ?_
      rintro e w2 ⟨rfl,hb2⟩
      have HB2:=Lib.hid hb2
      clear hb2
      go_wp2_with fail
      refine hK.out _ _ ?_ (fun hHeld=>?_)
      ·exact HKK.out _ HB2.out
      clear hK K
      try simp only[Act.put,List.setIfInBounds_toArray,List.set_cons_zero,List.set_cons_succ]
      refine tkY 8 (.bool true) ?_;try simp only[k4]
      refine tkY 9 (.bool true) ?_;try simp only[k4]
      refine tkN 10 ?_;try simp only[k4]
      refine tkN 11 ?_;try simp only[k4]
      refine tkN 12 ?_;try simp only[k4]
      refine tkN 13 ?_;try simp only[k4]
      refine tkN 14 ?_;try simp only[k4]
      refine tkN 15 ?_;try simp only[k4]
      refine tkN 16 ?_;try simp only[k4]
      refine tkN 17 ?_;try simp only[k4]
      refine tkY 18 (.bool true) ?_;try simp only[k4]
      refine wpAnyH_done (by kernel_rfl) ?_ _
      go_wp2_with fail
      go_ret
      exact⟨rfl,HB1.out.trans ((HOB.out.below.trans (HB2.out.mono HOB.out.below.size)).mono HB1.out.size)⟩
     subst hf
     cases qs with
     | false =>
      obtain rfl:r=false:=HNo.out (by rw[hone];rfl)
      clear hone
      go_wp2_with fail
      refine wp_region_held_drew (S:=fun V=>V.cell? ⟨W1.heap.size,0,none⟩=some (.slice oa ss.length oc)∧V.cell? ⟨W1.heap.size,1,none⟩=some (.slice pa k pc)∧V.cell? ⟨W1.heap.size,2,none⟩=some (.slice none 0 0)∧V.cell? ⟨w.heap.size,1,none⟩=some (.slice (some ⟨g,o,none⟩) fs.length fc)∧V.cell? ⟨g,o+k*6,none⟩=some (.string f.name)∧V.cell? ⟨g,o+k*6+1,none⟩=some (.int .i64 f.len)∧V.cell? ⟨g,o+k*6+2,none⟩=some (.int .i64 f.a0)∧V.cell? ⟨g,o+k*6+3,none⟩=some (.int .i64 f.a1)∧V.cell? ⟨g,o+k*6+4,none⟩=some (.int .i64 f.a2)∧V.cell? ⟨g,o+k*6+5,none⟩=some (.int .i64 f.res)) (by kernel_rfl) (HKK.out _ (Below.refl _ _).drew) (fun hHeld=>?_)
      refine tkY 0 (.agg #[.slice oa ss.length oc,.slice pa k pc,.slice none 0 0]) ?_;try simp only[k4]
      refine tkY 1 (.pointer (some ⟨w.heap.size,1,none⟩)) ?_;try simp only[k4]
      refine tkY 2 (.slice (some ⟨g,o,none⟩) fs.length fc) ?_;try simp only[k4]
      refine tkY 3 (.int .i64 k) ?_;try simp only[k4]
      refine tkY 4 (.pointer (some ⟨g,o+k*6,none⟩)) ?_;try simp only[k4]
      refine tkY 5 (.pointer (some ⟨g,o+k*6,none⟩)) ?_;try simp only[k4]
      refine tkY 6 (.string f.name) ?_;try simp only[k4]
      refine wpAnyH_ready (rs:=[7]) (by kernel_rfl) (by simp) ?_
      refine AllReadyH.cons (o:={ dst:=some 63,op:=Op.call { callee:=Callee.value (Operand.func 80),args:=#[Operand.tmp 56,Operand.tmp 62,Operand.const (Value.bool false)],argTypes:=#[26,9,4] },type:=38,pos := "ref.go:139", after:=#[{ on:=0,ground:=Ground.data },{ on:=6,ground:=Ground.data }],guard:=none }) rfl (fun K hK=>?_) AllReadyH.nil
      go_simp
      go_at_call 80
      refine HFr.out.mono ?_
      rintro e w2 ⟨rfl,hb2⟩
      have HB2:=Lib.hid hb2
      clear hb2
      go_wp2_with fail
      refine hK.out _ _ ?_ (fun hHeld=>?_)
      ·exact HKK.out _ HB2.out
      clear hK K
      try simp only[Act.put,List.setIfInBounds_toArray,List.set_cons_zero,List.set_cons_succ]
      refine tkY 8 (.bool false) ?_;try simp only[k4]
      refine tkY 9 (.bool false) ?_;try simp only[k4]
      refine tkY 10 (.agg #[.slice oa ss.length oc,.slice pa k pc,.slice none 0 0]) ?_;try simp only[k4]
      refine tkY 11 (.pointer (some ⟨w.heap.size,1,none⟩)) ?_;try simp only[k4]
      refine tkY 12 (.slice (some ⟨g,o,none⟩) fs.length fc) ?_;try simp only[k4]
      refine tkY 13 (.int .i64 k) ?_;try simp only[k4]
      refine tkY 14 (.pointer (some ⟨g,o+k*6,none⟩)) ?_;try simp only[k4]
      refine tkY 15 (.agg #[.string f.name,.int .i64 f.len,.int .i64 f.a0,.int .i64 f.a1,.int .i64 f.a2,.int .i64 f.res]) ?_;try simp only[k4]
      refine wpAnyH_ready (rs:=[16]) (by kernel_rfl) (by simp) ?_
      refine AllReadyH.cons (o:={ dst:=some 72,op:=Op.call { callee:=Callee.value (Operand.func 81),args:=#[Operand.tmp 66,Operand.tmp 71],argTypes:=#[26,120] },type:=4,pos := "ref.go:139", after:=#[{ on:=10,ground:=Ground.data },{ on:=15,ground:=Ground.data },{ on:=9,ground:=Ground.chain },{ on:=9,ground:=Ground.guard }],guard:=some (9,false) }) rfl (fun K hK=>?_) AllReadyH.nil
      go_simp
      go_at_call 81
      refine(HSec.out _ HB2.out).mono ?_
      rintro e w3 ⟨rfl,hb3⟩
      have HB3:=Lib.hid hb3
      clear hb3
      go_wp2_with fail
      refine hK.out _ _ ?_ (fun hHeld=>?_)
      ·exact HKK.out _ HB3.out
      clear hK K
      try simp only[Act.put,List.setIfInBounds_toArray,List.set_cons_zero,List.set_cons_succ]
      refine tkY 17 (.bool true) ?_;try simp only[k4]
      refine tkY 18 (.bool true) ?_;try simp only[k4]
      refine wpAnyH_done (by kernel_rfl) ?_ _
      go_wp2_with fail
      go_ret
      exact⟨rfl,HB1.out.trans ((HOB.out.below.trans (HB3.out.mono HOB.out.below.size)).mono HB1.out.size)⟩
     | true =>
      have HQ2:Hid (qE7 (qS6 ss) [] (fs.take (k+1))=true):=by show _=_;rw[HNX.out,hone,HQ.out];rfl
      clear hone
      go_wp2_with fail
      refine wp_region_held_drew (S:=fun V=>V.cell? ⟨W1.heap.size,0,none⟩=some (.slice oa ss.length oc)∧V.cell? ⟨W1.heap.size,1,none⟩=some (.slice pa k pc)∧V.cell? ⟨W1.heap.size,2,none⟩=some (.slice none 0 0)∧V.cell? ⟨w.heap.size,1,none⟩=some (.slice (some ⟨g,o,none⟩) fs.length fc)∧V.cell? ⟨g,o+k*6,none⟩=some (.string f.name)∧V.cell? ⟨g,o+k*6+1,none⟩=some (.int .i64 f.len)∧V.cell? ⟨g,o+k*6+2,none⟩=some (.int .i64 f.a0)∧V.cell? ⟨g,o+k*6+3,none⟩=some (.int .i64 f.a1)∧V.cell? ⟨g,o+k*6+4,none⟩=some (.int .i64 f.a2)∧V.cell? ⟨g,o+k*6+5,none⟩=some (.int .i64 f.res)) (by kernel_rfl) (HKK.out _ (Below.refl _ _).drew) (fun hHeld=>?_)
      refine tkY 0 (.agg #[.slice oa ss.length oc,.slice pa k pc,.slice none 0 0]) ?_;try simp only[k4]
      refine tkY 1 (.pointer (some ⟨w.heap.size,1,none⟩)) ?_;try simp only[k4]
      refine tkY 2 (.slice (some ⟨g,o,none⟩) fs.length fc) ?_;try simp only[k4]
      refine tkY 3 (.int .i64 k) ?_;try simp only[k4]
      refine tkY 4 (.pointer (some ⟨g,o+k*6,none⟩)) ?_;try simp only[k4]
      refine tkY 5 (.pointer (some ⟨g,o+k*6,none⟩)) ?_;try simp only[k4]
      refine tkY 6 (.string f.name) ?_;try simp only[k4]
      refine wpAnyH_ready (rs:=[7]) (by kernel_rfl) (by simp) ?_
      refine AllReadyH.cons (o:={ dst:=some 63,op:=Op.call { callee:=Callee.value (Operand.func 80),args:=#[Operand.tmp 56,Operand.tmp 62,Operand.const (Value.bool false)],argTypes:=#[26,9,4] },type:=38,pos := "ref.go:139", after:=#[{ on:=0,ground:=Ground.data },{ on:=6,ground:=Ground.data }],guard:=none }) rfl (fun K hK=>?_) AllReadyH.nil
      go_simp
      go_at_call 80
      refine HFr.out.mono ?_
      rintro e w2 ⟨rfl,hb2⟩
      have HB2:=Lib.hid hb2
      clear hb2
      go_wp2_with fail
      refine hK.out _ _ ?_ (fun hHeld=>?_)
      ·exact HKK.out _ HB2.out
      clear hK K
      try simp only[Act.put,List.setIfInBounds_toArray,List.set_cons_zero,List.set_cons_succ]
      refine tkY 8 (.bool false) ?_;try simp only[k4]
      refine tkY 9 (.bool false) ?_;try simp only[k4]
      refine tkY 10 (.agg #[.slice oa ss.length oc,.slice pa k pc,.slice none 0 0]) ?_;try simp only[k4]
      refine tkY 11 (.pointer (some ⟨w.heap.size,1,none⟩)) ?_;try simp only[k4]
      refine tkY 12 (.slice (some ⟨g,o,none⟩) fs.length fc) ?_;try simp only[k4]
      refine tkY 13 (.int .i64 k) ?_;try simp only[k4]
      refine tkY 14 (.pointer (some ⟨g,o+k*6,none⟩)) ?_;try simp only[k4]
      refine tkY 15 (.agg #[.string f.name,.int .i64 f.len,.int .i64 f.a0,.int .i64 f.a1,.int .i64 f.a2,.int .i64 f.res]) ?_;try simp only[k4]
      refine wpAnyH_ready (rs:=[16]) (by kernel_rfl) (by simp) ?_
      refine AllReadyH.cons (o:={ dst:=some 72,op:=Op.call { callee:=Callee.value (Operand.func 81),args:=#[Operand.tmp 66,Operand.tmp 71],argTypes:=#[26,120] },type:=4,pos := "ref.go:139", after:=#[{ on:=10,ground:=Ground.data },{ on:=15,ground:=Ground.data },{ on:=9,ground:=Ground.chain },{ on:=9,ground:=Ground.guard }],guard:=some (9,false) }) rfl (fun K hK=>?_) AllReadyH.nil
      go_simp
      go_at_call 81
      refine(HSec.out _ HB2.out).mono ?_
      rintro e w3 ⟨rfl,hb3⟩
      have HB3:=Lib.hid hb3
      clear hb3
      go_wp2_with fail
      refine hK.out _ _ ?_ (fun hHeld=>?_)
      ·exact HKK.out _ HB3.out
      clear hK K
      try simp only[Act.put,List.setIfInBounds_toArray,List.set_cons_zero,List.set_cons_succ]
      refine tkY 17 (.bool false) ?_;try simp only[k4]
      refine tkY 18 (.bool false) ?_;try simp only[k4]
      refine wpAnyH_done (by kernel_rfl) ?_ _
      have HOB2:Hid (OB W1 w3 ⟨ss,oa,oc,fs.take k,pa,pc,[],none,0⟩):=HOB.out.keep HB3.out
      have hbs:=HB3.out.size
      clear o0 o1 o2 oz of t0 t1 t2 tz q0 q1 q2 q3 q4 q5
      obtain⟨t0,t1,t2,tz⟩:=HX.out _ HOB2.out.below
      obtain⟨o0,o1,o2,oz,of⟩:=HOB2.out.cells
      simp only[hlk,List.length_nil] at o0 o1 o2
      obtain⟨_,_,_,_,q0,q1,q2,q3,q4,q5⟩:=HKK.out _ HB3.out
      have hgw2:g<w3.heap.size:=by omega
      have hgO1:¬g=W1.heap.size:=by omega
      have hown:w3.ownsRow (W1.heap.size+1) 120 6 (Value.slice pa k pc) k ((fs.take k).flatMap qOn):=by have h:=HOB2.out.fo;simp only[hlk] at h;exact h
      go_wp2_with fail
      go_region_law (refine step_append_lies _ rfl (.tmp 76) (.tmp 82) 23 rfl (W1.heap.size+1) 120 if0 _ 6 56 Tryz.underlying23 hif hf0 hf1 hf2 rfl (by decide) (Value.slice pa k pc) k ((fs.take k).flatMap qOn) (by rfl) (hown.alloc _) ⟨w3.heap.size,0,none⟩ 1 1 [.string f.name,.int .i64 f.len,.int .i64 f.a0,.int .i64 f.a1,.int .i64 f.a2,.int .i64 f.res] (by rfl) rfl (World.news_of_block (B:=w3.heap.size) (cs:=#[.string f.name,.int .i64 f.len,.int .i64 f.a0,.int .i64 f.a1,.int .i64 f.a2,.int .i64 f.res]) (t:=120) (fr:=(0,0)) (heap_alloc_new w3 _)) (by simp[Value.oneCell']) (by omega) (by simp only[maxLen];omega) (by omega) (by simp;omega) _ rfl ?_;intro g9 c9 w9 hown9 hgrow9 hat9 hlt9;have P9:Push W1 w3 w9 (.cells #[.string f.name,.int .i64 f.len,.int .i64 f.a0,.int .i64 f.a1,.int .i64 f.a2,.int .i64 f.res] 120) (Value.slice pa k pc).ownBlock g9:=⟨hgrow9,hat9.imp id (fun e=>qI1 e)⟩;have hne9:some W1.heap.size≠(Value.slice pa k pc).ownBlock:=(by have h:=HOB2.out.ne_f;simp only[hlk] at h;exact h);obtain⟨k0,k1,k2,kz,kf⟩:=HOB2.out.pushed P9 hne9;simp only[hlk,List.length_nil] at k0 k1 k2;have HP9:=Lib.hid P9;have HOwn9:=Lib.hid hown9;clear hown9 hgrow9 hat9 hne9 P9)
      all_goals
       have HOB3:Hid (OB W1 (w9.setCell ⟨W1.heap.size,1,none⟩ (.slice (some ⟨g9,0,none⟩) (k+1) c9)) ⟨ss,oa,oc,fs.take (k+1),some ⟨g9,0,none⟩,c9,[],none,0⟩):=by
        show OB _ _ _
        rw[HSn.out]
        have h:=HOB2.out.push_f (o:=.cells #[.string f.name,.int .i64 f.len,.int .i64 f.a0,.int .i64 f.a1,.int .i64 f.a2,.int .i64 f.res] 120) (g:=g9) (cap:=c9) (e:=f) (V2:=w9) (by simp only[hlk];exact HP9.out) (by simp only[hlk];exact HOwn9.out)
        simp only[hlk] at h
        exact h
       go_wp2_with fail
       go_roundw
       case rel=>exact⟨k+1,some ⟨g9,0,none⟩,c9,by omega,by go_num,HQ2,by first|exact HOB3|exact HOB3.out.drew⟩
       case measure=>simp[intOf];omega
    ·obtain rfl:k=fs.length:=by omega
     have HSf:Hid (qE7 (qS6 ss) [] fs=true):=by show _=_;have h:=HQ.out;rwa [List.take_length] at h
     have HO3:Hid (OB W1 wr ⟨ss,oa,oc,fs,pa,pc,[],none,0⟩):=by show OB _ _ _;have h:=HOB.out;rwa [List.take_length] at h
     go_wp2_with fail
     clear t0 t1 t2 tz o0 o1 o2 oz of HQ HOB
     go_loopw [6] (fun i wr=>∃(k:Nat) (na:Option Addr) (nc:Nat),k≤ms.length∧i=.int .i64 k∧Hid (qE7 (qVn ss fs) [] ((ms.map (·.m)).take k)=true)∧Hid (OB W1 wr ⟨ss,oa,oc,fs,pa,pc,ms.take k,na,nc⟩)) (fun i _=>ms.length-(intOf i).toNat)
     case atStart=>exact⟨0,none,0,Nat.zero_le _,rfl,by show _=_;rw[List.take_zero];rfl,HO3⟩
     case round =>
      obtain⟨k,na,nc,hk,rfl,HQ,HOB⟩:=hrel
      obtain⟨t0,t1,t2,tz⟩:=HX.out _ HOB.out.below
      obtain⟨o0,o1,o2,oz,of⟩:=HOB.out.cells
      by_cases hlt:k<ms.length
      ·obtain⟨m,hf'⟩:∃m,ms[k]? = some m:=⟨_,List.getElem?_eq_getElem hlt⟩
       obtain⟨g,o,ha,hg,hcell⟩:=HR.out.mat.below (HB1.out.trans (HOB.out.below.mono HB1.out.size)) (by show 0<(ms.flatMap qOo).length;rw[len_flat qBn];omega)
       obtain rfl:ma=some ⟨g,o,none⟩:=ha
       have q0:=hcell _ _ ((get_flat qBn ms k 0 m hf' (by omega)).trans rfl)
       have q1:=hcell _ _ ((get_flat qBn ms k 1 m hf' (by omega)).trans rfl)
       have q2:=hcell _ _ ((get_flat qBn ms k 2 m hf' (by omega)).trans rfl)
       have q3:=hcell _ _ ((get_flat qBn ms k 3 m hf' (by omega)).trans rfl)
       have q4:=hcell _ _ ((get_flat qBn ms k 4 m hf' (by omega)).trans rfl)
       have q5:=hcell _ _ ((get_flat qBn ms k 5 m hf' (by omega)).trans rfl)
       simp only[Nat.add_zero,←Nat.add_assoc] at q0 q1 q2 q3 q4 q5
       have hgw:g<wr.heap.size:=by have:=HOB.out.below.size;have:=HB1.out.size;omega
       have hgO:g<W1.heap.size:=by omega
       have hlk:(ms.take k).length=k:=by rw[List.length_take];omega
       have hmo:=HR.out.mok m (List.mem_of_getElem? hf')
       have hmm:(ms.map (·.m))[k]? = some m.m:=by rw[List.getElem?_map,hf'];rfl
       have hsl:=HR.out.ml
       simp only at hsl
       have hki:(k:Int)<(ms.length:Int):=by omega
       have hk0:(0:Int)≤(k:Int):=by omega
       simp only[hlk] at o0 o1 o2
       have HFr:Hid (Calls Tryz.prog 80 #[.agg #[.slice oa ss.length oc,.slice pa fs.length pc,.slice na k nc],.string m.m.name,.bool false] wr.drew fun e w'=>e=.returned (.int .i64 (qG2 ss (fs.map (·.name)) ((ms.take k).map (·.m.name)) m.m.name false))∧Below wr.heap.size wr w'):=by
        have h:=qI0 ⟨ss,oa,oc,fs,pa,pc,ms.take k,na,nc⟩ m.m.name false _ wr.drew (HOB.out.drew.sig HB1 HR.out (fun x hx=>hx) (fun x hx=>hx) (fun x hx=>List.mem_of_mem_take hx)) hmo.name rfl
        simp only[hlk] at h
        exact h.mono fun e w' ⟨h1,h2⟩=>⟨h1,(Below.refl _ wr).drew.trans h2⟩
       have HSec:Hid (∀V,Below wr.heap.size wr V→Calls Tryz.prog 82 #[.agg #[.slice oa ss.length oc,.slice pa fs.length pc,.slice na k nc],.agg #[.string m.m.name,.slice m.pa m.m.params.length m.pc,.int .i64 m.m.res,.int .i8 m.m.body.kind,.string (qA8 m.m.body.text),.slice m.ba m.m.body.kids.length m.bc]] V fun e w'=>e=.returned (.bool (qXe ss.length m.m))∧Below wr.heap.size wr w'):=fun V hV=>by
        have hob:=HOB.out.keep hV
        have h:=qOd ⟨ss,oa,oc,fs,pa,pc,ms.take k,na,nc⟩ m _ V (hob.sig HB1 HR.out (fun x hx=>hx) (fun x hx=>hx) (fun x hx=>List.mem_of_mem_take hx)) (hmo.up (HB1.out.trans (hob.below.mono HB1.out.size))) (by show ss.length≤100;omega) rfl
        simp only[hlk] at h
        exact h.mono fun e w' ⟨h1,h2⟩=>⟨h1,hV.trans (h2.mono hV.size)⟩
       have HNX:=Lib.hid (qDl (one:=qVn ss fs) (l:=(ms.map (·.m))) (k:=k) (p:=m.m) hmm)
       have hone:qVn ss fs ((ms.map (·.m)).take k) m.m=((qG2 ss (fs.map (·.name)) ((ms.take k).map (·.m.name)) m.m.name false)==0&&qXe ss.length m.m):=by unfold qVn;rw[←List.map_take,List.map_map];rfl
       have HSn:Hid (ms.take (k+1)=ms.take k++[m]):=qEi hf'
       have HKK:Hid (∀V,Below wr.heap.size wr V→V.cell? ⟨W1.heap.size,0,none⟩=some (.slice oa ss.length oc)∧V.cell? ⟨W1.heap.size,1,none⟩=some (.slice pa fs.length pc)∧V.cell? ⟨W1.heap.size,2,none⟩=some (.slice na k nc)∧V.cell? ⟨w.heap.size,2,none⟩=some (.slice (some ⟨g,o,none⟩) ms.length mc)∧V.cell? ⟨g,o+k*6,none⟩=some (.string m.m.name)∧V.cell? ⟨g,o+k*6+1,none⟩=some (.slice m.pa m.m.params.length m.pc)∧V.cell? ⟨g,o+k*6+2,none⟩=some (.int .i64 m.m.res)∧V.cell? ⟨g,o+k*6+3,none⟩=some (.int .i8 m.m.body.kind)∧V.cell? ⟨g,o+k*6+4,none⟩=some (.string (qA8 m.m.body.text))∧V.cell? ⟨g,o+k*6+5,none⟩=some (.slice m.ba m.m.body.kids.length m.bc)):=fun V hV =>
        ⟨(hV.cell (p:=⟨W1.heap.size,0,none⟩) oz).trans o0,(hV.cell (p:=⟨W1.heap.size,1,none⟩) oz).trans o1,(hV.cell (p:=⟨W1.heap.size,2,none⟩) oz).trans o2,(hV.cell (p:=⟨w.heap.size,2,none⟩) tz).trans t2,(hV.cell (p:=⟨g,o+k*6,none⟩) hgw).trans q0,(hV.cell (p:=⟨g,o+k*6+1,none⟩) hgw).trans q1,(hV.cell (p:=⟨g,o+k*6+2,none⟩) hgw).trans q2,(hV.cell (p:=⟨g,o+k*6+3,none⟩) hgw).trans q3,(hV.cell (p:=⟨g,o+k*6+4,none⟩) hgw).trans q4,(hV.cell (p:=⟨g,o+k*6+5,none⟩) hgw).trans q5⟩
       generalize qG2 ss (fs.map (·.name)) ((ms.take k).map (·.m.name)) m.m.name false=fr at HFr hone
       generalize hqq:qXe ss.length m.m=qs at HSec hone
       clear hf' hcell hqq
       have HNo:Hid (qVn ss fs ((ms.map (·.m)).take k) m.m=false→r=false):=fun h=>by
        have h2:qE7 (qVn ss fs) [] ((ms.map (·.m)))=false:=qGt (k:=k+1) (by rw[HNX.out,h,Bool.and_false])
        rw[←HRr.out,HSq.out,HSf.out,Bool.true_and,Bool.true_and,h2]
       by_cases hf:fr=0
       rotate_left
       ·obtain rfl:r=false:=HNo.out (by rw[hone,qA9 hf];rfl)
        have e1:=qAr hf
        clear hf hone
        go_wp2_with fail
        refine wp_region_held_drew (S:=fun V=>V.cell? ⟨W1.heap.size,0,none⟩=some (.slice oa ss.length oc)∧V.cell? ⟨W1.heap.size,1,none⟩=some (.slice pa fs.length pc)∧V.cell? ⟨W1.heap.size,2,none⟩=some (.slice na k nc)∧V.cell? ⟨w.heap.size,2,none⟩=some (.slice (some ⟨g,o,none⟩) ms.length mc)∧V.cell? ⟨g,o+k*6,none⟩=some (.string m.m.name)∧V.cell? ⟨g,o+k*6+1,none⟩=some (.slice m.pa m.m.params.length m.pc)∧V.cell? ⟨g,o+k*6+2,none⟩=some (.int .i64 m.m.res)∧V.cell? ⟨g,o+k*6+3,none⟩=some (.int .i8 m.m.body.kind)∧V.cell? ⟨g,o+k*6+4,none⟩=some (.string (qA8 m.m.body.text))∧V.cell? ⟨g,o+k*6+5,none⟩=some (.slice m.ba m.m.body.kids.length m.bc)) (by kernel_rfl) (HKK.out _ (Below.refl _ _).drew) (fun hHeld=>?_)
        refine tkY 0 (.agg #[.slice oa ss.length oc,.slice pa fs.length pc,.slice na k nc]) ?_;try simp only[k4]
        refine tkY 1 (.pointer (some ⟨w.heap.size,2,none⟩)) ?_;try simp only[k4]
        refine tkY 2 (.slice (some ⟨g,o,none⟩) ms.length mc) ?_;try simp only[k4]
        refine tkY 3 (.int .i64 k) ?_;try simp only[k4]
        refine tkY 4 (.pointer (some ⟨g,o+k*6,none⟩)) ?_;try simp only[k4]
        refine tkY 5 (.pointer (some ⟨g,o+k*6,none⟩)) ?_;try simp only[k4]
        refine tkY 6 (.string m.m.name) ?_;try simp only[k4]
        refine wpAnyH_ready (rs:=[7]) (by kernel_rfl) (by simp) ?_
        refine AllReadyH.cons (o:={ dst:=some 99,op:=Op.call { callee:=Callee.value (Operand.func 80),args:=#[Operand.tmp 92,Operand.tmp 98,Operand.const (Value.bool false)],argTypes:=#[26,9,4] },type:=38,pos := "ref.go:145", after:=#[{ on:=0,ground:=Ground.data },{ on:=6,ground:=Ground.data }],guard:=none }) rfl (fun K hK=>?_) AllReadyH.nil
        go_simp
        go_at_call 80
        refine HFr.out.mono ?_
        rintro e w2 ⟨rfl,hb2⟩
        have HB2:=Lib.hid hb2
        clear hb2
        go_wp2_with fail
        refine hK.out _ _ ?_ (fun hHeld=>?_)
        ·exact HKK.out _ HB2.out
        clear hK K
        try simp only[Act.put,List.setIfInBounds_toArray,List.set_cons_zero,List.set_cons_succ]
        refine tkY 8 (.bool true) ?_;try simp only[k4]
        refine tkY 9 (.bool true) ?_;try simp only[k4]
        refine tkN 10 ?_;try simp only[k4]
        refine tkN 11 ?_;try simp only[k4]
        refine tkN 12 ?_;try simp only[k4]
        refine tkN 13 ?_;try simp only[k4]
        refine tkN 14 ?_;try simp only[k4]
        refine tkN 15 ?_;try simp only[k4]
        refine tkN 16 ?_;try simp only[k4]
        refine tkN 17 ?_;try simp only[k4]
        refine tkY 18 (.bool true) ?_;try simp only[k4]
        refine wpAnyH_done (by kernel_rfl) ?_ _
        go_wp2_with fail
        go_ret
        exact⟨rfl,HB1.out.trans ((HOB.out.below.trans (HB2.out.mono HOB.out.below.size)).mono HB1.out.size)⟩
       subst hf
       cases qs with
       | false =>
        obtain rfl:r=false:=HNo.out (by rw[hone];rfl)
        clear hone
        go_wp2_with fail
        refine wp_region_held_drew (S:=fun V=>V.cell? ⟨W1.heap.size,0,none⟩=some (.slice oa ss.length oc)∧V.cell? ⟨W1.heap.size,1,none⟩=some (.slice pa fs.length pc)∧V.cell? ⟨W1.heap.size,2,none⟩=some (.slice na k nc)∧V.cell? ⟨w.heap.size,2,none⟩=some (.slice (some ⟨g,o,none⟩) ms.length mc)∧V.cell? ⟨g,o+k*6,none⟩=some (.string m.m.name)∧V.cell? ⟨g,o+k*6+1,none⟩=some (.slice m.pa m.m.params.length m.pc)∧V.cell? ⟨g,o+k*6+2,none⟩=some (.int .i64 m.m.res)∧V.cell? ⟨g,o+k*6+3,none⟩=some (.int .i8 m.m.body.kind)∧V.cell? ⟨g,o+k*6+4,none⟩=some (.string (qA8 m.m.body.text))∧V.cell? ⟨g,o+k*6+5,none⟩=some (.slice m.ba m.m.body.kids.length m.bc)) (by kernel_rfl) (HKK.out _ (Below.refl _ _).drew) (fun hHeld=>?_)
        refine tkY 0 (.agg #[.slice oa ss.length oc,.slice pa fs.length pc,.slice na k nc]) ?_;try simp only[k4]
        refine tkY 1 (.pointer (some ⟨w.heap.size,2,none⟩)) ?_;try simp only[k4]
        refine tkY 2 (.slice (some ⟨g,o,none⟩) ms.length mc) ?_;try simp only[k4]
        refine tkY 3 (.int .i64 k) ?_;try simp only[k4]
        refine tkY 4 (.pointer (some ⟨g,o+k*6,none⟩)) ?_;try simp only[k4]
        refine tkY 5 (.pointer (some ⟨g,o+k*6,none⟩)) ?_;try simp only[k4]
        refine tkY 6 (.string m.m.name) ?_;try simp only[k4]
        refine wpAnyH_ready (rs:=[7]) (by kernel_rfl) (by simp) ?_
        refine AllReadyH.cons (o:={ dst:=some 99,op:=Op.call { callee:=Callee.value (Operand.func 80),args:=#[Operand.tmp 92,Operand.tmp 98,Operand.const (Value.bool false)],argTypes:=#[26,9,4] },type:=38,pos := "ref.go:145", after:=#[{ on:=0,ground:=Ground.data },{ on:=6,ground:=Ground.data }],guard:=none }) rfl (fun K hK=>?_) AllReadyH.nil
        go_simp
        go_at_call 80
        refine HFr.out.mono ?_
        rintro e w2 ⟨rfl,hb2⟩
        have HB2:=Lib.hid hb2
        clear hb2
        go_wp2_with fail
        refine hK.out _ _ ?_ (fun hHeld=>?_)
        ·exact HKK.out _ HB2.out
        clear hK K
        try simp only[Act.put,List.setIfInBounds_toArray,List.set_cons_zero,List.set_cons_succ]
        refine tkY 8 (.bool false) ?_;try simp only[k4]
        refine tkY 9 (.bool false) ?_;try simp only[k4]
        refine tkY 10 (.agg #[.slice oa ss.length oc,.slice pa fs.length pc,.slice na k nc]) ?_;try simp only[k4]
        refine tkY 11 (.pointer (some ⟨w.heap.size,2,none⟩)) ?_;try simp only[k4]
        refine tkY 12 (.slice (some ⟨g,o,none⟩) ms.length mc) ?_;try simp only[k4]
        refine tkY 13 (.int .i64 k) ?_;try simp only[k4]
        refine tkY 14 (.pointer (some ⟨g,o+k*6,none⟩)) ?_;try simp only[k4]
        refine tkY 15 (.agg #[.string m.m.name,.slice m.pa m.m.params.length m.pc,.int .i64 m.m.res,.int .i8 m.m.body.kind,.string (qA8 m.m.body.text),.slice m.ba m.m.body.kids.length m.bc]) ?_;try simp only[k4]
        refine wpAnyH_ready (rs:=[16]) (by kernel_rfl) (by simp) ?_
        refine AllReadyH.cons (o:={ dst:=some 108,op:=Op.call { callee:=Callee.value (Operand.func 82),args:=#[Operand.tmp 102,Operand.tmp 107],argTypes:=#[26,62] },type:=4,pos := "ref.go:145", after:=#[{ on:=10,ground:=Ground.data },{ on:=15,ground:=Ground.data },{ on:=9,ground:=Ground.chain },{ on:=9,ground:=Ground.guard }],guard:=some (9,false) }) rfl (fun K hK=>?_) AllReadyH.nil
        go_simp
        go_at_call 82
        refine(HSec.out _ HB2.out).mono ?_
        rintro e w3 ⟨rfl,hb3⟩
        have HB3:=Lib.hid hb3
        clear hb3
        go_wp2_with fail
        refine hK.out _ _ ?_ (fun hHeld=>?_)
        ·exact HKK.out _ HB3.out
        clear hK K
        try simp only[Act.put,List.setIfInBounds_toArray,List.set_cons_zero,List.set_cons_succ]
        refine tkY 17 (.bool true) ?_;try simp only[k4]
        refine tkY 18 (.bool true) ?_;try simp only[k4]
        refine wpAnyH_done (by kernel_rfl) ?_ _
        go_wp2_with fail
        go_ret
        exact⟨rfl,HB1.out.trans ((HOB.out.below.trans (HB3.out.mono HOB.out.below.size)).mono HB1.out.size)⟩
       | true =>
        have HQ2:Hid (qE7 (qVn ss fs) [] ((ms.map (·.m)).take (k+1))=true):=by show _=_;rw[HNX.out,hone,HQ.out];rfl
        clear hone
        go_wp2_with fail
        refine wp_region_held_drew (S:=fun V=>V.cell? ⟨W1.heap.size,0,none⟩=some (.slice oa ss.length oc)∧V.cell? ⟨W1.heap.size,1,none⟩=some (.slice pa fs.length pc)∧V.cell? ⟨W1.heap.size,2,none⟩=some (.slice na k nc)∧V.cell? ⟨w.heap.size,2,none⟩=some (.slice (some ⟨g,o,none⟩) ms.length mc)∧V.cell? ⟨g,o+k*6,none⟩=some (.string m.m.name)∧V.cell? ⟨g,o+k*6+1,none⟩=some (.slice m.pa m.m.params.length m.pc)∧V.cell? ⟨g,o+k*6+2,none⟩=some (.int .i64 m.m.res)∧V.cell? ⟨g,o+k*6+3,none⟩=some (.int .i8 m.m.body.kind)∧V.cell? ⟨g,o+k*6+4,none⟩=some (.string (qA8 m.m.body.text))∧V.cell? ⟨g,o+k*6+5,none⟩=some (.slice m.ba m.m.body.kids.length m.bc)) (by kernel_rfl) (HKK.out _ (Below.refl _ _).drew) (fun hHeld=>?_)
        refine tkY 0 (.agg #[.slice oa ss.length oc,.slice pa fs.length pc,.slice na k nc]) ?_;try simp only[k4]
        refine tkY 1 (.pointer (some ⟨w.heap.size,2,none⟩)) ?_;try simp only[k4]
        refine tkY 2 (.slice (some ⟨g,o,none⟩) ms.length mc) ?_;try simp only[k4]
        refine tkY 3 (.int .i64 k) ?_;try simp only[k4]
        refine tkY 4 (.pointer (some ⟨g,o+k*6,none⟩)) ?_;try simp only[k4]
        refine tkY 5 (.pointer (some ⟨g,o+k*6,none⟩)) ?_;try simp only[k4]
        refine tkY 6 (.string m.m.name) ?_;try simp only[k4]
        refine wpAnyH_ready (rs:=[7]) (by kernel_rfl) (by simp) ?_
        refine AllReadyH.cons (o:={ dst:=some 99,op:=Op.call { callee:=Callee.value (Operand.func 80),args:=#[Operand.tmp 92,Operand.tmp 98,Operand.const (Value.bool false)],argTypes:=#[26,9,4] },type:=38,pos := "ref.go:145", after:=#[{ on:=0,ground:=Ground.data },{ on:=6,ground:=Ground.data }],guard:=none }) rfl (fun K hK=>?_) AllReadyH.nil
        go_simp
        go_at_call 80
        refine HFr.out.mono ?_
        rintro e w2 ⟨rfl,hb2⟩
        have HB2:=Lib.hid hb2
        clear hb2
        go_wp2_with fail
        refine hK.out _ _ ?_ (fun hHeld=>?_)
        ·exact HKK.out _ HB2.out
        clear hK K
        try simp only[Act.put,List.setIfInBounds_toArray,List.set_cons_zero,List.set_cons_succ]
        refine tkY 8 (.bool false) ?_;try simp only[k4]
        refine tkY 9 (.bool false) ?_;try simp only[k4]
        refine tkY 10 (.agg #[.slice oa ss.length oc,.slice pa fs.length pc,.slice na k nc]) ?_;try simp only[k4]
        refine tkY 11 (.pointer (some ⟨w.heap.size,2,none⟩)) ?_;try simp only[k4]
        refine tkY 12 (.slice (some ⟨g,o,none⟩) ms.length mc) ?_;try simp only[k4]
        refine tkY 13 (.int .i64 k) ?_;try simp only[k4]
        refine tkY 14 (.pointer (some ⟨g,o+k*6,none⟩)) ?_;try simp only[k4]
        refine tkY 15 (.agg #[.string m.m.name,.slice m.pa m.m.params.length m.pc,.int .i64 m.m.res,.int .i8 m.m.body.kind,.string (qA8 m.m.body.text),.slice m.ba m.m.body.kids.length m.bc]) ?_;try simp only[k4]
        refine wpAnyH_ready (rs:=[16]) (by kernel_rfl) (by simp) ?_
        refine AllReadyH.cons (o:={ dst:=some 108,op:=Op.call { callee:=Callee.value (Operand.func 82),args:=#[Operand.tmp 102,Operand.tmp 107],argTypes:=#[26,62] },type:=4,pos := "ref.go:145", after:=#[{ on:=10,ground:=Ground.data },{ on:=15,ground:=Ground.data },{ on:=9,ground:=Ground.chain },{ on:=9,ground:=Ground.guard }],guard:=some (9,false) }) rfl (fun K hK=>?_) AllReadyH.nil
        go_simp
        go_at_call 82
        refine(HSec.out _ HB2.out).mono ?_
        rintro e w3 ⟨rfl,hb3⟩
        have HB3:=Lib.hid hb3
        clear hb3
        go_wp2_with fail
        refine hK.out _ _ ?_ (fun hHeld=>?_)
        ·exact HKK.out _ HB3.out
        clear hK K
        try simp only[Act.put,List.setIfInBounds_toArray,List.set_cons_zero,List.set_cons_succ]
        refine tkY 17 (.bool false) ?_;try simp only[k4]
        refine tkY 18 (.bool false) ?_;try simp only[k4]
        refine wpAnyH_done (by kernel_rfl) ?_ _
        have HOB2:Hid (OB W1 w3 ⟨ss,oa,oc,fs,pa,pc,ms.take k,na,nc⟩):=HOB.out.keep HB3.out
        have hbs:=HB3.out.size
        clear o0 o1 o2 oz of t0 t1 t2 tz q0 q1 q2 q3 q4 q5
        obtain⟨t0,t1,t2,tz⟩:=HX.out _ HOB2.out.below
        obtain⟨o0,o1,o2,oz,of⟩:=HOB2.out.cells
        simp only[hlk] at o0 o1 o2
        obtain⟨_,_,_,_,q0,q1,q2,q3,q4,q5⟩:=HKK.out _ HB3.out
        have hgw2:g<w3.heap.size:=by omega
        have hgO1:¬g=W1.heap.size:=by omega
        have hown:w3.ownsRow (W1.heap.size+1) 62 6 (Value.slice na k nc) k ((ms.take k).flatMap qOo):=by have h:=HOB2.out.mo;simp only[hlk] at h;exact h
        go_wp2_with fail
        go_region_law (refine step_append_lies _ rfl (.tmp 112) (.tmp 118) 24 rfl (W1.heap.size+1) 62 im0 _ 6 96 Tryz.underlying24 him hm0 hm1 hm2 rfl (by decide) (Value.slice na k nc) k ((ms.take k).flatMap qOo) (by rfl) (hown.alloc _) ⟨w3.heap.size,0,none⟩ 1 1 [.string m.m.name,.slice m.pa m.m.params.length m.pc,.int .i64 m.m.res,.int .i8 m.m.body.kind,.string (qA8 m.m.body.text),.slice m.ba m.m.body.kids.length m.bc] (by rfl) rfl (World.news_of_block (B:=w3.heap.size) (cs:=#[.string m.m.name,.slice m.pa m.m.params.length m.pc,.int .i64 m.m.res,.int .i8 m.m.body.kind,.string (qA8 m.m.body.text),.slice m.ba m.m.body.kids.length m.bc]) (t:=62) (fr:=(0,0)) (heap_alloc_new w3 _)) (by simp[Value.oneCell']) (by omega) (by simp only[maxLen];omega) (by omega) (by simp;omega) _ rfl ?_;intro g9 c9 w9 hown9 hgrow9 hat9 hlt9;have P9:Push W1 w3 w9 (.cells #[.string m.m.name,.slice m.pa m.m.params.length m.pc,.int .i64 m.m.res,.int .i8 m.m.body.kind,.string (qA8 m.m.body.text),.slice m.ba m.m.body.kids.length m.bc] 62) (Value.slice na k nc).ownBlock g9:=⟨hgrow9,hat9.imp id (fun e=>qI1 e)⟩;have hne9:some W1.heap.size≠(Value.slice na k nc).ownBlock:=(by have h:=HOB2.out.ne_m;simp only[hlk] at h;exact h);obtain⟨k0,k1,k2,kz,kf⟩:=HOB2.out.pushed P9 hne9;simp only[hlk] at k0 k1 k2;have HP9:=Lib.hid P9;have HOwn9:=Lib.hid hown9;clear hown9 hgrow9 hat9 hne9 P9)
        all_goals
         have HOB3:Hid (OB W1 (w9.setCell ⟨W1.heap.size,2,none⟩ (.slice (some ⟨g9,0,none⟩) (k+1) c9)) ⟨ss,oa,oc,fs,pa,pc,ms.take (k+1),some ⟨g9,0,none⟩,c9⟩):=by
          show OB _ _ _
          rw[HSn.out]
          have h:=HOB2.out.push_m (o:=.cells #[.string m.m.name,.slice m.pa m.m.params.length m.pc,.int .i64 m.m.res,.int .i8 m.m.body.kind,.string (qA8 m.m.body.text),.slice m.ba m.m.body.kids.length m.bc] 62) (g:=g9) (cap:=c9) (e:=m) (V2:=w9) (by simp only[hlk];exact HP9.out) (by simp only[hlk];exact HOwn9.out)
          simp only[hlk] at h
          exact h
         go_wp2_with fail
         go_roundw
         case rel=>exact⟨k+1,some ⟨g9,0,none⟩,c9,by omega,by go_num,HQ2,by first|exact HOB3|exact HOB3.out.drew⟩
         case measure=>simp[intOf];omega
      ·obtain rfl:k=ms.length:=by omega
       obtain rfl:r=true:=by
        have h:=HQ.out
        rw[List.take_of_length_le (by rw[List.length_map];omega)] at h
        rw[←HRr.out,HSq.out,HSf.out,h];rfl
       go_wp2_with fail
       go_ret
       exact⟨rfl,HB1.out.trans (HOB.out.below.mono HB1.out.size)⟩
theorem qDw (x:SigV) (r:Bool) (w:World) (hR:SigR w x) (hr:qC1 x.a=r) :
  Calls Tryz.prog 56 #[.agg #[.slice x.sa x.sorts.length x.sc,.slice x.fa x.funs.length x.fc,.slice x.ma x.macs.length x.mc]] w fun e w'=>e=.returned (.int .i64 (if r=true then 0 else 2))∧Below w.heap.size w w':=by
 obtain⟨ss,sa,sc,fs,fa,fc,ms,ma,mc⟩:=x
 exact qK3 ss sa sc fs fa fc ms ma mc r w hR hr
end Go.Proofs.YtfgpimhdjlmapaaGreatDoor
