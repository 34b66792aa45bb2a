/- Package term's fitsKind. -/
import Derived.Deep.RegionHeld3
import Derived.BigQuiet
import Derived.Test.YtfgpimhdjlmapaaGreatDoorNumMay
import Derived.Test.YtfgpimhdjlmapaaGreatDoorTmC
namespace Go.Proofs.YtfgpimhdjlmapaaGreatDoor.Tm
open Go.RowKit
set_option linter.unusedVariables false
set_option maxRecDepth 100000
structure GT (w:World):Prop where
 lt:0<w.heap.size
 at_:∀k v,qOx[k]? = some v→w.cell? ⟨0,k,none⟩=some (.int .i8 v)
theorem GT.below {w w':World} (h:GT w) (hb:Below w.heap.size w w'):GT w' :=
 ⟨Nat.lt_of_lt_of_le h.lt hb.size,fun k v hk=>(hb.cell (p:=⟨_,k,none⟩) h.lt).trans (h.at_ k v hk)⟩
def qBo (n:NodeA):Bool:=decide (qEo n)
theorem qD1 {n:NodeA} {r:Bool} (hr:qBo n=r) (h:¬qEo n):r=false:=by rw[←hr];unfold qBo;rw[decide_eq_false_iff_not];exact h
theorem qCa {n:NodeA} {r:Bool} (hr:qBo n=r) (h:qEo n):r=true:=by rw[←hr];unfold qBo;rw[decide_eq_true_eq];exact h
theorem qLp (n:NodeA) (h:n.op=13):qEo n↔(0≤n.len∧n.len≤3∧0≤n.fn∧n.fn<12∧n.num=0):=by
 unfold qEo
 rw[if_pos h]
 exact⟨fun g=>g.2.2,fun g=>⟨by omega,by omega,g⟩⟩
theorem qAs (n:NodeA) (L:Int) (h:0≤n.op∧n.op<10) (hL:arityA n.op=L):qEo n↔(n.len=L∧n.fn=0∧n.num=0):=by
 unfold qEo
 rw[if_neg (by omega),if_neg (by omega),hL]
 exact⟨fun g=>g.2.2,fun g=>⟨by omega,by omega,g⟩⟩
theorem qEp (n:NodeA) (L:Int) (h:n.op=10∨n.op=11∨n.op=12) (hL:arityA n.op=L):qEo n↔(n.len=L∧n.fn=0∧qAn n.num=true):=by
 unfold qEo
 rw[if_neg (by omega),if_pos h,hL]
 exact⟨fun g=>g.2.2,fun g=>⟨by omega,by omega,g⟩⟩
theorem qA1 {B:Nat} {w w':World} (h:Below B w w') {k:Nat}:Below B w (w'.drewN k):=⟨h.os,h.tape,h.output,h.size,h.block⟩
set_option maxHeartbeats 4000000 in
theorem qZ0 (n:NodeA) (w:World) (hG:GT w) (ho:NodeOk n) (hop:n.op=13) :
  Calls Tryz.prog 87 #[.agg #[.int .i8 n.op,.int .i8 n.len,.int .i64 n.a0,.int .i64 n.a1,.int .i64 n.a2,.int .i64 n.sort,.int .i64 n.fn,.int .i64 n.num]] w fun e w'=>e=.returned (.bool (qBo n))∧Below w.heap.size w w':=by
 obtain⟨r,hr⟩:∃r,qBo n=r:=⟨_,rfl⟩
 rw[hr]
 have HNo:=Lib.hid (qD1 hr)
 have HYes:=Lib.hid (qCa hr)
 have HF:=qLp n hop
 obtain⟨op,len,a0,a1,a2,sort,fn,num⟩:=n
 simp only at hop
 subst hop
 obtain⟨⟨p1,p2⟩,⟨p3,p4⟩,⟨p5,p6⟩,⟨p7,p8⟩,⟨p9,p10⟩,⟨p11,p12⟩,⟨p13,p14⟩,⟨p15,p16⟩⟩:=ho
 have HF:=Lib.hid HF
 clear hr
 simp only at *
 have HB0:Hid (Below w.heap.size w (w.alloc (.cells #[.int .i8 13,.int .i8 len,.int .i64 a0,.int .i64 a1,.int .i64 a2,.int .i64 sort,.int .i64 fn,.int .i64 num] 54))):=(Below.refl _ w).alloc (Nat.le_refl _) _
 have hcell:=hG.at_ 13 3 rfl
 have hglt:=hG.lt
 clear hG
 by_cases c0:len<0
 ·have hf:r=false:=HNo.out (fun h=>by have:=HF.out.1 h;omega)
  subst hf
  have d0:decide (0≤len)=false:=decide_eq_false (by omega)
  clear c0
  clear HNo HYes HF
  go_enter Tryz.func87,Tryz.ntmps87
  go_wp2
  go_quiet (fail)
  go_wp2
  go_ret
  exact⟨rfl,qA1 HB0.out⟩
 have d0:decide (0≤len)=true:=decide_eq_true (by omega)
 by_cases c1:3<len
 ·have hf:r=false:=HNo.out (fun h=>by have:=HF.out.1 h;omega)
  subst hf
  have d1:decide (len≤3)=false:=decide_eq_false (by omega)
  clear c1
  clear HNo HYes HF
  go_enter Tryz.func87,Tryz.ntmps87
  go_wp2
  go_quiet (fail)
  go_wp2
  go_ret
  exact⟨rfl,qA1 HB0.out⟩
 have d1:decide (len≤3)=true:=decide_eq_true (by omega)
 by_cases c2:fn<0
 ·have hf:r=false:=HNo.out (fun h=>by have:=HF.out.1 h;omega)
  subst hf
  have d2:decide (0≤fn)=false:=decide_eq_false (by omega)
  clear c2
  clear HNo HYes HF
  go_enter Tryz.func87,Tryz.ntmps87
  go_wp2
  go_quiet (fail)
  go_wp2
  go_ret
  exact⟨rfl,qA1 HB0.out⟩
 have d2:decide (0≤fn)=true:=decide_eq_true (by omega)
 by_cases c3:12≤fn
 ·have hf:r=false:=HNo.out (fun h=>by have:=HF.out.1 h;omega)
  subst hf
  have d3:decide (fn<12)=false:=decide_eq_false (by omega)
  clear c3
  clear HNo HYes HF
  go_enter Tryz.func87,Tryz.ntmps87
  go_wp2
  go_quiet (fail)
  go_wp2
  go_ret
  exact⟨rfl,qA1 HB0.out⟩
 have d3:decide (fn<12)=true:=decide_eq_true (by omega)
 by_cases c4:num=0
 ·have hf:r=true:=HYes.out (HF.out.2 ⟨by omega,by omega,by omega,by omega,c4⟩)
  subst hf
  have d4:=qC9 c4
  clear c0 c1 c2 c3 c4
  clear HNo HYes HF
  go_enter Tryz.func87,Tryz.ntmps87
  go_wp2
  go_quiet (fail)
  go_wp2
  go_ret
  exact⟨rfl,qA1 HB0.out⟩
 ·have hf:r=false:=HNo.out (fun h=>by have:=HF.out.1 h;omega)
  subst hf
  have d4:=qB7 c4
  clear c0 c1 c2 c3 c4
  clear HNo HYes HF
  go_enter Tryz.func87,Tryz.ntmps87
  go_wp2
  go_quiet (fail)
  go_wp2
  go_ret
  exact⟨rfl,qA1 HB0.out⟩
set_option maxHeartbeats 4000000 in
theorem qZ1 (n:NodeA) (w:World) (hG:GT w) (ho:NodeOk n) (hop:n.op=10) :
  Calls Tryz.prog 87 #[.agg #[.int .i8 n.op,.int .i8 n.len,.int .i64 n.a0,.int .i64 n.a1,.int .i64 n.a2,.int .i64 n.sort,.int .i64 n.fn,.int .i64 n.num]] w fun e w'=>e=.returned (.bool (qBo n))∧Below w.heap.size w w':=by
 obtain⟨r,hr⟩:∃r,qBo n=r:=⟨_,rfl⟩
 rw[hr]
 have HNo:=Lib.hid (qD1 hr)
 have HYes:=Lib.hid (qCa hr)
 have HF:=qEp n 0 (by omega) (by rw[hop];rfl)
 obtain⟨op,len,a0,a1,a2,sort,fn,num⟩:=n
 simp only at hop
 subst hop
 obtain⟨⟨p1,p2⟩,⟨p3,p4⟩,⟨p5,p6⟩,⟨p7,p8⟩,⟨p9,p10⟩,⟨p11,p12⟩,⟨p13,p14⟩,⟨p15,p16⟩⟩:=ho
 have HF:=Lib.hid HF
 clear hr
 simp only at *
 have HB0:Hid (Below w.heap.size w (w.alloc (.cells #[.int .i8 10,.int .i8 len,.int .i64 a0,.int .i64 a1,.int .i64 a2,.int .i64 sort,.int .i64 fn,.int .i64 num] 54))):=(Below.refl _ w).alloc (Nat.le_refl _) _
 have hcell:=hG.at_ 10 0 rfl
 have hglt:=hG.lt
 clear hG
 by_cases c0:len=0
 rotate_left
 ·have hf:r=false:=HNo.out (fun h=>by have:=HF.out.1 h;omega)
  subst hf
  have d0:=qB7 c0
  clear c0
  clear HNo HYes HF
  go_enter Tryz.func87,Tryz.ntmps87
  go_wp2
  go_quiet (fail)
  go_wp2
  go_ret
  exact⟨rfl,qA1 HB0.out⟩
 have d0:=qC9 c0
 by_cases c1:fn=0
 rotate_left
 ·have hf:r=false:=HNo.out (fun h=>by have:=HF.out.1 h;omega)
  subst hf
  have d1:=qB7 c1
  clear c0 c1
  clear HNo HYes HF
  go_enter Tryz.func87,Tryz.ntmps87
  go_wp2
  go_quiet (fail)
  go_wp2
  go_ret
  exact⟨rfl,qA1 HB0.out⟩
 have d1:=qC9 c1
 have hf:r=qAn num:=by
  cases z:qAn num with
  | true=>exact HYes.out (HF.out.2 ⟨c0,c1,z⟩)
  | false=>exact HNo.out (fun h=>by have:=(HF.out.1 h).2.2;rw[z] at this;cases this)
 subst hf
 have HM:Hid (∀W,Calls Tryz.prog 101 #[.int .i64 num] W fun e w'=>e=.returned (.bool (qAn num))∧Below W.heap.size W w'):=fun W=>qMg num W ⟨p15,p16⟩
 subst c0 c1
 obtain⟨W0,hW0⟩:∃W0,W0=w.alloc (.cells #[.int .i8 10,.int .i8 0,.int .i64 a0,.int .i64 a1,.int .i64 a2,.int .i64 sort,.int .i64 0,.int .i64 num] 54):=⟨_,rfl⟩
 have hz:w.heap.size<W0.heap.size:=by rw[hW0];simp
 have hgz:0<W0.heap.size:=by omega
 have H0:Hid (W0.cell? ⟨w.heap.size,0,none⟩=some (.int .i8 10)∧W0.cell? ⟨w.heap.size,1,none⟩=some (.int .i8 0)∧W0.cell? ⟨w.heap.size,6,none⟩=some (.int .i64 0)∧W0.cell? ⟨w.heap.size,7,none⟩=some (.int .i64 num)∧W0.cell? ⟨0,10,none⟩=some (.int .i8 0)):=by
  have hb:=heap_alloc_new w (.cells #[.int .i8 10,.int .i8 0,.int .i64 a0,.int .i64 a1,.int .i64 a2,.int .i64 sort,.int .i64 0,.int .i64 num] 54)
  rw[←hW0] at hb
  refine⟨(cell_of_row _ _ 0 _ _ _ hb).trans rfl,(cell_of_row _ _ 1 _ _ _ hb).trans rfl,(cell_of_row _ _ 6 _ _ _ hb).trans rfl,(cell_of_row _ _ 7 _ _ _ hb).trans rfl,?_⟩
  rw[hW0]
  exact(((Below.refl w.heap.size w).alloc (Nat.le_refl _) _).cell (p:=⟨0,10,none⟩) hglt).trans hcell
 rw[←hW0] at HB0
 clear HNo HYes HF hcell
 go_enter Tryz.func87,Tryz.ntmps87
 go_wp2
 rw[←hW0]
 obtain⟨a0,a1,a2,a3,a4⟩:=H0.out
 clear hW0
 go_region_held3 (fun W=>W.cell? ⟨w.heap.size,0,none⟩=some (.int .i8 10)∧W.cell? ⟨w.heap.size,1,none⟩=some (.int .i8 0)∧W.cell? ⟨w.heap.size,6,none⟩=some (.int .i64 0)∧W.cell? ⟨w.heap.size,7,none⟩=some (.int .i64 num)∧W.cell? ⟨0,10,none⟩=some (.int .i8 0))
  (first|exact H0.out|exact⟨(hc1 _ _ hz).trans H0.out.1,(hc1 _ _ hz).trans H0.out.2.1,(hc1 _ _ hz).trans H0.out.2.2.1,(hc1 _ _ hz).trans H0.out.2.2.2.1,(hc1 _ _ hgz).trans H0.out.2.2.2.2⟩|go_keep)
  (first|(go_at_call 101;refine(HM.out _).mono ?_;rintro e w2 ⟨rfl,hb2⟩;obtain⟨hc1,hf1⟩:=qMf hb2))
 go_wp2
 go_ret
 exact⟨rfl,HB0.out.drew.trans (hb2.mono HB0.out.size)⟩
end Go.Proofs.YtfgpimhdjlmapaaGreatDoor.Tm
