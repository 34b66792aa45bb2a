/- Package term's stands. -/
import Derived.Deep.RegionHeld3
import Derived.BigQuiet
import Derived.Test.YtfgpimhdjlmapaaGreatDoorTmD
import Derived.Test.YtfgpimhdjlmapaaGreatDoorTmC
namespace Go.Proofs.YtfgpimhdjlmapaaGreatDoor.Tm
open Go.RowKit
set_option linter.unusedVariables false
set_option maxRecDepth 100000
set_option maxHeartbeats 4000000 in
theorem qZ2 (n:NodeA) (w:World) (hG:GT w) (ho:NodeOk n) (hop:n.op=11) :
  Calls Tryz.prog 87 #[.agg #[.int .i8 n.op,.int .i8 n.len,.int .i64 n.a0,.int .i64 n.a1,.int .i64 n.a2,.int .i64 n.sort,.int .i64 n.fn,.int .i64 n.num]] w fun e w'=>e=.returned (.bool (qBo n))∧Below w.heap.size w w':=by
 obtain⟨r,hr⟩:∃r,qBo n=r:=⟨_,rfl⟩
 rw[hr]
 have HNo:=Lib.hid (qD1 hr)
 have HYes:=Lib.hid (qCa hr)
 have HF:=qEp n 1 (by omega) (by rw[hop];rfl)
 obtain⟨op,len,a0,a1,a2,sort,fn,num⟩:=n
 simp only at hop
 subst hop
 obtain⟨⟨p1,p2⟩,⟨p3,p4⟩,⟨p5,p6⟩,⟨p7,p8⟩,⟨p9,p10⟩,⟨p11,p12⟩,⟨p13,p14⟩,⟨p15,p16⟩⟩:=ho
 have HF:=Lib.hid HF
 clear hr
 simp only at *
 have HB0:Hid (Below w.heap.size w (w.alloc (.cells #[.int .i8 11,.int .i8 len,.int .i64 a0,.int .i64 a1,.int .i64 a2,.int .i64 sort,.int .i64 fn,.int .i64 num] 54))):=(Below.refl _ w).alloc (Nat.le_refl _) _
 have hcell:=hG.at_ 11 1 rfl
 have hglt:=hG.lt
 clear hG
 by_cases c0:len=1
 rotate_left
 ·have hf:r=false:=HNo.out (fun h=>by have:=HF.out.1 h;omega)
  subst hf
  have d0:=qB7 c0
  clear c0
  clear HNo HYes HF
  go_enter Tryz.func87,Tryz.ntmps87
  go_wp2
  go_quiet (fail)
  go_wp2
  go_ret
  exact⟨rfl,qA1 HB0.out⟩
 have d0:=qC9 c0
 by_cases c1:fn=0
 rotate_left
 ·have hf:r=false:=HNo.out (fun h=>by have:=HF.out.1 h;omega)
  subst hf
  have d1:=qB7 c1
  clear c0 c1
  clear HNo HYes HF
  go_enter Tryz.func87,Tryz.ntmps87
  go_wp2
  go_quiet (fail)
  go_wp2
  go_ret
  exact⟨rfl,qA1 HB0.out⟩
 have d1:=qC9 c1
 have hf:r=qAn num:=by
  cases z:qAn num with
  | true=>exact HYes.out (HF.out.2 ⟨c0,c1,z⟩)
  | false=>exact HNo.out (fun h=>by have:=(HF.out.1 h).2.2;rw[z] at this;cases this)
 subst hf
 have HM:Hid (∀W,Calls Tryz.prog 101 #[.int .i64 num] W fun e w'=>e=.returned (.bool (qAn num))∧Below W.heap.size W w'):=fun W=>qMg num W ⟨p15,p16⟩
 subst c0 c1
 obtain⟨W0,hW0⟩:∃W0,W0=w.alloc (.cells #[.int .i8 11,.int .i8 1,.int .i64 a0,.int .i64 a1,.int .i64 a2,.int .i64 sort,.int .i64 0,.int .i64 num] 54):=⟨_,rfl⟩
 have hz:w.heap.size<W0.heap.size:=by rw[hW0];simp
 have hgz:0<W0.heap.size:=by omega
 have H0:Hid (W0.cell? ⟨w.heap.size,0,none⟩=some (.int .i8 11)∧W0.cell? ⟨w.heap.size,1,none⟩=some (.int .i8 1)∧W0.cell? ⟨w.heap.size,6,none⟩=some (.int .i64 0)∧W0.cell? ⟨w.heap.size,7,none⟩=some (.int .i64 num)∧W0.cell? ⟨0,11,none⟩=some (.int .i8 1)):=by
  have hb:=heap_alloc_new w (.cells #[.int .i8 11,.int .i8 1,.int .i64 a0,.int .i64 a1,.int .i64 a2,.int .i64 sort,.int .i64 0,.int .i64 num] 54)
  rw[←hW0] at hb
  refine⟨(cell_of_row _ _ 0 _ _ _ hb).trans rfl,(cell_of_row _ _ 1 _ _ _ hb).trans rfl,(cell_of_row _ _ 6 _ _ _ hb).trans rfl,(cell_of_row _ _ 7 _ _ _ hb).trans rfl,?_⟩
  rw[hW0]
  exact(((Below.refl w.heap.size w).alloc (Nat.le_refl _) _).cell (p:=⟨0,11,none⟩) hglt).trans hcell
 rw[←hW0] at HB0
 clear HNo HYes HF hcell
 go_enter Tryz.func87,Tryz.ntmps87
 go_wp2
 rw[←hW0]
 obtain⟨a0,a1,a2,a3,a4⟩:=H0.out
 clear hW0
 go_region_held3 (fun W=>W.cell? ⟨w.heap.size,0,none⟩=some (.int .i8 11)∧W.cell? ⟨w.heap.size,1,none⟩=some (.int .i8 1)∧W.cell? ⟨w.heap.size,6,none⟩=some (.int .i64 0)∧W.cell? ⟨w.heap.size,7,none⟩=some (.int .i64 num)∧W.cell? ⟨0,11,none⟩=some (.int .i8 1))
  (first|exact H0.out|exact⟨(hc1 _ _ hz).trans H0.out.1,(hc1 _ _ hz).trans H0.out.2.1,(hc1 _ _ hz).trans H0.out.2.2.1,(hc1 _ _ hz).trans H0.out.2.2.2.1,(hc1 _ _ hgz).trans H0.out.2.2.2.2⟩|go_keep)
  (first|(go_at_call 101;refine(HM.out _).mono ?_;rintro e w2 ⟨rfl,hb2⟩;obtain⟨hc1,hf1⟩:=qMf hb2))
 go_wp2
 go_ret
 exact⟨rfl,HB0.out.drew.trans (hb2.mono HB0.out.size)⟩
set_option maxHeartbeats 4000000 in
theorem qZ3 (n:NodeA) (w:World) (hG:GT w) (ho:NodeOk n) (hop:n.op=12) :
  Calls Tryz.prog 87 #[.agg #[.int .i8 n.op,.int .i8 n.len,.int .i64 n.a0,.int .i64 n.a1,.int .i64 n.a2,.int .i64 n.sort,.int .i64 n.fn,.int .i64 n.num]] w fun e w'=>e=.returned (.bool (qBo n))∧Below w.heap.size w w':=by
 obtain⟨r,hr⟩:∃r,qBo n=r:=⟨_,rfl⟩
 rw[hr]
 have HNo:=Lib.hid (qD1 hr)
 have HYes:=Lib.hid (qCa hr)
 have HF:=qEp n 2 (by omega) (by rw[hop];rfl)
 obtain⟨op,len,a0,a1,a2,sort,fn,num⟩:=n
 simp only at hop
 subst hop
 obtain⟨⟨p1,p2⟩,⟨p3,p4⟩,⟨p5,p6⟩,⟨p7,p8⟩,⟨p9,p10⟩,⟨p11,p12⟩,⟨p13,p14⟩,⟨p15,p16⟩⟩:=ho
 have HF:=Lib.hid HF
 clear hr
 simp only at *
 have HB0:Hid (Below w.heap.size w (w.alloc (.cells #[.int .i8 12,.int .i8 len,.int .i64 a0,.int .i64 a1,.int .i64 a2,.int .i64 sort,.int .i64 fn,.int .i64 num] 54))):=(Below.refl _ w).alloc (Nat.le_refl _) _
 have hcell:=hG.at_ 12 2 rfl
 have hglt:=hG.lt
 clear hG
 by_cases c0:len=2
 rotate_left
 ·have hf:r=false:=HNo.out (fun h=>by have:=HF.out.1 h;omega)
  subst hf
  have d0:=qB7 c0
  clear c0
  clear HNo HYes HF
  go_enter Tryz.func87,Tryz.ntmps87
  go_wp2
  go_quiet (fail)
  go_wp2
  go_ret
  exact⟨rfl,qA1 HB0.out⟩
 have d0:=qC9 c0
 by_cases c1:fn=0
 rotate_left
 ·have hf:r=false:=HNo.out (fun h=>by have:=HF.out.1 h;omega)
  subst hf
  have d1:=qB7 c1
  clear c0 c1
  clear HNo HYes HF
  go_enter Tryz.func87,Tryz.ntmps87
  go_wp2
  go_quiet (fail)
  go_wp2
  go_ret
  exact⟨rfl,qA1 HB0.out⟩
 have d1:=qC9 c1
 have hf:r=qAn num:=by
  cases z:qAn num with
  | true=>exact HYes.out (HF.out.2 ⟨c0,c1,z⟩)
  | false=>exact HNo.out (fun h=>by have:=(HF.out.1 h).2.2;rw[z] at this;cases this)
 subst hf
 have HM:Hid (∀W,Calls Tryz.prog 101 #[.int .i64 num] W fun e w'=>e=.returned (.bool (qAn num))∧Below W.heap.size W w'):=fun W=>qMg num W ⟨p15,p16⟩
 subst c0 c1
 obtain⟨W0,hW0⟩:∃W0,W0=w.alloc (.cells #[.int .i8 12,.int .i8 2,.int .i64 a0,.int .i64 a1,.int .i64 a2,.int .i64 sort,.int .i64 0,.int .i64 num] 54):=⟨_,rfl⟩
 have hz:w.heap.size<W0.heap.size:=by rw[hW0];simp
 have hgz:0<W0.heap.size:=by omega
 have H0:Hid (W0.cell? ⟨w.heap.size,0,none⟩=some (.int .i8 12)∧W0.cell? ⟨w.heap.size,1,none⟩=some (.int .i8 2)∧W0.cell? ⟨w.heap.size,6,none⟩=some (.int .i64 0)∧W0.cell? ⟨w.heap.size,7,none⟩=some (.int .i64 num)∧W0.cell? ⟨0,12,none⟩=some (.int .i8 2)):=by
  have hb:=heap_alloc_new w (.cells #[.int .i8 12,.int .i8 2,.int .i64 a0,.int .i64 a1,.int .i64 a2,.int .i64 sort,.int .i64 0,.int .i64 num] 54)
  rw[←hW0] at hb
  refine⟨(cell_of_row _ _ 0 _ _ _ hb).trans rfl,(cell_of_row _ _ 1 _ _ _ hb).trans rfl,(cell_of_row _ _ 6 _ _ _ hb).trans rfl,(cell_of_row _ _ 7 _ _ _ hb).trans rfl,?_⟩
  rw[hW0]
  exact(((Below.refl w.heap.size w).alloc (Nat.le_refl _) _).cell (p:=⟨0,12,none⟩) hglt).trans hcell
 rw[←hW0] at HB0
 clear HNo HYes HF hcell
 go_enter Tryz.func87,Tryz.ntmps87
 go_wp2
 rw[←hW0]
 obtain⟨a0,a1,a2,a3,a4⟩:=H0.out
 clear hW0
 go_region_held3 (fun W=>W.cell? ⟨w.heap.size,0,none⟩=some (.int .i8 12)∧W.cell? ⟨w.heap.size,1,none⟩=some (.int .i8 2)∧W.cell? ⟨w.heap.size,6,none⟩=some (.int .i64 0)∧W.cell? ⟨w.heap.size,7,none⟩=some (.int .i64 num)∧W.cell? ⟨0,12,none⟩=some (.int .i8 2))
  (first|exact H0.out|exact⟨(hc1 _ _ hz).trans H0.out.1,(hc1 _ _ hz).trans H0.out.2.1,(hc1 _ _ hz).trans H0.out.2.2.1,(hc1 _ _ hz).trans H0.out.2.2.2.1,(hc1 _ _ hgz).trans H0.out.2.2.2.2⟩|go_keep)
  (first|(go_at_call 101;refine(HM.out _).mono ?_;rintro e w2 ⟨rfl,hb2⟩;obtain⟨hc1,hf1⟩:=qMf hb2))
 go_wp2
 go_ret
 exact⟨rfl,HB0.out.drew.trans (hb2.mono HB0.out.size)⟩
set_option maxHeartbeats 4000000 in
theorem zBm (n:NodeA) (w:World) (hG:GT w) (ho:NodeOk n) (hop:n.op=0) :
  Calls Tryz.prog 87 #[.agg #[.int .i8 n.op,.int .i8 n.len,.int .i64 n.a0,.int .i64 n.a1,.int .i64 n.a2,.int .i64 n.sort,.int .i64 n.fn,.int .i64 n.num]] w fun e w'=>e=.returned (.bool (qBo n))∧Below w.heap.size w w':=by
 obtain⟨r,hr⟩:∃r,qBo n=r:=⟨_,rfl⟩
 rw[hr]
 have HNo:=Lib.hid (qD1 hr)
 have HYes:=Lib.hid (qCa hr)
 have HF:=qAs n 0 (by omega) (by rw[hop];rfl)
 obtain⟨op,len,a0,a1,a2,sort,fn,num⟩:=n
 simp only at hop
 subst hop
 obtain⟨⟨p1,p2⟩,⟨p3,p4⟩,⟨p5,p6⟩,⟨p7,p8⟩,⟨p9,p10⟩,⟨p11,p12⟩,⟨p13,p14⟩,⟨p15,p16⟩⟩:=ho
 have HF:=Lib.hid HF
 clear hr
 simp only at *
 have HB0:Hid (Below w.heap.size w (w.alloc (.cells #[.int .i8 0,.int .i8 len,.int .i64 a0,.int .i64 a1,.int .i64 a2,.int .i64 sort,.int .i64 fn,.int .i64 num] 54))):=(Below.refl _ w).alloc (Nat.le_refl _) _
 have hcell:=hG.at_ 0 0 rfl
 have hglt:=hG.lt
 clear hG
 by_cases c0:len=0
 rotate_left
 ·have hf:r=false:=HNo.out (fun h=>by have:=HF.out.1 h;omega)
  subst hf
  have d0:=qB7 c0
  clear c0
  clear HNo HYes HF
  go_enter Tryz.func87,Tryz.ntmps87
  go_wp2
  go_quiet (fail)
  go_wp2
  go_ret
  exact⟨rfl,qA1 HB0.out⟩
 have d0:=qC9 c0
 by_cases c1:fn=0
 rotate_left
 ·have hf:r=false:=HNo.out (fun h=>by have:=HF.out.1 h;omega)
  subst hf
  have d1:=qB7 c1
  clear c0 c1
  clear HNo HYes HF
  go_enter Tryz.func87,Tryz.ntmps87
  go_wp2
  go_quiet (fail)
  go_wp2
  go_ret
  exact⟨rfl,qA1 HB0.out⟩
 have d1:=qC9 c1
 by_cases c2:num=0
 rotate_left
 ·have hf:r=false:=HNo.out (fun h=>by have:=HF.out.1 h;omega)
  subst hf
  have d2:=qB7 c2
  clear c0 c1 c2
  clear HNo HYes HF
  go_enter Tryz.func87,Tryz.ntmps87
  go_wp2
  go_quiet (fail)
  go_wp2
  go_ret
  exact⟨rfl,qA1 HB0.out⟩
 have d2:=qC9 c2
 have hf:r=true:=HYes.out (HF.out.2 ⟨c0,c1,c2⟩)
 subst hf
 clear c0 c1 c2
 clear HNo HYes HF
 go_enter Tryz.func87,Tryz.ntmps87
 go_wp2
 go_quiet (fail)
 go_wp2
 go_ret
 exact⟨rfl,qA1 HB0.out⟩
set_option maxHeartbeats 4000000 in
theorem zBn (n:NodeA) (w:World) (hG:GT w) (ho:NodeOk n) (hop:n.op=1) :
  Calls Tryz.prog 87 #[.agg #[.int .i8 n.op,.int .i8 n.len,.int .i64 n.a0,.int .i64 n.a1,.int .i64 n.a2,.int .i64 n.sort,.int .i64 n.fn,.int .i64 n.num]] w fun e w'=>e=.returned (.bool (qBo n))∧Below w.heap.size w w':=by
 obtain⟨r,hr⟩:∃r,qBo n=r:=⟨_,rfl⟩
 rw[hr]
 have HNo:=Lib.hid (qD1 hr)
 have HYes:=Lib.hid (qCa hr)
 have HF:=qAs n 1 (by omega) (by rw[hop];rfl)
 obtain⟨op,len,a0,a1,a2,sort,fn,num⟩:=n
 simp only at hop
 subst hop
 obtain⟨⟨p1,p2⟩,⟨p3,p4⟩,⟨p5,p6⟩,⟨p7,p8⟩,⟨p9,p10⟩,⟨p11,p12⟩,⟨p13,p14⟩,⟨p15,p16⟩⟩:=ho
 have HF:=Lib.hid HF
 clear hr
 simp only at *
 have HB0:Hid (Below w.heap.size w (w.alloc (.cells #[.int .i8 1,.int .i8 len,.int .i64 a0,.int .i64 a1,.int .i64 a2,.int .i64 sort,.int .i64 fn,.int .i64 num] 54))):=(Below.refl _ w).alloc (Nat.le_refl _) _
 have hcell:=hG.at_ 1 1 rfl
 have hglt:=hG.lt
 clear hG
 by_cases c0:len=1
 rotate_left
 ·have hf:r=false:=HNo.out (fun h=>by have:=HF.out.1 h;omega)
  subst hf
  have d0:=qB7 c0
  clear c0
  clear HNo HYes HF
  go_enter Tryz.func87,Tryz.ntmps87
  go_wp2
  go_quiet (fail)
  go_wp2
  go_ret
  exact⟨rfl,qA1 HB0.out⟩
 have d0:=qC9 c0
 by_cases c1:fn=0
 rotate_left
 ·have hf:r=false:=HNo.out (fun h=>by have:=HF.out.1 h;omega)
  subst hf
  have d1:=qB7 c1
  clear c0 c1
  clear HNo HYes HF
  go_enter Tryz.func87,Tryz.ntmps87
  go_wp2
  go_quiet (fail)
  go_wp2
  go_ret
  exact⟨rfl,qA1 HB0.out⟩
 have d1:=qC9 c1
 by_cases c2:num=0
 rotate_left
 ·have hf:r=false:=HNo.out (fun h=>by have:=HF.out.1 h;omega)
  subst hf
  have d2:=qB7 c2
  clear c0 c1 c2
  clear HNo HYes HF
  go_enter Tryz.func87,Tryz.ntmps87
  go_wp2
  go_quiet (fail)
  go_wp2
  go_ret
  exact⟨rfl,qA1 HB0.out⟩
 have d2:=qC9 c2
 have hf:r=true:=HYes.out (HF.out.2 ⟨c0,c1,c2⟩)
 subst hf
 clear c0 c1 c2
 clear HNo HYes HF
 go_enter Tryz.func87,Tryz.ntmps87
 go_wp2
 go_quiet (fail)
 go_wp2
 go_ret
 exact⟨rfl,qA1 HB0.out⟩
set_option maxHeartbeats 4000000 in
theorem zBo (n:NodeA) (w:World) (hG:GT w) (ho:NodeOk n) (hop:n.op=2) :
  Calls Tryz.prog 87 #[.agg #[.int .i8 n.op,.int .i8 n.len,.int .i64 n.a0,.int .i64 n.a1,.int .i64 n.a2,.int .i64 n.sort,.int .i64 n.fn,.int .i64 n.num]] w fun e w'=>e=.returned (.bool (qBo n))∧Below w.heap.size w w':=by
 obtain⟨r,hr⟩:∃r,qBo n=r:=⟨_,rfl⟩
 rw[hr]
 have HNo:=Lib.hid (qD1 hr)
 have HYes:=Lib.hid (qCa hr)
 have HF:=qAs n 2 (by omega) (by rw[hop];rfl)
 obtain⟨op,len,a0,a1,a2,sort,fn,num⟩:=n
 simp only at hop
 subst hop
 obtain⟨⟨p1,p2⟩,⟨p3,p4⟩,⟨p5,p6⟩,⟨p7,p8⟩,⟨p9,p10⟩,⟨p11,p12⟩,⟨p13,p14⟩,⟨p15,p16⟩⟩:=ho
 have HF:=Lib.hid HF
 clear hr
 simp only at *
 have HB0:Hid (Below w.heap.size w (w.alloc (.cells #[.int .i8 2,.int .i8 len,.int .i64 a0,.int .i64 a1,.int .i64 a2,.int .i64 sort,.int .i64 fn,.int .i64 num] 54))):=(Below.refl _ w).alloc (Nat.le_refl _) _
 have hcell:=hG.at_ 2 2 rfl
 have hglt:=hG.lt
 clear hG
 by_cases c0:len=2
 rotate_left
 ·have hf:r=false:=HNo.out (fun h=>by have:=HF.out.1 h;omega)
  subst hf
  have d0:=qB7 c0
  clear c0
  clear HNo HYes HF
  go_enter Tryz.func87,Tryz.ntmps87
  go_wp2
  go_quiet (fail)
  go_wp2
  go_ret
  exact⟨rfl,qA1 HB0.out⟩
 have d0:=qC9 c0
 by_cases c1:fn=0
 rotate_left
 ·have hf:r=false:=HNo.out (fun h=>by have:=HF.out.1 h;omega)
  subst hf
  have d1:=qB7 c1
  clear c0 c1
  clear HNo HYes HF
  go_enter Tryz.func87,Tryz.ntmps87
  go_wp2
  go_quiet (fail)
  go_wp2
  go_ret
  exact⟨rfl,qA1 HB0.out⟩
 have d1:=qC9 c1
 by_cases c2:num=0
 rotate_left
 ·have hf:r=false:=HNo.out (fun h=>by have:=HF.out.1 h;omega)
  subst hf
  have d2:=qB7 c2
  clear c0 c1 c2
  clear HNo HYes HF
  go_enter Tryz.func87,Tryz.ntmps87
  go_wp2
  go_quiet (fail)
  go_wp2
  go_ret
  exact⟨rfl,qA1 HB0.out⟩
 have d2:=qC9 c2
 have hf:r=true:=HYes.out (HF.out.2 ⟨c0,c1,c2⟩)
 subst hf
 clear c0 c1 c2
 clear HNo HYes HF
 go_enter Tryz.func87,Tryz.ntmps87
 go_wp2
 go_quiet (fail)
 go_wp2
 go_ret
 exact⟨rfl,qA1 HB0.out⟩
set_option maxHeartbeats 4000000 in
theorem zBp (n:NodeA) (w:World) (hG:GT w) (ho:NodeOk n) (hop:n.op=3) :
  Calls Tryz.prog 87 #[.agg #[.int .i8 n.op,.int .i8 n.len,.int .i64 n.a0,.int .i64 n.a1,.int .i64 n.a2,.int .i64 n.sort,.int .i64 n.fn,.int .i64 n.num]] w fun e w'=>e=.returned (.bool (qBo n))∧Below w.heap.size w w':=by
 obtain⟨r,hr⟩:∃r,qBo n=r:=⟨_,rfl⟩
 rw[hr]
 have HNo:=Lib.hid (qD1 hr)
 have HYes:=Lib.hid (qCa hr)
 have HF:=qAs n 2 (by omega) (by rw[hop];rfl)
 obtain⟨op,len,a0,a1,a2,sort,fn,num⟩:=n
 simp only at hop
 subst hop
 obtain⟨⟨p1,p2⟩,⟨p3,p4⟩,⟨p5,p6⟩,⟨p7,p8⟩,⟨p9,p10⟩,⟨p11,p12⟩,⟨p13,p14⟩,⟨p15,p16⟩⟩:=ho
 have HF:=Lib.hid HF
 clear hr
 simp only at *
 have HB0:Hid (Below w.heap.size w (w.alloc (.cells #[.int .i8 3,.int .i8 len,.int .i64 a0,.int .i64 a1,.int .i64 a2,.int .i64 sort,.int .i64 fn,.int .i64 num] 54))):=(Below.refl _ w).alloc (Nat.le_refl _) _
 have hcell:=hG.at_ 3 2 rfl
 have hglt:=hG.lt
 clear hG
 by_cases c0:len=2
 rotate_left
 ·have hf:r=false:=HNo.out (fun h=>by have:=HF.out.1 h;omega)
  subst hf
  have d0:=qB7 c0
  clear c0
  clear HNo HYes HF
  go_enter Tryz.func87,Tryz.ntmps87
  go_wp2
  go_quiet (fail)
  go_wp2
  go_ret
  exact⟨rfl,qA1 HB0.out⟩
 have d0:=qC9 c0
 by_cases c1:fn=0
 rotate_left
 ·have hf:r=false:=HNo.out (fun h=>by have:=HF.out.1 h;omega)
  subst hf
  have d1:=qB7 c1
  clear c0 c1
  clear HNo HYes HF
  go_enter Tryz.func87,Tryz.ntmps87
  go_wp2
  go_quiet (fail)
  go_wp2
  go_ret
  exact⟨rfl,qA1 HB0.out⟩
 have d1:=qC9 c1
 by_cases c2:num=0
 rotate_left
 ·have hf:r=false:=HNo.out (fun h=>by have:=HF.out.1 h;omega)
  subst hf
  have d2:=qB7 c2
  clear c0 c1 c2
  clear HNo HYes HF
  go_enter Tryz.func87,Tryz.ntmps87
  go_wp2
  go_quiet (fail)
  go_wp2
  go_ret
  exact⟨rfl,qA1 HB0.out⟩
 have d2:=qC9 c2
 have hf:r=true:=HYes.out (HF.out.2 ⟨c0,c1,c2⟩)
 subst hf
 clear c0 c1 c2
 clear HNo HYes HF
 go_enter Tryz.func87,Tryz.ntmps87
 go_wp2
 go_quiet (fail)
 go_wp2
 go_ret
 exact⟨rfl,qA1 HB0.out⟩
set_option maxHeartbeats 4000000 in
theorem zBq (n:NodeA) (w:World) (hG:GT w) (ho:NodeOk n) (hop:n.op=4) :
  Calls Tryz.prog 87 #[.agg #[.int .i8 n.op,.int .i8 n.len,.int .i64 n.a0,.int .i64 n.a1,.int .i64 n.a2,.int .i64 n.sort,.int .i64 n.fn,.int .i64 n.num]] w fun e w'=>e=.returned (.bool (qBo n))∧Below w.heap.size w w':=by
 obtain⟨r,hr⟩:∃r,qBo n=r:=⟨_,rfl⟩
 rw[hr]
 have HNo:=Lib.hid (qD1 hr)
 have HYes:=Lib.hid (qCa hr)
 have HF:=qAs n 2 (by omega) (by rw[hop];rfl)
 obtain⟨op,len,a0,a1,a2,sort,fn,num⟩:=n
 simp only at hop
 subst hop
 obtain⟨⟨p1,p2⟩,⟨p3,p4⟩,⟨p5,p6⟩,⟨p7,p8⟩,⟨p9,p10⟩,⟨p11,p12⟩,⟨p13,p14⟩,⟨p15,p16⟩⟩:=ho
 have HF:=Lib.hid HF
 clear hr
 simp only at *
 have HB0:Hid (Below w.heap.size w (w.alloc (.cells #[.int .i8 4,.int .i8 len,.int .i64 a0,.int .i64 a1,.int .i64 a2,.int .i64 sort,.int .i64 fn,.int .i64 num] 54))):=(Below.refl _ w).alloc (Nat.le_refl _) _
 have hcell:=hG.at_ 4 2 rfl
 have hglt:=hG.lt
 clear hG
 by_cases c0:len=2
 rotate_left
 ·have hf:r=false:=HNo.out (fun h=>by have:=HF.out.1 h;omega)
  subst hf
  have d0:=qB7 c0
  clear c0
  clear HNo HYes HF
  go_enter Tryz.func87,Tryz.ntmps87
  go_wp2
  go_quiet (fail)
  go_wp2
  go_ret
  exact⟨rfl,qA1 HB0.out⟩
 have d0:=qC9 c0
 by_cases c1:fn=0
 rotate_left
 ·have hf:r=false:=HNo.out (fun h=>by have:=HF.out.1 h;omega)
  subst hf
  have d1:=qB7 c1
  clear c0 c1
  clear HNo HYes HF
  go_enter Tryz.func87,Tryz.ntmps87
  go_wp2
  go_quiet (fail)
  go_wp2
  go_ret
  exact⟨rfl,qA1 HB0.out⟩
 have d1:=qC9 c1
 by_cases c2:num=0
 rotate_left
 ·have hf:r=false:=HNo.out (fun h=>by have:=HF.out.1 h;omega)
  subst hf
  have d2:=qB7 c2
  clear c0 c1 c2
  clear HNo HYes HF
  go_enter Tryz.func87,Tryz.ntmps87
  go_wp2
  go_quiet (fail)
  go_wp2
  go_ret
  exact⟨rfl,qA1 HB0.out⟩
 have d2:=qC9 c2
 have hf:r=true:=HYes.out (HF.out.2 ⟨c0,c1,c2⟩)
 subst hf
 clear c0 c1 c2
 clear HNo HYes HF
 go_enter Tryz.func87,Tryz.ntmps87
 go_wp2
 go_quiet (fail)
 go_wp2
 go_ret
 exact⟨rfl,qA1 HB0.out⟩
set_option maxHeartbeats 4000000 in
theorem zBr (n:NodeA) (w:World) (hG:GT w) (ho:NodeOk n) (hop:n.op=5) :
  Calls Tryz.prog 87 #[.agg #[.int .i8 n.op,.int .i8 n.len,.int .i64 n.a0,.int .i64 n.a1,.int .i64 n.a2,.int .i64 n.sort,.int .i64 n.fn,.int .i64 n.num]] w fun e w'=>e=.returned (.bool (qBo n))∧Below w.heap.size w w':=by
 obtain⟨r,hr⟩:∃r,qBo n=r:=⟨_,rfl⟩
 rw[hr]
 have HNo:=Lib.hid (qD1 hr)
 have HYes:=Lib.hid (qCa hr)
 have HF:=qAs n 2 (by omega) (by rw[hop];rfl)
 obtain⟨op,len,a0,a1,a2,sort,fn,num⟩:=n
 simp only at hop
 subst hop
 obtain⟨⟨p1,p2⟩,⟨p3,p4⟩,⟨p5,p6⟩,⟨p7,p8⟩,⟨p9,p10⟩,⟨p11,p12⟩,⟨p13,p14⟩,⟨p15,p16⟩⟩:=ho
 have HF:=Lib.hid HF
 clear hr
 simp only at *
 have HB0:Hid (Below w.heap.size w (w.alloc (.cells #[.int .i8 5,.int .i8 len,.int .i64 a0,.int .i64 a1,.int .i64 a2,.int .i64 sort,.int .i64 fn,.int .i64 num] 54))):=(Below.refl _ w).alloc (Nat.le_refl _) _
 have hcell:=hG.at_ 5 2 rfl
 have hglt:=hG.lt
 clear hG
 by_cases c0:len=2
 rotate_left
 ·have hf:r=false:=HNo.out (fun h=>by have:=HF.out.1 h;omega)
  subst hf
  have d0:=qB7 c0
  clear c0
  clear HNo HYes HF
  go_enter Tryz.func87,Tryz.ntmps87
  go_wp2
  go_quiet (fail)
  go_wp2
  go_ret
  exact⟨rfl,qA1 HB0.out⟩
 have d0:=qC9 c0
 by_cases c1:fn=0
 rotate_left
 ·have hf:r=false:=HNo.out (fun h=>by have:=HF.out.1 h;omega)
  subst hf
  have d1:=qB7 c1
  clear c0 c1
  clear HNo HYes HF
  go_enter Tryz.func87,Tryz.ntmps87
  go_wp2
  go_quiet (fail)
  go_wp2
  go_ret
  exact⟨rfl,qA1 HB0.out⟩
 have d1:=qC9 c1
 by_cases c2:num=0
 rotate_left
 ·have hf:r=false:=HNo.out (fun h=>by have:=HF.out.1 h;omega)
  subst hf
  have d2:=qB7 c2
  clear c0 c1 c2
  clear HNo HYes HF
  go_enter Tryz.func87,Tryz.ntmps87
  go_wp2
  go_quiet (fail)
  go_wp2
  go_ret
  exact⟨rfl,qA1 HB0.out⟩
 have d2:=qC9 c2
 have hf:r=true:=HYes.out (HF.out.2 ⟨c0,c1,c2⟩)
 subst hf
 clear c0 c1 c2
 clear HNo HYes HF
 go_enter Tryz.func87,Tryz.ntmps87
 go_wp2
 go_quiet (fail)
 go_wp2
 go_ret
 exact⟨rfl,qA1 HB0.out⟩
set_option maxHeartbeats 4000000 in
theorem zBs (n:NodeA) (w:World) (hG:GT w) (ho:NodeOk n) (hop:n.op=6) :
  Calls Tryz.prog 87 #[.agg #[.int .i8 n.op,.int .i8 n.len,.int .i64 n.a0,.int .i64 n.a1,.int .i64 n.a2,.int .i64 n.sort,.int .i64 n.fn,.int .i64 n.num]] w fun e w'=>e=.returned (.bool (qBo n))∧Below w.heap.size w w':=by
 obtain⟨r,hr⟩:∃r,qBo n=r:=⟨_,rfl⟩
 rw[hr]
 have HNo:=Lib.hid (qD1 hr)
 have HYes:=Lib.hid (qCa hr)
 have HF:=qAs n 2 (by omega) (by rw[hop];rfl)
 obtain⟨op,len,a0,a1,a2,sort,fn,num⟩:=n
 simp only at hop
 subst hop
 obtain⟨⟨p1,p2⟩,⟨p3,p4⟩,⟨p5,p6⟩,⟨p7,p8⟩,⟨p9,p10⟩,⟨p11,p12⟩,⟨p13,p14⟩,⟨p15,p16⟩⟩:=ho
 have HF:=Lib.hid HF
 clear hr
 simp only at *
 have HB0:Hid (Below w.heap.size w (w.alloc (.cells #[.int .i8 6,.int .i8 len,.int .i64 a0,.int .i64 a1,.int .i64 a2,.int .i64 sort,.int .i64 fn,.int .i64 num] 54))):=(Below.refl _ w).alloc (Nat.le_refl _) _
 have hcell:=hG.at_ 6 2 rfl
 have hglt:=hG.lt
 clear hG
 by_cases c0:len=2
 rotate_left
 ·have hf:r=false:=HNo.out (fun h=>by have:=HF.out.1 h;omega)
  subst hf
  have d0:=qB7 c0
  clear c0
  clear HNo HYes HF
  go_enter Tryz.func87,Tryz.ntmps87
  go_wp2
  go_quiet (fail)
  go_wp2
  go_ret
  exact⟨rfl,qA1 HB0.out⟩
 have d0:=qC9 c0
 by_cases c1:fn=0
 rotate_left
 ·have hf:r=false:=HNo.out (fun h=>by have:=HF.out.1 h;omega)
  subst hf
  have d1:=qB7 c1
  clear c0 c1
  clear HNo HYes HF
  go_enter Tryz.func87,Tryz.ntmps87
  go_wp2
  go_quiet (fail)
  go_wp2
  go_ret
  exact⟨rfl,qA1 HB0.out⟩
 have d1:=qC9 c1
 by_cases c2:num=0
 rotate_left
 ·have hf:r=false:=HNo.out (fun h=>by have:=HF.out.1 h;omega)
  subst hf
  have d2:=qB7 c2
  clear c0 c1 c2
  clear HNo HYes HF
  go_enter Tryz.func87,Tryz.ntmps87
  go_wp2
  go_quiet (fail)
  go_wp2
  go_ret
  exact⟨rfl,qA1 HB0.out⟩
 have d2:=qC9 c2
 have hf:r=true:=HYes.out (HF.out.2 ⟨c0,c1,c2⟩)
 subst hf
 clear c0 c1 c2
 clear HNo HYes HF
 go_enter Tryz.func87,Tryz.ntmps87
 go_wp2
 go_quiet (fail)
 go_wp2
 go_ret
 exact⟨rfl,qA1 HB0.out⟩
set_option maxHeartbeats 4000000 in
theorem zBt (n:NodeA) (w:World) (hG:GT w) (ho:NodeOk n) (hop:n.op=7) :
  Calls Tryz.prog 87 #[.agg #[.int .i8 n.op,.int .i8 n.len,.int .i64 n.a0,.int .i64 n.a1,.int .i64 n.a2,.int .i64 n.sort,.int .i64 n.fn,.int .i64 n.num]] w fun e w'=>e=.returned (.bool (qBo n))∧Below w.heap.size w w':=by
 obtain⟨r,hr⟩:∃r,qBo n=r:=⟨_,rfl⟩
 rw[hr]
 have HNo:=Lib.hid (qD1 hr)
 have HYes:=Lib.hid (qCa hr)
 have HF:=qAs n 3 (by omega) (by rw[hop];rfl)
 obtain⟨op,len,a0,a1,a2,sort,fn,num⟩:=n
 simp only at hop
 subst hop
 obtain⟨⟨p1,p2⟩,⟨p3,p4⟩,⟨p5,p6⟩,⟨p7,p8⟩,⟨p9,p10⟩,⟨p11,p12⟩,⟨p13,p14⟩,⟨p15,p16⟩⟩:=ho
 have HF:=Lib.hid HF
 clear hr
 simp only at *
 have HB0:Hid (Below w.heap.size w (w.alloc (.cells #[.int .i8 7,.int .i8 len,.int .i64 a0,.int .i64 a1,.int .i64 a2,.int .i64 sort,.int .i64 fn,.int .i64 num] 54))):=(Below.refl _ w).alloc (Nat.le_refl _) _
 have hcell:=hG.at_ 7 3 rfl
 have hglt:=hG.lt
 clear hG
 by_cases c0:len=3
 rotate_left
 ·have hf:r=false:=HNo.out (fun h=>by have:=HF.out.1 h;omega)
  subst hf
  have d0:=qB7 c0
  clear c0
  clear HNo HYes HF
  go_enter Tryz.func87,Tryz.ntmps87
  go_wp2
  go_quiet (fail)
  go_wp2
  go_ret
  exact⟨rfl,qA1 HB0.out⟩
 have d0:=qC9 c0
 by_cases c1:fn=0
 rotate_left
 ·have hf:r=false:=HNo.out (fun h=>by have:=HF.out.1 h;omega)
  subst hf
  have d1:=qB7 c1
  clear c0 c1
  clear HNo HYes HF
  go_enter Tryz.func87,Tryz.ntmps87
  go_wp2
  go_quiet (fail)
  go_wp2
  go_ret
  exact⟨rfl,qA1 HB0.out⟩
 have d1:=qC9 c1
 by_cases c2:num=0
 rotate_left
 ·have hf:r=false:=HNo.out (fun h=>by have:=HF.out.1 h;omega)
  subst hf
  have d2:=qB7 c2
  clear c0 c1 c2
  clear HNo HYes HF
  go_enter Tryz.func87,Tryz.ntmps87
  go_wp2
  go_quiet (fail)
  go_wp2
  go_ret
  exact⟨rfl,qA1 HB0.out⟩
 have d2:=qC9 c2
 have hf:r=true:=HYes.out (HF.out.2 ⟨c0,c1,c2⟩)
 subst hf
 clear c0 c1 c2
 clear HNo HYes HF
 go_enter Tryz.func87,Tryz.ntmps87
 go_wp2
 go_quiet (fail)
 go_wp2
 go_ret
 exact⟨rfl,qA1 HB0.out⟩
set_option maxHeartbeats 4000000 in
theorem zBu (n:NodeA) (w:World) (hG:GT w) (ho:NodeOk n) (hop:n.op=8) :
  Calls Tryz.prog 87 #[.agg #[.int .i8 n.op,.int .i8 n.len,.int .i64 n.a0,.int .i64 n.a1,.int .i64 n.a2,.int .i64 n.sort,.int .i64 n.fn,.int .i64 n.num]] w fun e w'=>e=.returned (.bool (qBo n))∧Below w.heap.size w w':=by
 obtain⟨r,hr⟩:∃r,qBo n=r:=⟨_,rfl⟩
 rw[hr]
 have HNo:=Lib.hid (qD1 hr)
 have HYes:=Lib.hid (qCa hr)
 have HF:=qAs n 2 (by omega) (by rw[hop];rfl)
 obtain⟨op,len,a0,a1,a2,sort,fn,num⟩:=n
 simp only at hop
 subst hop
 obtain⟨⟨p1,p2⟩,⟨p3,p4⟩,⟨p5,p6⟩,⟨p7,p8⟩,⟨p9,p10⟩,⟨p11,p12⟩,⟨p13,p14⟩,⟨p15,p16⟩⟩:=ho
 have HF:=Lib.hid HF
 clear hr
 simp only at *
 have HB0:Hid (Below w.heap.size w (w.alloc (.cells #[.int .i8 8,.int .i8 len,.int .i64 a0,.int .i64 a1,.int .i64 a2,.int .i64 sort,.int .i64 fn,.int .i64 num] 54))):=(Below.refl _ w).alloc (Nat.le_refl _) _
 have hcell:=hG.at_ 8 2 rfl
 have hglt:=hG.lt
 clear hG
 by_cases c0:len=2
 rotate_left
 ·have hf:r=false:=HNo.out (fun h=>by have:=HF.out.1 h;omega)
  subst hf
  have d0:=qB7 c0
  clear c0
  clear HNo HYes HF
  go_enter Tryz.func87,Tryz.ntmps87
  go_wp2
  go_quiet (fail)
  go_wp2
  go_ret
  exact⟨rfl,qA1 HB0.out⟩
 have d0:=qC9 c0
 by_cases c1:fn=0
 rotate_left
 ·have hf:r=false:=HNo.out (fun h=>by have:=HF.out.1 h;omega)
  subst hf
  have d1:=qB7 c1
  clear c0 c1
  clear HNo HYes HF
  go_enter Tryz.func87,Tryz.ntmps87
  go_wp2
  go_quiet (fail)
  go_wp2
  go_ret
  exact⟨rfl,qA1 HB0.out⟩
 have d1:=qC9 c1
 by_cases c2:num=0
 rotate_left
 ·have hf:r=false:=HNo.out (fun h=>by have:=HF.out.1 h;omega)
  subst hf
  have d2:=qB7 c2
  clear c0 c1 c2
  clear HNo HYes HF
  go_enter Tryz.func87,Tryz.ntmps87
  go_wp2
  go_quiet (fail)
  go_wp2
  go_ret
  exact⟨rfl,qA1 HB0.out⟩
 have d2:=qC9 c2
 have hf:r=true:=HYes.out (HF.out.2 ⟨c0,c1,c2⟩)
 subst hf
 clear c0 c1 c2
 clear HNo HYes HF
 go_enter Tryz.func87,Tryz.ntmps87
 go_wp2
 go_quiet (fail)
 go_wp2
 go_ret
 exact⟨rfl,qA1 HB0.out⟩
set_option maxHeartbeats 4000000 in
theorem zBv (n:NodeA) (w:World) (hG:GT w) (ho:NodeOk n) (hop:n.op=9) :
  Calls Tryz.prog 87 #[.agg #[.int .i8 n.op,.int .i8 n.len,.int .i64 n.a0,.int .i64 n.a1,.int .i64 n.a2,.int .i64 n.sort,.int .i64 n.fn,.int .i64 n.num]] w fun e w'=>e=.returned (.bool (qBo n))∧Below w.heap.size w w':=by
 obtain⟨r,hr⟩:∃r,qBo n=r:=⟨_,rfl⟩
 rw[hr]
 have HNo:=Lib.hid (qD1 hr)
 have HYes:=Lib.hid (qCa hr)
 have HF:=qAs n 2 (by omega) (by rw[hop];rfl)
 obtain⟨op,len,a0,a1,a2,sort,fn,num⟩:=n
 simp only at hop
 subst hop
 obtain⟨⟨p1,p2⟩,⟨p3,p4⟩,⟨p5,p6⟩,⟨p7,p8⟩,⟨p9,p10⟩,⟨p11,p12⟩,⟨p13,p14⟩,⟨p15,p16⟩⟩:=ho
 have HF:=Lib.hid HF
 clear hr
 simp only at *
 have HB0:Hid (Below w.heap.size w (w.alloc (.cells #[.int .i8 9,.int .i8 len,.int .i64 a0,.int .i64 a1,.int .i64 a2,.int .i64 sort,.int .i64 fn,.int .i64 num] 54))):=(Below.refl _ w).alloc (Nat.le_refl _) _
 have hcell:=hG.at_ 9 2 rfl
 have hglt:=hG.lt
 clear hG
 by_cases c0:len=2
 rotate_left
 ·have hf:r=false:=HNo.out (fun h=>by have:=HF.out.1 h;omega)
  subst hf
  have d0:=qB7 c0
  clear c0
  clear HNo HYes HF
  go_enter Tryz.func87,Tryz.ntmps87
  go_wp2
  go_quiet (fail)
  go_wp2
  go_ret
  exact⟨rfl,qA1 HB0.out⟩
 have d0:=qC9 c0
 by_cases c1:fn=0
 rotate_left
 ·have hf:r=false:=HNo.out (fun h=>by have:=HF.out.1 h;omega)
  subst hf
  have d1:=qB7 c1
  clear c0 c1
  clear HNo HYes HF
  go_enter Tryz.func87,Tryz.ntmps87
  go_wp2
  go_quiet (fail)
  go_wp2
  go_ret
  exact⟨rfl,qA1 HB0.out⟩
 have d1:=qC9 c1
 by_cases c2:num=0
 rotate_left
 ·have hf:r=false:=HNo.out (fun h=>by have:=HF.out.1 h;omega)
  subst hf
  have d2:=qB7 c2
  clear c0 c1 c2
  clear HNo HYes HF
  go_enter Tryz.func87,Tryz.ntmps87
  go_wp2
  go_quiet (fail)
  go_wp2
  go_ret
  exact⟨rfl,qA1 HB0.out⟩
 have d2:=qC9 c2
 have hf:r=true:=HYes.out (HF.out.2 ⟨c0,c1,c2⟩)
 subst hf
 clear c0 c1 c2
 clear HNo HYes HF
 go_enter Tryz.func87,Tryz.ntmps87
 go_wp2
 go_quiet (fail)
 go_wp2
 go_ret
 exact⟨rfl,qA1 HB0.out⟩
theorem qUx (n:NodeA) (w:World) (hop:n.op<0∨14≤n.op) (ho:NodeOk n) :
  Calls Tryz.prog 87 #[.agg #[.int .i8 n.op,.int .i8 n.len,.int .i64 n.a0,.int .i64 n.a1,.int .i64 n.a2,.int .i64 n.sort,.int .i64 n.fn,.int .i64 n.num]] w fun e w'=>e=.returned (.bool (qBo n))∧Below w.heap.size w w':=by
 have hf:qBo n=false:=qD1 rfl (fun h=>by have:=h.1;have:=h.2.1;omega)
 rw[hf]
 obtain⟨p1,p2⟩:=ho.op
 have HB0:Hid (Below w.heap.size w (w.alloc (.cells #[.int .i8 n.op,.int .i8 n.len,.int .i64 n.a0,.int .i64 n.a1,.int .i64 n.a2,.int .i64 n.sort,.int .i64 n.fn,.int .i64 n.num] 54))):=(Below.refl _ w).alloc (Nat.le_refl _) _
 clear hf ho
 rcases hop with h|h
 all_goals
  go_enter Tryz.func87,Tryz.ntmps87
  go_wp2
  go_ret
  exact⟨rfl,HB0.out⟩
theorem qUy (n:NodeA) (w:World) (hG:GT w) (ho:NodeOk n) :
  Calls Tryz.prog 87 #[.agg #[.int .i8 n.op,.int .i8 n.len,.int .i64 n.a0,.int .i64 n.a1,.int .i64 n.a2,.int .i64 n.sort,.int .i64 n.fn,.int .i64 n.num]] w fun e w'=>e=.returned (.bool (qBo n))∧Below w.heap.size w w':=by
 rcases qKp n.op with h|h
 ·rcases h with h|h|h|h|h|h|h|h|h|h|h|h|h|h
  ·exact zBm n w hG ho h
  ·exact zBn n w hG ho h
  ·exact zBo n w hG ho h
  ·exact zBp n w hG ho h
  ·exact zBq n w hG ho h
  ·exact zBr n w hG ho h
  ·exact zBs n w hG ho h
  ·exact zBt n w hG ho h
  ·exact zBu n w hG ho h
  ·exact zBv n w hG ho h
  ·exact qZ1 n w hG ho h
  ·exact qZ2 n w hG ho h
  ·exact qZ3 n w hG ho h
  ·exact qZ0 n w hG ho h
 ·exact qUx n w h ho
theorem qZ4 (a b c:Int) (w:World):(Instr.index 52 (.agg #[.int .i64 a,.int .i64 b,.int .i64 c]) (.int .i64 0)).run Tryz.prog w=.ok (.int .i64 a) w:=by kernel_rfl
theorem qZ5 (a b c:Int) (w:World):(Instr.index 52 (.agg #[.int .i64 a,.int .i64 b,.int .i64 c]) (.int .i64 1)).run Tryz.prog w=.ok (.int .i64 b) w:=by kernel_rfl
theorem qZ6 (a b c:Int) (w:World):(Instr.index 52 (.agg #[.int .i64 a,.int .i64 b,.int .i64 c]) (.int .i64 2)).run Tryz.prog w=.ok (.int .i64 c) w:=by kernel_rfl
set_option maxHeartbeats 4000000 in
theorem qOy (n:NodeA) (at_:Nat) (w:World) (hG:GT w) (ho:NodeOk n) (hat:(at_:Int)≤1000000) :
  Calls Tryz.prog 65 #[.agg #[.int .i8 n.op,.int .i8 n.len,.int .i64 n.a0,.int .i64 n.a1,.int .i64 n.a2,.int .i64 n.sort,.int .i64 n.fn,.int .i64 n.num],.int .i64 at_] w fun e w'=>e=.returned (.bool (standsB n at_))∧Below w.heap.size w w':=by
 obtain⟨r,hr⟩:∃r,standsB n at_=r:=⟨_,rfl⟩
 rw[hr]
 have HNo:Hid (¬(qEo n∧(0≤n.sort∧n.sort<6)∧∀j,j<3→qBr n.len (qBc n j) j at_)→r=false):=fun h=>by
  rw[←hr];unfold standsB;rw[decide_eq_false_iff_not]
  rw[qH3] at h
  exact h
 have HYes:Hid ((qEo n∧(0≤n.sort∧n.sort<6)∧∀j,j<3→qBr n.len (qBc n j) j at_)→r=true):=fun h=>by
  rw[←hr];unfold standsB;rw[decide_eq_true_eq]
  rw[qH3] at h
  exact h
 obtain⟨q,hq⟩:∃q,qBo n=q:=⟨_,rfl⟩
 obtain⟨W0,hW0⟩:∃W0,W0=w.alloc (.cells #[.int .i8 n.op,.int .i8 n.len,.int .i64 n.a0,.int .i64 n.a1,.int .i64 n.a2,.int .i64 n.sort,.int .i64 n.fn,.int .i64 n.num] 54):=⟨_,rfl⟩
 have hB0:Below w.heap.size w W0:=by rw[hW0];exact(Below.refl _ w).alloc (Nat.le_refl _) _
 have HC:Hid (Calls Tryz.prog 87 #[.agg #[.int .i8 n.op,.int .i8 n.len,.int .i64 n.a0,.int .i64 n.a1,.int .i64 n.a2,.int .i64 n.sort,.int .i64 n.fn,.int .i64 n.num]] W0 fun e w'=>e=.returned (.bool q)∧Below W0.heap.size W0 w'):=by rw[←hq];exact qUy n W0 (hG.below hB0) ho
 have HB0:=Lib.hid hB0
 have hz:w.heap.size<W0.heap.size:=by rw[hW0];simp
 have HX:Hid (∀V,Below W0.heap.size W0 V→V.cell? ⟨w.heap.size,0,none⟩=some (.int .i8 n.op)∧V.cell? ⟨w.heap.size,1,none⟩=some (.int .i8 n.len)∧V.cell? ⟨w.heap.size,2,none⟩=some (.int .i64 n.a0)∧V.cell? ⟨w.heap.size,3,none⟩=some (.int .i64 n.a1)∧V.cell? ⟨w.heap.size,4,none⟩=some (.int .i64 n.a2)∧V.cell? ⟨w.heap.size,5,none⟩=some (.int .i64 n.sort)):=fun V hV=>by
  have hb:=heap_alloc_new w (.cells #[.int .i8 n.op,.int .i8 n.len,.int .i64 n.a0,.int .i64 n.a1,.int .i64 n.a2,.int .i64 n.sort,.int .i64 n.fn,.int .i64 n.num] 54)
  rw[←hW0] at hb
  have hb:=(hV.block _ hz).trans hb
  exact⟨(cell_of_row _ _ 0 _ _ _ hb).trans rfl,(cell_of_row _ _ 1 _ _ _ hb).trans rfl,(cell_of_row _ _ 2 _ _ _ hb).trans rfl,(cell_of_row _ _ 3 _ _ _ hb).trans rfl,(cell_of_row _ _ 4 _ _ _ hb).trans rfl,(cell_of_row _ _ 5 _ _ _ hb).trans rfl⟩
 have i0:=qZ4 n.a0 n.a1 n.a2
 have i1:=qZ5 n.a0 n.a1 n.a2
 have i2:=qZ6 n.a0 n.a1 n.a2
 have HFit:Hid (q=true→qEo n):=fun h=>by rw[←hq] at h;unfold qBo at h;exact of_decide_eq_true h
 have HFit2:Hid (q=false→¬qEo n):=fun h=>by rw[←hq] at h;unfold qBo at h;exact of_decide_eq_false h
 obtain⟨⟨p1,p2⟩,⟨p3,p4⟩,⟨p5,p6⟩,⟨p7,p8⟩,⟨p9,p10⟩,⟨p11,p12⟩,⟨p13,p14⟩,⟨p15,p16⟩⟩:=ho
 clear hr hG hq hB0
 cases q with
 | false =>
  have hf:r=false:=HNo.out (fun h=>HFit2.out rfl h.1)
  subst hf
  go_enter Tryz.func65,Tryz.ntmps65
  go_wp2_with (go_at_call 87;rw[←hW0];clear hW0;refine HC.out.mono ?_;rintro e w1 ⟨rfl,hb1⟩;obtain⟨x0,x1,x2,x3,x4,x5⟩:=HX.out _ hb1)
  go_ret
  exact⟨rfl,HB0.out.trans (hb1.mono HB0.out.size)⟩
 | true =>
  by_cases c1:n.sort<0
  ·have hf:r=false:=HNo.out (fun h=>by have:=h.2.1;omega)
   subst hf
   go_enter Tryz.func65,Tryz.ntmps65
   go_wp2_with (go_at_call 87;rw[←hW0];clear hW0;refine HC.out.mono ?_;rintro e w1 ⟨rfl,hb1⟩;obtain⟨x0,x1,x2,x3,x4,x5⟩:=HX.out _ hb1)
   go_ret
   exact⟨rfl,HB0.out.trans (hb1.mono HB0.out.size)⟩
  by_cases c2:6≤n.sort
  ·have hf:r=false:=HNo.out (fun h=>by have:=h.2.1;omega)
   subst hf
   go_enter Tryz.func65,Tryz.ntmps65
   go_wp2_with (go_at_call 87;rw[←hW0];clear hW0;refine HC.out.mono ?_;rintro e w1 ⟨rfl,hb1⟩;obtain⟨x0,x1,x2,x3,x4,x5⟩:=HX.out _ hb1)
   go_ret
   exact⟨rfl,HB0.out.trans (hb1.mono HB0.out.size)⟩
  go_enter Tryz.func65,Tryz.ntmps65
  go_wp2_with (go_at_call 87;rw[←hW0];clear hW0;refine HC.out.mono ?_;rintro e w1 ⟨rfl,hb1⟩;obtain⟨x0,x1,x2,x3,x4,x5⟩:=HX.out _ hb1)
  go_loop [22] (fun i=>∃m:Nat,m≤3∧i=.int .i64 m∧Hid (∀j,j<m→qBr n.len (qBc n j) j at_)) (fun i=>3-(intOf i).toNat)
  case atStart=>exact⟨0,by omega,rfl,fun j hj=>by omega⟩
  case round =>
   obtain⟨m,hm3,rfl,HA⟩:=hrel
   have hm:m=0∨m=1∨m=2∨m=3:=by omega
   clear hm3
   rcases hm with rfl|rfl|rfl|rfl
   ·by_cases d1:(0:Int)<n.len
    ·by_cases d2:n.a0<0
     ·have hf:r=false:=HNo.out (fun h=>by have:=h.2.2 0 (by omega);unfold qBr qBc at this;simp only at this;omega)
      subst hf
      go_wp2
      go_ret
      exact⟨rfl,HB0.out.trans (hb1.mono HB0.out.size)⟩
     by_cases d3:(at_:Int)≤n.a0
     ·have hf:r=false:=HNo.out (fun h=>by have:=h.2.2 0 (by omega);unfold qBr qBc at this;simp only at this;omega)
      subst hf
      go_wp2
      go_ret
      exact⟨rfl,HB0.out.trans (hb1.mono HB0.out.size)⟩
     go_wp2
     go_round
     case rel=>exact⟨1,by omega,rfl,fun j hj=>by
      by_cases hj2:j<0
      ·exact HA.out j hj2
      ·obtain rfl:j=0:=by omega
       unfold qBr qBc;simp only;omega⟩
     case measure=>simp[intOf]
    ·by_cases d2:n.a0=0
     ·have e3:=ne_f d2
      have D2:=Lib.hid d2
      clear d2
      go_wp2
      go_round
      case rel=>exact⟨1,by omega,rfl,fun j hj=>by
       by_cases hj2:j<0
       ·exact HA.out j hj2
       ·obtain rfl:j=0:=by omega
        have:=D2.out
        unfold qBr qBc;simp only;omega⟩
      case measure=>simp[intOf]
     ·have hf:r=false:=HNo.out (fun h=>by have:=h.2.2 0 (by omega);unfold qBr qBc at this;simp only at this;omega)
      subst hf
      have e3:=qDf d2
      go_wp2
      go_ret
      exact⟨rfl,HB0.out.trans (hb1.mono HB0.out.size)⟩
   ·by_cases d1:(1:Int)<n.len
    ·by_cases d2:n.a1<0
     ·have hf:r=false:=HNo.out (fun h=>by have:=h.2.2 1 (by omega);unfold qBr qBc at this;simp only at this;omega)
      subst hf
      go_wp2
      go_ret
      exact⟨rfl,HB0.out.trans (hb1.mono HB0.out.size)⟩
     by_cases d3:(at_:Int)≤n.a1
     ·have hf:r=false:=HNo.out (fun h=>by have:=h.2.2 1 (by omega);unfold qBr qBc at this;simp only at this;omega)
      subst hf
      go_wp2
      go_ret
      exact⟨rfl,HB0.out.trans (hb1.mono HB0.out.size)⟩
     go_wp2
     go_round
     case rel=>exact⟨2,by omega,rfl,fun j hj=>by
      by_cases hj2:j<1
      ·exact HA.out j hj2
      ·obtain rfl:j=1:=by omega
       unfold qBr qBc;simp only;omega⟩
     case measure=>simp[intOf]
    ·by_cases d2:n.a1=0
     ·have e3:=ne_f d2
      have D2:=Lib.hid d2
      clear d2
      go_wp2
      go_round
      case rel=>exact⟨2,by omega,rfl,fun j hj=>by
       by_cases hj2:j<1
       ·exact HA.out j hj2
       ·obtain rfl:j=1:=by omega
        have:=D2.out
        unfold qBr qBc;simp only;omega⟩
      case measure=>simp[intOf]
     ·have hf:r=false:=HNo.out (fun h=>by have:=h.2.2 1 (by omega);unfold qBr qBc at this;simp only at this;omega)
      subst hf
      have e3:=qDf d2
      go_wp2
      go_ret
      exact⟨rfl,HB0.out.trans (hb1.mono HB0.out.size)⟩
   ·by_cases d1:(2:Int)<n.len
    ·by_cases d2:n.a2<0
     ·have hf:r=false:=HNo.out (fun h=>by have:=h.2.2 2 (by omega);unfold qBr qBc at this;simp only at this;omega)
      subst hf
      go_wp2
      go_ret
      exact⟨rfl,HB0.out.trans (hb1.mono HB0.out.size)⟩
     by_cases d3:(at_:Int)≤n.a2
     ·have hf:r=false:=HNo.out (fun h=>by have:=h.2.2 2 (by omega);unfold qBr qBc at this;simp only at this;omega)
      subst hf
      go_wp2
      go_ret
      exact⟨rfl,HB0.out.trans (hb1.mono HB0.out.size)⟩
     go_wp2
     go_round
     case rel=>exact⟨3,by omega,rfl,fun j hj=>by
      by_cases hj2:j<2
      ·exact HA.out j hj2
      ·obtain rfl:j=2:=by omega
       unfold qBr qBc;simp only;omega⟩
     case measure=>simp[intOf]
    ·by_cases d2:n.a2=0
     ·have e3:=ne_f d2
      have D2:=Lib.hid d2
      clear d2
      go_wp2
      go_round
      case rel=>exact⟨3,by omega,rfl,fun j hj=>by
       by_cases hj2:j<2
       ·exact HA.out j hj2
       ·obtain rfl:j=2:=by omega
        have:=D2.out
        unfold qBr qBc;simp only;omega⟩
      case measure=>simp[intOf]
     ·have hf:r=false:=HNo.out (fun h=>by have:=h.2.2 2 (by omega);unfold qBr qBc at this;simp only at this;omega)
      subst hf
      have e3:=qDf d2
      go_wp2
      go_ret
      exact⟨rfl,HB0.out.trans (hb1.mono HB0.out.size)⟩
   ·have hf:r=true:=HYes.out ⟨HFit.out trivial,⟨by omega,by omega⟩,HA.out⟩
    subst hf
    go_wp2
    go_ret
    exact⟨rfl,HB0.out.trans (hb1.mono HB0.out.size)⟩
end Go.Proofs.YtfgpimhdjlmapaaGreatDoor.Tm
