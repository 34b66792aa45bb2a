/- Arguments that are signatures and functions, opened: the rest. -/
import Derived.Test.YtfgpimhdjlmapaaGreatDoorSgA
import Derived.Deep.Slices
import Derived.ChangeArms
import Derived.OpenShut
import Derived.WalkKit
import Derived.ProofKit
import Derived.Outline
import Derived.LoopTactic
import Derived.Handy
import Derived.Lib.Hide
import Derived.Below
import Derived.OneCell
import Derived.BigQuiet
import Derived.Test.YtfgpimhdjlmapaaGreatDoorProg
import Derived.SizedLaws
namespace Go.Proofs.YtfgpimhdjlmapaaGreatDoor
open Go.RowKit
set_option linter.unusedVariables false
set_option maxRecDepth 100000
def qIc (w:World) (e:Ending) (w':World):Prop:=(∃n:Int,e=.returned (.int .i64 n))∧Below w.heap.size w w'
def qNp (w:World) (e:Ending) (w':World):Prop:=(∃r:Bool,e=.returned (.bool r))∧Below w.heap.size w w'
set_option maxHeartbeats 2000000 in
theorem qXy:∀(n:Nat) (t:Tree) (v:Value) (most:Int) (w:World),szT t≤n→Sx w t v→Calls Tryz.prog 15 #[v,.int .i64 most] w (qIc w):=by
 intro n
 induction n with
 | zero=>intro t v most w hn;rw[qF3] at hn;omega
 | succ n ih =>
  intro t v most w hn hr
  obtain⟨a,cap,rfl,hl,hc,hs,hk⟩:=hr.parts
  have HK:=Lib.hid hk
  have HIH:Hid (∀c∈t.kids,∀(v:Value) (m:Int) (W:World),Sx W c v→Calls Tryz.prog 15 #[v,.int .i64 m] W (qIc W)):=fun c hcm v m W h1=>ih c v m W (by have:=qMk hcm;rw[qF3] at hn;omega) h1
  have hkm:t.kids.length≤9223372036854775807:=by simp only[maxLen] at hc;omega
  obtain⟨W0,hW0⟩:∃W0,W0=w.alloc (.cells #[.int .i8 t.kind,.string (qA8 t.text),.slice a t.kids.length cap] 60):=⟨_,rfl⟩
  have hB0:Below w.heap.size w W0:=by rw[hW0];exact(Below.refl _ _).alloc (Nat.le_refl _) _
  have hX0:W0.heap[w.heap.size]? = some (.cells #[.int .i8 t.kind,.string (qA8 t.text),.slice a t.kids.length cap] 60 (0,0)):=by rw[hW0];exact heap_alloc_new w _
  have HB0:=Lib.hid hB0
  have HX0:=Lib.hid hX0
  clear hr hk ih hn hB0 hX0
  by_cases hmn:(qA8 t.text).size≤5000
  ·have hmi:((qA8 t.text).size:Int)≤5000:=by omega
   skip
   go_enter Tryz.func15,Tryz.ntmps15
   go_wp2
   rw[←hW0]
   clear hW0
   go_loopw [5,6] (fun n i wr=>∃(k:Nat) (nn:Int),k≤t.kids.length∧i=.int .i64 k∧n=.int .i64 nn∧Hid (Below w.heap.size w wr)∧Hid (wr.heap[w.heap.size]? = some (.cells #[.int .i8 t.kind,.string (qA8 t.text),.slice a t.kids.length cap] 60 (0,0)))) (fun _ i _=>t.kids.length-(intOf i).toNat)
   case atStart=>exact⟨0,_,Nat.zero_le _,rfl,rfl,HB0,HX0⟩
   case round =>
    obtain⟨k,nn,hkl,rfl,rfl,HB,HX⟩:=hrel
    have x2:=cell_of_row _ _ 2 _ _ _ HX.out
    simp only[List.getElem?_toArray,List.getElem?_cons_zero,List.getElem?_cons_succ] at x2
    have hz:=(Array.getElem?_eq_some_iff.1 HX.out).1
    by_cases hlt:k<t.kids.length
    ·by_cases hnm:nn<most
     ·obtain⟨c,hcc⟩:∃c,t.kids[k]? = some c:=⟨_,List.getElem?_eq_getElem hlt⟩
      have hks:SxL wr t.kids a:=SxL.below HK.out HB.out
      obtain⟨g,o,rfl,_,hg,_,_⟩:=hks.addr (by omega)
      obtain⟨_,v0,v1,v2,c0,c1,c2,hrt⟩:=hks.get t.kids g o k c hcc
      obtain⟨ca,cc,hv,_,_,_,_⟩:=hrt.parts
      simp only[Value.agg.injEq,Array.mk.injEq,List.cons.injEq,and_true] at hv
      obtain⟨rfl,rfl,rfl⟩:=hv
      have c2':wr.cell? ⟨g,o+k*3+2,none⟩=some (.slice ca c.kids.length cc):=c2
      have HC:Hid (∀(m:Int),Calls Tryz.prog 15 #[.agg #[.int .i8 c.kind,.string (qA8 c.text),.slice ca c.kids.length cc],.int .i64 m] wr (qIc wr)):=fun m=>HIH.out c (List.mem_of_getElem? hcc) _ m wr hrt.sx
      clear hks hrt hcc c2
      go_wp2_with (go_at_call 15;refine(HC.out _).mono ?_;rintro e w1 ⟨⟨m,rfl⟩,hb1⟩)
      exact⟨⟨k+1,_,by omega,by go_num,rfl,HB.out.trans (hb1.mono HB.out.size),(hb1.block _ hz).trans HX.out⟩,by simp[intOf];omega⟩
     ·go_wp2
      go_ret
      exact⟨⟨_,rfl⟩,HB.out⟩
    ·obtain rfl:k=t.kids.length:=by omega
     go_wp2
     go_ret
     exact⟨⟨_,rfl⟩,HB.out⟩
  ·have hmi:¬((qA8 t.text).size:Int)≤5000:=by omega
   skip
   go_enter Tryz.func15,Tryz.ntmps15
   go_wp2
   rw[←hW0]
   clear hW0
   go_loopw [5,6] (fun n i wr=>∃(k:Nat) (nn:Int),k≤t.kids.length∧i=.int .i64 k∧n=.int .i64 nn∧Hid (Below w.heap.size w wr)∧Hid (wr.heap[w.heap.size]? = some (.cells #[.int .i8 t.kind,.string (qA8 t.text),.slice a t.kids.length cap] 60 (0,0)))) (fun _ i _=>t.kids.length-(intOf i).toNat)
   case atStart=>exact⟨0,_,Nat.zero_le _,rfl,rfl,HB0,HX0⟩
   case round =>
    obtain⟨k,nn,hkl,rfl,rfl,HB,HX⟩:=hrel
    have x2:=cell_of_row _ _ 2 _ _ _ HX.out
    simp only[List.getElem?_toArray,List.getElem?_cons_zero,List.getElem?_cons_succ] at x2
    have hz:=(Array.getElem?_eq_some_iff.1 HX.out).1
    by_cases hlt:k<t.kids.length
    ·by_cases hnm:nn<most
     ·obtain⟨c,hcc⟩:∃c,t.kids[k]? = some c:=⟨_,List.getElem?_eq_getElem hlt⟩
      have hks:SxL wr t.kids a:=SxL.below HK.out HB.out
      obtain⟨g,o,rfl,_,hg,_,_⟩:=hks.addr (by omega)
      obtain⟨_,v0,v1,v2,c0,c1,c2,hrt⟩:=hks.get t.kids g o k c hcc
      obtain⟨ca,cc,hv,_,_,_,_⟩:=hrt.parts
      simp only[Value.agg.injEq,Array.mk.injEq,List.cons.injEq,and_true] at hv
      obtain⟨rfl,rfl,rfl⟩:=hv
      have c2':wr.cell? ⟨g,o+k*3+2,none⟩=some (.slice ca c.kids.length cc):=c2
      have HC:Hid (∀(m:Int),Calls Tryz.prog 15 #[.agg #[.int .i8 c.kind,.string (qA8 c.text),.slice ca c.kids.length cc],.int .i64 m] wr (qIc wr)):=fun m=>HIH.out c (List.mem_of_getElem? hcc) _ m wr hrt.sx
      clear hks hrt hcc c2
      go_wp2_with (go_at_call 15;refine(HC.out _).mono ?_;rintro e w1 ⟨⟨m,rfl⟩,hb1⟩)
      exact⟨⟨k+1,_,by omega,by go_num,rfl,HB.out.trans (hb1.mono HB.out.size),(hb1.block _ hz).trans HX.out⟩,by simp[intOf];omega⟩
     ·go_wp2
      go_ret
      exact⟨⟨_,rfl⟩,HB.out⟩
    ·obtain rfl:k=t.kids.length:=by omega
     go_wp2
     go_ret
     exact⟨⟨_,rfl⟩,HB.out⟩
set_option maxHeartbeats 2000000 in
theorem qR5 (x:SigV) (ma:Option Addr) (hma:x.ma=ma) (w:World) (hR:SigR w x):Calls Tryz.prog 5 #[.agg #[.slice x.sa x.sorts.length x.sc,.slice x.fa x.funs.length x.fc,.slice ma x.macs.length x.mc]] w (qNp w):=by
 have hlm:x.macs.length≤9223372036854775807:=by have:=hR.ml;have:=hR.mm;simp only[maxLen] at this;omega
 have HR:=Lib.hid hR
 have HB0:Hid (Below w.heap.size w (w.alloc (.cells #[.slice x.sa x.sorts.length x.sc,.slice x.fa x.funs.length x.fc,.slice ma x.macs.length x.mc] 26))):=(Below.refl _ _).alloc (Nat.le_refl _) _
 have HX0:=Lib.hid (heap_alloc_new w (.cells #[.slice x.sa x.sorts.length x.sc,.slice x.fa x.funs.length x.fc,.slice ma x.macs.length x.mc] 26))
 clear hR
 by_cases h0:20<x.sorts.length
 ·go_enter Tryz.func5,Tryz.ntmps5
  go_wp2
  go_ret
  exact⟨⟨true,rfl⟩,HB0.out⟩
 by_cases h1:40<x.funs.length
 ·go_enter Tryz.func5,Tryz.ntmps5
  go_wp2
  go_ret
  exact⟨⟨true,rfl⟩,HB0.out⟩
 by_cases h2:40<x.macs.length
 ·go_enter Tryz.func5,Tryz.ntmps5
  go_wp2
  go_ret
  exact⟨⟨true,rfl⟩,HB0.out⟩
 go_enter Tryz.func5,Tryz.ntmps5
 go_wp2
 obtain⟨W0,hW0⟩:∃W0,W0=w.alloc (.cells #[.slice x.sa x.sorts.length x.sc,.slice x.fa x.funs.length x.fc,.slice ma x.macs.length x.mc] 26):=⟨_,rfl⟩
 rw[←hW0] at HB0 HX0 ⊢
 clear hW0
 go_loopw [3,4] (fun n i wr=>∃(k:Nat) (nn:Int),k≤x.macs.length∧i=.int .i64 k∧n=.int .i64 nn∧Hid (Below w.heap.size w wr)∧Hid (wr.heap[w.heap.size]? = some (.cells #[.slice x.sa x.sorts.length x.sc,.slice x.fa x.funs.length x.fc,.slice ma x.macs.length x.mc] 26 (0,0)))) (fun _ i _=>x.macs.length-(intOf i).toNat)
 case atStart=>exact⟨0,0,Nat.zero_le _,rfl,rfl,HB0,HX0⟩
 case round =>
  obtain⟨k,nn,hkl,rfl,rfl,HB,HX⟩:=hrel
  have x2:=cell_of_row _ _ 2 _ _ _ HX.out
  simp only[List.getElem?_toArray,List.getElem?_cons_zero,List.getElem?_cons_succ] at x2
  have hz:=(Array.getElem?_eq_some_iff.1 HX.out).1
  by_cases hlt:k<x.macs.length
  ·obtain⟨y,hy⟩:∃y,x.macs[k]? = some y:=⟨_,List.getElem?_eq_getElem hlt⟩
   obtain⟨g,o,ha,hg,hcell⟩:=(HR.out.mat.below HB.out) (by rw[len_flat qBn];omega)
   rw[hma] at ha
   have q1:=hcell _ _ ((get_flat qBn x.macs k 1 y hy (by omega)).trans rfl)
   have q3:=hcell _ _ ((get_flat qBn x.macs k 3 y hy (by omega)).trans rfl)
   have q4:=hcell _ _ ((get_flat qBn x.macs k 4 y hy (by omega)).trans rfl)
   have q5:=hcell _ _ ((get_flat qBn x.macs k 5 y hy (by omega)).trans rfl)
   simp only[←Nat.add_assoc] at q1 q3 q4 q5
   have hbd:Sx wr y.m.body (qXx y):=(HR.out.mok y (List.mem_of_getElem? hy)).body.below HB.out
   have HC:Hid (Calls Tryz.prog 15 #[.agg #[.int .i8 y.m.body.kind,.string (qA8 y.m.body.text),.slice y.ba y.m.body.kids.length y.bc],.int .i64 4000] wr (qIc wr)):=qXy _ y.m.body _ 4000 wr (Nat.le_refl _) hbd
   have hgw:g<wr.heap.size:=Nat.lt_of_lt_of_le hg HB.out.size
   clear hcell hbd hy
   subst ha
   by_cases hp:20<y.m.params.length
   ·go_wp2_with (go_at_call 15;refine HC.out.mono ?_;rintro e w1 ⟨⟨m,rfl⟩,hb1⟩;obtain⟨hc1,hf1⟩:=qMf hb1)
    go_ret
    exact⟨⟨true,rfl⟩,HB.out.trans (hb1.mono HB.out.size)⟩
   ·go_wp2_with (go_at_call 15;refine HC.out.mono ?_;rintro e w1 ⟨⟨m,rfl⟩,hb1⟩;obtain⟨hc1,hf1⟩:=qMf hb1)
    exact⟨⟨k+1,_,by omega,by go_num,rfl,HB.out.trans (hb1.mono HB.out.size),(hb1.block _ hz).trans HX.out⟩,by simp[intOf];omega⟩
  ·obtain rfl:k=x.macs.length:=by omega
   go_wp2
   go_ret
   exact⟨⟨_,rfl⟩,HB.out⟩
theorem Great_any (x:SigV) (w:World) (hR:SigR w x):Calls Tryz.prog 5 #[.agg #[.slice x.sa x.sorts.length x.sc,.slice x.fa x.funs.length x.fc,.slice x.ma x.macs.length x.mc]] w (qNp w):=qR5 x x.ma rfl w hR
theorem qXz:Tryz.prog.cellsOf 60=3:=by kernel_rfl
theorem cI8:Tryz.prog.cellsOf 49=1:=by kernel_rfl
theorem zAy:Tryz.prog.cellsOf 9=1:=by kernel_rfl
theorem cSl:Tryz.prog.cellsOf 58=1:=by kernel_rfl
theorem qVq {w:World} {a:Addr} {cs:List Value} (h:w.cells? 0 a 3=some cs):∃v0 v1 v2,cs=[v0,v1,v2]∧w.cell? (a.add 0)=some v0∧w.cell? (a.add 1)=some v1∧w.cell? (a.add 2)=some v2:=by
 unfold World.cells? at h
 rw[if_pos (Nat.zero_le _)] at h
 have e:List.range 3=[0,1,2]:=rfl
 rw[e] at h
 simp only[List.mapM_cons,List.mapM_nil,Option.bind_eq_bind,Option.bind_eq_some_iff,Option.pure_def,Option.some.injEq] at h
 obtain⟨v0,h0,_,⟨v1,h1,_,⟨v2,h2,_,rfl,rfl⟩,rfl⟩,rfl⟩:=h
 exact⟨v0,v1,v2,rfl,h0,h1,h2⟩
theorem spot_none {w:World} {a:Addr} {v:Value} (h:w.cell? a=some v):a=⟨a.block,a.off,none⟩∧a.block<w.heap.size:=by
 unfold World.cell? at h
 split at h
 ·rename_i c ty fr hc
  split at h
  ·cases h
  ·rename_i hs
   refine⟨?_,(Array.getElem?_eq_some_iff.1 hc).1⟩
   obtain⟨b,o,s⟩:=a
   cases s with
   | none=>rfl
   | some x=>simp at hs
 ·cases h
def qGy:Tree→Prop
 | .node _ _ l=>l.length*48≤140737488355328∧∀t,t∈l→qGy t
theorem qGy.kids {t:Tree} (h:qGy t):t.kids.length*48≤140737488355328∧∀c∈t.kids,qGy c:=by
 cases t with
 | node k s l=>unfold qGy at h;exact h
theorem add_add {a:Addr} (hsp:a=⟨a.block,a.off,none⟩) (i j:Nat):(a.add i).add j=⟨a.block,a.off+(i+j),none⟩:=by
 rw[hsp]
 unfold Addr.add
 by_cases h:i=0<;>by_cases h':j=0<;>simp[h,h',Nat.add_assoc]
theorem rows_open {α:Type} {f:α→List Value} {n:Nat} (hn0:0<n) (hn:∀x,(f x).length=n) {Q:α→Prop} {W:World} {a:Addr} {len:Nat} (h:∀i,i<len→∃x,W.cells? 0 (a.add (i*n)) n=some (f x)∧Q x) :
  ∃l:List α,l.length=len∧(∀y∈l,Q y)∧At W W.heap.size (l.flatMap f) (some a):=by
 obtain⟨l,hl,hg⟩:∃l:List α,l.length=len∧∀i y,l[i]? = some y→W.cells? 0 (a.add (i*n)) n=some (f y)∧Q y:=by
  induction len with
  | zero=>exact⟨[],rfl,fun i y hy=>by simp at hy⟩
  | succ k ih =>
   obtain⟨l,hl,hg⟩:=ih (fun i hi=>h i (by omega))
   obtain⟨x,hx⟩:=h k (by omega)
   refine⟨l++[x],by simp[hl],fun i y hy=>?_⟩
   by_cases hi:i<l.length
   ·rw[List.getElem?_append_left hi] at hy
    exact hg i y hy
   ·have hi2:i=k:=by
     have:=(List.getElem?_eq_some_iff.1 hy).1
     simp at this
     omega
    subst hi2
    rw[List.getElem?_append_right (by omega),hl] at hy
    simp at hy
    subst hy
    exact hx
 refine⟨l,hl,fun y hy=>?_,fun h0=>?_⟩
 ·obtain⟨i,hi⟩:=List.getElem?_of_mem hy
  exact(hg i y hi).2
 ·rw[len_flat hn] at h0
  have hl0:0<l.length:=Nat.pos_of_mul_pos_right h0
  obtain⟨y0,hy0⟩:∃y,l[0]? = some y:=⟨_,List.getElem?_eq_getElem hl0⟩
  obtain⟨_,_,hc⟩:=World.cells?_some (hg 0 y0 hy0).1
  have q:=hc 0 hn0
  obtain⟨v0,hv0⟩:∃v,(f y0)[0]? = some v:=⟨_,List.getElem?_eq_getElem (by rw[hn];exact hn0)⟩
  rw[hv0] at q
  have e00:(a.add (0*n)).add 0=a:=by simp[Addr.add]
  rw[e00] at q
  obtain⟨hsp,hab⟩:=spot_none q
  refine⟨a.block,a.off,by rw[←hsp],hab,fun i v hv=>?_⟩
  have hi:i<l.length*n:=by have:=(List.getElem?_eq_some_iff.1 hv).1;rwa [len_flat hn] at this
  have hq:i / n<l.length:=Nat.div_lt_of_lt_mul (by rw[Nat.mul_comm];exact hi)
  have hr:i % n<n:=Nat.mod_lt _ hn0
  obtain⟨y,hy⟩:∃y,l[i / n]? = some y:=⟨_,List.getElem?_eq_getElem hq⟩
  have hs:i / n*n+i % n=i:=by rw[Nat.mul_comm];exact Nat.div_add_mod i n
  have e:=get_flat hn l (i / n) (i % n) y hy hr
  rw[hs] at e
  obtain⟨_,_,hc'⟩:=World.cells?_some (hg (i / n) y hy).1
  have q':=hc' (i % n) hr
  rw[add_add hsp,hs] at q'
  rw[q',←e]
  exact hv
def WB {H:Type} (t:TypeId) (d:DataW H):Prop:=∀n∈d.weights Tryz.prog t,n≤reachBytes
theorem qHo {H:Type} {t tj:TypeId} {fs:Array Field} {ds:List (DataW H)} {d:DataW H} (hu:Tryz.prog.underlying t=some (.struct fs)) (h:WB t (.agg ds)) (j:Nat) (ht:(fs.toList.map (·.type))[j]? = some tj) (hd:ds[j]? = some d):WB tj d:=fun n hn=>h n (by
 simp only[DataW.weights,hu]
 exact DataW.weights_mem_each ht hd n hn)
theorem qEl {H:Type} {P:Program} {e:TypeId} {d:DataW H} {n:Nat} (hn:n∈d.weights P e):∀ {l:List (DataW H)},d∈l→n∈DataW.weightsAll P e l
 | y :: l,hd=>by
  simp only[DataW.weightsAll,List.mem_append]
  rcases List.mem_cons.1 hd with rfl|hd
  ·exact Or.inl hn
  ·exact Or.inr (qEl hn hd)
theorem qR6 {H:Type} {t e:TypeId} {es sp:List (DataW H)} {d:DataW H} (hu:Tryz.prog.underlying t=some (.slice e)) (h:WB t (.slice es sp)) (hd:d∈es):WB e d:=fun n hn=>h n (by
 simp only[DataW.weights,hu,List.mem_cons,List.mem_append]
 exact Or.inr (Or.inl (qEl hn hd)))
theorem wb_len {H:Type} {t e:TypeId} {es sp:List (DataW H)} (hu:Tryz.prog.underlying t=some (.slice e)) (h:WB t (.slice es sp)):(es.length+sp.length)*Tryz.prog.bytesOf e≤reachBytes:=h _ (by
 simp only[DataW.weights,hu,List.mem_cons,true_or])
theorem zCk:Tryz.prog.bytesOf 60=48:=by kernel_rfl
theorem qJg {w:World} {bad:Nat→Prop} {Q:Tree→Prop} {g:Nat} (hg:¬bad g):∀(n o:Nat),(∀i,i<n→∃t v0 v1 v2,w.frozen? ⟨g,o+i*3,none⟩=false∧w.cell? ⟨g,o+i*3,none⟩=some v0∧w.cell? ⟨g,o+i*3+1,none⟩=some v1∧w.cell? ⟨g,o+i*3+1+1,none⟩=some v2∧Rd w bad t (.agg #[v0,v1,v2])∧Q t) →
  ∃l:List Tree,l.length=n∧RdL w bad l (some ⟨g,o,none⟩)∧∀t∈l,Q t
 | 0,o,_=>⟨[],rfl,trivial,fun _ h=>by simp at h⟩
 | n+1,o,h=>by
  obtain⟨t,v0,v1,v2,hf,c0,c1,c2,hr,hq⟩:=h 0 (by omega)
  obtain⟨l,hl,hrl,hql⟩:=qJg hg n (o+3) (fun i hi=>by
   have:=h (i+1) (by omega)
   rw[show o+(i+1)*3=o+3+i*3 by omega] at this
   exact this)
  simp only[Nat.zero_mul,Nat.add_zero] at hf c0 c1 c2
  exact⟨t :: l,by simp[hl],⟨g,o,v0,v1,v2,rfl,hg,hf,c0,c1,c2,hr,hrl⟩,fun u hu=>by
   rcases List.mem_cons.1 hu with rfl|hu
   ·exact hq
   ·exact hql u hu⟩
theorem qY0 {H:Type} {enc:TypeId × Value→H} {W:World} {sp:Nat→Bool} {held:Bool}:∀(fuel:Nat) (cs:List Value) (x:DataW H × List MemPlace),DataW.trod enc Tryz.prog W 0 sp held fuel 60 cs=some x→W.noneFrozen x.2 →
  ∃(t:Tree) (a:Option Addr) (cap:Nat),cs=[.int .i8 t.kind,.string (qA8 t.text),.slice a t.kids.length cap]∧Rd W (fun b=>W.heap.size≤b) t (.agg #[.int .i8 t.kind,.string (qA8 t.text),.slice a t.kids.length cap])∧(WB 60 x.1→qGy t):=by
 intro fuel
 induction fuel using Nat.strongRecOn with
 | _ fuel ih =>
  intro cs x h hfz
  obtain⟨xs,n,rfl,rfl,hlen,hxs,hf⟩:=DataW.trod_struct Tryz.underlying60 h
  rw[qXz] at hlen
  obtain⟨c0,c1,c2,rfl⟩:∃c0 c1 c2,cs=[c0,c1,c2]:=by
   clear h hf ih hfz
   match cs,hlen with
   | [a,b,c],_=>exact⟨a,b,c,rfl⟩
  obtain⟨y0,y1,y2,rfl⟩:∃a b c,xs=[a,b,c]:=by
   have h3:xs.length=3:=hxs
   clear h hf ih hfz hxs
   match xs,h3 with
   | [a,b,c],_=>exact⟨a,b,c,rfl⟩
  have h0:=hf 0 ({ name := "Kind", type:=49,offset:=0,embedded:=false,tag := "", pkgPath := "", byteOffset:=0 }) rfl
  have h1:=hf 1 ({ name := "Text", type:=9,offset:=1,embedded:=false,tag := "", pkgPath := "", byteOffset:=8 }) rfl
  have h2:=hf 2 ({ name := "L", type:=58,offset:=2,embedded:=false,tag := "", pkgPath := "", byteOffset:=24 }) rfl
  simp only[cI8,zAy,cSl,List.drop_zero,List.take_succ_cons,List.take_zero,List.drop_succ_cons,List.getElem?_cons_zero,List.getElem?_cons_succ] at h0 h1 h2
  obtain⟨k,e0,_,_⟩:=DataW.trod_int Tryz.underlying49 h0
  obtain⟨s,e1,_,hs⟩:=DataW.trod_string Tryz.underlying9 h1
  simp only[List.cons.injEq,and_true] at e0 e1
  subst e0 e1
  have hsl:(s.data.toList).length≤maxLen:=by simpa using hs
  have hse:qA8 s.data.toList=s:=qMj s
  rcases DataW.trod_slice Tryz.underlying58 h2 with⟨e2,_⟩|⟨a,len,cap,elems,rest,m,rfl,e2,hx2,_,hlc,hcm,hel,hi,_,_⟩
  ·simp only[List.cons.injEq,and_true] at e2
   subst e2
   exact⟨.node k s.data.toList [],none,0,(by show _=[_,Value.string (qA8 s.data.toList),_];rw[hse];rfl),⟨none,0,rfl,by simp,by simp,hsl,trivial⟩,fun _=>by unfold qGy;simp⟩
  ·simp only[List.cons.injEq,and_true] at e2
   subst e2
   have hfz2:W.noneFrozen y2.2:=fun b off hb=>hfz b off (by simp[hb])
   rw[hx2] at hfz2
   rw[qXz] at hi hfz2
   by_cases hl0:len=0
   ·subst hl0
    exact⟨.node k s.data.toList [],some a,cap,(by show _=[_,Value.string (qA8 s.data.toList),_];rw[hse];rfl),⟨some a,cap,rfl,by simp,hcm,hsl,trivial⟩,fun _=>by unfold qGy;simp⟩
   ·have h00:=hi 0 (by omega)
    obtain⟨z,hz⟩:∃z,elems[0]? = some z:=⟨_,List.getElem?_eq_getElem (by omega)⟩
    rw[hz] at h00
    obtain⟨cs',hc',_⟩:=Option.bind_eq_some_iff.1 h00
    obtain⟨w0,_,_,_,q0,_,_⟩:=qVq hc'
    have e00:(a.add (0*3)).add 0=a:=by simp[Addr.add]
    rw[e00] at q0
    obtain⟨hsp,hab⟩:=spot_none q0
    have hall:∀i,i<len→∃t v0 v1 v2,W.frozen? ⟨a.block,a.off+i*3,none⟩=false∧W.cell? ⟨a.block,a.off+i*3,none⟩=some v0∧W.cell? ⟨a.block,a.off+i*3+1,none⟩=some v1∧W.cell? ⟨a.block,a.off+i*3+1+1,none⟩=some v2∧Rd W (fun b=>W.heap.size≤b) t (.agg #[v0,v1,v2])∧(WB 58 y2.1→qGy t):=fun i hil=>by
     have hh:=hi i hil
     obtain⟨z,hz⟩:∃z,elems[i]? = some z:=⟨_,List.getElem?_eq_getElem (by omega)⟩
     rw[hz] at hh
     obtain⟨cs',hc',ht'⟩:=Option.bind_eq_some_iff.1 hh
     have hzm:z∈elems:=List.mem_of_getElem? hz
     obtain⟨t,ta,tc,rfl,hr,hw⟩:=ih m (by omega) cs' z ht' (fun b off hb=>hfz2 b off (List.mem_append_right _ (List.mem_flatMap.2 ⟨z,List.mem_append_left _ hzm,hb⟩)))
     obtain⟨w0,w1,w2,e,q0,q1,q2⟩:=qVq hc'
     simp only[List.cons.injEq,and_true] at e
     obtain⟨rfl,rfl,rfl⟩:=e
     rw[add_add hsp] at q0 q1 q2
     refine⟨t,_,_,_,hfz2 _ _ (List.mem_append_left _ ?_),q0,q1,q2,hr,fun hB=>hw (qR6 Tryz.underlying58 (by rw[hx2] at hB;exact hB) (List.mem_map_of_mem hzm))⟩
     unfold MemPlace.row
     refine List.mem_map.2 ⟨i*3,List.mem_range.2 ?_,rfl⟩
     have:(i+1)*3≤(elems.length+rest.length)*3:=Nat.mul_le_mul_right _ (by omega)
     omega
    obtain⟨l,hl,hrl,hql⟩:=qJg (w:=W) (bad:=fun b=>W.heap.size≤b) (Q:=fun t=>WB 58 y2.1→qGy t) (g:=a.block) (by omega) len a.off (fun i hi'=>hall i hi')
    refine⟨.node k s.data.toList l,some a,cap,(by show _=[_,Value.string (qA8 s.data.toList),Value.slice (some a) l.length cap];rw[hse,hl];rfl),⟨some a,cap,rfl,by show l.length≤cap;omega,hcm,hsl,?_⟩,fun hB=>?_⟩
    ·rw[hsp]
     exact hrl
    ·have hB2:WB 58 y2.1:=qHo Tryz.underlying60 hB 2 rfl rfl
     have hln:=hB2
     rw[hx2] at hln
     have:=wb_len Tryz.underlying58 hln
     rw[zCk,List.length_map,List.length_map] at this
     unfold qGy
     refine⟨?_,fun t ht=>hql t ht hB2⟩
     have hrb:reachBytes≤140737488355328:=by decide
     have h3:l.length*48≤(elems.length+rest.length)*48:=Nat.mul_le_mul_right _ (by omega)
     omega
theorem zDb:Tryz.prog.cellsOf 120=6:=by kernel_rfl
theorem zDc:Tryz.prog.cellsOf 62=6:=by kernel_rfl
theorem zDd:Tryz.prog.cellsOf 160=2:=by kernel_rfl
theorem zDq:Tryz.prog.cellsOf 26=3:=by kernel_rfl
theorem cInt:Tryz.prog.cellsOf 3=1:=by kernel_rfl
theorem cArr:Tryz.prog.cellsOf 52=3:=by kernel_rfl
theorem zCl:Tryz.prog.cellsOf 22=1:=by kernel_rfl
theorem zCm:Tryz.prog.cellsOf 23=1:=by kernel_rfl
theorem zCn:Tryz.prog.cellsOf 24=1:=by kernel_rfl
theorem zCo:Tryz.prog.cellsOf 57=1:=by kernel_rfl
theorem zCp:Tryz.prog.bytesOf 9=16:=by kernel_rfl
theorem i64_wf {x:Int} (h:(Lit.int .i64 x).wf=true):I64 x:=by
 have:=bounds_i64 h
 exact⟨by omega,by omega⟩
theorem list2 {α:Type} {l:List α} (h:l.length=2):∃a b,l=[a,b]:=by
 match l,h with
 | [a,b],_=>exact⟨a,b,rfl⟩
theorem list3 {α:Type} {l:List α} (h:l.length=3):∃a b c,l=[a,b,c]:=by
 match l,h with
 | [a,b,c],_=>exact⟨a,b,c,rfl⟩
theorem qY1 {α:Type} {l:List α} (h:l.length=4):∃a b c d,l=[a,b,c,d]:=by
 match l,h with
 | [a,b,c,d],_=>exact⟨a,b,c,d,rfl⟩
theorem list6 {α:Type} {l:List α} (h:l.length=6):∃a b c d e f,l=[a,b,c,d,e,f]:=by
 match l,h with
 | [a,b,c,d,e,f],_=>exact⟨a,b,c,d,e,f,rfl⟩
section
variable {H:Type} {enc:TypeId × Value→H} {W:World} {sp:Nat→Bool} {held:Bool}
theorem open_int1 {fuel:Nat} {c:Value} {x:DataW H × List MemPlace} (h:DataW.trod enc Tryz.prog W 0 sp held fuel 3 [c]=some x):∃n,c=.int .i64 n∧I64 n:=by
 obtain⟨n,e,_,hw⟩:=DataW.trod_int Tryz.underlying3 h
 simp only[List.cons.injEq,and_true] at e
 exact⟨n,e,i64_wf hw⟩
theorem qId {fuel:Nat} {c:Value} {x:DataW H × List MemPlace} (h:DataW.trod enc Tryz.prog W 0 sp held fuel 9 [c]=some x):∃s,c=.string s∧s.size≤maxLen:=by
 obtain⟨n,e,_,hw⟩:=DataW.trod_string Tryz.underlying9 h
 simp only[List.cons.injEq,and_true] at e
 exact⟨n,e,hw⟩
theorem qTw {fuel:Nat} {cs:List Value} {x:DataW H × List MemPlace} (h:DataW.trod enc Tryz.prog W 0 sp held fuel 160 cs=some x):∃p:ParA,cs=zAx p∧ParOk p:=by
 obtain⟨xs,n,rfl,rfl,hlen,hxs,hf⟩:=DataW.trod_struct Tryz.underlying160 h
 rw[zDd] at hlen
 clear h
 obtain⟨c0,c1,rfl⟩:=list2 hlen
 obtain⟨y0,y1,rfl⟩:=list2 (show xs.length=2 from hxs)
 have h0:=hf 0 ({ name := "Name", type:=9,offset:=0,embedded:=false,tag := "", pkgPath := "", byteOffset:=0 }) rfl
 have h1:=hf 1 ({ name := "Sort", type:=3,offset:=1,embedded:=false,tag := "", pkgPath := "", byteOffset:=16 }) rfl
 simp only[cInt,zAy,List.drop_zero,List.take_succ_cons,List.take_zero,List.drop_succ_cons,List.getElem?_cons_zero,List.getElem?_cons_succ] at h0 h1
 obtain⟨s,rfl,hs⟩:=qId h0
 obtain⟨n,rfl,hn⟩:=open_int1 h1
 exact⟨⟨s,n⟩,rfl,hs,hn⟩
theorem qTx {fuel:Nat} {cs:List Value} {x:DataW H × List MemPlace} (h:DataW.trod enc Tryz.prog W 0 sp held fuel 120 cs=some x):∃f:FunA,cs=qOn f∧FunOk f:=by
 obtain⟨xs,n,rfl,rfl,hlen,hxs,hf⟩:=DataW.trod_struct Tryz.underlying120 h
 rw[zDb] at hlen
 clear h
 obtain⟨c0,c1,c2,c3,c4,c5,rfl⟩:=list6 hlen
 obtain⟨y0,y1,y2,y3,rfl⟩:=qY1 (show xs.length=4 from hxs)
 have h0:=hf 0 ({ name := "Name", type:=9,offset:=0,embedded:=false,tag := "", pkgPath := "", byteOffset:=0 }) rfl
 have h1:=hf 1 ({ name := "Len", type:=3,offset:=1,embedded:=false,tag := "", pkgPath := "", byteOffset:=16 }) rfl
 have h2:=hf 2 ({ name := "Args", type:=52,offset:=2,embedded:=false,tag := "", pkgPath := "", byteOffset:=24 }) rfl
 have h3:=hf 3 ({ name := "Res", type:=3,offset:=5,embedded:=false,tag := "", pkgPath := "", byteOffset:=48 }) rfl
 simp only[cInt,zAy,cArr,List.drop_zero,List.take_succ_cons,List.take_zero,List.drop_succ_cons,List.getElem?_cons_zero,List.getElem?_cons_succ] at h0 h1 h2 h3
 obtain⟨s,rfl,hs⟩:=qId h0
 obtain⟨n1,rfl,hn1⟩:=open_int1 h1
 obtain⟨n5,rfl,hn5⟩:=open_int1 h3
 obtain⟨zs,m,rfl,hx,hl2,hz,hg⟩:=DataW.trod_array Tryz.underlying52 h2
 obtain⟨z0,z1,z2,rfl⟩:=list3 hz
 have g0:=hg 0 (by decide)
 have g1:=hg 1 (by decide)
 have g2:=hg 2 (by decide)
 simp only[cInt,Nat.mul_one,List.drop_zero,List.take_succ_cons,List.take_zero,List.drop_succ_cons,List.getElem?_cons_zero,List.getElem?_cons_succ] at g0 g1 g2
 obtain⟨n2,rfl,hn2⟩:=open_int1 g0
 obtain⟨n3,rfl,hn3⟩:=open_int1 g1
 obtain⟨n4,rfl,hn4⟩:=open_int1 g2
 exact⟨⟨s,n1,n2,n3,n4,n5⟩,rfl,hs,hn1,hn2,hn3,hn4,hn5⟩
theorem open_row {α:Type} {f:α→List Value} {n:Nat} (hn0:0<n) (hn:∀x,(f x).length=n) {Q:DataW H→α→Prop} {t e:TypeId} (hu:Tryz.prog.underlying t=some (.slice e)) (hc:Tryz.prog.cellsOf e=n)
  (ho:∀(fuel:Nat) (cs:List Value) (x:DataW H × List MemPlace),DataW.trod enc Tryz.prog W 0 sp held fuel e cs=some x→W.noneFrozen x.2→∃y,cs=f y∧Q x.1 y)
  {fuel:Nat} {c:Value} {x:DataW H × List MemPlace} (h:DataW.trod enc Tryz.prog W 0 sp held fuel t [c]=some x) (hfz:W.noneFrozen x.2) :
  ∃(l:List α) (a:Option Addr) (cap:Nat),c=.slice a l.length cap∧l.length≤cap∧cap≤maxLen∧At W W.heap.size (l.flatMap f) a∧(∀y∈l,∃d,Q d y∧(WB t x.1→WB e d))∧(WB t x.1→l.length*Tryz.prog.bytesOf e≤reachBytes):=by
 rcases DataW.trod_slice hu h with⟨e2,_⟩|⟨a,len,cap,elems,rest,m,rfl,e2,hx2,_,hlc,hcm,hel,hi,_,_⟩
 ·simp only[List.cons.injEq,and_true] at e2
  exact⟨[],none,0,e2,Nat.le_refl _,Nat.zero_le _,fun h=>absurd h (by simp),fun _ h=>by simp at h,fun _=>by simp⟩
 ·simp only[List.cons.injEq,and_true] at e2
  subst e2
  rw[hx2] at hfz
  rw[hc] at hi
  obtain⟨l,hl,hq,hat⟩:=rows_open (f:=f) (Q:=fun y=>∃d,Q d y∧(WB t x.1→WB e d)) (W:=W) (a:=a) (len:=len) hn0 hn (fun i hil=>by
   have hh:=hi i hil
   obtain⟨z,hz⟩:∃z,elems[i]? = some z:=⟨_,List.getElem?_eq_getElem (by omega)⟩
   rw[hz] at hh
   obtain⟨cs',hc',ht'⟩:=Option.bind_eq_some_iff.1 hh
   have hzm:z∈elems:=List.mem_of_getElem? hz
   obtain⟨y,rfl,hy⟩:=ho m cs' z ht' (fun b off hb=>hfz b off (List.mem_append_right _ (List.mem_flatMap.2 ⟨z,List.mem_append_left _ hzm,hb⟩)))
   exact⟨y,hc',z.1,hy,fun hB=>qR6 hu (by rw[hx2] at hB;exact hB) (List.mem_map_of_mem hzm)⟩)
  refine⟨l,some a,cap,by rw[hl],by omega,hcm,hat,hq,fun hB=>?_⟩
  rw[hx2] at hB
  refine Nat.le_trans (Nat.mul_le_mul_right _ ?_) (wb_len hu hB)
  simp only[List.length_map]
  omega
theorem qTy {fuel:Nat} {cs:List Value} {x:DataW H × List MemPlace} (h:DataW.trod enc Tryz.prog W 0 sp held fuel 62 cs=some x) (hfz:W.noneFrozen x.2):∃m:MacV,cs=qOo m∧MacOk W W.heap.size m∧(WB 62 x.1→qGy m.m.body):=by
 obtain⟨xs,n,rfl,rfl,hlen,hxs,hf⟩:=DataW.trod_struct Tryz.underlying62 h
 rw[zDc] at hlen
 clear h
 obtain⟨c0,c1,c2,c3,c4,c5,rfl⟩:=list6 hlen
 obtain⟨y0,y1,y2,y3,rfl⟩:=qY1 (show xs.length=4 from hxs)
 have h0:=hf 0 ({ name := "Name", type:=9,offset:=0,embedded:=false,tag := "", pkgPath := "", byteOffset:=0 }) rfl
 have h1:=hf 1 ({ name := "Params", type:=57,offset:=1,embedded:=false,tag := "", pkgPath := "", byteOffset:=16 }) rfl
 have h2:=hf 2 ({ name := "Res", type:=3,offset:=2,embedded:=false,tag := "", pkgPath := "", byteOffset:=40 }) rfl
 have h3:=hf 3 ({ name := "Body", type:=60,offset:=3,embedded:=false,tag := "", pkgPath := "", byteOffset:=48 }) rfl
 simp only[cInt,zAy,zCo,qXz,List.drop_zero,List.take_succ_cons,List.take_zero,List.drop_succ_cons,List.getElem?_cons_zero,List.getElem?_cons_succ] at h0 h1 h2 h3
 obtain⟨s,rfl,hs⟩:=qId h0
 obtain⟨n2,rfl,hn2⟩:=open_int1 h2
 obtain⟨l,a,cap,rfl,q1,q2,q3,q4,_⟩:=open_row (f:=zAx) (n:=2) (Q:=fun _ p=>ParOk p) (by decide) qF4 Tryz.underlying57 zDd (fun fuel cs x h _=>qTw h) h1 (fun b off hb=>hfz b off (by simp[hb]))
 obtain⟨t,ba,bc,e3,r1,r2⟩:=qY0 _ _ _ h3 (fun b off hb=>hfz b off (by simp[hb]))
 simp only[List.cons.injEq,and_true] at e3
 obtain⟨rfl,rfl,rfl⟩:=e3
 exact⟨⟨⟨s,l,n2,t⟩,a,cap,ba,bc⟩,rfl,⟨hs,q1,q2,q3,fun p hp=>(q4 p hp).choose_spec.1,hn2,r1⟩,fun hB=>r2 (qHo Tryz.underlying62 hB 3 rfl rfl)⟩
theorem open_sig {fuel:Nat} {cs:List Value} {x:DataW H × List MemPlace} (h:DataW.trod enc Tryz.prog W 0 sp held fuel 26 cs=some x) (hfz:W.noneFrozen x.2):∃z:SigV,cs=[.slice z.sa z.sorts.length z.sc,.slice z.fa z.funs.length z.fc,.slice z.ma z.macs.length z.mc]∧SigR W z∧(WB 26 x.1→z.sorts.length≤140737488355328∧∀s∈z.sorts,s.size≤140737488355328):=by
 obtain⟨xs,n,rfl,rfl,hlen,hxs,hf⟩:=DataW.trod_struct Tryz.underlying26 h
 rw[zDq] at hlen
 clear h
 obtain⟨c0,c1,c2,rfl⟩:=list3 hlen
 obtain⟨y0,y1,y2,rfl⟩:=list3 (show xs.length=3 from hxs)
 have h0:=hf 0 ({ name := "Sorts", type:=22,offset:=0,embedded:=false,tag := "", pkgPath := "", byteOffset:=0 }) rfl
 have h1:=hf 1 ({ name := "Funs", type:=23,offset:=1,embedded:=false,tag := "", pkgPath := "", byteOffset:=24 }) rfl
 have h2:=hf 2 ({ name := "Macros", type:=24,offset:=2,embedded:=false,tag := "", pkgPath := "", byteOffset:=48 }) rfl
 simp only[zCl,zCm,zCn,List.drop_zero,List.take_succ_cons,List.take_zero,List.drop_succ_cons,List.getElem?_cons_zero,List.getElem?_cons_succ] at h0 h1 h2
 obtain⟨ss,sa,sc,rfl,s1,s2,s3,s4,s5⟩:=open_row (f:=qP5) (n:=1) (Q:=fun d s=>s.size≤maxLen∧(WB 9 d→s.size≤140737488355328)) (by decide) qDz Tryz.underlying22 zAy (fun fuel cs x h _=>by
  obtain⟨s,e,hx,hs⟩:=DataW.trod_string Tryz.underlying9 h
  refine⟨s,e,hs,fun hB=>?_⟩
  rw[hx] at hB
  have:=hB s.data.toList.length (by simp[DataW.weights])
  have e2:s.data.toList.length=s.size:=Array.length_toList
  simp only[reachBytes] at this
  omega) h0 (fun b off hb=>hfz b off (by simp[hb]))
 obtain⟨fs,fa,fc,rfl,f1,f2,f3,f4,_⟩:=open_row (f:=qOn) (n:=6) (Q:=fun _ p=>FunOk p) (by decide) qAj Tryz.underlying23 zDb (fun fuel cs x h _=>qTx h) h1 (fun b off hb=>hfz b off (by simp[hb]))
 obtain⟨ms,ma,mc,rfl,m1,m2,m3,m4,_⟩:=open_row (f:=qOo) (n:=6) (Q:=fun d p=>MacOk W W.heap.size p∧(WB 62 d→qGy p.m.body)) (by decide) qBn Tryz.underlying24 zDc (fun fuel cs x h hz=>qTy h hz) h2 (fun b off hb=>hfz b off (by simp[hb]))
 refine⟨⟨ss,sa,sc,fs,fa,fc,ms,ma,mc⟩,rfl,⟨s1,s2,s3,fun s hs=>(s4 s hs).choose_spec.1.1,f1,f2,f3,fun s hs=>(f4 s hs).choose_spec.1,m1,m2,m3,fun s hs=>(m4 s hs).choose_spec.1.1⟩,fun hB=>⟨?_,fun s hs=>?_⟩⟩
 ·have h:=s5 (qHo Tryz.underlying26 hB 0 rfl rfl)
  rw[zCp] at h
  simp only[reachBytes] at h
  show ss.length≤_
  omega
 ·obtain⟨d,⟨_,hd⟩,hw⟩:=s4 s hs
  exact hd (hw (qHo Tryz.underlying26 hB 0 rfl rfl))
end
end Go.Proofs.YtfgpimhdjlmapaaGreatDoor
