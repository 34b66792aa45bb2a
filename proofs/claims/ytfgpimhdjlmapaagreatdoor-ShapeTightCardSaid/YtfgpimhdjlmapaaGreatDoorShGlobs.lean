/- What the listed variable of package term holds, out of the row's condition. -/
import Derived.ProofKit
import Derived.LaidMore
import Derived.OpenShut
import Derived.ChangeArms
import Derived.Stop.Joined
import Derived.Test.YtfgpimhdjlmapaaGreatDoorRows
import Derived.Test.YtfgpimhdjlmapaaGreatDoorTmD
namespace Go.Proofs.YtfgpimhdjlmapaaGreatDoor.Tm
open Go.ChangeShapes Go.WideShapes Go.ChangeAt Go.RowKit
def laidL:List (String × DataW Unit):=[("gantry/term.lens", Rows.laid_gantry_term_lens)]
def doorSteps:Nat:=9
theorem door_met (os:Os) (args:Array Value):laidMetH Tryz.prog laidL ((World.doorLaid Tryz.prog doorSteps os).forCall (fun _ _=>0) ⟨#[],args,[]⟩).memory :=
 laidMetH_of_parts3 (fuel:=8) (laidMet_of_run' 8 (by kernel_rfl) (by kernel_rfl)) (by kernel_rfl) (by kernel_rfl)
theorem zB2:Tryz.prog.globalNamed "gantry/term.lens" = some 0:=by kernel_rfl
theorem zCs:(Tryz.prog.globals[0]?).map (·.type)=some 161:=by kernel_rfl
theorem zCt:Tryz.prog.cellsOf 161=14:=by kernel_rfl
theorem zB3:Tryz.prog.cellsOf 49=1:=by kernel_rfl
theorem qU7 (l:List Value) (f:∀i v,qOx[i]? = some v→(l.drop i).take 1=[.int .i8 v]) (k:Nat) (v:Int) (hk:qOx[k]? = some v):l[k]? = some (.int .i8 v):=by
 have e:=f k v hk
 have e2:((l.drop k).take 1)[0]? = some (.int .i8 v):=by rw[e];rfl
 rw[List.getElem?_take] at e2
 simpa [List.getElem?_drop] using e2
theorem qLf {H:Type} {enc:TypeId × Value→H} {w:World} {base:Nat} {sp:Nat→Bool} {held:Bool} {fuel:Nat} {cs:Array Value} {p:List MemPlace}
  (hd:DataW.trod enc Tryz.prog w base sp held fuel 161 cs.toList=some (Rows.laid_gantry_term_lens,p)) (k:Nat) (v:Int) (hk:qOx[k]? = some v):cs[k]? = some (.int .i8 v):=by
 obtain⟨l⟩:=cs
 obtain⟨xs,m,rfl,hx,hlen,hxs,hf⟩:=DataW.trod_array Tryz.underlying161 hd
 rw[zCt] at hlen
 have hx1:xs.map (·.1)=qOx.map (fun n=>DataW.lit (Lit.int .i8 n)):=by
  have:=congrArg (fun q:DataW H × List MemPlace=>q.1) hx
  simp only[Rows.laid_gantry_term_lens,DataW.agg.injEq] at this
  exact this.symm
 refine(by simp:(⟨l⟩:Array Value)[k]? = l[k]?).trans (qU7 l (fun i u hi=>?_) k v hk)
 have hi14:i<14:=(List.getElem?_eq_some_iff.1 hi).1
 have h:=hf i hi14
 rw[zB3,Nat.mul_one] at h
 have hxi:(xs[i]?).map (·.1)=some (DataW.lit (Lit.int .i8 u)):=by
  rw[←List.getElem?_map,hx1,List.getElem?_map,hi];rfl
 obtain⟨z,hz,hz1⟩:=Option.map_eq_some_iff.1 hxi
 rw[hz] at h
 obtain⟨n,e,e2,_⟩:=DataW.trod_int Tryz.underlying49 h
 rw[e2] at hz1
 simp only[DataW.lit.injEq,Lit.int.injEq,true_and] at hz1
 rw[e,hz1]
theorem globs_of {W:World} (h:laidMetH Tryz.prog laidL W):GT W:=by
 rw[MakeChecks.laidMetH_plain _ _ _ (by kernel_rfl)] at h
 obtain⟨ps,⟨g0,t0,cs0,f0,p0,q0,hg0,ht0,hv0,hd0,_,_⟩,_,_⟩:=h
 obtain rfl:=Option.some.inj (zB2.symm.trans hg0)
 obtain rfl:=Option.some.inj (zCs.symm.trans ht0)
 have hc:=qLf hd0
 have cell:∀k v,qOx[k]? = some v→W.cell? ⟨0,k,none⟩=some (.int .i8 v):=fun k v hk=>by
  have h0:=World.var?_cell zB2 hv0 k
  exact h0.trans (hc k v hk)
 exact⟨World.block_lt_of_cell? (a:=⟨_,0,none⟩) W (cell 0 0 rfl),cell⟩
end Go.Proofs.YtfgpimhdjlmapaaGreatDoor.Tm
