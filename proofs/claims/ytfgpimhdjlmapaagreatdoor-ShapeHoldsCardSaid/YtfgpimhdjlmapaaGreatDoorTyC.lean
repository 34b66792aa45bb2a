/- The rule of a kind; Op. -/
import Derived.BigQuiet
import Derived.Deep.RegionHeld3
import Derived.DeepKeys4
import Derived.WalkArith
import Derived.Maps.OwnSet
import Derived.Maps.OwnIn
import Derived.Maps.AppendAt
import Derived.Deep.CutRange
import Derived.Laws.Cover3
import Derived.Laws.Append
import Derived.Test.YtfgpimhdjlmapaaGreatDoorTmA
namespace Go.Proofs.YtfgpimhdjlmapaaGreatDoor.Tm
open Go.RowKit
set_option linter.unusedVariables false
structure RuleA where
 many:Int
 a0:Int
 a1:Int
 a2:Int
 sort:Int
def zBx:List RuleA:=[⟨0,0,0,0,0⟩,⟨1,0,0,0,0⟩,⟨2,0,0,0,0⟩,⟨2,0,0,0,0⟩,⟨2,0,0,0,0⟩,⟨2,0,0,0,0⟩,⟨2,-1,-1,0,0⟩,⟨3,0,-1,-1,-1⟩,⟨2,1,1,0,0⟩,⟨2,1,1,0,0⟩,⟨0,0,0,0,1⟩,⟨1,1,0,0,1⟩,⟨2,1,1,0,0⟩]
structure RuleOk (r:RuleA):Prop where
 many:I64 r.many
 a0:I64 r.a0
 a1:I64 r.a1
 a2:I64 r.a2
 sort:I64 r.sort
def zD6 (r:RuleA):Nat→Int
 | 0=>r.a0
 | 1=>r.a1
 | _=>r.a2
def thA (r:RuleA) (s:Int) (i:Nat):Bool:=decide (0≤s)&&decide (zD6 r i=-1)
def okA (r:RuleA) (s:Int) (i:Nat):Bool:=decide (0≤s)&&(decide (zD6 r i=-1) || decide (zD6 r i=s))
def zBy (r:RuleA) (l:List Int) (k:Nat):List Int:=((List.range k).filter (fun i=>thA r (l.getD i 0) i)).map (fun i=>l.getD i 0)
def okL (r:RuleA) (l:List Int):Bool:=(List.range l.length).all (fun i=>okA r (l.getD i 0) i)
def alikeB (l:List Int):Bool:=l.all (fun x=>decide (x=l.headD 0))
def ofA (r:RuleA) (l:List Int):Int × Int :=
 if (l.length:Int)=r.many then (if okL r l=true then (if alikeB (zBy r l l.length)=true then (if r.sort=-1 then ((zBy r l l.length).headD 0,0) else (r.sort,0)) else (0,33)) else (0,33)) else (0,2)
structure IntsR (w:World) (xs:List Int) (a:Option Addr) (c:Nat):Prop where
 le:xs.length≤c
 cap:c≤maxLen
 tat:At w w.heap.size (xs.map (Value.int .i64)) a
 ok:∀x∈xs,I64 x
theorem IntsR.below {w w':World} {xs:List Int} {a:Option Addr} {c:Nat} (h:IntsR w xs a c) (hb:Below w.heap.size w w'):IntsR w' xs a c :=
 ⟨h.le,h.cap,(h.tat.below hb).more hb.size,h.ok⟩
theorem IntsR.cell {w:World} {xs:List Int} {a:Option Addr} {c k:Nat} {x:Int} (h:IntsR w xs a c) (hk:xs[k]? = some x):∃g o:Nat,a=some ⟨g,o,none⟩∧g<w.heap.size∧w.cell? ⟨g,o+k,none⟩=some (.int .i64 x):=by
 have hlt:=(List.getElem?_eq_some_iff.1 hk).1
 obtain⟨g,o,e,hg,hc⟩:=h.tat (by simp;omega)
 exact⟨g,o,e,hg,hc k _ (by rw[List.getElem?_map,hk];rfl)⟩
theorem IntsR.nil (w:World) (c:Nat) (hc:c≤maxLen) (a:Option Addr):IntsR w [] a c:=⟨Nat.zero_le _,hc,fun h=>absurd h (by simp),fun _ h=>by simp at h⟩
theorem qO3 {w:World} {b:Nat} {xs:List Int} {ty:TypeId} (h:w.heap[b]? = some (.cells ⟨xs.map (Value.int .i64)⟩ ty (0,0))) (hok:∀x∈xs,I64 x) (hm:xs.length≤3000):IntsR w xs (some ⟨b,0,none⟩) xs.length:=by
 refine⟨Nat.le_refl _,by unfold maxLen;omega,fun _=>⟨b,0,rfl,(Array.getElem?_eq_some_iff.1 h).1,fun i v hv=>?_⟩,hok⟩
 rw[Nat.zero_add,cell_of_row w b i _ _ _ h,←Array.getElem?_toList]
 exact hv
theorem info_int:(Tryz.prog.info? 3).map (fun i=>(i.zero,i.size,i.bytes))=some (some (.int .i64 0),1,8):=by kernel_rfl
def zBz:RuleA:=⟨0,0,0,0,0⟩
def zC0 (op:Int):Bool:=decide (0≤op)&&decide (op<13)
def zD7 (op:Int):RuleA:=if zC0 op=true then zBx.getD op.toNat zBz else zBz
def opA (op:Int) (l:List Int):Int × Int:=if zC0 op=true then ofA (zD7 op) l else (0,2)
end Go.Proofs.YtfgpimhdjlmapaaGreatDoor.Tm
