/- shape's kinds and maker. -/
import Derived.Laws.EntriesVeiled
import Derived.Deep.LoopGhost
import Derived.Test.YtfgpimhdjlmapaaGreatDoorShf
import Derived.Test.YtfgpimhdjlmapaaGreatDoorCpT
import Derived.Test.YtfgpimhdjlmapaaGreatDoorShC
namespace Go.Proofs.YtfgpimhdjlmapaaGreatDoor.Tm
open Go.RowKit
set_option linter.unusedVariables false
set_option maxRecDepth 100000
theorem zCq:(Tryz.prog.info? 83).map (·.size)=some 14:=by kernel_rfl
theorem zCr:(Tryz.prog.info? 85).map (·.size)=some 16:=by kernel_rfl
theorem zAz {w:World} {b:Nat} {t:TypeId} {x0 x1 x2 x3 x4 x5 x6 x7 x8 x9 x10 x11 x12 x13 v0 v1 v2 v3 v4 v5 v6 v7 v8 v9 v10 v11 v12 v13:Value} (h:w.heap[b]? = some (.cells #[x0,x1,x2,x3,x4,x5,x6,x7,x8,x9,x10,x11,x12,x13] t (0,0))) :
  ((((((((((((((w.setCell ⟨b,0,none⟩ v0).setCell ⟨b,1,none⟩ v1).setCell ⟨b,2,none⟩ v2).setCell ⟨b,3,none⟩ v3).setCell ⟨b,4,none⟩ v4).setCell ⟨b,5,none⟩ v5).setCell ⟨b,6,none⟩ v6).setCell ⟨b,7,none⟩ v7).setCell ⟨b,8,none⟩ v8).setCell ⟨b,9,none⟩ v9).setCell ⟨b,10,none⟩ v10).setCell ⟨b,11,none⟩ v11).setCell ⟨b,12,none⟩ v12).setCell ⟨b,13,none⟩ v13).heap[b]? = some (.cells #[v0,v1,v2,v3,v4,v5,v6,v7,v8,v9,v10,v11,v12,v13] t (0,0)):=by
 simp[World.setCell,Array.getElem?_modify,h]
theorem zB0 {w:World} {b:Nat} {t:TypeId} {x0 x1 x2 x3 x4 x5 x6 x7 x8 x9 x10 x11 x12 x13 x14 x15 v0 v1 v2 v3 v4 v5 v6 v7 v8 v9 v10 v11 v12 v13 v14 v15:Value} (h:w.heap[b]? = some (.cells #[x0,x1,x2,x3,x4,x5,x6,x7,x8,x9,x10,x11,x12,x13,x14,x15] t (0,0))) :
  ((((((((((((((((w.setCell ⟨b,0,none⟩ v0).setCell ⟨b,1,none⟩ v1).setCell ⟨b,2,none⟩ v2).setCell ⟨b,3,none⟩ v3).setCell ⟨b,4,none⟩ v4).setCell ⟨b,5,none⟩ v5).setCell ⟨b,6,none⟩ v6).setCell ⟨b,7,none⟩ v7).setCell ⟨b,8,none⟩ v8).setCell ⟨b,9,none⟩ v9).setCell ⟨b,10,none⟩ v10).setCell ⟨b,11,none⟩ v11).setCell ⟨b,12,none⟩ v12).setCell ⟨b,13,none⟩ v13).setCell ⟨b,14,none⟩ v14).setCell ⟨b,15,none⟩ v15).heap[b]? = some (.cells #[v0,v1,v2,v3,v4,v5,v6,v7,v8,v9,v10,v11,v12,v13,v14,v15] t (0,0)):=by
 simp[World.setCell,Array.getElem?_modify,h]
theorem qRa (w:World):Calls Tryz.prog 39 #[] w fun e w'=>e=.returned (.agg #[.func (.func 69) #[] #[],.nilFunc,.func (.func 70) #[] #[],.func (.func 71) #[] #[],.nilFunc,.nilFunc,.func (.func 72) #[] #[],.func (.func 73) #[] #[],.nilFunc,.nilFunc,.nilFunc,.nilFunc,.nilFunc,.nilFunc])∧Below w.heap.size w w':=by
 obtain⟨W0,hW0⟩:∃W0,W0=w.alloc (.cells #[.nilFunc,.nilFunc,.nilFunc,.nilFunc,.nilFunc,.nilFunc,.nilFunc,.nilFunc,.nilFunc,.nilFunc,.nilFunc,.nilFunc,.nilFunc,.nilFunc] 83):=⟨_,rfl⟩
 have hB0:Below w.heap.size w W0:=by rw[hW0];exact(Below.refl _ w).alloc (Nat.le_refl _) _
 have hn0:W0.heap[w.heap.size]? = some (.cells #[.nilFunc,.nilFunc,.nilFunc,.nilFunc,.nilFunc,.nilFunc,.nilFunc,.nilFunc,.nilFunc,.nilFunc,.nilFunc,.nilFunc,.nilFunc,.nilFunc] 83 (0,0)):=by rw[hW0];exact heap_alloc_new w _
 have c0:W0.cell? ⟨w.heap.size,0,none⟩=some .nilFunc:=(cell_of_row _ _ 0 _ _ _ hn0).trans rfl
 have c1:W0.cell? ⟨w.heap.size,1,none⟩=some .nilFunc:=(cell_of_row _ _ 1 _ _ _ hn0).trans rfl
 have c2:W0.cell? ⟨w.heap.size,2,none⟩=some .nilFunc:=(cell_of_row _ _ 2 _ _ _ hn0).trans rfl
 have c3:W0.cell? ⟨w.heap.size,3,none⟩=some .nilFunc:=(cell_of_row _ _ 3 _ _ _ hn0).trans rfl
 have c4:W0.cell? ⟨w.heap.size,4,none⟩=some .nilFunc:=(cell_of_row _ _ 4 _ _ _ hn0).trans rfl
 have c5:W0.cell? ⟨w.heap.size,5,none⟩=some .nilFunc:=(cell_of_row _ _ 5 _ _ _ hn0).trans rfl
 have c6:W0.cell? ⟨w.heap.size,6,none⟩=some .nilFunc:=(cell_of_row _ _ 6 _ _ _ hn0).trans rfl
 have c7:W0.cell? ⟨w.heap.size,7,none⟩=some .nilFunc:=(cell_of_row _ _ 7 _ _ _ hn0).trans rfl
 have c8:W0.cell? ⟨w.heap.size,8,none⟩=some .nilFunc:=(cell_of_row _ _ 8 _ _ _ hn0).trans rfl
 have c9:W0.cell? ⟨w.heap.size,9,none⟩=some .nilFunc:=(cell_of_row _ _ 9 _ _ _ hn0).trans rfl
 have c10:W0.cell? ⟨w.heap.size,10,none⟩=some .nilFunc:=(cell_of_row _ _ 10 _ _ _ hn0).trans rfl
 have c11:W0.cell? ⟨w.heap.size,11,none⟩=some .nilFunc:=(cell_of_row _ _ 11 _ _ _ hn0).trans rfl
 have c12:W0.cell? ⟨w.heap.size,12,none⟩=some .nilFunc:=(cell_of_row _ _ 12 _ _ _ hn0).trans rfl
 have c13:W0.cell? ⟨w.heap.size,13,none⟩=some .nilFunc:=(cell_of_row _ _ 13 _ _ _ hn0).trans rfl
 have hz:w.heap.size<W0.heap.size:=(Array.getElem?_eq_some_iff.1 hn0).1
 have hf:∀i,W0.frozen? ⟨w.heap.size,i,none⟩=false:=fun i=>by simp[World.frozen?,hn0]
 have HB0:=Lib.hid hB0
 have HN0:=Lib.hid hn0
 clear hB0 hn0
 have hA:=hW0.symm
 clear hW0
 go_enter Tryz.func39,Tryz.ntmps39
 go_wp2_with fail
 refine bodyPost_ret (results_cell_row rfl _ _ w.heap.size 83 #[.func (.func 69) #[] #[],.nilFunc,.func (.func 70) #[] #[],.func (.func 71) #[] #[],.nilFunc,.nilFunc,.func (.func 72) #[] #[],.func (.func 73) #[] #[],.nilFunc,.nilFunc,.nilFunc,.nilFunc,.nilFunc,.nilFunc] (0,0) _ rfl (zAz HN0.out) Tryz.underlying83 rfl zCq) rfl ?_
 have HB:=HB0.out
 exact⟨rfl,(qAg (qAg (qAg (qAg (qAg (qAg (qAg (qAg (qAg (qAg (qAg (qAg (qAg (qAg HB (Nat.le_refl _)) (Nat.le_refl _)) (Nat.le_refl _)) (Nat.le_refl _)) (Nat.le_refl _)) (Nat.le_refl _)) (Nat.le_refl _)) (Nat.le_refl _)) (Nat.le_refl _)) (Nat.le_refl _)) (Nat.le_refl _)) (Nat.le_refl _)) (Nat.le_refl _)) (Nat.le_refl _))⟩
structure MkrR (V:World) (c:List NodeA) (a:Option Addr) (ca:Nat) (la:Option Addr):Prop where
 tab:TabR V c a ca
 lits:IntsR V (qCf c) la c.length
theorem MkrR.below {V V':World} {c:List NodeA} {a:Option Addr} {ca:Nat} {la:Option Addr} (h:MkrR V c a ca la) (hb:Below V.heap.size V V'):MkrR V' c a ca la:=⟨h.tab.below hb,h.lits.below hb⟩
theorem qKg {c:List NodeA} (hC:Cl c):∀x∈qCf c,I64 x:=fun x hx=>by
 unfold qCf at hx
 obtain⟨k,hk,rfl⟩:=List.mem_map.1 hx
 have hl:=hC.len
 have:=qMn hC (List.mem_range.1 hk)
 unfold qAb
 split
 ·exact⟨by omega,by omega⟩
 ·exact⟨by decide,by decide⟩
theorem qU6 {V:World} {c:List NodeA} {a:Option Addr} (hC:Cl c) (h:IntsR V (qCf c) a (qCf c).length):IntsR V (qCf c) a c.length:=by rw[qCz] at h;exact h
theorem LitR.ints {w V:World} {c:List NodeA} {a:Option Addr} {ca:Nat} (hC:Cl c) (h:LitR w V c a ca (qCf c)):IntsR V (qCf c) (some ⟨w.heap.size+1,0,none⟩) c.length:=by
 have:=qO3 (xs:=qCf c) h.row (qKg hC) (by rw[qCz];have:=hC.len;omega)
 rw[qCz] at this
 exact this
set_option maxHeartbeats 8000000 in
theorem qH8 (c:List NodeA) (hC:Cl c) (a:Option Addr) (ca:Nat) (w:World) (hA:TabR w c a ca) :
  Calls Tryz.prog 24 #[.agg #[.slice a c.length ca]] w fun e w'=>∃la,e=.returned (.agg #[.slice a c.length ca,.slice la c.length c.length,.func (.func 69) #[] #[],.nilFunc,.func (.func 70) #[] #[],.func (.func 71) #[] #[],.nilFunc,.nilFunc,.func (.func 72) #[] #[],.func (.func 73) #[] #[],.nilFunc,.nilFunc,.nilFunc,.nilFunc,.nilFunc,.nilFunc])∧Hid (MkrR w' c a ca la)∧Hid (Below w.heap.size w w'):=by
 obtain⟨W0,hW0⟩:∃W0,W0=(w.alloc (.cells #[.slice a c.length ca] 33)).alloc (.cells #[.slice none 0 0,.slice none 0 0,.nilFunc,.nilFunc,.nilFunc,.nilFunc,.nilFunc,.nilFunc,.nilFunc,.nilFunc,.nilFunc,.nilFunc,.nilFunc,.nilFunc,.nilFunc,.nilFunc] 85):=⟨_,rfl⟩
 have hB0:Below w.heap.size w W0:=by rw[hW0];exact((Below.refl _ w).alloc (Nat.le_refl _) _).alloc (by simp) _
 have hn0:W0.heap[w.heap.size+1]? = some (.cells #[.slice none 0 0,.slice none 0 0,.nilFunc,.nilFunc,.nilFunc,.nilFunc,.nilFunc,.nilFunc,.nilFunc,.nilFunc,.nilFunc,.nilFunc,.nilFunc,.nilFunc,.nilFunc,.nilFunc] 85 (0,0)):=by
  have h:=heap_alloc_new (w.alloc (.cells #[.slice a c.length ca] 33)) (.cells #[.slice none 0 0,.slice none 0 0,.nilFunc,.nilFunc,.nilFunc,.nilFunc,.nilFunc,.nilFunc,.nilFunc,.nilFunc,.nilFunc,.nilFunc,.nilFunc,.nilFunc,.nilFunc,.nilFunc] 85)
  rw[World.size_alloc] at h
  rw[hW0];exact h
 have hb0:W0.heap[w.heap.size]? = some (.cells #[.slice a c.length ca] 33 (0,0)):=by rw[hW0];exact(Below.heap_alloc _ _ _ (by simp)).trans (heap_alloc_new w _)
 have HX:Hid (∀V,Below W0.heap.size W0 V→V.cell? ⟨w.heap.size,0,none⟩=some (.slice a c.length ca)∧w.heap.size<V.heap.size):=fun V hV=>by
  have e0:=(hV.block _ (Array.getElem?_eq_some_iff.1 hb0).1).trans hb0
  exact⟨(cell_of_row _ _ 0 _ _ _ e0).trans rfl,(Array.getElem?_eq_some_iff.1 e0).1⟩
 have HN:Hid (∀V,Below W0.heap.size W0 V→V.heap[w.heap.size+1]? = some (.cells #[.slice none 0 0,.slice none 0 0,.nilFunc,.nilFunc,.nilFunc,.nilFunc,.nilFunc,.nilFunc,.nilFunc,.nilFunc,.nilFunc,.nilFunc,.nilFunc,.nilFunc,.nilFunc,.nilFunc] 85 (0,0))):=fun V hV=>(hV.block _ (Array.getElem?_eq_some_iff.1 hn0).1).trans hn0
 have HBx:Hid (∀V,Below W0.heap.size W0 V→V.heap[w.heap.size]? = some (.cells #[.slice a c.length ca] 33 (0,0))):=fun V hV=>(hV.block _ (Array.getElem?_eq_some_iff.1 hb0).1).trans hb0
 have HL:Hid (∀V,Below W0.heap.size W0 V→Calls Tryz.prog 38 #[.agg #[.slice a c.length ca]] V fun e w'=>e=.returned (.slice (some ⟨V.heap.size+1,0,none⟩) c.length c.length)∧Hid (w'.heap[V.heap.size+1]? = some (.cells (qCd (qCf c)) 3 (0,0)))∧Hid (Below W0.heap.size W0 w')):=fun V hV=>(qLe c hC a ca V ((hA.below hB0).below hV)).mono fun e w' ⟨h1,h2⟩=>⟨h1,h2.row,qA5 hV h2.bel⟩
 have HK:Hid (∀V,Below W0.heap.size W0 V→Calls Tryz.prog 39 #[] V fun e w'=>e=.returned (.agg #[.func (.func 69) #[] #[],.nilFunc,.func (.func 70) #[] #[],.func (.func 71) #[] #[],.nilFunc,.nilFunc,.func (.func 72) #[] #[],.func (.func 73) #[] #[],.nilFunc,.nilFunc,.nilFunc,.nilFunc,.nilFunc,.nilFunc])∧Hid (Below W0.heap.size W0 w')∧Hid (Below V.heap.size V w')):=fun V hV=>(qRa V).mono fun e w' ⟨h1,h2⟩=>⟨h1,qA5 hV h2,h2⟩
 have HTb:Hid (∀V,Below W0.heap.size W0 V→TabR V c a ca):=fun V hV=>(hA.below hB0).below hV
 have HC0:=Lib.hid hC
 have HA0:=Lib.hid hA
 have HZ0:=Lib.hid (Array.getElem?_eq_some_iff.1 hn0).1
 have HB0:=Lib.hid hB0
 obtain⟨x0,xz⟩:=HX.out _ (Below.refl _ _)
 clear hA hB0 hn0 hb0
 go_enter Tryz.func24,Tryz.ntmps24
 go_wp2_with fail
 rw[←hW0]
 clear hW0
 refine wp_region_held_drew (S:=fun V=>V.cell? ⟨w.heap.size,0,none⟩=some (.slice a c.length ca)∧w.heap.size<V.heap.size) (by kernel_rfl) (HX.out _ (Below.refl _ _).drew) (fun hHeld=>?_)
 refine tkY 0 (.agg #[.slice a c.length ca]) ?_;try simp only[k4]
 refine tkY 1 (.agg #[.slice a c.length ca]) ?_;try simp only[k4]
 refine tkC 2 ?_
 intro K hK
 go_simp
 go_at_call 38
 refine(HL.out _ (Below.refl _ _).drew).mono ?_
 rintro e w1 ⟨rfl,HI1,HB1⟩
 go_wp2_with fail
 refine hK.out _ _ ?_ (fun hHeld=>?_)
 ·exact HX.out _ HB1.out
 clear hK K;try simp only[k4]
 refine tkC 3 ?_
 intro K hK
 go_simp
 go_at_call 39
 refine(HK.out _ HB1.out).mono ?_
 rintro e w2 ⟨rfl,HB2,HV2⟩
 go_wp2_with fail
 refine hK.out _ _ ?_ (fun hHeld=>?_)
 ·exact HX.out _ HB2.out
 clear hK K;try simp only[k4]
 refine tkY 4 (.agg #[.slice a c.length ca,.slice (some ⟨W0.drew.heap.size+1,0,none⟩) c.length c.length,.func (.func 69) #[] #[],.nilFunc,.func (.func 70) #[] #[],.func (.func 71) #[] #[],.nilFunc,.nilFunc,.func (.func 72) #[] #[],.func (.func 73) #[] #[],.nilFunc,.nilFunc,.nilFunc,.nilFunc,.nilFunc,.nilFunc]) ?_;try simp only[k4]
 have HN2:=Lib.hid (HN.out _ HB2.out)
 have c0:w2.cell? ⟨w.heap.size+1,0,none⟩=some (.slice none 0 0):=(cell_of_row _ _ 0 _ _ _ HN2.out).trans rfl
 have c1:w2.cell? ⟨w.heap.size+1,1,none⟩=some (.slice none 0 0):=(cell_of_row _ _ 1 _ _ _ HN2.out).trans rfl
 have c2:w2.cell? ⟨w.heap.size+1,2,none⟩=some (.nilFunc):=(cell_of_row _ _ 2 _ _ _ HN2.out).trans rfl
 have c3:w2.cell? ⟨w.heap.size+1,3,none⟩=some (.nilFunc):=(cell_of_row _ _ 3 _ _ _ HN2.out).trans rfl
 have c4:w2.cell? ⟨w.heap.size+1,4,none⟩=some (.nilFunc):=(cell_of_row _ _ 4 _ _ _ HN2.out).trans rfl
 have c5:w2.cell? ⟨w.heap.size+1,5,none⟩=some (.nilFunc):=(cell_of_row _ _ 5 _ _ _ HN2.out).trans rfl
 have c6:w2.cell? ⟨w.heap.size+1,6,none⟩=some (.nilFunc):=(cell_of_row _ _ 6 _ _ _ HN2.out).trans rfl
 have c7:w2.cell? ⟨w.heap.size+1,7,none⟩=some (.nilFunc):=(cell_of_row _ _ 7 _ _ _ HN2.out).trans rfl
 have c8:w2.cell? ⟨w.heap.size+1,8,none⟩=some (.nilFunc):=(cell_of_row _ _ 8 _ _ _ HN2.out).trans rfl
 have c9:w2.cell? ⟨w.heap.size+1,9,none⟩=some (.nilFunc):=(cell_of_row _ _ 9 _ _ _ HN2.out).trans rfl
 have c10:w2.cell? ⟨w.heap.size+1,10,none⟩=some (.nilFunc):=(cell_of_row _ _ 10 _ _ _ HN2.out).trans rfl
 have c11:w2.cell? ⟨w.heap.size+1,11,none⟩=some (.nilFunc):=(cell_of_row _ _ 11 _ _ _ HN2.out).trans rfl
 have c12:w2.cell? ⟨w.heap.size+1,12,none⟩=some (.nilFunc):=(cell_of_row _ _ 12 _ _ _ HN2.out).trans rfl
 have c13:w2.cell? ⟨w.heap.size+1,13,none⟩=some (.nilFunc):=(cell_of_row _ _ 13 _ _ _ HN2.out).trans rfl
 have c14:w2.cell? ⟨w.heap.size+1,14,none⟩=some (.nilFunc):=(cell_of_row _ _ 14 _ _ _ HN2.out).trans rfl
 have c15:w2.cell? ⟨w.heap.size+1,15,none⟩=some (.nilFunc):=(cell_of_row _ _ 15 _ _ _ HN2.out).trans rfl
 have HBX:=Lib.hid (HBx.out _ HB2.out)
 have hne:w.heap.size≠w.heap.size+1:=by omega
 have hz:w.heap.size+1<w2.heap.size:=(Array.getElem?_eq_some_iff.1 HN2.out).1
 have hf:∀i,w2.frozen? ⟨w.heap.size+1,i,none⟩=false:=fun i=>by simp[World.frozen?,HN2.out]
 refine tkC 5 ?_
 intro K hK
 go_simp
 refine hK.out _ _ ?_ (fun hHeld=>?_)
 ·refine⟨(cell_of_row _ _ 0 _ _ _ ((Below.heap_setCell _ _ _ _ hne).trans ((Below.heap_setCell _ _ _ _ hne).trans ((Below.heap_setCell _ _ _ _ hne).trans ((Below.heap_setCell _ _ _ _ hne).trans ((Below.heap_setCell _ _ _ _ hne).trans ((Below.heap_setCell _ _ _ _ hne).trans ((Below.heap_setCell _ _ _ _ hne).trans ((Below.heap_setCell _ _ _ _ hne).trans ((Below.heap_setCell _ _ _ _ hne).trans ((Below.heap_setCell _ _ _ _ hne).trans ((Below.heap_setCell _ _ _ _ hne).trans ((Below.heap_setCell _ _ _ _ hne).trans ((Below.heap_setCell _ _ _ _ hne).trans ((Below.heap_setCell _ _ _ _ hne).trans ((Below.heap_setCell _ _ _ _ hne).trans ((Below.heap_setCell _ _ _ _ hne).trans HBX.out))))))))))))))))).trans rfl,?_⟩
  show w.heap.size<_
  simp only[World.size_setCell]
  omega
 refine wpAnyH_done (by kernel_rfl) ?_ _
 go_wp2
 refine bodyPost_ret (results_cell_row rfl _ _ (w.heap.size+1) 85 #[.slice a c.length ca,.slice (some ⟨W0.drew.heap.size+1,0,none⟩) c.length c.length,.func (.func 69) #[] #[],.nilFunc,.func (.func 70) #[] #[],.func (.func 71) #[] #[],.nilFunc,.nilFunc,.func (.func 72) #[] #[],.func (.func 73) #[] #[],.nilFunc,.nilFunc,.nilFunc,.nilFunc,.nilFunc,.nilFunc] (0,0) _ rfl (zB0 HN2.out) Tryz.underlying85 rfl zCr) rfl ?_
 have hbf:Below w.heap.size w w2:=HB0.out.trans (HB2.out.mono HB0.out.size)
 have hrw:w2.heap[W0.heap.size+1]? = some (.cells (qCd (qCf c)) 3 (0,0)):=(HV2.out.block _ (Array.getElem?_eq_some_iff.1 HI1.out).1).trans HI1.out
 have hgz:w.heap.size+1<W0.heap.size:=HZ0.out
 have hne2:W0.heap.size+1≠w.heap.size+1:=by omega
 have hbg:Below w.heap.size w (((((((((((((((((w2.setCell ⟨w.heap.size+1,0,none⟩ (.slice a c.length ca)).setCell ⟨w.heap.size+1,1,none⟩ (.slice (some ⟨W0.heap.size+1,0,none⟩) c.length c.length)).setCell ⟨w.heap.size+1,2,none⟩ (.func (.func 69) #[] #[])).setCell ⟨w.heap.size+1,3,none⟩ (.nilFunc)).setCell ⟨w.heap.size+1,4,none⟩ (.func (.func 70) #[] #[])).setCell ⟨w.heap.size+1,5,none⟩ (.func (.func 71) #[] #[])).setCell ⟨w.heap.size+1,6,none⟩ (.nilFunc)).setCell ⟨w.heap.size+1,7,none⟩ (.nilFunc)).setCell ⟨w.heap.size+1,8,none⟩ (.func (.func 72) #[] #[])).setCell ⟨w.heap.size+1,9,none⟩ (.func (.func 73) #[] #[])).setCell ⟨w.heap.size+1,10,none⟩ (.nilFunc)).setCell ⟨w.heap.size+1,11,none⟩ (.nilFunc)).setCell ⟨w.heap.size+1,12,none⟩ (.nilFunc)).setCell ⟨w.heap.size+1,13,none⟩ (.nilFunc)).setCell ⟨w.heap.size+1,14,none⟩ (.nilFunc)).setCell ⟨w.heap.size+1,15,none⟩ (.nilFunc))):=(qAg (qAg (qAg (qAg (qAg (qAg (qAg (qAg (qAg (qAg (qAg (qAg (qAg (qAg (qAg (qAg hbf (by omega)) (by omega)) (by omega)) (by omega)) (by omega)) (by omega)) (by omega)) (by omega)) (by omega)) (by omega)) (by omega)) (by omega)) (by omega)) (by omega)) (by omega)) (by omega))
 refine⟨_,rfl,⟨HA0.out.below hbg,qU6 (HC0.out) (qO3 (xs:=qCf c) (((Below.heap_setCell _ _ _ _ hne2).trans ((Below.heap_setCell _ _ _ _ hne2).trans ((Below.heap_setCell _ _ _ _ hne2).trans ((Below.heap_setCell _ _ _ _ hne2).trans ((Below.heap_setCell _ _ _ _ hne2).trans ((Below.heap_setCell _ _ _ _ hne2).trans ((Below.heap_setCell _ _ _ _ hne2).trans ((Below.heap_setCell _ _ _ _ hne2).trans ((Below.heap_setCell _ _ _ _ hne2).trans ((Below.heap_setCell _ _ _ _ hne2).trans ((Below.heap_setCell _ _ _ _ hne2).trans ((Below.heap_setCell _ _ _ _ hne2).trans ((Below.heap_setCell _ _ _ _ hne2).trans ((Below.heap_setCell _ _ _ _ hne2).trans ((Below.heap_setCell _ _ _ _ hne2).trans ((Below.heap_setCell _ _ _ _ hne2).trans hrw))))))))))))))))) (qKg HC0.out) (by rw[qCz];have:=HC0.out.len;omega))⟩,hbg⟩
end Go.Proofs.YtfgpimhdjlmapaaGreatDoor.Tm
