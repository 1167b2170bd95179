/-
  From the rows' condition: the array of keywords lies where it was laid.; UnitKeeps: each call, from what its walk says.
-/
import Derived.Test.YtmpmfamiegpmgaaGreatDoorRows
import Derived.Test.YtmpmfamiegpmgaaGreatDoorGA
import Derived.LaidMore
import Derived.OpenShut
import Derived.MakeChecks
import Derived.Lib.LaidTab
import Derived.Stop.Joined
import Derived.Test.YtmpmfamiegpmgaaGreatDoorGJH
import Derived.ProofKit
import Derived.ShutString
import Derived.ChangeOld
import Derived.Below
import Derived.Carry
import Derived.Lib.SmallJoins
import Derived.Deep.SlicePairs
import Derived.Deep.RegionHeld
import Derived.Test.YtmpmfamiegpmgaaGreatDoorGJD
import Derived.Test.YtmpmfamiegpmgaaGreatDoorTie
import Derived.Test.YtmpmfamiegpmgaaGreatDoorCards
import Derived.SevenTiedAt
namespace Go.Proofs.YtmpmfamiegpmgaaGreatDoor
open Go.ChangeShapes Go.WideShapes Go.ChangeAt Go.RowKit
set_option linter.unusedVariables false
theorem XM:Tryz.prog.globalNamed "oriel/name.keywords"=some 0:=by kernel_rfl
theorem Xx:(Tryz.prog.globals[0]?).map (·.type)=some 227:=by kernel_rfl
theorem xn {H:Type} {enc:TypeId × Value→H} {w:World} {base:Nat} {sp:Nat→Bool} {held:Bool} {fuel:Nat} {cs:List Value} {zs:List ByteArray} {p:List MemPlace}
  (h:DataW.trod enc Tryz.prog w base sp held fuel 227 cs=some (.agg (zs.map fun z=>.lit (.string z.data.toList)),p)):cs=zs.map Value.string:=by
 obtain ⟨xs,m,_,hx,hl,hn,hi⟩:=DataW.trod_array Tryz.underlying227 h;have c9:Tryz.prog.cellsOf 9=1:=by kernel_rfl
 have c43:Tryz.prog.cellsOf 227=25:=by kernel_rfl
 rw [c43] at hl;rw [c9] at hi;have hxs:xs.map (·.1)=zs.map fun z=>(DataW.lit (.string z.data.toList):DataW H):=by
  have:=congrArg Prod.fst hx
  simp only [DataW.agg.injEq] at this;exact this.symm
 have hz:zs.length=25:=by have:=congrArg List.length hxs; simp at this; omega
 apply List.ext_getElem?
 intro i
 by_cases hlt:i < 25
 ·have h1:=hi i hlt
  rw [List.getElem?_eq_getElem (show i < xs.length by omega)] at h1;obtain ⟨s,hc,hd,_⟩:=DataW.trod_string Tryz.underlying9 h1;have e1:cs[i]?=some (.string s):=by
   have:=congrArg (·[0]?) hc
   simpa [List.getElem?_take,List.getElem?_drop] using this
  have e2:(xs.map (·.1))[i]?=some (DataW.lit (.string s.data.toList):DataW H):=by
   rw [List.getElem?_map,List.getElem?_eq_getElem (show i < xs.length by omega)]
   simp [hd]
  rw [hxs] at e2;simp only [List.getElem?_map,Option.map_eq_some_iff,DataW.lit.injEq,Lit.string.injEq] at e2;obtain ⟨z,hz1,hz2⟩:=e2
  have:z=s:=by rw [← Lib.mk_data z,← Lib.mk_data s,hz2]
  rw [e1,List.getElem?_map,hz1,this]; rfl
 ·rw [List.getElem?_eq_none (by omega),List.getElem?_eq_none (by simp; omega)]
theorem FX {W:World} (h:laidMetH Tryz.prog Rows.astOnceRow.laid W):Kw W:=by
 rw [MakeChecks.laidMetH_plain _ _ _ (by kernel_rfl)] at h;obtain ⟨ps,⟨g3,t3,cs3,f3,p3,q3,hg3,ht3,hv3,hd3,_,_⟩,_,_⟩:=h;obtain rfl:=Option.some.inj (XM.symm.trans hg3);obtain rfl:=Option.some.inj (Xx.symm.trans ht3);have hc:=xn (zs:=kwT) hd3;have hv:W.var? Tryz.prog "oriel/name.keywords"=some cs3:=hv3
 simp only [World.var?,XM,Option.bind_some] at hv
 split at hv
 ·rename_i cs t fr hcell
  have e:cs=cs3:=Option.some.inj hv;have e2:cs3=kwV:=by unfold kwV; rw [← hc]
  rw [e,e2] at hcell;exact Kw.of hcell
 ·cases hv
theorem Uk (os:Os) (args:Array Value):laidMetH Tryz.prog Rows.astOnceRow.laid ((World.doorLaid Tryz.prog 14 os).forCall (fun _ _=>0) ⟨#[],args,[]⟩).memory :=
 laidMetH_of_parts3 (fuel:=8) (laidMet_of_run' 8 (by kernel_rfl) (by kernel_rfl)) (by kernel_rfl) (by kernel_rfl)
namespace unitKeepsDone
theorem own:ownKnob Tryz.prog.godebug=none:=by kernel_rfl
theorem laidOut:laidOutB Tryz.prog=true:=by kernel_rfl
set_option maxRecDepth 100000 in
theorem lifted (os:Os) (started:os.Started) (H:Type) (enc:TypeId × Value→H) :
  ReturnsInHanded {} Tryz.checked os 12 .any (fun w args=>(Rows.unitKeepsSpec.pre enc Tryz.prog Tryz.f12 [] false w args∧laidMetH Tryz.prog Rows.unitKeepsRow.laid w)∧sizedMet enc Tryz.prog Tryz.f12 (OpenSpec.ofChange Rows.unitKeepsSpec) false w args)
   (Rows.unitKeepsSpec.post enc Tryz.prog Tryz.f12 false true false false):=by
 refine returnsInHanded_of_change_and (C:=Tryz.checked) (X:=fun w _=>laidMetH Tryz.prog Rows.unitKeepsRow.laid w) (fun _ _ _ hh h=>h.of_heap hh) own started (by kernel_rfl) Tryz.func12
  (ChangeSpec.witness_shaped (enc:=enc) (C:=Tryz.checked) (os:=os) (X:=fun w _=>laidMetH Tryz.prog Rows.unitKeepsRow.laid w) false (World.doorLaid Tryz.prog 14 os) #[.slice none 0 0] 8 rfl (World.shaped_of_RefB (by kernel_rfl) (by kernel_rfl)) (by kernel_rfl) (by kernel_rfl) (by kernel_rfl) (Uk os _)) ?_
 intro W base args ds gs before hval0 hW _ _ hL _;have hval:∀ (j:Nat) t v,Tryz.f12.params[j]?=some t→args[j]?=some v→Value.okWide Tryz.prog W .any base t v:=hval0
 have hW':=hW;obtain ⟨p,q,hA0,hV,rfl,hfz,hnd⟩:=hW;have hA:DataW.TrodAll enc Tryz.prog W 0 (fun _=>true) true Tryz.f12.params.toList args.toList ds p:=hA0;rw [Tryz.params12] at hA hval;obtain ⟨v0,vs0,d0,ds0,p0,q0,hargs,rfl,rfl,h0,r0⟩:=trodAll_cons hA;obtain ⟨rfl,rfl,rfl⟩:=trodAll_nil r0;obtain rfl:args=#[v0]:=by cases args; simp_all
 obtain ⟨rfl,rfl⟩:=trodVars_none hV;have k0:=h0;have lt0:∀ x ∈ p0,x.block < W.heap.size:=by obtain ⟨m,hm⟩:=k0; exact DataW.trod_lt m _ _ _ hm
 obtain ⟨p0',n0,c0,l0,rfl,hn0,i0⟩:=I7 (hval 0 61 v0 rfl rfl) h0;have hkw:=FX hL;clear hA0 hval0;refine (Gj p0' n0 c0 l0 W hn0 i0 hkw).mono fun e W' ⟨he,bel⟩=>?_
 subst he;exact ⟨_,rfl,_,_,_,[],_,[],hW',trodAll_mk1 (shut_bool Tryz.underlying4 _),(trodAll_cons_mk (Below.trod laidOut (by kernel_rfl) (of_decide_eq_true (by kernel_rfl)) k0 bel lt0) trodAll_mk0),rfl,bel.frame _,fun h=>by cases h⟩
end unitKeepsDone
end Go.Proofs.YtmpmfamiegpmgaaGreatDoor
