/-
  The law AstLooks, as its row wants it.; From the rows' condition: the array of keywords lies where it was laid.; AstLooks: each call, from what its walk says.
-/
import Derived.Test.YtmpmfamiegpmgaaGreatDoorHF
import Derived.Test.YtmpmfamiegpmgaaGreatDoorRows
import Derived.Test.YtmpmfamiegpmgaaGreatDoorGA
import Derived.LaidMore
import Derived.OpenShut
import Derived.MakeChecks
import Derived.Lib.LaidTab
import Derived.Stop.Joined
import Derived.ProofKit
import Derived.ShutString
import Derived.ChangeOld
import Derived.Below
import Derived.Carry
import Derived.Lib.SmallJoins
import Derived.Deep.SlicePairs
import Derived.Deep.RegionHeld
import Derived.Test.YtmpmfamiegpmgaaGreatDoorHD
import Derived.Test.YtmpmfamiegpmgaaGreatDoorTie
import Derived.Test.YtmpmfamiegpmgaaGreatDoorCards
import Derived.SevenTiedAt
namespace Go.Proofs.YtmpmfamiegpmgaaGreatDoor
open Go.RowKit
theorem Es (b0 b1:Br) (p2:Option Addr) (n2 c2:Nat) (l2:Nat→Bool) (p3:Option Addr) (n3 c3:Nat) (l3:List Int) (w:World) {P:Prop} (h0:b0.Lies w∧Wfs b0) (h1:b1.Lies w∧Wfs b1) (hn2:n2≤maxLen) (i2:MZ w p2 n2 c2 l2) (hn3:n3≤maxLen) (i3:InV mkI w p3 n3 c3 l3) (_:P) (hk:Kw w) :
  Calls Tryz.prog 4 #[b0.h.val,b1.h.val,.slice p2 n2 c2,.slice p3 n3 c3] w fun e w'=>e=.returned (.bool true)∧Below w.heap.size w w' :=
 Jw b0 b1 p2 n2 c2 l2 p3 n3 c3 l3 w h0 h1.1 hn2 i2 hn3 i3 hk
open Go.ChangeShapes Go.WideShapes Go.ChangeAt Go.RowKit
set_option linter.unusedVariables false
theorem WV:Tryz.prog.globalNamed "oriel/name.keywords"=some 0:=by kernel_rfl
theorem Ws:(Tryz.prog.globals[0]?).map (·.type)=some 227:=by kernel_rfl
theorem uN {H:Type} {enc:TypeId × Value→H} {w:World} {base:Nat} {sp:Nat→Bool} {held:Bool} {fuel:Nat} {cs:List Value} {zs:List ByteArray} {p:List MemPlace}
  (h:DataW.trod enc Tryz.prog w base sp held fuel 227 cs=some (.agg (zs.map fun z=>.lit (.string z.data.toList)),p)):cs=zs.map Value.string:=by
 obtain ⟨xs,m,_,hx,hl,hn,hi⟩:=DataW.trod_array Tryz.underlying227 h;have c9:Tryz.prog.cellsOf 9=1:=by kernel_rfl
 have c43:Tryz.prog.cellsOf 227=25:=by kernel_rfl
 rw [c43] at hl;rw [c9] at hi;have hxs:xs.map (·.1)=zs.map fun z=>(DataW.lit (.string z.data.toList):DataW H):=by
  have:=congrArg Prod.fst hx
  simp only [DataW.agg.injEq] at this;exact this.symm
 have hz:zs.length=25:=by have:=congrArg List.length hxs; simp at this; omega
 apply List.ext_getElem?
 intro i
 by_cases hlt:i < 25
 ·have h1:=hi i hlt
  rw [List.getElem?_eq_getElem (show i < xs.length by omega)] at h1;obtain ⟨s,hc,hd,_⟩:=DataW.trod_string Tryz.underlying9 h1;have e1:cs[i]?=some (.string s):=by
   have:=congrArg (·[0]?) hc
   simpa [List.getElem?_take,List.getElem?_drop] using this
  have e2:(xs.map (·.1))[i]?=some (DataW.lit (.string s.data.toList):DataW H):=by
   rw [List.getElem?_map,List.getElem?_eq_getElem (show i < xs.length by omega)]
   simp [hd]
  rw [hxs] at e2;simp only [List.getElem?_map,Option.map_eq_some_iff,DataW.lit.injEq,Lit.string.injEq] at e2;obtain ⟨z,hz1,hz2⟩:=e2
  have:z=s:=by rw [← Lib.mk_data z,← Lib.mk_data s,hz2]
  rw [e1,List.getElem?_map,hz1,this]; rfl
 ·rw [List.getElem?_eq_none (by omega),List.getElem?_eq_none (by simp; omega)]
theorem FU {W:World} (h:laidMetH Tryz.prog Rows.astOnceRow.laid W):Kw W:=by
 rw [MakeChecks.laidMetH_plain _ _ _ (by kernel_rfl)] at h;obtain ⟨ps,⟨g3,t3,cs3,f3,p3,q3,hg3,ht3,hv3,hd3,_,_⟩,_,_⟩:=h;obtain rfl:=Option.some.inj (WV.symm.trans hg3);obtain rfl:=Option.some.inj (Ws.symm.trans ht3);have hc:=uN (zs:=kwT) hd3;have hv:W.var? Tryz.prog "oriel/name.keywords"=some cs3:=hv3
 simp only [World.var?,WV,Option.bind_some] at hv
 split at hv
 ·rename_i cs t fr hcell
  have e:cs=cs3:=Option.some.inj hv;have e2:cs3=kwV:=by unfold kwV; rw [← hc]
  rw [e,e2] at hcell;exact Kw.of hcell
 ·cases hv
theorem TN (os:Os) (args:Array Value):laidMetH Tryz.prog Rows.astOnceRow.laid ((World.doorLaid Tryz.prog 14 os).forCall (fun _ _=>0) ⟨#[],args,[]⟩).memory :=
 laidMetH_of_parts3 (fuel:=8) (laidMet_of_run' 8 (by kernel_rfl) (by kernel_rfl)) (by kernel_rfl) (by kernel_rfl)
namespace astLooksDone
theorem own:ownKnob Tryz.prog.godebug=none:=by kernel_rfl
theorem laidOut:laidOutB Tryz.prog=true:=by kernel_rfl
set_option maxRecDepth 100000 in
theorem lifted (os:Os) (started:os.Started) (H:Type) (enc:TypeId × Value→H) :
  ReturnsInHanded {} Tryz.checked os 4 .any (fun w args=>(Rows.astLooksSpec.pre enc Tryz.prog Tryz.f4 [] false w args∧laidMetH Tryz.prog Rows.astLooksRow.laid w)∧sizedMet enc Tryz.prog Tryz.f4 (OpenSpec.ofChange Rows.astLooksSpec) false w args)
   (Rows.astLooksSpec.post enc Tryz.prog Tryz.f4 false true false false):=by
 refine returnsInHanded_of_change_and (C:=Tryz.checked) (X:=fun w _=>laidMetH Tryz.prog Rows.astLooksRow.laid w) (fun _ _ _ hh h=>h.of_heap hh) own started (by kernel_rfl) Tryz.func4
  (ChangeSpec.witness_shaped (enc:=enc) (C:=Tryz.checked) (os:=os) (X:=fun w _=>laidMetH Tryz.prog Rows.astLooksRow.laid w) false (World.doorLaid Tryz.prog 14 os) #[.agg #[.int .i64 0,.int .i64 0,.int .i64 0,.int .i64 0,.slice none 0 0,.slice none 0 0],.agg #[.int .i64 0,.int .i64 0,.int .i64 0,.int .i64 0,.slice none 0 0,.slice none 0 0],.slice none 0 0,.slice none 0 0] 8 rfl (World.shaped_of_RefB (by kernel_rfl) (by kernel_rfl)) (by kernel_rfl) (by kernel_rfl) (by kernel_rfl) (TN os _)) ?_
 intro W base args ds gs before hval0 hW _ _ hL _;have hval:∀ (j:Nat) t v,Tryz.f4.params[j]?=some t→args[j]?=some v→Value.okWide Tryz.prog W .any base t v:=hval0
 have hW':=hW;obtain ⟨p,q,hA0,hV,rfl,hfz,hnd⟩:=hW;have hA:DataW.TrodAll enc Tryz.prog W 0 (fun _=>true) true Tryz.f4.params.toList args.toList ds p:=hA0;rw [Tryz.params4] at hA hval;obtain ⟨v0,vs0,d0,ds0,p0,q0,hargs,rfl,rfl,h0,r0⟩:=trodAll_cons hA;obtain ⟨v1,vs1,d1,ds1,p1,q1,rfl,rfl,rfl,h1,r1⟩:=trodAll_cons r0;obtain ⟨v2,vs2,d2,ds2,p2,q2,rfl,rfl,rfl,h2,r2⟩:=trodAll_cons r1;obtain ⟨v3,vs3,d3,ds3,p3,q3,rfl,rfl,rfl,h3,r3⟩:=trodAll_cons r2;obtain ⟨rfl,rfl,rfl⟩:=trodAll_nil r3;obtain rfl:args=#[v0,v1,v2,v3]:=by cases args; simp_all
 obtain ⟨rfl,rfl⟩:=trodVars_none hV;have k0:=h0;have lt0:∀ x ∈ p0,x.block < W.heap.size:=by obtain ⟨m,hm⟩:=k0; exact DataW.trod_lt m _ _ _ hm
 have k1:=h1;have lt1:∀ x ∈ p1,x.block < W.heap.size:=by obtain ⟨m,hm⟩:=k1; exact DataW.trod_lt m _ _ _ hm
 have k2:=h2;have lt2:∀ x ∈ p2,x.block < W.heap.size:=by obtain ⟨m,hm⟩:=k2; exact DataW.trod_lt m _ _ _ hm
 have k3:=h3;have lt3:∀ x ∈ p3,x.block < W.heap.size:=by obtain ⟨m,hm⟩:=k3; exact DataW.trod_lt m _ _ _ hm
 obtain ⟨b0,rfl,l0⟩:=vH (hval 0 26 v0 rfl rfl) h0;obtain ⟨b1,rfl,l1⟩:=vH (hval 1 26 v1 rfl rfl) h1;obtain ⟨p2',n2,c2,l2,rfl,hn2,i2⟩:=Ju (hval 2 27 v2 rfl rfl) h2;obtain ⟨p3',n3,c3,l3,rfl,hn3,i3,g3⟩:=LH (hval 3 23 v3 rfl rfl) h3;have hkw:=FU hL;clear hA0 hval0;refine (Es b0 b1 p2' n2 c2 l2 p3' n3 c3 l3 W l0 l1 hn2 i2 hn3 i3 g3 hkw).mono fun e W' ⟨he,bel⟩=>?_
 subst he;exact ⟨_,rfl,_,_,_,[],_,[],hW',trodAll_mk1 (shut_bool Tryz.underlying4 _),(trodAll_cons_mk (Below.trod laidOut (by kernel_rfl) (of_decide_eq_true (by kernel_rfl)) k0 bel lt0) (trodAll_cons_mk (Below.trod laidOut (by kernel_rfl) (of_decide_eq_true (by kernel_rfl)) k1 bel lt1) (trodAll_cons_mk (Below.trod laidOut (by kernel_rfl) (of_decide_eq_true (by kernel_rfl)) k2 bel lt2) (trodAll_cons_mk (Below.trod laidOut (by kernel_rfl) (of_decide_eq_true (by kernel_rfl)) k3 bel lt3) trodAll_mk0)))),rfl,bel.frame _,fun h=>by cases h⟩
end astLooksDone
end Go.Proofs.YtmpmfamiegpmgaaGreatDoor
