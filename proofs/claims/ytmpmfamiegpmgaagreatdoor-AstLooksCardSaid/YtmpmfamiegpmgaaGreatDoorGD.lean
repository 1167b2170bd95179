/-
  A region in whatever order, with a condition on the world that holds till one operation, a store, comes up: what is loaded ahead of the store may be taken first.; A region whose frame is a letter: what its slots hold is said in a list; each operation adds a line to it.
-/
import Derived.Test.YtmpmfamiegpmgaaGreatDoorGA
import Derived.OrdersHeld
namespace Go.Proofs.YtmpmfamiegpmgaaGreatDoor
open Go.RowKit
set_option linter.unusedVariables false
section
variable {P:Program} {ops:Array Oper} {Q:Exit→Act→World→Prop} {S:World→Prop} {st:Nat}
def dV (P:Program) (ops:Array Oper) (Q:Exit→Act→World→Prop) (S:World→Prop) (st:Nat):Nat→Array Bool→Act→World→Prop
 | 0,listed,a,w=>Region.ready .any ops listed=[]∧Q .normal a w
 | fuel+1,listed,a,w=>(Region.ready .any ops listed=[]→Q .normal a w) ∧
  ∀ i ∈ Region.ready .any ops listed,wpOp P ops Q i (fun a' w'=>((listed.setIfInBounds i true).getD st true=false→S w')∧dV P ops Q S st fuel (listed.setIfInBounds i true) a' w') a w
theorem pq:∀ (fuel:Nat) (listed:Array Bool) (a:Act) (w:World),dV P ops Q S st fuel listed a w→wpAny P .any ops Q fuel listed a w
 | 0,_,_,_,h=>h
 | fuel+1,_,_,_,h=>⟨h.1,fun i hi=>wpOp_mono (fun a' w' k=>pq fuel _ a' w' k.2) (h.2 i hi)⟩
def pR (ops:Array Oper) (i:Nat) (listed:Array Bool) (U:List Nat):Bool :=
 U.all fun u=>(listed.getD u true == false) && match ops[u]? with
  | some o=>o.after.any fun e=>Region.binds .any e && (e.on == i || U.contains e.on)
  | none=>false
theorem rU {l:Array Bool} {i:Nat} (h:l.getD i true=false):l.getD i false=false:=by
 rcases Nat.lt_or_ge i l.size with h' | h'
 ·simp [h'] at h ⊢; exact h
 ·simp [Array.getElem?_eq_none h']
theorem ET {i:Nat} {listed:Array Bool} {U:List Nat} (h:pR ops i listed U=true) (hi:listed.getD i true=false):∀ u ∈ U,listed.getD u true=false∧u ∉ Region.ready .any ops listed:=by
 have hall:∀ u ∈ U,listed.getD u true=false:=fun u hu=>by
  have:=List.all_eq_true.1 h u hu
  simp only [Bool.and_eq_true,beq_iff_eq] at this;exact this.1
 intro u hu;refine ⟨hall u hu,fun hr=>?_⟩
 obtain ⟨_,o,ho,Uk⟩:=mem_ready.1 hr;have h2:=List.all_eq_true.1 h u hu;simp only [Bool.and_eq_true,ho] at h2;obtain ⟨e,he,hb⟩:=Array.any_eq_true'.1 h2.2;simp only [Bool.and_eq_true,Bool.or_eq_true,beq_iff_eq] at hb;have h3:=Uk e he hb.1
 rcases hb.2 with h4 | h4
 ·rw [h4,rU hi] at h3; cases h3
 ·rw [rU (hall _ (List.contains_iff_mem.1 h4))] at h3; cases h3
theorem EU {i j:Nat} {listed:Array Bool} {U:List Nat} (h:pR ops i listed U=true) (hj:j ∉ U):pR ops i (listed.setIfInBounds j true) U=true:=by
 refine List.all_eq_true.2 fun u hu=>?_
 have:=List.all_eq_true.1 h u hu
 rw [getD_set_ne true (show j≠u from fun e=>hj (e ▸ hu))];exact this
theorem zO {i:Nat} {oi:Oper} {v:Value} {U:List Nat} (hi:ops[i]?=some oi) (hst:st ∈ U) (hiU:i ∉ U) (hsel:∀ (j:Nat) (o:Oper) cs b,ops[j]?=some o→o.op≠.select cs b)
  (hQ:∀ c a w,Q (.panic c) (a.put oi.dst v) w→Q (.panic c) a w) :
  ∀ (fuel:Nat) (listed:Array Bool) (a:Act) (w:World),
   (∀ j oj,ops[j]?=some oj→j≠i→listed.getD j true=false→(∀ e ∈ oj.after,Region.binds .any e=true→e.on≠i)→oi.apart ops oj=true) →
   i ∈ Region.ready .any ops listed→pR ops i listed U=true→YieldsIf P ops S oi v a→S w →
   dV P ops Q S st fuel (listed.setIfInBounds i true) (a.put oi.dst v) w→dV P ops Q S st (fuel+1) listed a w:=by
 intro fuel
 induction fuel with
 | zero =>
  intro listed a w _ hr _ hy hS H;refine ⟨fun h=>(by rw [h] at hr; cases hr),fun j hj=>?_⟩
  by_cases hji:j=i
  ·subst hji; exact hy.wpOp hi hS ⟨fun _=>hS,H⟩
  ·have:=ready_mono hj hji
   rw [H.1] at this
   cases this
 | succ fuel ih =>
  intro listed a w hfree hr hw hy hS H;refine ⟨fun h=>(by rw [h] at hr; cases hr),fun j hj=>?_⟩
  have hi0:=(mem_ready.1 hr).1;have hU:=ET hw hi0
  by_cases hji:j=i
  ·subst hji; exact hy.wpOp hi hS ⟨fun _=>hS,H⟩
  ·have h1:=H.2 j (ready_mono hj hji)
   obtain ⟨hjun,oj,hoj,hall⟩:=mem_ready.1 hj;have Z7:j ∉ U:=fun h=>(hU j h).2 hj
   have hnot:∀ e ∈ oj.after,Region.binds .any e=true→e.on≠i:=fun e he hb heq=>by
    have h2:=hall e he hb;rw [heq,rU hi0] at h2
    cases h2
   have h2:=wpOp_putIf hoj (hfree j oj hoj hji hjun hnot) (fun cs b=>hsel i oi cs b hi) (fun cs b=>hsel j oj cs b hoj) hQ hy h1;have hfree':∀ k ok,ops[k]?=some ok→k≠i→(listed.setIfInBounds j true).getD k true=false →
     (∀ e ∈ ok.after,Region.binds .any e=true→e.on≠i)→oi.apart ops ok=true:=fun k ok hk hki hun hno=>by
    refine hfree k ok hk hki ?_ hno
    by_cases hjk:j=k
    ·subst hjk; exact hjun
    ·rw [getD_set_ne true hjk] at hun; exact hun
   refine wpOp_mono (fun a' w' h3=>?_) h2
   have hS':S w':=h3.2.1 (by
    rw [getD_set_ne true (show j≠st from fun e=>Z7 (e ▸ hst)),getD_set_ne true (show i≠st from fun e=>hiU (e ▸ hst))];exact (hU st hst).1)
   refine ⟨fun _=>hS',ih (listed.setIfInBounds j true) a' w' hfree' (ready_mono hr (Ne.symm hji)) (EU hw Z7) h3.1 hS' ?_⟩
   rw [Array.setIfInBounds_comm _ _ hji];exact h3.2.2
theorem sN (i:Nat) (U:List Nat) {oi:Oper} {v:Value} {fuel:Nat} {listed:Array Bool} {a:Act} {w:World} (hi:ops[i]?=some oi)
  (hs:Region.noSelect ops=true) (hf:Region.free .any ops listed i=true) (hr:(Region.ready .any ops listed).contains i=true) (hU:(pR ops i listed U && U.contains st && !U.contains i)=true)
  (hQ:∀ c a w,Q (.panic c) (a.put oi.dst v) w→Q (.panic c) a w) (hy:YieldsIf P ops S oi v a) (hS:S w)
  (h:dV P ops Q S st fuel (listed.setIfInBounds i true) (a.put oi.dst v) w):dV P ops Q S st (fuel+1) listed a w:=by
 simp only [Bool.and_eq_true,Bool.not_eq_true'] at hU;exact zO hi (List.contains_iff_mem.1 hU.1.2) (fun h=>by rw [List.contains_iff_mem.2 h] at hU; cases hU.2) (Region.noSelect_spec hs) hQ fuel listed a w (Region.free_spec hi hf) (by simpa using hr) hU.1.1 hy hS h
theorem uA (i:Nat) {o:Oper} {fuel:Nat} {listed:Array Bool} {a:Act} {w:World} (hr:Region.ready .any ops listed=[i]) (ho:ops[i]?=some o)
  (h:∀ K':Act→World→Prop,Hid (∀ a w,((listed.setIfInBounds i true).getD st true=false→S w)→dV P ops Q S st fuel (listed.setIfInBounds i true) a w→K' a w)→if Region.wanted o (yielded ops a.tmps)=true then Oper.wp P o a w K' Q else K' (a.put o.dst undef) w) :
  dV P ops Q S st (fuel+1) listed a w:=by
 refine ⟨fun h0=>(by rw [hr] at h0; cases h0),fun j hj=>?_⟩
 rw [hr] at hj;obtain rfl:=List.mem_singleton.1 hj;exact wpOp_step ho (fun K' hK=>h K' (Lib.hid fun a w h1 h2=>hK a w ⟨h1,h2⟩))
theorem bu {listed:Array Bool} {a:Act} {w:World} (hr:Region.ready .any ops listed=[]) (h:Q .normal a w):∀ fuel,dV P ops Q S st fuel listed a w
 | 0=>⟨hr,h⟩
 | _+1=>⟨fun _=>h,by rw [hr]; simp⟩
theorem aY {id:Nat} {a:Act} {w:World} (S:World→Prop) (st:Nat) (hm:P.follows .mixedOrders=true)
  (h:dV P ops Q S st ops.size (Array.replicate ops.size false) a w.drew):(Code.region id ops true).wp P Q a w :=
 wp_region_any hm (pq _ _ _ _ h)
end
def Fs (a:Act) (N:Nat) (L:List (Nat × Value)):Prop :=
 a.tmps.size=N∧a.defers=[]∧∀ k v,L.lookup k=some v→a.eval (.tmp k)=v
theorem Fs.get {a:Act} {N:Nat} {L:List (Nat × Value)} (h:Fs a N L) (k:Nat) {v:Value} (hk:L.lookup k=some v):a.eval (.tmp k)=v:=h.2.2 k v hk
theorem Fs.put {a:Act} {N:Nat} {L:List (Nat × Value)} (h:Fs a N L) {d:Nat} (hd:d < N) (v:Value):Fs (a.put (some d) v) N ((d,v) :: L):=by
 obtain ⟨hs,hf,hl⟩:=h;refine ⟨by simp [Act.put,hs],by simp [Act.put,hf],fun k x hk=>?_⟩
 by_cases hkd:k=d
 ·subst hkd
  simp only [List.lookup,beq_self_eq_true] at hk;have hx:v=x:=Option.some.inj hk;subst hx
  simp [Act.eval,Act.put,hs,hd]
 ·have hb:(k == d)=false:=by simp [hkd]
  simp only [List.lookup,hb] at hk
  have:=hl k x hk
  simp only [Act.eval] at this ⊢;rw [← this]
  simp [Act.put,Ne.symm hkd]
theorem ag {o:Oper} {y:Nat→Option Bool} (h:o.guard=none):Region.wanted o y=true:=by
 unfold Region.wanted; rw [h]
section
variable {P:Program} {ops:Array Oper} {Q:Exit→Act→World→Prop} {S:World→Prop} {st:Nat}
theorem aF {k:Nat} {v:Value} {N:Nat} {L:List (Nat × Value)} {o:Oper} (ho:o.op=.move (.tmp k)) (hk:L.lookup k=some v):∀ a',Fs a' N L→∀ w',S w'→(execOp a'.eval o).run P w'=.ok (.value v) w':=fun a' h w' _=>by
 rw [BigFrame.run_move (.tmp k) ho,h.get k hk]
end
theorem Fs.of {a:Act} {N:Nat} {L:List (Nat × Value)} (hs:a.tmps.size=N) (hd:a.defers=[]) (h:∀ p ∈ L,a.eval (.tmp p.1)=p.2):Fs a N L:=by
 refine ⟨hs,hd,fun k v hk=>?_⟩
 induction L with
 | nil=>simp at hk
 | cons p r ih =>
  obtain ⟨j,x⟩:=p
  by_cases hkj:k=j
  ·subst hkj
   simp only [List.lookup,beq_self_eq_true] at hk;rw [← Option.some.inj hk];exact h _ (List.mem_cons_self ..)
  ·have hb:(k == j)=false:=by simp [hkj]
   simp only [List.lookup,hb] at hk;exact ih (fun q hq=>h q (List.mem_cons_of_mem _ hq)) hk
theorem Fs.wantedB {a:Act} {N:Nat} {L:List (Nat × Value)} (h:Fs a N L) {ops:Array Oper} {o:Oper} {j dj:Nat} {b:Bool} (hg:o.guard=some (j,b)) (hd:(ops[j]?).bind (·.dst)=some dj) (hN:dj < N) (hl:L.lookup dj=some (.bool b)) :
  Region.wanted o (yielded ops a.tmps)=true:=by
 have h1:=h.get dj hl;have h2:a.tmps[dj]?=some (.bool b):=by
  have hlt:dj < a.tmps.size:=by rw [h.1]; exact hN
  rw [Array.getElem?_eq_getElem hlt];simp only [Act.eval,Array.getD_eq_getD_getElem?,Array.getElem?_eq_getElem hlt,Option.getD_some] at h1;rw [h1]
 unfold Region.wanted;rw [hg]
 simp [yielded,hd,h2]
theorem Fs.unwanted {a:Act} {N:Nat} {L:List (Nat × Value)} (h:Fs a N L) {ops:Array Oper} {o:Oper} {j dj:Nat} {b:Bool} {v:Value} (hg:o.guard=some (j,b)) (hd:(ops[j]?).bind (·.dst)=some dj) (hN:dj < N) (hl:L.lookup dj=some v) (hv:v≠.bool b) :
  Region.wanted o (yielded ops a.tmps)=false:=by
 have h1:=h.get dj hl;have h2:a.tmps[dj]?=some v:=by
  have hlt:dj < a.tmps.size:=by rw [h.1]; exact hN
  rw [Array.getElem?_eq_getElem hlt];simp only [Act.eval,Array.getD_eq_getD_getElem?,Array.getElem?_eq_getElem hlt,Option.getD_some] at h1;rw [h1]
 unfold Region.wanted;rw [hg];simp only [yielded,hd,h2,Option.bind_some]
 cases v <;> first | rfl | (rename_i q; cases q <;> cases b <;> first | rfl | exact absurd rfl hv)
section
variable {P:Program} {ops:Array Oper} {Q:Exit→Act→World→Prop} {S:World→Prop} {st:Nat}
theorem dL {N:Nat} (L:List (Nat × Value)) {fuel:Nat} {listed:Array Bool} {a:Act} {w:World} (hF:Fs a N L) (h:∀ a0,a0=a→Fs a0 N L→dV P ops Q S st fuel listed a0 w):dV P ops Q S st fuel listed a w:=h a rfl hF
theorem ax (i:Nat) (U:List Nat) {oi:Oper} {d:Nat} {v:Value} {N:Nat} {L:List (Nat × Value)} {fuel:Nat} {listed:Array Bool} {a:Act} {w:World} (hF:Fs a N L) (hS:S w) (hi:ops[i]?=some oi) (hd:oi.dst=some d) (hdN:d < N)
  (hs:Region.noSelect ops=true) (hf:Region.free .any ops listed i=true) (hr:(Region.ready .any ops listed).contains i=true) (hU:(pR ops i listed U && U.contains st && !U.contains i)=true)
  (hQ:∀ c a w,Q (.panic c) (a.put (some d) v) w→Q (.panic c) a w)
  (hw:∀ a',Fs a' N L→Region.wanted oi (yielded ops a'.tmps)=true)
  (hrun:∀ a',Fs a' N L→∀ w',S w'→(execOp a'.eval oi).run P w'=.ok (.value v) w')
  (h:Fs (a.put (some d) v) N ((d,v) :: L)→dV P ops Q S st fuel (listed.setIfInBounds i true) (a.put (some d) v) w):dV P ops Q S st (fuel+1) listed a w:=by
 refine sN i U hi hs hf hr hU (fun c a w h=>by rw [hd] at h; exact hQ c a w h) (Or.inl ⟨hw a hF,hrun a hF⟩) hS ?_
 rw [hd];exact h (hF.put hdN v)
theorem GU (i:Nat) (U:List Nat) {oi:Oper} {d:Nat} {N:Nat} {L:List (Nat × Value)} {fuel:Nat} {listed:Array Bool} {a:Act} {w:World} (hF:Fs a N L) (hS:S w) (hi:ops[i]?=some oi) (hd:oi.dst=some d) (hdN:d < N)
  (hs:Region.noSelect ops=true) (hf:Region.free .any ops listed i=true) (hr:(Region.ready .any ops listed).contains i=true) (hU:(pR ops i listed U && U.contains st && !U.contains i)=true)
  (hQ:∀ c a w,Q (.panic c) (a.put (some d) undef) w→Q (.panic c) a w)
  (hw:∀ a',Fs a' N L→Region.wanted oi (yielded ops a'.tmps)=false)
  (h:Fs (a.put (some d) undef) N ((d,undef) :: L)→dV P ops Q S st fuel (listed.setIfInBounds i true) (a.put (some d) undef) w):dV P ops Q S st (fuel+1) listed a w:=by
 refine sN i U (v:=undef) hi hs hf hr hU (fun c a w h=>by rw [hd] at h; exact hQ c a w h) (Or.inr ⟨hw a hF,rfl⟩) hS ?_
 rw [hd];exact h (hF.put hdN undef)
theorem lh (i:Nat) {oi:Oper} {d:Nat} {f:FuncId} {args:Array Value} {N:Nat} {L:List (Nat × Value)} {R:Ending→World→Prop} {fuel:Nat} {listed:Array Bool} {a:Act} {w:World} (hF:Fs a N L) (hi:ops[i]?=some oi) (hd:oi.dst=some d) (hdN:d < N)
  (hr:Region.ready .any ops listed=[i])
  (hw:∀ a',Fs a' N L→Region.wanted oi (yielded ops a'.tmps)=true)
  (hrun:∀ a',Fs a' N L→(execOp a'.eval oi).run P w=.ok (.enter f args) w)
  (hc:Calls P f args w R) (hout:∀ w',¬ R .outgrown w')
  (Q7:∀ ch w',R (.panicked ch) w'→Q (.panic ch) a w')
  (hret:∀ v w',R (.returned v) w'→((listed.setIfInBounds i true).getD st true=false→S w')∧(Fs (a.put (some d) v) N ((d,v) :: L)→dV P ops Q S st fuel (listed.setIfInBounds i true) (a.put (some d) v) w')):dV P ops Q S st (fuel+1) listed a w:=by
 refine uA i hr hi ?_
 intro K' hK;rw [if_pos (hw a hF)];unfold Oper.wp;rw [hrun a hF,Oper.upon_enter];refine hc.mono ?_
 intro e w' h
 cases e with
 | returned v =>
  obtain ⟨h1,h2⟩:=hret v w' h;refine hK.out _ _ h1 ?_
  rw [hd];exact h2 (hF.put hdN v)
 | panicked ch=>exact Q7 ch w' h
 | outgrown=>exact absurd h (hout w')
theorem EI (i:Nat) {oi:Oper} {d:Nat} {v:Value} {N:Nat} {L:List (Nat × Value)} {fuel:Nat} {listed:Array Bool} {a:Act} {w:World} (hF:Fs a N L) (hi:ops[i]?=some oi) (hd:oi.dst=some d) (hdN:d < N) (hst:(listed.setIfInBounds i true).getD st true=true)
  (hr:Region.ready .any ops listed=[i])
  (hw:∀ a',Fs a' N L→Region.wanted oi (yielded ops a'.tmps)=true)
  (hrun:∀ a',Fs a' N L→(execOp a'.eval oi).run P w=.ok (.value v) w)
  (h:Fs (a.put (some d) v) N ((d,v) :: L)→dV P ops Q S st fuel (listed.setIfInBounds i true) (a.put (some d) v) w):dV P ops Q S st (fuel+1) listed a w:=by
 refine uA i hr hi ?_
 intro K' hK;rw [if_pos (hw a hF)];unfold Oper.wp;rw [hrun a hF,Oper.upon_value];refine hK.out _ _ (fun h=>absurd (hst.symm.trans h) (by decide)) ?_
 rw [hd];exact h (hF.put hdN v)
end
end Go.Proofs.YtmpmfamiegpmgaaGreatDoor
