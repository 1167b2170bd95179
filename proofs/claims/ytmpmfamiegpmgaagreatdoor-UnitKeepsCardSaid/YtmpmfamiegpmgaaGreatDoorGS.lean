/-
  The tokens of a text make a source that is good.; The deferred closure of whole: what it makes of a panic, and of none.; whole: a text as one part.; File, Exp, Pat, Type, Sig; read.; The tokens of the chapter's examples.; The chapter's examples.
-/
import Derived.Test.YtmpmfamiegpmgaaGreatDoorGR
import Derived.Test.YtmpmfamiegpmgaaGreatDoorGG
namespace Go.Proofs.YtmpmfamiegpmgaaGreatDoor
open Tryz
open Go.Lib (cell_of_heap hid toList_data)
open Go.RowKit
set_option maxRecDepth 20000
set_option linter.unusedVariables false
set_option linter.unusedSimpArgs false
theorem tH:∀ (n a:Nat) (l:List UInt8),(∀ t ∈ dK n a l,a≤t.a∧t.a < t.e∧t.e≤a+l.length∧t.k≠0)∧(dK n a l).length≤l.length:=by
 intro n
 induction n with
 | zero=>intro a l; exact ⟨fun t h=>by simp [dK] at h,by simp [dK]⟩
 | succ n ih =>
  intro a l
  cases l with
  | nil=>exact ⟨fun t h=>by simp [dK] at h,by simp [dK]⟩
  | cons c r =>
   have hb:=ou (c :: r) (by simp);obtain ⟨h1,h2⟩:=ih (a+(dw (c :: r)).2) ((c :: r).drop (dw (c :: r)).2);have hl:((c :: r).drop (dw (c :: r)).2).length=(c :: r).length - (dw (c :: r)).2:=by simp
   simp only [dK,List.isEmpty_cons,cond_false];refine ⟨fun t h=>?_,?_⟩
   ·rcases List.mem_cons.1 h with rfl | h
    ·exact ⟨Nat.le_refl _,by simp only; omega,by simp only; omega,zg (c :: r) (by simp)⟩
    ·obtain ⟨q1,q2,q3,q4⟩:=h1 t h
     exact ⟨by omega,q2,by omega,q4⟩
   ·rw [List.length_cons]
    omega
theorem L6 {ask:Int→Bool}:∀ {l:List Tok} {t:Tok},t ∈ gY ask l→t ∈ l:=by
 intro l
 induction l with
 | nil=>intro t h; exact h
 | cons x r ih =>
  intro t h;simp only [gY] at h
  cases hx:ask x.k <;> rw [hx] at h
  ·exact List.mem_cons_of_mem _ (ih h)
  ·rcases List.mem_cons.1 h with rfl | h
   ·exact List.mem_cons_self ..
   ·exact List.mem_cons_of_mem _ (ih h)
def lX (s:ByteArray):List Tok:=gY uP (dK s.size 0 s.data.toList)
theorem jL (s:ByteArray):aO s=lX s++[⟨0,s.size,s.size⟩]:=by
 unfold aO tK gX lX;rw [List.drop_zero,sN]
 rfl
theorem pW (s:ByteArray):(∀ t ∈ lX s,t.a < t.e∧t.e≤s.size∧t.k≠0)∧(lX s).length≤s.size:=by
 have h:=tH s.size 0 s.data.toList;rw [dm] at h;refine ⟨fun t ht=>?_,Nat.le_trans (sK _ _) h.2⟩
 obtain ⟨_,h2,h3,h4⟩:=h.1 t (L6 ht);exact ⟨h2,by omega,h4⟩
theorem FN (S:Src) (hs:S.s.size≤1000000) (ht:S.ts=aO S.s) (hc:S.ts.length≤S.cw) (hg:S.gw≠S.g):S.Good:=by
 obtain ⟨h1,h2⟩:=pW S.s;have e:S.ts=lX S.s++[⟨0,S.s.size,S.s.size⟩]:=ht.trans (jL S.s);have hl:S.ts.length=(lX S.s).length+1:=by rw [e]; simp
 refine ⟨hs,by omega,fun t h=>?_,fun i hi=>?_,fun t h hk=>?_,hc,hg⟩
 ·rw [e] at h
  rcases List.mem_append.1 h with h | h
  ·have:=h1 t h; exact ⟨by omega,this.2.1⟩
  ·obtain rfl:=List.mem_singleton.1 h
   exact ⟨Nat.le_refl _,Nat.le_refl _⟩
 ·rcases Nat.lt_or_ge i (lX S.s).length with hlt | hge
  ·have e2:S.ts[i]=(lX S.s)[i]:=by simp only [e]; exact List.getElem_append_left hlt
   have:=(h1 _ (List.getElem_mem hlt)).2.2
   rw [e2];exact ⟨fun h=>absurd h this,fun h=>by omega⟩
  ·have hi2:i=(lX S.s).length:=by omega
   have e2:S.ts[i]=⟨0,S.s.size,S.s.size⟩:=by
    simp only [e,hi2];rw [List.getElem_append_right (Nat.le_refl _)]
    simp
   rw [e2];exact ⟨fun _=>by omega,fun _=>rfl⟩
 ·rw [e] at h
  rcases List.mem_append.1 h with h | h
  ·exact absurd hk (h1 t h).2.2
  ·obtain rfl:=List.mem_singleton.1 h
   rfl
theorem UY:(prog.info? 194).map (fun i=>(i.zero,i.size,i.bytes))=some (some (.int .i64 0),1,8):=by kernel_rfl
theorem Xz (x:Int) (w:World):Sem.run prog (Instr.typeAssert (.iface 194 (.int .i64 x)) 20 194 true) w=.ok (.tuple #[.int .i64 x,.bool true]) w:=by
 simp [Instr.typeAssert,run_underlying underlying194]
theorem XD (x:Int) (w:World):Sem.run prog (Instr.typeAssert (.iface 195 (.int .i64 x)) 20 195 true) w=.ok (.tuple #[.int .i64 x,.bool true]) w:=by
 simp [Instr.typeAssert,run_underlying underlying195]
theorem SE (x:Int) (w:World):Sem.run prog (Instr.typeAssert (.iface 195 (.int .i64 x)) 20 194 true) w=.ok (.tuple #[.int .i64 0,.bool false]) w:=by
 obtain ⟨i0,hi0,hy0,hy1,hy2⟩:=info_parts UY
 simp [Instr.typeAssert,run_underlying underlying194,zeroValue,hi0,hy0,typeInfo]
structure vG (w:World) (p0 p1 p2:Nat) (k m f t:Int) (np:Option Addr) (nn nc:Nat) (kp:Option Addr) (kn kc:Nat) (a e:Int):Prop where
 b:w.heap[p0]?=some (.cells #[.int .i64 k,.int .i64 m,.int .i64 f,.int .i64 t,.slice np nn nc,.slice kp kn kc] 96 (0,0))
 a:w.heap[p1]?=some (.cells #[.int .i64 a] 3 (0,0))
 e:w.heap[p2]?=some (.cells #[.int .i64 e] 28 (0,0))
abbrev Jz (w:World) (p0:Nat) (k m f t:Int) (np:Option Addr) (nn nc:Nat) (kp:Option Addr) (kn kc:Nat):World :=
 ((((((w.setCell ⟨p0,0,none⟩ (.int .i64 k)).setCell ⟨p0,1,none⟩ (.int .i64 m)).setCell ⟨p0,2,none⟩ (.int .i64 f)).setCell ⟨p0,3,none⟩ (.int .i64 t)).setCell ⟨p0,4,none⟩ (.slice np nn nc)).setCell ⟨p0,5,none⟩ (.slice kp kn kc))
set_option maxHeartbeats 400000 in
theorem catch_idle (p0 p1 p2:Nat) (w:World) :
  CallsD prog 118 #[.pointer (some ⟨p0,0,none⟩),.pointer (some ⟨p1,0,none⟩),.pointer (some ⟨p2,0,none⟩)] .returning w fun e u' w'=>e=.returned (.tuple #[])∧u'=.returning∧w'=w:=by
 refine callsD_of_wpS func118 rfl fun c₀ cs hu=>?_
 apply wpS_seq
 apply wpS_region
 simp [wpOpsS,go_sem,recoverD,hu,ntmps118,Exit.thenS]
 simp only [Array.replicate_succ,Array.replicate_zero,List.push_toArray,List.append_toArray,List.nil_append,List.cons_append,List.setIfInBounds_toArray,List.set_cons_succ,List.set_cons_zero];refine wpS_of_wp ?_
 go_wp2
 cases c₀
 simp_all [bodyPostS,results,results118]
set_option maxHeartbeats 400000 in
theorem xg (p0 p1 p2:Nat) (k m f t:Int) (np:Option Addr) (nn nc:Nat) (kp:Option Addr) (kn kc:Nat) (a e x:Int) (w:World) (h:vG w p0 p1 p2 k m f t np nn nc kp kn kc a e) (h01:p0≠p1) (h02:p0≠p2) (h12:p1≠p2) :
  CallsD prog 118 #[.pointer (some ⟨p0,0,none⟩),.pointer (some ⟨p1,0,none⟩),.pointer (some ⟨p2,0,none⟩)] (.panicking [{ v:=.iface 194 (.int .i64 x),recovered:=false }]) w fun e u' w' =>
   e=.returned (.tuple #[])∧u'=.panicking [{ v:=.iface 194 (.int .i64 x),recovered:=true }]∧w'=((Jz w p0 0 0 0 0 none 0 0 none 0 0).setCell ⟨p1,0,none⟩ (.int .i64 x)).setCell ⟨p2,0,none⟩ (.int .i64 9):=by
 have hcb:=cell_of_heap h.b;have c0:=hcb 0;have c1:=hcb 1;have c2:=hcb 2;have c3:=hcb 3;have c4:=hcb 4;have c5:=hcb 5;have ca:=cell_of_heap h.a 0;have ce:=cell_of_heap h.e 0;simp only [List.getElem?_toArray,List.getElem?_cons_zero,List.getElem?_cons_succ] at c0 c1 c2 c3 c4 c5 ca ce;have f0:w.frozen? ⟨p0,0,none⟩=false:=by simp [World.frozen?,h.b]
 have f1:w.frozen? ⟨p0,1,none⟩=false:=by simp [World.frozen?,h.b]
 have f2:w.frozen? ⟨p0,2,none⟩=false:=by simp [World.frozen?,h.b]
 have f3:w.frozen? ⟨p0,3,none⟩=false:=by simp [World.frozen?,h.b]
 have f4:w.frozen? ⟨p0,4,none⟩=false:=by simp [World.frozen?,h.b]
 have f5:w.frozen? ⟨p0,5,none⟩=false:=by simp [World.frozen?,h.b]
 have fa:w.frozen? ⟨p1,0,none⟩=false:=by simp [World.frozen?,h.a]
 have fe:w.frozen? ⟨p2,0,none⟩=false:=by simp [World.frozen?,h.e]
 have h10:¬ p1=p0:=fun e=>h01 e.symm
 have h20:¬ p2=p0:=fun e=>h02 e.symm
 have h21:¬ p2=p1:=fun e=>h12 e.symm
 clear hcb h;have h63:=Xz x;have h64:=XD x;have Y6:=SE x;refine callsD_of_wpS func118 rfl fun c₀ cs hu=>?_
 apply wpS_seq
 apply wpS_region
 simp [wpOpsS,go_sem,recoverD,hu,ntmps118,Exit.thenS]
 simp only [Array.replicate_succ,Array.replicate_zero,List.push_toArray,List.append_toArray,List.nil_append,List.cons_append,List.setIfInBounds_toArray,List.set_cons_succ,List.set_cons_zero];refine wpS_of_wp ?_
 go_wp2
 cases c₀
 simp_all [bodyPostS,results,results118]
set_option maxHeartbeats 400000 in
theorem Fa (p0 p1 p2:Nat) (k m f t:Int) (np:Option Addr) (nn nc:Nat) (kp:Option Addr) (kn kc:Nat) (a e x:Int) (w:World) (h:vG w p0 p1 p2 k m f t np nn nc kp kn kc a e) (h01:p0≠p1) (h02:p0≠p2) (h12:p1≠p2) :
  CallsD prog 118 #[.pointer (some ⟨p0,0,none⟩),.pointer (some ⟨p1,0,none⟩),.pointer (some ⟨p2,0,none⟩)] (.panicking [{ v:=.iface 195 (.int .i64 x),recovered:=false }]) w fun e u' w' =>
   e=.returned (.tuple #[])∧u'=.panicking [{ v:=.iface 195 (.int .i64 x),recovered:=true }]∧w'=((Jz w p0 0 0 0 0 none 0 0 none 0 0).setCell ⟨p1,0,none⟩ (.int .i64 x)).setCell ⟨p2,0,none⟩ (.int .i64 6):=by
 have hcb:=cell_of_heap h.b;have c0:=hcb 0;have c1:=hcb 1;have c2:=hcb 2;have c3:=hcb 3;have c4:=hcb 4;have c5:=hcb 5;have ca:=cell_of_heap h.a 0;have ce:=cell_of_heap h.e 0;simp only [List.getElem?_toArray,List.getElem?_cons_zero,List.getElem?_cons_succ] at c0 c1 c2 c3 c4 c5 ca ce;have f0:w.frozen? ⟨p0,0,none⟩=false:=by simp [World.frozen?,h.b]
 have f1:w.frozen? ⟨p0,1,none⟩=false:=by simp [World.frozen?,h.b]
 have f2:w.frozen? ⟨p0,2,none⟩=false:=by simp [World.frozen?,h.b]
 have f3:w.frozen? ⟨p0,3,none⟩=false:=by simp [World.frozen?,h.b]
 have f4:w.frozen? ⟨p0,4,none⟩=false:=by simp [World.frozen?,h.b]
 have f5:w.frozen? ⟨p0,5,none⟩=false:=by simp [World.frozen?,h.b]
 have fa:w.frozen? ⟨p1,0,none⟩=false:=by simp [World.frozen?,h.a]
 have fe:w.frozen? ⟨p2,0,none⟩=false:=by simp [World.frozen?,h.e]
 have h10:¬ p1=p0:=fun e=>h01 e.symm
 have h20:¬ p2=p0:=fun e=>h02 e.symm
 have h21:¬ p2=p1:=fun e=>h12 e.symm
 clear hcb h;have h63:=Xz x;have h64:=XD x;have Y6:=SE x;refine callsD_of_wpS func118 rfl fun c₀ cs hu=>?_
 apply wpS_seq
 apply wpS_region
 simp [wpOpsS,go_sem,recoverD,hu,ntmps118,Exit.thenS]
 simp only [Array.replicate_succ,Array.replicate_zero,List.push_toArray,List.append_toArray,List.nil_append,List.cons_append,List.setIfInBounds_toArray,List.set_cons_succ,List.set_cons_zero];refine wpS_of_wp ?_
 go_wp2
 cases c₀
 simp_all [bodyPostS,results,results118]
abbrev zeroV:Value:=.agg #[.int .i64 0,.int .i64 0,.int .i64 0,.int .i64 0,.slice none 0 0,.slice none 0 0]
abbrev W3 (w:World):World:=((w.alloc aK).alloc (.cells #[.int .i64 0] 3)).alloc (.cells #[.int .i64 0] 28)
section
variable {W W':World} {p0 p1 p2:Nat} {k m f t:Int} {np:Option Addr} {nn nc:Nat} {kp:Option Addr} {kn kc:Nat} {a e:Int}
theorem vG.step (h:vG W p0 p1 p2 k m f t np nn nc kp kn kc a e) (hb:Below W.heap.size W W'):vG W' p0 p1 p2 k m f t np nn nc kp kn kc a e :=
 ⟨(hb.block _ (Array.getElem?_eq_some_iff.1 h.b).1).trans h.b,(hb.block _ (Array.getElem?_eq_some_iff.1 h.a).1).trans h.a,(hb.block _ (Array.getElem?_eq_some_iff.1 h.e).1).trans h.e⟩
theorem vG.grow (h:vG W p0 p1 p2 k m f t np nn nc kp kn kc a e) {g:Nat} (hg:W.grownBy W' (some g)) (h0:p0≠g) (h1:p1≠g) (h2:p2≠g):vG W' p0 p1 p2 k m f t np nn nc kp kn kc a e :=
 ⟨(hg.block _ (Array.getElem?_eq_some_iff.1 h.b).1 (fun e=>h0 (Option.some.inj e))).trans h.b,(hg.block _ (Array.getElem?_eq_some_iff.1 h.a).1 (fun e=>h1 (Option.some.inj e))).trans h.a,(hg.block _ (Array.getElem?_eq_some_iff.1 h.e).1 (fun e=>h2 (Option.some.inj e))).trans h.e⟩
end
theorem fO {w W W':World} {g:Nat} (hb:Below w.heap.size w W) (hg:W.grownBy W' (some g)) (h:w.heap.size≤g):Below w.heap.size w W' :=
 ⟨hg.os.trans hb.os,hg.tape.trans hb.tape,hg.output.trans hb.output,Nat.le_trans hb.size hg.size,fun j hj=>(hg.block j (Nat.lt_of_lt_of_le hj hb.size) (fun e=>by have:=Option.some.inj e; omega)).trans (hb.block j hj)⟩
theorem OQ (w:World):vG (W3 w) w.heap.size (w.heap.size+1) (w.heap.size+1+1) 0 0 0 0 none 0 0 none 0 0 0 0:=by
 have h1:=heap_alloc_new (w.alloc aK) (.cells #[.int .i64 0] 3);have h2:=heap_alloc_new ((w.alloc aK).alloc (.cells #[.int .i64 0] 3)) (.cells #[.int .i64 0] 28);refine ⟨?_,?_,?_⟩
 ·rw [heap_alloc_old _ _ (by simp; omega),heap_alloc_old _ _ (by simp)]; exact heap_alloc_new w aK
 ·rw [heap_alloc_old _ _ (by simp)]; simpa using h1
 ·simpa using h2
theorem one_set {w:World} {g:Nat} {z:Value} {T:TypeId} (h:w.heap[g]?=some (.cells #[z] T (0,0))) (u:Value):(w.setCell ⟨g,0,none⟩ u).heap[g]?=some (.cells #[u] T (0,0)):=by
 rw [heap_setCell_same w g 0 _ _ u h]; rfl
theorem pM {W:World} {p0 p1 p2:Nat} {k m f t:Int} {np:Option Addr} {nn nc:Nat} {kp:Option Addr} {kn kc:Nat} {a e:Int} (h:vG W p0 p1 p2 k m f t np nn nc kp kn kc a e) (h01:p0≠p1) (h02:p0≠p2) (h12:p1≠p2)
  (k' m' f' t':Int) (np':Option Addr) (nn' nc':Nat) (kp':Option Addr) (kn' kc':Nat) (a' e':Int) :
  vG (((Jz W p0 k' m' f' t' np' nn' nc' kp' kn' kc').setCell ⟨p1,0,none⟩ (.int .i64 a')).setCell ⟨p2,0,none⟩ (.int .i64 e')) p0 p1 p2 k' m' f' t' np' nn' nc' kp' kn' kc' a' e':=by
 obtain ⟨iG,hgs⟩:=iQ h.b (.int .i64 k') (.int .i64 m') (.int .i64 f') (.int .i64 t') (.slice np' nn' nc') (.slice kp' kn' kc');have ha:=(hgs.block _ (Array.getElem?_eq_some_iff.1 h.a).1 (fun e=>h01 (Option.some.inj e).symm)).trans h.a;have he:=(hgs.block _ (Array.getElem?_eq_some_iff.1 h.e).1 (fun e=>h02 (Option.some.inj e).symm)).trans h.e;refine ⟨?_,?_,?_⟩
 ·rw [Below.heap_setCell _ _ _ _ (by simp only; exact h02),Below.heap_setCell _ _ _ _ (by simp only; exact h01)]; exact iG
 ·rw [Below.heap_setCell _ _ _ _ (by simp only; exact h12)]; exact one_set ha _
 ·exact one_set ((Below.heap_setCell _ _ _ _ (by simp only; exact fun e=>h12 e.symm)).trans he) _
theorem mY {W:World} {N p0 p1 p2:Nat} {w:World} {k m f t:Int} {np:Option Addr} {nn nc:Nat} {kp:Option Addr} {kn kc:Nat} {a e:Int} (hb:Below w.heap.size w W) (h0:w.heap.size≤p0) (h1:w.heap.size≤p1) (h2:w.heap.size≤p2) :
  Below w.heap.size w (((Jz W p0 k m f t np nn nc kp kn kc).setCell ⟨p1,0,none⟩ (.int .i64 a)).setCell ⟨p2,0,none⟩ (.int .i64 e)):=by
 have g6:W.grownBy (Jz W p0 k m f t np nn nc kp kn kc) (some p0):=ae (ae (ae (ae (ae (aS _ _ _) (aS _ _ _)) (aS _ _ _)) (aS _ _ _)) (aS _ _ _)) (aS _ _ _);exact fO (fO (fO hb g6 h0) (aS p1 0 _) h1) (aS p2 0 _) h2
theorem Ig (s:ByteArray):firstT s (iF kG (gX s 0))=gu s:=by
 unfold gu tK
 apply CG
 intro t h;unfold gX at h;rw [List.dropLast_concat,List.drop_zero] at h;exact ((tH _ _ _).1 t h).2.2.2
theorem MR (s:ByteArray) (hs:s.size≤1000000) (w:World) (hk:Kw w) :
  Calls prog 117 #[.string s] w fun e w'=>e=.returned (.tuple #[.int .i64 (gu s).1,.int .i64 (gu s).2])∧Below w.heap.size w w':=by
 have h:=first_any s hs w hk;rw [Ig] at h;exact h
def oW (s:ByteArray) (w:World) (o:Src→Out Pb) (e:Ending) (w':World):Prop:=Below w.heap.size w w' ∧
 (((gu s).2≠0∧e=.returned (.tuple #[zeroV,.int .i64 (gu s).1,.int .i64 (gu s).2])) ∨
  ((gu s).2=0∧∃ S:Src,S.s=s∧S.ts=aO s∧S.Good ∧
  ((∃ x n v,fF S (o S)=.ok x n∧e=.returned (.tuple #[v,.int .i64 0,.int .i64 0])∧RB w x v w') ∨
   (∃ n,fF S (o S)=.form n∧e=.returned (.tuple #[zeroV,.int .i64 (S.pl n),.int .i64 9])) ∨
   (∃ n,fF S (o S)=.deep n∧e=.returned (.tuple #[zeroV,.int .i64 (S.pl n),.int .i64 6])))))
set_option maxHeartbeats 1000000 in
theorem J8 (m:Nat) (hcf:∀ args w,Sem.run prog (callFunc m args) w=.ok (.enter m args) w) (o:Src→Out Pb) (s:ByteArray) (hs:s.size≤1000000) (w:World) (hk:Kw w)
  (hread:∀ S w',S.s=s→S.ts=aO s→Rd w' S 0 0→o S≠.dry→Calls prog m #[.pointer (some ⟨S.g,0,none⟩)] w' fun e w''=>Ends S 0 w' (o S) (RB w') e w'')
  (hnd:∀ S,S.s=s→S.ts=aO s→S.Good→o S≠.dry) :
  Calls prog 80 #[.string s,.func (.func m) #[] #[]] w fun e w'=>oW s w o e w':=by
 have hb3:Below w.heap.size w (W3 w):=(((Below.refl _ _).alloc (Nat.le_refl _) _).alloc (by simp) _).alloc (by simp; omega) _;have hk3:Kw (W3 w):=((hk.alloc _).alloc _).alloc _;have HF:Hid (Calls prog 117 #[.string s] (W3 w) fun e w'=>e=.returned (.tuple #[.int .i64 (gu s).1,.int .i64 (gu s).2])∧Below (W3 w).heap.size (W3 w) w'):=hid (MR s hs _ hk3);have HR3:=hid (OQ w);have HB3:=hid hb3;have SY:=hid hk3;have SX:=hid hread;have Ky:=hid hnd;have h01:¬ w.heap.size=w.heap.size+1:=by omega
 have h02:¬ w.heap.size=w.heap.size+1+1:=by omega
 have h12:¬ w.heap.size+1=w.heap.size+1+1:=by omega
 have h10:¬ w.heap.size+1=w.heap.size:=by omega
 have h20:¬ w.heap.size+1+1=w.heap.size:=by omega
 have h21:¬ w.heap.size+1+1=w.heap.size+1:=by omega
 have hmf:∀ (fn:Fn) (first cap:Array Value) (w:World),(Instr.makeFunc fn first cap).run prog w=.ok (.func fn first cap) w:=fun _ _ _ _=>rfl
 have hz3:(W3 w).heap.size=w.heap.size+3:=by simp
 clear hb3 hk3 hk hread hnd;obtain ⟨a0,ha0⟩:∃ a0,a0=(gu s).1:=⟨_,rfl⟩
 obtain ⟨e0,he0⟩:∃ e0,e0=(gu s).2:=⟨_,rfl⟩
 have Pj:=hid (And.intro ha0 he0);rw [← ha0,← he0] at HF;clear ha0 he0
 by_cases Y7:e0=0
 ·subst Y7
  go_enter_defers func80,ntmps80
  go_wp2_with fail
  refine HF.out.mono ?_
  rintro e w4 ⟨rfl,hb4⟩;have HR4:=hid (HR3.out.step hb4);have HB4:=hid (HB3.out.trans (hb4.mono (by simp; omega)));have HZ4:Hid (w.heap.size+3≤w4.heap.size):=hid (by have:=hb4.size; omega);have HW:=hid (yZ s hs w4 (SY.out.step hb4));clear hb4 HF HR3 SY HB3
  go_wp2_with fail
  refine HW.out.mono ?_
  rintro e w5 ⟨v,rfl,htk,hb5⟩;have hwl:0 < (aO s).length:=by rw [jL]; simp
  obtain ⟨g,c,rfl,hlc,hcm,hgl,hcells⟩:=wV.open htk hwl;have ni:=hid (HR4.out.step hb5);have yP:=hid (HB4.out.trans (hb5.mono HB4.out.size));have TE:g≠w.heap.size:=by
   intro e;obtain ⟨base,hown⟩:=htk
   rcases hown.2 with ⟨hv,_⟩ | ⟨g',c',cur,hv,_,hh,_⟩
   ·cases hv
   ·injection hv with e1 _ _
    have e2:=Option.some.inj e1
    injection e2 with e3 _ _
    rw [← e3,e,ni.out.b] at hh
    injection hh with e4
    injection e4 with _ e5
    cases e5
  have HZ5:Hid (w.heap.size+3≤w5.heap.size):=hid (by have:=hb5.size; have:=HZ4.out; omega);obtain ⟨wl,TF⟩:∃ wl,wl=(aO s).length:=⟨_,rfl⟩
  have hgood:Src.Good ⟨s,aO s,w5.heap.size,g,c⟩:=FN _ hs rfl hlc (by simp only; omega);have hb6:Below w5.heap.size w5 (w5.alloc (.cells #[.string s,.slice (some ⟨g,0,none⟩) wl c,.int .i64 0,.int .i64 0] 197)):=(Below.refl _ _).alloc (Nat.le_refl _) _;have hrd:Rd (w5.alloc (.cells #[.string s,.slice (some ⟨g,0,none⟩) wl c,.int .i64 0,.int .i64 0] 197)) ⟨s,aO s,w5.heap.size,g,c⟩ 0 0 :=
   ⟨hgood,hwl,by rw [TF]; exact heap_alloc_new w5 _,Nat.lt_of_lt_of_le hgl hb6.size,hcells.step hgl hb6,by omega⟩
  have HX:=hid (SX.out _ _ rfl rfl hrd (Ky.out _ rfl rfl hgood));have Y8:=hid hgood;have qL:=hid (ni.out.step hb6);have KC:=hid (yP.out.trans (hb6.mono yP.out.size));rw [← TF];obtain ⟨S,hS⟩:∃ S:Src,S=⟨s,aO s,w5.heap.size,g,c⟩:=⟨_,rfl⟩
  have hSs:S.s=s:=by rw [hS]
  have hSt:S.ts=aO s:=by rw [hS]
  have VQ:S.g=w5.heap.size:=by rw [hS]
  have hSw:S.gw < w5.heap.size:=by rw [hS]; exact hgl
  rw [← hS] at HX Y8;have GG:=hid (And.intro hSs (And.intro hSt Y8.out));have VR:Hid (S.gw≠w.heap.size):=hid (by rw [hS]; exact TE);have EN:Hid (w.heap.size+3≤S.g):=hid (by rw [VQ]; exact HZ5.out);clear hb5 htk hcells hrd hgood hb6 HR4 HB4 HW ni yP SX Ky hS hSs hSt Y8 TF hlc hcm hwl;have acU:=hcf #[.pointer (some ⟨w5.heap.size,0,none⟩)];rw [VQ] at HX
  go_wp2_with fail
  refine HX.out.mono ?_
  rintro e w7 (⟨b,n7,v,hpo,rfl,⟨y,hv,hyl,hyo,rfl⟩,Va,TG⟩ | ⟨ch,ho,rfl,TG⟩)
  ·simp only [Hd.val] at hv
   subst hv;have hr7':=Va;have TI:=hid (fO KC.out TG (by have:=EN.out; omega));have Bj:=hid (qL.out.grow TG (by have:=EN.out; omega) (by have:=EN.out; omega) (by have:=EN.out; omega));obtain ⟨iG,hgs⟩:=iQ Bj.out.b (.int .i64 y.h.k) (.int .i64 y.h.m) (.int .i64 y.h.f) (.int .i64 y.h.t) (.slice y.h.np y.h.nn y.h.nc) (.slice y.h.kp y.h.kn y.h.kc);have TJ:=Va.grow hgs (fun e=>by have:=Option.some.inj e; have:=EN.out; omega) (fun e=>by have:=Option.some.inj e; have:=VR.out; omega);have ny:=hid (bH S n7 0 _ TJ);rw [VQ] at ny;have HR8:Hid (vG (yJ w7 w.heap.size y.h) w.heap.size (w.heap.size+1) (w.heap.size+1+1) y.h.k y.h.m y.h.f y.h.t y.h.np y.h.nn y.h.nc y.h.kp y.h.kn y.h.kc 0 0):=hid ⟨iG,(hgs.block _ (Array.getElem?_eq_some_iff.1 Bj.out.a).1 (fun e=>by have:=Option.some.inj e; omega)).trans Bj.out.a,(hgs.block _ (Array.getElem?_eq_some_iff.1 Bj.out.e).1 (fun e=>by have:=Option.some.inj e; omega)).trans Bj.out.e⟩;have Y9:Hid (Below w.heap.size w (yJ w7 w.heap.size y.h)):=hid (fO TI.out hgs (Nat.le_refl _));have uM:Hid (y.On fun q=>S.g < q):=hid (hyo.mono (fun q hq=>by simp only [World.size_alloc] at hq; omega) _);have AX:Hid (y.Lies (yJ w7 w.heap.size y.h)):=hid (Br.Lies.kept (P:=fun q=>S.g < q) y hgs.size (fun q hq hl=>hgs.block q hl (fun e=>by have:=Option.some.inj e; have:=EN.out; omega)) uM.out hyl);have VS:=hid TJ;have rU:=hid hpo;have hcb:=cell_of_heap Bj.out.b;have c0:=hcb 0;have c1:=hcb 1;have c2:=hcb 2;have c3:=hcb 3;have c4:=hcb 4;have c5:=hcb 5;have ca:=cell_of_heap Bj.out.a 0;have ce:=cell_of_heap Bj.out.e 0;simp only [List.getElem?_toArray,List.getElem?_cons_zero,List.getElem?_cons_succ] at c0 c1 c2 c3 c4 c5 ca ce;have f0:=aA Bj.out.b 0;have f1:=aA Bj.out.b 1;have f2:=aA Bj.out.b 2;have f3:=aA Bj.out.b 3;have f4:=aA Bj.out.b 4;have f5:=aA Bj.out.b 5;have fa:=aA Bj.out.a 0;have fe:=aA Bj.out.e 0;clear hcb;clear iG hgs TJ hyl hyo hpo Va TG HX qL KC Bj TI hr7'
   go_wp2_with fail
   refine ny.out.mono ?_
   rintro e w9 ⟨rfl,Pm⟩;have EC:=hid (HR8.out.step Pm);have Za:=hid (Y9.out.trans (Pm.mono Y9.out.size));have Be:=hid (AX.out.step _ Pm);have VT:=hid (VS.out.step Pm);clear Pm HR8 Y9 AX VS ny c0 c1 c2 c3 c4 c5 ca ce f0 f1 f2 f3 f4 f5 fa fe
   cases hkd:(S.kd n7 == 0)
   ·have HE:=hid (pX S n7 0 w9 VT.out)
    rw [VQ] at HE
    go_wp2_with fail
    refine HE.out.mono ?_
    rintro e w10 ⟨rfl,VU⟩;have EO:=hid (EC.out.step VU);have Pn:=hid (Za.out.trans (VU.mono Za.out.size));have TK:Hid (fF S (o S)=.form n7):=hid (by rw [rU.out]; unfold fF Out.bind; simp only [hkd]; rfl);refine (show bodyPostD prog f80 (fun e w'=>oW s w o e w') (.panic [{ v:=.iface 194 (.int .i64 (S.pl n7)),recovered:=false }]) _ w10 from ?_)
    refine leaves_cons (f:=118) (args:=#[.pointer (some ⟨w.heap.size,0,none⟩),.pointer (some ⟨w.heap.size+1,0,none⟩),.pointer (some ⟨w.heap.size+1+1,0,none⟩)]) (by simp) (by simp [go_sem]) ?_
    refine (xg w.heap.size (w.heap.size+1) (w.heap.size+1+1) _ _ _ _ _ _ _ _ _ _ _ _ (S.pl n7) w10 EO.out h01 h02 h12).mono ?_
    rintro e u' w11 ⟨rfl,rfl,rfl⟩;have HP:=pM EO.out h01 h02 h12 0 0 0 0 none 0 0 none 0 0 (S.pl n7) 9;have hcb:=cell_of_heap HP.b;have d0:=hcb 0;have d1:=hcb 1;have d2:=hcb 2;have d3:=hcb 3;have d4:=hcb 4;have d5:=hcb 5;have da:=cell_of_heap HP.a 0;have de:=cell_of_heap HP.e 0;simp only [List.getElem?_toArray,List.getElem?_cons_zero,List.getElem?_cons_succ] at d0 d1 d2 d3 d4 d5 da de;clear hcb;refine ⟨.tuple #[zeroV,.int .i64 (S.pl n7),.int .i64 9],by simp [results,results80,go_sem,d0,d1,d2,d3,d4,d5,da,de,Result.andThen]; try rfl,?_⟩
    exact ⟨mY (N:=0) Pn.out (Nat.le_refl _) (by omega) (by omega),Or.inr ⟨Pj.out.2.symm,S,GG.out.1,GG.out.2.1,GG.out.2.2,Or.inr (Or.inl ⟨n7,TK.out,rfl⟩)⟩⟩
   ·have HE:=hid (nK S n7 0 w9 VT.out)
    rw [VQ] at HE
    go_wp2_with fail
    refine HE.out.mono ?_
    rintro e w10 ⟨rfl,rfl⟩;have hcb:=cell_of_heap EC.out.b;have c0:=hcb 0;have c1:=hcb 1;have c2:=hcb 2;have c3:=hcb 3;have c4:=hcb 4;have c5:=hcb 5;have ca:=cell_of_heap EC.out.a 0;have ce:=cell_of_heap EC.out.e 0;simp only [List.getElem?_toArray,List.getElem?_cons_zero,List.getElem?_cons_succ] at c0 c1 c2 c3 c4 c5 ca ce;have f0:=aA EC.out.b 0;have f1:=aA EC.out.b 1;have f2:=aA EC.out.b 2;have f3:=aA EC.out.b 3;have f4:=aA EC.out.b 4;have f5:=aA EC.out.b 5;have fa:=aA EC.out.a 0;have fe:=aA EC.out.e 0;clear hcb
    go_wp2_with fail
    have TK:Hid (fF S (o S)=.ok y.pb n7):=hid (by rw [rU.out]; unfold fF Out.bind; simp only [hkd]; rfl);refine leaves_cons (f:=118) (args:=#[.pointer (some ⟨w.heap.size,0,none⟩),.pointer (some ⟨w.heap.size+1,0,none⟩),.pointer (some ⟨w.heap.size+1+1,0,none⟩)]) (by simp) (by simp [go_sem]) ?_
    refine (catch_idle w.heap.size (w.heap.size+1) (w.heap.size+1+1) _).mono ?_
    rintro e u' w11 ⟨rfl,rfl,rfl⟩;have HP:=pM EC.out h01 h02 h12 y.h.k y.h.m y.h.f y.h.t y.h.np y.h.nn y.h.nc y.h.kp y.h.kn y.h.kc 0 0;have hcb:=cell_of_heap HP.b;have d0:=hcb 0;have d1:=hcb 1;have d2:=hcb 2;have d3:=hcb 3;have d4:=hcb 4;have d5:=hcb 5;have da:=cell_of_heap HP.a 0;have de:=cell_of_heap HP.e 0;simp only [List.getElem?_toArray,List.getElem?_cons_zero,List.getElem?_cons_succ] at d0 d1 d2 d3 d4 d5 da de;clear hcb;refine ⟨.tuple #[.agg #[.int .i64 y.h.k,.int .i64 y.h.m,.int .i64 y.h.f,.int .i64 y.h.t,.slice y.h.np y.h.nn y.h.nc,.slice y.h.kp y.h.kn y.h.kc],.int .i64 0,.int .i64 0],by simp [results,results80,go_sem,d0,d1,d2,d3,d4,d5,da,de,Result.andThen]; try rfl,?_⟩
    refine ⟨mY (N:=0) Za.out (Nat.le_refl _) (by omega) (by omega),Or.inr ⟨Pj.out.2.symm,S,GG.out.1,GG.out.2.1,GG.out.2.2,Or.inl ⟨y.pb,n7,_,TK.out,rfl,y,rfl,?_,uM.out.mono (fun q hq=>by have:=EN.out; omega) _,rfl⟩⟩⟩
    exact Br.Lies.kept (P:=fun q=>S.g < q) y (by simp) (fun q hq hl=>by
     have:=EN.out
     rw [Below.heap_setCell _ _ _ _ (by simp only; omega),Below.heap_setCell _ _ _ _ (by simp only; omega)];rw [Below.heap_setCell _ _ _ _ (by simp only; omega),Below.heap_setCell _ _ _ _ (by simp only; omega),Below.heap_setCell _ _ _ _ (by simp only; omega),Below.heap_setCell _ _ _ _ (by simp only; omega),Below.heap_setCell _ _ _ _ (by simp only; omega),Below.heap_setCell _ _ _ _ (by simp only; omega)]) uM.out Be.out
  ·have EO:=hid (qL.out.grow TG (by have:=EN.out; omega) (by have:=EN.out; omega) (by have:=EN.out; omega))
   have Pn:=hid (fO KC.out TG (by have:=EN.out; omega));clear TG HX qL KC
   cases Vb:o S with
   | ok x n=>rw [Vb] at ho; cases ho
   | dry=>rw [Vb] at ho; cases ho
   | form n =>
    rw [Vb] at ho;have ho:=Option.some.inj ho;subst ho;have TK:Hid (fF S (o S)=.form n):=hid (by rw [Vb]; rfl);refine (show bodyPostD prog f80 (fun e w'=>oW s w o e w') (.panic [{ v:=.iface 194 (.int .i64 (S.pl n)),recovered:=false }]) _ w7 from ?_)
    refine leaves_cons (f:=118) (args:=#[.pointer (some ⟨w.heap.size,0,none⟩),.pointer (some ⟨w.heap.size+1,0,none⟩),.pointer (some ⟨w.heap.size+1+1,0,none⟩)]) (by simp) (by simp [go_sem]) ?_
    refine (xg w.heap.size (w.heap.size+1) (w.heap.size+1+1) _ _ _ _ _ _ _ _ _ _ _ _ (S.pl n) w7 EO.out h01 h02 h12).mono ?_
    rintro e u' w11 ⟨rfl,rfl,rfl⟩;have HP:=pM EO.out h01 h02 h12 0 0 0 0 none 0 0 none 0 0 (S.pl n) 9;have hcb:=cell_of_heap HP.b;have d0:=hcb 0;have d1:=hcb 1;have d2:=hcb 2;have d3:=hcb 3;have d4:=hcb 4;have d5:=hcb 5;have da:=cell_of_heap HP.a 0;have de:=cell_of_heap HP.e 0;simp only [List.getElem?_toArray,List.getElem?_cons_zero,List.getElem?_cons_succ] at d0 d1 d2 d3 d4 d5 da de;clear hcb;refine ⟨.tuple #[zeroV,.int .i64 (S.pl n),.int .i64 9],by simp [results,results80,go_sem,d0,d1,d2,d3,d4,d5,da,de,Result.andThen]; try rfl,?_⟩
    exact ⟨mY (N:=0) Pn.out (Nat.le_refl _) (by omega) (by omega),Or.inr ⟨Pj.out.2.symm,S,GG.out.1,GG.out.2.1,GG.out.2.2,Or.inr (Or.inl ⟨n,TK.out,rfl⟩)⟩⟩
   | deep n =>
    rw [Vb] at ho;have ho:=Option.some.inj ho;subst ho;have TK:Hid (fF S (o S)=.deep n):=hid (by rw [Vb]; rfl);refine (show bodyPostD prog f80 (fun e w'=>oW s w o e w') (.panic [{ v:=.iface 195 (.int .i64 (S.pl n)),recovered:=false }]) _ w7 from ?_)
    refine leaves_cons (f:=118) (args:=#[.pointer (some ⟨w.heap.size,0,none⟩),.pointer (some ⟨w.heap.size+1,0,none⟩),.pointer (some ⟨w.heap.size+1+1,0,none⟩)]) (by simp) (by simp [go_sem]) ?_
    refine (Fa w.heap.size (w.heap.size+1) (w.heap.size+1+1) _ _ _ _ _ _ _ _ _ _ _ _ (S.pl n) w7 EO.out h01 h02 h12).mono ?_
    rintro e u' w11 ⟨rfl,rfl,rfl⟩;have HP:=pM EO.out h01 h02 h12 0 0 0 0 none 0 0 none 0 0 (S.pl n) 6;have hcb:=cell_of_heap HP.b;have d0:=hcb 0;have d1:=hcb 1;have d2:=hcb 2;have d3:=hcb 3;have d4:=hcb 4;have d5:=hcb 5;have da:=cell_of_heap HP.a 0;have de:=cell_of_heap HP.e 0;simp only [List.getElem?_toArray,List.getElem?_cons_zero,List.getElem?_cons_succ] at d0 d1 d2 d3 d4 d5 da de;clear hcb;refine ⟨.tuple #[zeroV,.int .i64 (S.pl n),.int .i64 6],by simp [results,results80,go_sem,d0,d1,d2,d3,d4,d5,da,de,Result.andThen]; try rfl,?_⟩
    exact ⟨mY (N:=0) Pn.out (Nat.le_refl _) (by omega) (by omega),Or.inr ⟨Pj.out.2.symm,S,GG.out.1,GG.out.2.1,GG.out.2.2,Or.inr (Or.inr ⟨n,TK.out,rfl⟩)⟩⟩
 ·have hne:(e0 != 0)=true:=by simpa using Y7
  go_enter_defers func80,ntmps80
  go_wp2_with fail
  refine HF.out.mono ?_
  rintro e w4 ⟨rfl,hb4⟩;have HR4:=hid (HR3.out.step hb4);have HB4:=hid (HB3.out.trans (hb4.mono (by simp; omega)));clear hb4 HF HR3 SY SX Ky HB3;have hcb:=cell_of_heap HR4.out.b;have c0:=hcb 0;have c1:=hcb 1;have c2:=hcb 2;have c3:=hcb 3;have c4:=hcb 4;have c5:=hcb 5;have ca:=cell_of_heap HR4.out.a 0;have ce:=cell_of_heap HR4.out.e 0;simp only [List.getElem?_toArray,List.getElem?_cons_zero,List.getElem?_cons_succ] at c0 c1 c2 c3 c4 c5 ca ce;have f0:=aA HR4.out.b 0;have f1:=aA HR4.out.b 1;have f2:=aA HR4.out.b 2;have f3:=aA HR4.out.b 3;have f4:=aA HR4.out.b 4;have f5:=aA HR4.out.b 5;have fa:=aA HR4.out.a 0;have fe:=aA HR4.out.e 0;clear hcb
  go_wp2_with fail
  have HP:=pM HR4.out h01 h02 h12 0 0 0 0 none 0 0 none 0 0 a0 e0;have hcb:=cell_of_heap HP.b;have d0:=hcb 0;have d1:=hcb 1;have d2:=hcb 2;have d3:=hcb 3;have d4:=hcb 4;have d5:=hcb 5;have da:=cell_of_heap HP.a 0;have de:=cell_of_heap HP.e 0;simp only [List.getElem?_toArray,List.getElem?_cons_zero,List.getElem?_cons_succ] at d0 d1 d2 d3 d4 d5 da de;clear hcb;refine ⟨.tuple #[zeroV,.int .i64 a0,.int .i64 e0],by simp [results,results80,go_sem,d0,d1,d2,d3,d4,d5,da,de,Result.andThen]; try rfl,?_⟩
  refine ⟨mY (N:=0) HB4.out (Nat.le_refl _) (by omega) (by omega),Or.inl ⟨?_,?_⟩⟩
  ·rw [← Pj.out.2]; exact Y7
  ·rw [← Pj.out.1,← Pj.out.2]
theorem oW.form {s:ByteArray} {w:World} {o:Src→Out Pb} {e:Ending} {w':World} (h:oW s w o e w'):∃ (k m f t:Int) (np:Option Addr) (nn nc:Nat) (kp:Option Addr) (kn kc:Nat) (a c:Int),e=.returned (.tuple #[.agg #[.int .i64 k,.int .i64 m,.int .i64 f,.int .i64 t,.slice np nn nc,.slice kp kn kc],.int .i64 a,.int .i64 c]):=by
 obtain ⟨_,⟨_,he⟩ | ⟨_,S,_,_,_,⟨x,n,v,_,he,y,hv,_⟩ | ⟨n,_,he⟩ | ⟨n,_,he⟩⟩⟩:=h
 ·exact ⟨_,_,_,_,_,_,_,_,_,_,_,_,he⟩
 ·subst hv; exact ⟨_,_,_,_,_,_,_,_,_,_,_,_,he⟩
 ·exact ⟨_,_,_,_,_,_,_,_,_,_,_,_,he⟩
 ·exact ⟨_,_,_,_,_,_,_,_,_,_,_,_,he⟩
theorem oW.moved {s:ByteArray} {w:World} {o:Src→Out Pb} {e:Ending} {w' w2:World} (h:oW s (w.alloc aK) o e w') (hg:w'.grownBy w2 (some w.heap.size)):oW s w o e w2:=by
 obtain ⟨hb,hc⟩:=h;have hb1:Below w.heap.size w (w.alloc aK):=(Below.refl w.heap.size w).alloc (Nat.le_refl _) _;refine ⟨fO (hb1.trans (hb.mono (by simp))) hg (Nat.le_refl _),?_⟩
 rcases hc with h | ⟨h0,S,h1,h2,h3,⟨x,n,v,h4,h5,y,h6,h7,h8,h9⟩ | h | h⟩
 ·exact Or.inl h
 ·refine Or.inr ⟨h0,S,h1,h2,h3,Or.inl ⟨x,n,v,h4,h5,y,h6,?_,h8.mono (fun q hq=>by simp only [World.size_alloc] at hq; omega) _,h9⟩⟩
  exact Br.Lies.kept (P:=fun q=>(w.alloc aK).heap.size≤q) y hg.size (fun q hq hl=>hg.block q hl (fun e=>by have:=Option.some.inj e; simp only [World.size_alloc] at hq; omega)) h8 h7
 ·exact Or.inr ⟨h0,S,h1,h2,h3,Or.inr (Or.inl h)⟩
 ·exact Or.inr ⟨h0,S,h1,h2,h3,Or.inr (Or.inr h)⟩
theorem Gg (W:World) (p0:Nat) (k m f t:Int) (np:Option Addr) (nn nc:Nat) (kp:Option Addr) (kn kc:Nat):W.grownBy (Jz W p0 k m f t np nn nc kp kn kc) (some p0):=ae (ae (ae (ae (ae (aS _ _ _) (aS _ _ _)) (aS _ _ _)) (aS _ _ _)) (aS _ _ _)) (aS _ _ _)
def fuel (S:Src):Nat:=S.ts.length+257
theorem Ri {S:Src} (h:S.Good):fuel S≤1000000000:=by have:=h.len; unfold fuel; omega
def jG (S:Src):Out Pb:=jk S (fuel S) 0
def acs (nt:Nt) (S:Src):Out Pb:=parts S (fuel S) nt 0 0
theorem Ol (S:Src) (h:S.ts=aO S.s):0 < S.ts.length:=by rw [h,jL]; simp
theorem Dh (S:Src) (ht:S.ts=aO S.s) (h:S.Good):jG S≠.dry:=(uk h (F:=fuel S) (Nat.le_refl _) (Ol S ht)).nd
theorem Xy (args:Array Value) (w:World):Sem.run prog (callFunc 81 args) w=.ok (.enter 81 args) w:=bI func81 (by kernel_rfl) (by kernel_rfl) args w
theorem ET (s:ByteArray) (hs:s.size≤1000000) (w:World) (hk:Kw w):Calls prog 80 #[.string s,.func (.func 81) #[] #[]] w fun e w'=>oW s w jG e w' :=
 J8 81 Xy jG s hs w hk (fun S w' h1 h2 hr hnd=>Iy S (fuel S) (Ri hr.good) 0 w' hr hnd) (fun S h1 h2 hg=>Dh S (by rw [h2,h1]) hg)
set_option maxHeartbeats 1000000 in
theorem ES (s:ByteArray) (hs:s.size≤1000000) (w:World) (hk:Kw w):Calls prog 52 #[.string s] w fun e w'=>oW s w jG e w':=by
 have HW:=hid (ET s hs (w.alloc aK) (hk.alloc _));have HB:=hid (heap_alloc_new w aK);clear hk
 go_enter func52,ntmps52
 go_wp2_with fail
 refine HW.out.mono ?_
 intro e w2 hsd;obtain ⟨k,m,f,t,np,nn,nc,kp,kn,kc,a,c,rfl⟩:=hsd.form;have HX:=hid ((hsd.1.block w.heap.size (by simp)).trans HB.out);have HS:=hid hsd;clear hsd HW HB;have hcb:=cell_of_heap HX.out;have c0:=hcb 0;have c1:=hcb 1;have c2:=hcb 2;have c3:=hcb 3;have c4:=hcb 4;have c5:=hcb 5;simp only [List.getElem?_toArray,List.getElem?_cons_zero,List.getElem?_cons_succ] at c0 c1 c2 c3 c4 c5;have f0:=aA HX.out 0;have f1:=aA HX.out 1;have f2:=aA HX.out 2;have f3:=aA HX.out 3;have f4:=aA HX.out 4;have f5:=aA HX.out 5;clear hcb
 go_wp2_with fail
 have HP:=(iQ HX.out (.int .i64 k) (.int .i64 m) (.int .i64 f) (.int .i64 t) (.slice np nn nc) (.slice kp kn kc)).1;have hcb:=cell_of_heap HP;have d0:=hcb 0;have d1:=hcb 1;have d2:=hcb 2;have d3:=hcb 3;have d4:=hcb 4;have d5:=hcb 5;simp only [List.getElem?_toArray,List.getElem?_cons_zero,List.getElem?_cons_succ] at d0 d1 d2 d3 d4 d5;clear hcb;refine bodyPost_ret (by simp [results,results52,go_sem,d0,d1,d2,d3,d4,d5,Result.andThen]; try rfl) rfl ?_
 exact HS.out.moved (Gg _ _ _ _ _ _ _ _ _ _ _ _)
theorem lN (l:List ByteArray) (s:ByteArray):inB l s=l.any fun t=>t.data.toList == s.data.toList:=by
 unfold inB; congr 1; funext t; rw [toList_data,toList_data]
theorem lH {c:UInt8} {r:List UInt8} {q:Int} (hd:jC c=false) (hk:eU (bsOf (c :: r))=q) (hq:(q == 0)=false):dh (c :: r)=q:=by
 unfold dh;simp only [hd,hk,hq,cond_false]
theorem SC:eU (bsOf [120])=6:=by
 unfold eU kwB mkB; rw [lN,lN,o8 _ (by decide)]; decide
theorem XI:eU (bsOf [121])=6:=by
 unfold eU kwB mkB; rw [lN,lN,o8 _ (by decide)]; decide
theorem tJ:eU (bsOf [118,97,108])=10:=by
 unfold eU kwB mkB; rw [lN,lN,o8 _ (by decide)]; decide
theorem Xr:eU (bsOf [61])=11:=by
 unfold eU kwB mkB; rw [lN,lN,o8 _ (by decide)]; decide
def Pb.k:Pb→Int | .mk k _ _ _ _ _=>k
end Go.Proofs.YtmpmfamiegpmgaaGreatDoor
