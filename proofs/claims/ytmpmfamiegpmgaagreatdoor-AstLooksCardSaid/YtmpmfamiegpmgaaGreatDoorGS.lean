/-
  The tokens of a text make a source that is good.; The deferred closure of whole: what it makes of a panic, and of none.; whole: a text as one part.; File, Exp, Pat, Type, Sig; read.; The tokens of the chapter's examples.; The chapter's examples.
-/
import Derived.Test.YtmpmfamiegpmgaaGreatDoorGR
import Derived.Test.YtmpmfamiegpmgaaGreatDoorGG
namespace Go.Proofs.YtmpmfamiegpmgaaGreatDoor
open Tryz
open Go.Lib (cell_of_heap hid toList_data)
open Go.RowKit
set_option maxRecDepth 20000
set_option linter.unusedVariables false
set_option linter.unusedSimpArgs false
theorem Bl:∀ (n a:Nat) (l:List UInt8),(∀ t ∈ eG n a l,a≤t.a∧t.a < t.e∧t.e≤a+l.length∧t.k≠0)∧(eG n a l).length≤l.length:=by
 intro n
 induction n with
 | zero=>intro a l; exact ⟨fun t h=>by simp [eG] at h,by simp [eG]⟩
 | succ n ih =>
  intro a l
  cases l with
  | nil=>exact ⟨fun t h=>by simp [eG] at h,by simp [eG]⟩
  | cons c r =>
   have hb:=mW (c :: r) (by simp);obtain ⟨h1,h2⟩:=ih (a+(dJ (c :: r)).2) ((c :: r).drop (dJ (c :: r)).2);have hl:((c :: r).drop (dJ (c :: r)).2).length=(c :: r).length - (dJ (c :: r)).2:=by simp
   simp only [eG,List.isEmpty_cons,cond_false];refine ⟨fun t h=>?_,?_⟩
   ·rcases List.mem_cons.1 h with rfl | h
    ·exact ⟨Nat.le_refl _,by simp only; omega,by simp only; omega,xH (c :: r) (by simp)⟩
    ·obtain ⟨q1,q2,q3,q4⟩:=h1 t h
     exact ⟨by omega,q2,by omega,q4⟩
   ·rw [List.length_cons]
    omega
theorem Ld {ask:Int→Bool}:∀ {l:List Tok} {t:Tok},t ∈ gV ask l→t ∈ l:=by
 intro l
 induction l with
 | nil=>intro t h; exact h
 | cons x r ih =>
  intro t h;simp only [gV] at h
  cases hx:ask x.k <;> rw [hx] at h
  ·exact List.mem_cons_of_mem _ (ih h)
  ·rcases List.mem_cons.1 h with rfl | h
   ·exact List.mem_cons_self ..
   ·exact List.mem_cons_of_mem _ (ih h)
def nz (s:ByteArray):List Tok:=gV rY (eG s.size 0 s.data.toList)
theorem lW (s:ByteArray):bC s=nz s++[⟨0,s.size,s.size⟩]:=by
 unfold bC sF fU nz;rw [List.drop_zero,qR]
 rfl
theorem xq (s:ByteArray):(∀ t ∈ nz s,t.a < t.e∧t.e≤s.size∧t.k≠0)∧(nz s).length≤s.size:=by
 have h:=Bl s.size 0 s.data.toList;rw [bT] at h;refine ⟨fun t ht=>?_,Nat.le_trans (qY _ _) h.2⟩
 obtain ⟨_,h2,h3,h4⟩:=h.1 t (Ld ht);exact ⟨h2,by omega,h4⟩
theorem FC (S:Src) (hs:S.s.size≤1000000) (ht:S.ts=bC S.s) (hc:S.ts.length≤S.cw) (hg:S.gw≠S.g):S.Good:=by
 obtain ⟨h1,h2⟩:=xq S.s;have e:S.ts=nz S.s++[⟨0,S.s.size,S.s.size⟩]:=ht.trans (lW S.s);have hl:S.ts.length=(nz S.s).length+1:=by rw [e]; simp
 refine ⟨hs,by omega,fun t h=>?_,fun i hi=>?_,fun t h hk=>?_,hc,hg⟩
 ·rw [e] at h
  rcases List.mem_append.1 h with h | h
  ·have:=h1 t h; exact ⟨by omega,this.2.1⟩
  ·obtain rfl:=List.mem_singleton.1 h
   exact ⟨Nat.le_refl _,Nat.le_refl _⟩
 ·rcases Nat.lt_or_ge i (nz S.s).length with hlt | hge
  ·have e2:S.ts[i]=(nz S.s)[i]:=by simp only [e]; exact List.getElem_append_left hlt
   have:=(h1 _ (List.getElem_mem hlt)).2.2
   rw [e2];exact ⟨fun h=>absurd h this,fun h=>by omega⟩
  ·have hi2:i=(nz S.s).length:=by omega
   have e2:S.ts[i]=⟨0,S.s.size,S.s.size⟩:=by
    simp only [e,hi2];rw [List.getElem_append_right (Nat.le_refl _)]
    simp
   rw [e2];exact ⟨fun _=>by omega,fun _=>rfl⟩
 ·rw [e] at h
  rcases List.mem_append.1 h with h | h
  ·exact absurd hk (h1 t h).2.2
  ·obtain rfl:=List.mem_singleton.1 h
   rfl
theorem TF:(prog.info? 194).map (fun i=>(i.zero,i.size,i.bytes))=some (some (.int .i64 0),1,8):=by kernel_rfl
theorem WS (x:Int) (w:World):Sem.run prog (Instr.typeAssert (.iface 194 (.int .i64 x)) 20 194 true) w=.ok (.tuple #[.int .i64 x,.bool true]) w:=by
 simp [Instr.typeAssert,run_underlying underlying194]
theorem WQ (x:Int) (w:World):Sem.run prog (Instr.typeAssert (.iface 195 (.int .i64 x)) 20 195 true) w=.ok (.tuple #[.int .i64 x,.bool true]) w:=by
 simp [Instr.typeAssert,run_underlying underlying195]
theorem Q3 (x:Int) (w:World):Sem.run prog (Instr.typeAssert (.iface 195 (.int .i64 x)) 20 194 true) w=.ok (.tuple #[.int .i64 0,.bool false]) w:=by
 obtain ⟨i0,hi0,hy0,hy1,hy2⟩:=info_parts TF
 simp [Instr.typeAssert,run_underlying underlying194,zeroValue,hi0,hy0,typeInfo]
structure tH (w:World) (p0 p1 p2:Nat) (k m f t:Int) (np:Option Addr) (nn nc:Nat) (kp:Option Addr) (kn kc:Nat) (a e:Int):Prop where
 b:w.heap[p0]?=some (.cells #[.int .i64 k,.int .i64 m,.int .i64 f,.int .i64 t,.slice np nn nc,.slice kp kn kc] 96 (0,0))
 a:w.heap[p1]?=some (.cells #[.int .i64 a] 3 (0,0))
 e:w.heap[p2]?=some (.cells #[.int .i64 e] 28 (0,0))
abbrev JC (w:World) (p0:Nat) (k m f t:Int) (np:Option Addr) (nn nc:Nat) (kp:Option Addr) (kn kc:Nat):World :=
 ((((((w.setCell ⟨p0,0,none⟩ (.int .i64 k)).setCell ⟨p0,1,none⟩ (.int .i64 m)).setCell ⟨p0,2,none⟩ (.int .i64 f)).setCell ⟨p0,3,none⟩ (.int .i64 t)).setCell ⟨p0,4,none⟩ (.slice np nn nc)).setCell ⟨p0,5,none⟩ (.slice kp kn kc))
set_option maxHeartbeats 400000 in
theorem catch_idle (p0 p1 p2:Nat) (w:World) :
  CallsD prog 118 #[.pointer (some ⟨p0,0,none⟩),.pointer (some ⟨p1,0,none⟩),.pointer (some ⟨p2,0,none⟩)] .returning w fun e u' w'=>e=.returned (.tuple #[])∧u'=.returning∧w'=w:=by
 refine callsD_of_wpS func118 rfl fun c₀ cs hu=>?_
 apply wpS_seq
 apply wpS_region
 simp [wpOpsS,go_sem,recoverD,hu,ntmps118,Exit.thenS]
 simp only [Array.replicate_succ,Array.replicate_zero,List.push_toArray,List.append_toArray,List.nil_append,List.cons_append,List.setIfInBounds_toArray,List.set_cons_succ,List.set_cons_zero];refine wpS_of_wp ?_
 go_wp2
 cases c₀
 simp_all [bodyPostS,results,results118]
set_option maxHeartbeats 400000 in
theorem vG (p0 p1 p2:Nat) (k m f t:Int) (np:Option Addr) (nn nc:Nat) (kp:Option Addr) (kn kc:Nat) (a e x:Int) (w:World) (h:tH w p0 p1 p2 k m f t np nn nc kp kn kc a e) (h01:p0≠p1) (h02:p0≠p2) (h12:p1≠p2) :
  CallsD prog 118 #[.pointer (some ⟨p0,0,none⟩),.pointer (some ⟨p1,0,none⟩),.pointer (some ⟨p2,0,none⟩)] (.panicking [{ v:=.iface 194 (.int .i64 x),recovered:=false }]) w fun e u' w' =>
   e=.returned (.tuple #[])∧u'=.panicking [{ v:=.iface 194 (.int .i64 x),recovered:=true }]∧w'=((JC w p0 0 0 0 0 none 0 0 none 0 0).setCell ⟨p1,0,none⟩ (.int .i64 x)).setCell ⟨p2,0,none⟩ (.int .i64 9):=by
 have hcb:=cell_of_heap h.b;have c0:=hcb 0;have c1:=hcb 1;have c2:=hcb 2;have c3:=hcb 3;have c4:=hcb 4;have c5:=hcb 5;have ca:=cell_of_heap h.a 0;have ce:=cell_of_heap h.e 0;simp only [List.getElem?_toArray,List.getElem?_cons_zero,List.getElem?_cons_succ] at c0 c1 c2 c3 c4 c5 ca ce;have f0:w.frozen? ⟨p0,0,none⟩=false:=by simp [World.frozen?,h.b]
 have f1:w.frozen? ⟨p0,1,none⟩=false:=by simp [World.frozen?,h.b]
 have f2:w.frozen? ⟨p0,2,none⟩=false:=by simp [World.frozen?,h.b]
 have f3:w.frozen? ⟨p0,3,none⟩=false:=by simp [World.frozen?,h.b]
 have f4:w.frozen? ⟨p0,4,none⟩=false:=by simp [World.frozen?,h.b]
 have f5:w.frozen? ⟨p0,5,none⟩=false:=by simp [World.frozen?,h.b]
 have fa:w.frozen? ⟨p1,0,none⟩=false:=by simp [World.frozen?,h.a]
 have fe:w.frozen? ⟨p2,0,none⟩=false:=by simp [World.frozen?,h.e]
 have h10:¬ p1=p0:=fun e=>h01 e.symm
 have h20:¬ p2=p0:=fun e=>h02 e.symm
 have h21:¬ p2=p1:=fun e=>h12 e.symm
 clear hcb h;have h63:=WS x;have h64:=WQ x;have X5:=Q3 x;refine callsD_of_wpS func118 rfl fun c₀ cs hu=>?_
 apply wpS_seq
 apply wpS_region
 simp [wpOpsS,go_sem,recoverD,hu,ntmps118,Exit.thenS]
 simp only [Array.replicate_succ,Array.replicate_zero,List.push_toArray,List.append_toArray,List.nil_append,List.cons_append,List.setIfInBounds_toArray,List.set_cons_succ,List.set_cons_zero];refine wpS_of_wp ?_
 go_wp2
 cases c₀
 simp_all [bodyPostS,results,results118]
set_option maxHeartbeats 400000 in
theorem FB (p0 p1 p2:Nat) (k m f t:Int) (np:Option Addr) (nn nc:Nat) (kp:Option Addr) (kn kc:Nat) (a e x:Int) (w:World) (h:tH w p0 p1 p2 k m f t np nn nc kp kn kc a e) (h01:p0≠p1) (h02:p0≠p2) (h12:p1≠p2) :
  CallsD prog 118 #[.pointer (some ⟨p0,0,none⟩),.pointer (some ⟨p1,0,none⟩),.pointer (some ⟨p2,0,none⟩)] (.panicking [{ v:=.iface 195 (.int .i64 x),recovered:=false }]) w fun e u' w' =>
   e=.returned (.tuple #[])∧u'=.panicking [{ v:=.iface 195 (.int .i64 x),recovered:=true }]∧w'=((JC w p0 0 0 0 0 none 0 0 none 0 0).setCell ⟨p1,0,none⟩ (.int .i64 x)).setCell ⟨p2,0,none⟩ (.int .i64 6):=by
 have hcb:=cell_of_heap h.b;have c0:=hcb 0;have c1:=hcb 1;have c2:=hcb 2;have c3:=hcb 3;have c4:=hcb 4;have c5:=hcb 5;have ca:=cell_of_heap h.a 0;have ce:=cell_of_heap h.e 0;simp only [List.getElem?_toArray,List.getElem?_cons_zero,List.getElem?_cons_succ] at c0 c1 c2 c3 c4 c5 ca ce;have f0:w.frozen? ⟨p0,0,none⟩=false:=by simp [World.frozen?,h.b]
 have f1:w.frozen? ⟨p0,1,none⟩=false:=by simp [World.frozen?,h.b]
 have f2:w.frozen? ⟨p0,2,none⟩=false:=by simp [World.frozen?,h.b]
 have f3:w.frozen? ⟨p0,3,none⟩=false:=by simp [World.frozen?,h.b]
 have f4:w.frozen? ⟨p0,4,none⟩=false:=by simp [World.frozen?,h.b]
 have f5:w.frozen? ⟨p0,5,none⟩=false:=by simp [World.frozen?,h.b]
 have fa:w.frozen? ⟨p1,0,none⟩=false:=by simp [World.frozen?,h.a]
 have fe:w.frozen? ⟨p2,0,none⟩=false:=by simp [World.frozen?,h.e]
 have h10:¬ p1=p0:=fun e=>h01 e.symm
 have h20:¬ p2=p0:=fun e=>h02 e.symm
 have h21:¬ p2=p1:=fun e=>h12 e.symm
 clear hcb h;have h63:=WS x;have h64:=WQ x;have X5:=Q3 x;refine callsD_of_wpS func118 rfl fun c₀ cs hu=>?_
 apply wpS_seq
 apply wpS_region
 simp [wpOpsS,go_sem,recoverD,hu,ntmps118,Exit.thenS]
 simp only [Array.replicate_succ,Array.replicate_zero,List.push_toArray,List.append_toArray,List.nil_append,List.cons_append,List.setIfInBounds_toArray,List.set_cons_succ,List.set_cons_zero];refine wpS_of_wp ?_
 go_wp2
 cases c₀
 simp_all [bodyPostS,results,results118]
abbrev zeroV:Value:=.agg #[.int .i64 0,.int .i64 0,.int .i64 0,.int .i64 0,.slice none 0 0,.slice none 0 0]
abbrev W3 (w:World):World:=((w.alloc aH).alloc (.cells #[.int .i64 0] 3)).alloc (.cells #[.int .i64 0] 28)
section
variable {W W':World} {p0 p1 p2:Nat} {k m f t:Int} {np:Option Addr} {nn nc:Nat} {kp:Option Addr} {kn kc:Nat} {a e:Int}
theorem tH.step (h:tH W p0 p1 p2 k m f t np nn nc kp kn kc a e) (hb:Below W.heap.size W W'):tH W' p0 p1 p2 k m f t np nn nc kp kn kc a e :=
 ⟨(hb.block _ (Array.getElem?_eq_some_iff.1 h.b).1).trans h.b,(hb.block _ (Array.getElem?_eq_some_iff.1 h.a).1).trans h.a,(hb.block _ (Array.getElem?_eq_some_iff.1 h.e).1).trans h.e⟩
theorem tH.grow (h:tH W p0 p1 p2 k m f t np nn nc kp kn kc a e) {g:Nat} (hg:W.grownBy W' (some g)) (h0:p0≠g) (h1:p1≠g) (h2:p2≠g):tH W' p0 p1 p2 k m f t np nn nc kp kn kc a e :=
 ⟨(hg.block _ (Array.getElem?_eq_some_iff.1 h.b).1 (fun e=>h0 (Option.some.inj e))).trans h.b,(hg.block _ (Array.getElem?_eq_some_iff.1 h.a).1 (fun e=>h1 (Option.some.inj e))).trans h.a,(hg.block _ (Array.getElem?_eq_some_iff.1 h.e).1 (fun e=>h2 (Option.some.inj e))).trans h.e⟩
end
theorem dE {w W W':World} {g:Nat} (hb:Below w.heap.size w W) (hg:W.grownBy W' (some g)) (h:w.heap.size≤g):Below w.heap.size w W' :=
 ⟨hg.os.trans hb.os,hg.tape.trans hb.tape,hg.output.trans hb.output,Nat.le_trans hb.size hg.size,fun j hj=>(hg.block j (Nat.lt_of_lt_of_le hj hb.size) (fun e=>by have:=Option.some.inj e; omega)).trans (hb.block j hj)⟩
theorem Lm (w:World):tH (W3 w) w.heap.size (w.heap.size+1) (w.heap.size+1+1) 0 0 0 0 none 0 0 none 0 0 0 0:=by
 have h1:=heap_alloc_new (w.alloc aH) (.cells #[.int .i64 0] 3);have h2:=heap_alloc_new ((w.alloc aH).alloc (.cells #[.int .i64 0] 3)) (.cells #[.int .i64 0] 28);refine ⟨?_,?_,?_⟩
 ·rw [heap_alloc_old _ _ (by simp; omega),heap_alloc_old _ _ (by simp)]; exact heap_alloc_new w aH
 ·rw [heap_alloc_old _ _ (by simp)]; simpa using h1
 ·simpa using h2
theorem one_set {w:World} {g:Nat} {z:Value} {T:TypeId} (h:w.heap[g]?=some (.cells #[z] T (0,0))) (u:Value):(w.setCell ⟨g,0,none⟩ u).heap[g]?=some (.cells #[u] T (0,0)):=by
 rw [heap_setCell_same w g 0 _ _ u h]; rfl
theorem nZ {W:World} {p0 p1 p2:Nat} {k m f t:Int} {np:Option Addr} {nn nc:Nat} {kp:Option Addr} {kn kc:Nat} {a e:Int} (h:tH W p0 p1 p2 k m f t np nn nc kp kn kc a e) (h01:p0≠p1) (h02:p0≠p2) (h12:p1≠p2)
  (k' m' f' t':Int) (np':Option Addr) (nn' nc':Nat) (kp':Option Addr) (kn' kc':Nat) (a' e':Int) :
  tH (((JC W p0 k' m' f' t' np' nn' nc' kp' kn' kc').setCell ⟨p1,0,none⟩ (.int .i64 a')).setCell ⟨p2,0,none⟩ (.int .i64 e')) p0 p1 p2 k' m' f' t' np' nn' nc' kp' kn' kc' a' e':=by
 obtain ⟨gG,hgs⟩:=iq h.b (.int .i64 k') (.int .i64 m') (.int .i64 f') (.int .i64 t') (.slice np' nn' nc') (.slice kp' kn' kc');have ha:=(hgs.block _ (Array.getElem?_eq_some_iff.1 h.a).1 (fun e=>h01 (Option.some.inj e).symm)).trans h.a;have he:=(hgs.block _ (Array.getElem?_eq_some_iff.1 h.e).1 (fun e=>h02 (Option.some.inj e).symm)).trans h.e;refine ⟨?_,?_,?_⟩
 ·rw [Below.heap_setCell _ _ _ _ (by simp only; exact h02),Below.heap_setCell _ _ _ _ (by simp only; exact h01)]; exact gG
 ·rw [Below.heap_setCell _ _ _ _ (by simp only; exact h12)]; exact one_set ha _
 ·exact one_set ((Below.heap_setCell _ _ _ _ (by simp only; exact fun e=>h12 e.symm)).trans he) _
theorem lL {W:World} {N p0 p1 p2:Nat} {w:World} {k m f t:Int} {np:Option Addr} {nn nc:Nat} {kp:Option Addr} {kn kc:Nat} {a e:Int} (hb:Below w.heap.size w W) (h0:w.heap.size≤p0) (h1:w.heap.size≤p1) (h2:w.heap.size≤p2) :
  Below w.heap.size w (((JC W p0 k m f t np nn nc kp kn kc).setCell ⟨p1,0,none⟩ (.int .i64 a)).setCell ⟨p2,0,none⟩ (.int .i64 e)):=by
 have g6:W.grownBy (JC W p0 k m f t np nn nc kp kn kc) (some p0):=ae (ae (ae (ae (ae (aN _ _ _) (aN _ _ _)) (aN _ _ _)) (aN _ _ _)) (aN _ _ _)) (aN _ _ _);exact dE (dE (dE hb g6 h0) (aN p1 0 _) h1) (aN p2 0 _) h2
theorem Io (s:ByteArray):firstT s (gu jy (fU s 0))=fO s:=by
 unfold fO sF
 apply Dx
 intro t h;unfold fU at h;rw [List.dropLast_concat,List.drop_zero] at h;exact ((Bl _ _ _).1 t h).2.2.2
theorem MX (s:ByteArray) (hs:s.size≤1000000) (w:World) (hk:Kw w) :
  Calls prog 117 #[.string s] w fun e w'=>e=.returned (.tuple #[.int .i64 (fO s).1,.int .i64 (fO s).2])∧Below w.heap.size w w':=by
 have h:=first_any s hs w hk;rw [Io] at h;exact h
def nS (s:ByteArray) (w:World) (o:Src→Out Pb) (e:Ending) (w':World):Prop:=Below w.heap.size w w' ∧
 (((fO s).2≠0∧e=.returned (.tuple #[zeroV,.int .i64 (fO s).1,.int .i64 (fO s).2])) ∨
  ((fO s).2=0∧∃ S:Src,S.s=s∧S.ts=bC s∧S.Good ∧
  ((∃ x n v,gJ S (o S)=.ok x n∧e=.returned (.tuple #[v,.int .i64 0,.int .i64 0])∧RB w x v w') ∨
   (∃ n,gJ S (o S)=.form n∧e=.returned (.tuple #[zeroV,.int .i64 (S.pl n),.int .i64 9])) ∨
   (∃ n,gJ S (o S)=.deep n∧e=.returned (.tuple #[zeroV,.int .i64 (S.pl n),.int .i64 6])))))
set_option maxHeartbeats 1000000 in
theorem Ii (m:Nat) (hcf:∀ args w,Sem.run prog (callFunc m args) w=.ok (.enter m args) w) (o:Src→Out Pb) (s:ByteArray) (hs:s.size≤1000000) (w:World) (hk:Kw w)
  (hread:∀ S w',S.s=s→S.ts=bC s→Rd w' S 0 0→o S≠.dry→Calls prog m #[.pointer (some ⟨S.g,0,none⟩)] w' fun e w''=>Ends S 0 w' (o S) (RB w') e w'')
  (hnd:∀ S,S.s=s→S.ts=bC s→S.Good→o S≠.dry) :
  Calls prog 80 #[.string s,.func (.func m) #[] #[]] w fun e w'=>nS s w o e w':=by
 have hb3:Below w.heap.size w (W3 w):=(((Below.refl _ _).alloc (Nat.le_refl _) _).alloc (by simp) _).alloc (by simp; omega) _;have hk3:Kw (W3 w):=((hk.alloc _).alloc _).alloc _;have HF:Hid (Calls prog 117 #[.string s] (W3 w) fun e w'=>e=.returned (.tuple #[.int .i64 (fO s).1,.int .i64 (fO s).2])∧Below (W3 w).heap.size (W3 w) w'):=hid (MX s hs _ hk3);have HR3:=hid (Lm w);have HB3:=hid hb3;have Rj:=hid hk3;have Ri:=hid hread;have JO:=hid hnd;have h01:¬ w.heap.size=w.heap.size+1:=by omega
 have h02:¬ w.heap.size=w.heap.size+1+1:=by omega
 have h12:¬ w.heap.size+1=w.heap.size+1+1:=by omega
 have h10:¬ w.heap.size+1=w.heap.size:=by omega
 have h20:¬ w.heap.size+1+1=w.heap.size:=by omega
 have h21:¬ w.heap.size+1+1=w.heap.size+1:=by omega
 have hmf:∀ (fn:Fn) (first cap:Array Value) (w:World),(Instr.makeFunc fn first cap).run prog w=.ok (.func fn first cap) w:=fun _ _ _ _=>rfl
 have hz3:(W3 w).heap.size=w.heap.size+3:=by simp
 clear hb3 hk3 hk hread hnd;obtain ⟨a0,ha0⟩:∃ a0,a0=(fO s).1:=⟨_,rfl⟩
 obtain ⟨e0,he0⟩:∃ e0,e0=(fO s).2:=⟨_,rfl⟩
 have Hf:=hid (And.intro ha0 he0);rw [← ha0,← he0] at HF;clear ha0 he0
 by_cases X6:e0=0
 ·subst X6
  go_enter_defers func80,ntmps80
  go_wp2_with fail
  refine HF.out.mono ?_
  rintro e w4 ⟨rfl,hb4⟩;have HR4:=hid (HR3.out.step hb4);have HB4:=hid (HB3.out.trans (hb4.mono (by simp; omega)));have X7:Hid (w.heap.size+3≤w4.heap.size):=hid (by have:=hb4.size; omega);have HW:=hid (yu s hs w4 (Rj.out.step hb4));clear hb4 HF HR3 Rj HB3
  go_wp2_with fail
  refine HW.out.mono ?_
  rintro e w5 ⟨v,rfl,htk,hb5⟩;have hwl:0 < (bC s).length:=by rw [lW]; simp
  obtain ⟨g,c,rfl,hlc,hcm,hgl,hcells⟩:=uQ.open htk hwl;have jP:=hid (HR4.out.step hb5);have mg:=hid (HB4.out.trans (hb5.mono HB4.out.size));have UO:g≠w.heap.size:=by
   intro e;obtain ⟨base,hown⟩:=htk
   rcases hown.2 with ⟨hv,_⟩ | ⟨g',c',cur,hv,_,hh,_⟩
   ·cases hv
   ·injection hv with e1 _ _
    have e2:=Option.some.inj e1
    injection e2 with e3 _ _
    rw [← e3,e,jP.out.b] at hh
    injection hh with e4
    injection e4 with _ e5
    cases e5
  have HZ5:Hid (w.heap.size+3≤w5.heap.size):=hid (by have:=hb5.size; have:=X7.out; omega);obtain ⟨wl,RJ⟩:∃ wl,wl=(bC s).length:=⟨_,rfl⟩
  have hgood:Src.Good ⟨s,bC s,w5.heap.size,g,c⟩:=FC _ hs rfl hlc (by simp only; omega);have hb6:Below w5.heap.size w5 (w5.alloc (.cells #[.string s,.slice (some ⟨g,0,none⟩) wl c,.int .i64 0,.int .i64 0] 197)):=(Below.refl _ _).alloc (Nat.le_refl _) _;have hrd:Rd (w5.alloc (.cells #[.string s,.slice (some ⟨g,0,none⟩) wl c,.int .i64 0,.int .i64 0] 197)) ⟨s,bC s,w5.heap.size,g,c⟩ 0 0 :=
   ⟨hgood,hwl,by rw [RJ]; exact heap_alloc_new w5 _,Nat.lt_of_lt_of_le hgl hb6.size,hcells.step hgl hb6,by omega⟩
  have HX:=hid (Ri.out _ _ rfl rfl hrd (JO.out _ rfl rfl hgood));have Gi:=hid hgood;have qm:=hid (jP.out.step hb6);have RP:=hid (mg.out.trans (hb6.mono mg.out.size));rw [← RJ];obtain ⟨S,hS⟩:∃ S:Src,S=⟨s,bC s,w5.heap.size,g,c⟩:=⟨_,rfl⟩
  have hSs:S.s=s:=by rw [hS]
  have hSt:S.ts=bC s:=by rw [hS]
  have UQ:S.g=w5.heap.size:=by rw [hS]
  have hSw:S.gw < w5.heap.size:=by rw [hS]; exact hgl
  rw [← hS] at HX Gi;have JP:=hid (And.intro hSs (And.intro hSt Gi.out));have UR:Hid (S.gw≠w.heap.size):=hid (by rw [hS]; exact UO);have D5:Hid (w.heap.size+3≤S.g):=hid (by rw [UQ]; exact HZ5.out);clear hb5 htk hcells hrd hgood hb6 HR4 HB4 HW jP mg Ri JO hS hSs hSt Gi RJ hlc hcm hwl;have abz:=hcf #[.pointer (some ⟨w5.heap.size,0,none⟩)];rw [UQ] at HX
  go_wp2_with fail
  refine HX.out.mono ?_
  rintro e w7 (⟨b,n7,v,hpo,rfl,⟨y,hv,hyl,hyo,rfl⟩,X8,RQ⟩ | ⟨ch,ho,rfl,RQ⟩)
  ·simp only [Hd.val] at hv
   subst hv;have hr7':=X8;have UT:=hid (dE RP.out RQ (by have:=D5.out; omega));have Ap:=hid (qm.out.grow RQ (by have:=D5.out; omega) (by have:=D5.out; omega) (by have:=D5.out; omega));obtain ⟨gG,hgs⟩:=iq Ap.out.b (.int .i64 y.h.k) (.int .i64 y.h.m) (.int .i64 y.h.f) (.int .i64 y.h.t) (.slice y.h.np y.h.nn y.h.nc) (.slice y.h.kp y.h.kn y.h.kc);have RS:=X8.grow hgs (fun e=>by have:=Option.some.inj e; have:=D5.out; omega) (fun e=>by have:=Option.some.inj e; have:=UR.out; omega);have DL:=hid (bG S n7 0 _ RS);rw [UQ] at DL;have HR8:Hid (tH (wQ w7 w.heap.size y.h) w.heap.size (w.heap.size+1) (w.heap.size+1+1) y.h.k y.h.m y.h.f y.h.t y.h.np y.h.nn y.h.nc y.h.kp y.h.kn y.h.kc 0 0):=hid ⟨gG,(hgs.block _ (Array.getElem?_eq_some_iff.1 Ap.out.a).1 (fun e=>by have:=Option.some.inj e; omega)).trans Ap.out.a,(hgs.block _ (Array.getElem?_eq_some_iff.1 Ap.out.e).1 (fun e=>by have:=Option.some.inj e; omega)).trans Ap.out.e⟩;have UU:Hid (Below w.heap.size w (wQ w7 w.heap.size y.h)):=hid (dE UT.out hgs (Nat.le_refl _));have rW:Hid (y.On fun q=>S.g < q):=hid (hyo.mono (fun q hq=>by simp only [World.size_alloc] at hq; omega) _);have zU:Hid (y.Lies (wQ w7 w.heap.size y.h)):=hid (Br.Lies.kept (P:=fun q=>S.g < q) y hgs.size (fun q hq hl=>hgs.block q hl (fun e=>by have:=Option.some.inj e; have:=D5.out; omega)) rW.out hyl);have UV:=hid RS;have qi:=hid hpo;have hcb:=cell_of_heap Ap.out.b;have c0:=hcb 0;have c1:=hcb 1;have c2:=hcb 2;have c3:=hcb 3;have c4:=hcb 4;have c5:=hcb 5;have ca:=cell_of_heap Ap.out.a 0;have ce:=cell_of_heap Ap.out.e 0;simp only [List.getElem?_toArray,List.getElem?_cons_zero,List.getElem?_cons_succ] at c0 c1 c2 c3 c4 c5 ca ce;have f0:=ay Ap.out.b 0;have f1:=ay Ap.out.b 1;have f2:=ay Ap.out.b 2;have f3:=ay Ap.out.b 3;have f4:=ay Ap.out.b 4;have f5:=ay Ap.out.b 5;have fa:=ay Ap.out.a 0;have fe:=ay Ap.out.e 0;clear hcb;clear gG hgs RS hyl hyo hpo X8 RQ HX qm RP Ap UT hr7'
   go_wp2_with fail
   refine DL.out.mono ?_
   rintro e w9 ⟨rfl,UW⟩;have zW:=hid (HR8.out.step UW);have KE:=hid (UU.out.trans (UW.mono UU.out.size));have Ah:=hid (zU.out.step _ UW);have UX:=hid (UV.out.step UW);clear UW HR8 UU zU UV DL c0 c1 c2 c3 c4 c5 ca ce f0 f1 f2 f3 f4 f5 fa fe
   cases hkd:(S.kd n7 == 0)
   ·have HE:=hid (oO S n7 0 w9 UX.out)
    rw [UQ] at HE
    go_wp2_with fail
    refine HE.out.mono ?_
    rintro e w10 ⟨rfl,UY⟩;have D6:=hid (zW.out.step UY);have Ox:=hid (KE.out.trans (UY.mono KE.out.size));have RV:Hid (gJ S (o S)=.form n7):=hid (by rw [qi.out]; unfold gJ Out.bind; simp only [hkd]; rfl);refine (show bodyPostD prog f80 (fun e w'=>nS s w o e w') (.panic [{ v:=.iface 194 (.int .i64 (S.pl n7)),recovered:=false }]) _ w10 from ?_)
    refine leaves_cons (f:=118) (args:=#[.pointer (some ⟨w.heap.size,0,none⟩),.pointer (some ⟨w.heap.size+1,0,none⟩),.pointer (some ⟨w.heap.size+1+1,0,none⟩)]) (by simp) (by simp [go_sem]) ?_
    refine (vG w.heap.size (w.heap.size+1) (w.heap.size+1+1) _ _ _ _ _ _ _ _ _ _ _ _ (S.pl n7) w10 D6.out h01 h02 h12).mono ?_
    rintro e u' w11 ⟨rfl,rfl,rfl⟩;have HP:=nZ D6.out h01 h02 h12 0 0 0 0 none 0 0 none 0 0 (S.pl n7) 9;have hcb:=cell_of_heap HP.b;have d0:=hcb 0;have d1:=hcb 1;have d2:=hcb 2;have d3:=hcb 3;have d4:=hcb 4;have d5:=hcb 5;have da:=cell_of_heap HP.a 0;have de:=cell_of_heap HP.e 0;simp only [List.getElem?_toArray,List.getElem?_cons_zero,List.getElem?_cons_succ] at d0 d1 d2 d3 d4 d5 da de;clear hcb;refine ⟨.tuple #[zeroV,.int .i64 (S.pl n7),.int .i64 9],by simp [results,results80,go_sem,d0,d1,d2,d3,d4,d5,da,de,Result.andThen]; try rfl,?_⟩
    exact ⟨lL (N:=0) Ox.out (Nat.le_refl _) (by omega) (by omega),Or.inr ⟨Hf.out.2.symm,S,JP.out.1,JP.out.2.1,JP.out.2.2,Or.inr (Or.inl ⟨n7,RV.out,rfl⟩)⟩⟩
   ·have HE:=hid (nC S n7 0 w9 UX.out)
    rw [UQ] at HE
    go_wp2_with fail
    refine HE.out.mono ?_
    rintro e w10 ⟨rfl,rfl⟩;have hcb:=cell_of_heap zW.out.b;have c0:=hcb 0;have c1:=hcb 1;have c2:=hcb 2;have c3:=hcb 3;have c4:=hcb 4;have c5:=hcb 5;have ca:=cell_of_heap zW.out.a 0;have ce:=cell_of_heap zW.out.e 0;simp only [List.getElem?_toArray,List.getElem?_cons_zero,List.getElem?_cons_succ] at c0 c1 c2 c3 c4 c5 ca ce;have f0:=ay zW.out.b 0;have f1:=ay zW.out.b 1;have f2:=ay zW.out.b 2;have f3:=ay zW.out.b 3;have f4:=ay zW.out.b 4;have f5:=ay zW.out.b 5;have fa:=ay zW.out.a 0;have fe:=ay zW.out.e 0;clear hcb
    go_wp2_with fail
    have RV:Hid (gJ S (o S)=.ok y.pb n7):=hid (by rw [qi.out]; unfold gJ Out.bind; simp only [hkd]; rfl);refine leaves_cons (f:=118) (args:=#[.pointer (some ⟨w.heap.size,0,none⟩),.pointer (some ⟨w.heap.size+1,0,none⟩),.pointer (some ⟨w.heap.size+1+1,0,none⟩)]) (by simp) (by simp [go_sem]) ?_
    refine (catch_idle w.heap.size (w.heap.size+1) (w.heap.size+1+1) _).mono ?_
    rintro e u' w11 ⟨rfl,rfl,rfl⟩;have HP:=nZ zW.out h01 h02 h12 y.h.k y.h.m y.h.f y.h.t y.h.np y.h.nn y.h.nc y.h.kp y.h.kn y.h.kc 0 0;have hcb:=cell_of_heap HP.b;have d0:=hcb 0;have d1:=hcb 1;have d2:=hcb 2;have d3:=hcb 3;have d4:=hcb 4;have d5:=hcb 5;have da:=cell_of_heap HP.a 0;have de:=cell_of_heap HP.e 0;simp only [List.getElem?_toArray,List.getElem?_cons_zero,List.getElem?_cons_succ] at d0 d1 d2 d3 d4 d5 da de;clear hcb;refine ⟨.tuple #[.agg #[.int .i64 y.h.k,.int .i64 y.h.m,.int .i64 y.h.f,.int .i64 y.h.t,.slice y.h.np y.h.nn y.h.nc,.slice y.h.kp y.h.kn y.h.kc],.int .i64 0,.int .i64 0],by simp [results,results80,go_sem,d0,d1,d2,d3,d4,d5,da,de,Result.andThen]; try rfl,?_⟩
    refine ⟨lL (N:=0) KE.out (Nat.le_refl _) (by omega) (by omega),Or.inr ⟨Hf.out.2.symm,S,JP.out.1,JP.out.2.1,JP.out.2.2,Or.inl ⟨y.pb,n7,_,RV.out,rfl,y,rfl,?_,rW.out.mono (fun q hq=>by have:=D5.out; omega) _,rfl⟩⟩⟩
    exact Br.Lies.kept (P:=fun q=>S.g < q) y (by simp) (fun q hq hl=>by
     have:=D5.out
     rw [Below.heap_setCell _ _ _ _ (by simp only; omega),Below.heap_setCell _ _ _ _ (by simp only; omega)];rw [Below.heap_setCell _ _ _ _ (by simp only; omega),Below.heap_setCell _ _ _ _ (by simp only; omega),Below.heap_setCell _ _ _ _ (by simp only; omega),Below.heap_setCell _ _ _ _ (by simp only; omega),Below.heap_setCell _ _ _ _ (by simp only; omega),Below.heap_setCell _ _ _ _ (by simp only; omega)]) rW.out Ah.out
  ·have D6:=hid (qm.out.grow RQ (by have:=D5.out; omega) (by have:=D5.out; omega) (by have:=D5.out; omega))
   have Ox:=hid (dE RP.out RQ (by have:=D5.out; omega));clear RQ HX qm RP
   cases QG:o S with
   | ok x n=>rw [QG] at ho; cases ho
   | dry=>rw [QG] at ho; cases ho
   | form n =>
    rw [QG] at ho;have ho:=Option.some.inj ho;subst ho;have RV:Hid (gJ S (o S)=.form n):=hid (by rw [QG]; rfl);refine (show bodyPostD prog f80 (fun e w'=>nS s w o e w') (.panic [{ v:=.iface 194 (.int .i64 (S.pl n)),recovered:=false }]) _ w7 from ?_)
    refine leaves_cons (f:=118) (args:=#[.pointer (some ⟨w.heap.size,0,none⟩),.pointer (some ⟨w.heap.size+1,0,none⟩),.pointer (some ⟨w.heap.size+1+1,0,none⟩)]) (by simp) (by simp [go_sem]) ?_
    refine (vG w.heap.size (w.heap.size+1) (w.heap.size+1+1) _ _ _ _ _ _ _ _ _ _ _ _ (S.pl n) w7 D6.out h01 h02 h12).mono ?_
    rintro e u' w11 ⟨rfl,rfl,rfl⟩;have HP:=nZ D6.out h01 h02 h12 0 0 0 0 none 0 0 none 0 0 (S.pl n) 9;have hcb:=cell_of_heap HP.b;have d0:=hcb 0;have d1:=hcb 1;have d2:=hcb 2;have d3:=hcb 3;have d4:=hcb 4;have d5:=hcb 5;have da:=cell_of_heap HP.a 0;have de:=cell_of_heap HP.e 0;simp only [List.getElem?_toArray,List.getElem?_cons_zero,List.getElem?_cons_succ] at d0 d1 d2 d3 d4 d5 da de;clear hcb;refine ⟨.tuple #[zeroV,.int .i64 (S.pl n),.int .i64 9],by simp [results,results80,go_sem,d0,d1,d2,d3,d4,d5,da,de,Result.andThen]; try rfl,?_⟩
    exact ⟨lL (N:=0) Ox.out (Nat.le_refl _) (by omega) (by omega),Or.inr ⟨Hf.out.2.symm,S,JP.out.1,JP.out.2.1,JP.out.2.2,Or.inr (Or.inl ⟨n,RV.out,rfl⟩)⟩⟩
   | deep n =>
    rw [QG] at ho;have ho:=Option.some.inj ho;subst ho;have RV:Hid (gJ S (o S)=.deep n):=hid (by rw [QG]; rfl);refine (show bodyPostD prog f80 (fun e w'=>nS s w o e w') (.panic [{ v:=.iface 195 (.int .i64 (S.pl n)),recovered:=false }]) _ w7 from ?_)
    refine leaves_cons (f:=118) (args:=#[.pointer (some ⟨w.heap.size,0,none⟩),.pointer (some ⟨w.heap.size+1,0,none⟩),.pointer (some ⟨w.heap.size+1+1,0,none⟩)]) (by simp) (by simp [go_sem]) ?_
    refine (FB w.heap.size (w.heap.size+1) (w.heap.size+1+1) _ _ _ _ _ _ _ _ _ _ _ _ (S.pl n) w7 D6.out h01 h02 h12).mono ?_
    rintro e u' w11 ⟨rfl,rfl,rfl⟩;have HP:=nZ D6.out h01 h02 h12 0 0 0 0 none 0 0 none 0 0 (S.pl n) 6;have hcb:=cell_of_heap HP.b;have d0:=hcb 0;have d1:=hcb 1;have d2:=hcb 2;have d3:=hcb 3;have d4:=hcb 4;have d5:=hcb 5;have da:=cell_of_heap HP.a 0;have de:=cell_of_heap HP.e 0;simp only [List.getElem?_toArray,List.getElem?_cons_zero,List.getElem?_cons_succ] at d0 d1 d2 d3 d4 d5 da de;clear hcb;refine ⟨.tuple #[zeroV,.int .i64 (S.pl n),.int .i64 6],by simp [results,results80,go_sem,d0,d1,d2,d3,d4,d5,da,de,Result.andThen]; try rfl,?_⟩
    exact ⟨lL (N:=0) Ox.out (Nat.le_refl _) (by omega) (by omega),Or.inr ⟨Hf.out.2.symm,S,JP.out.1,JP.out.2.1,JP.out.2.2,Or.inr (Or.inr ⟨n,RV.out,rfl⟩)⟩⟩
 ·have hne:(e0 != 0)=true:=by simpa using X6
  go_enter_defers func80,ntmps80
  go_wp2_with fail
  refine HF.out.mono ?_
  rintro e w4 ⟨rfl,hb4⟩;have HR4:=hid (HR3.out.step hb4);have HB4:=hid (HB3.out.trans (hb4.mono (by simp; omega)));clear hb4 HF HR3 Rj Ri JO HB3;have hcb:=cell_of_heap HR4.out.b;have c0:=hcb 0;have c1:=hcb 1;have c2:=hcb 2;have c3:=hcb 3;have c4:=hcb 4;have c5:=hcb 5;have ca:=cell_of_heap HR4.out.a 0;have ce:=cell_of_heap HR4.out.e 0;simp only [List.getElem?_toArray,List.getElem?_cons_zero,List.getElem?_cons_succ] at c0 c1 c2 c3 c4 c5 ca ce;have f0:=ay HR4.out.b 0;have f1:=ay HR4.out.b 1;have f2:=ay HR4.out.b 2;have f3:=ay HR4.out.b 3;have f4:=ay HR4.out.b 4;have f5:=ay HR4.out.b 5;have fa:=ay HR4.out.a 0;have fe:=ay HR4.out.e 0;clear hcb
  go_wp2_with fail
  have HP:=nZ HR4.out h01 h02 h12 0 0 0 0 none 0 0 none 0 0 a0 e0;have hcb:=cell_of_heap HP.b;have d0:=hcb 0;have d1:=hcb 1;have d2:=hcb 2;have d3:=hcb 3;have d4:=hcb 4;have d5:=hcb 5;have da:=cell_of_heap HP.a 0;have de:=cell_of_heap HP.e 0;simp only [List.getElem?_toArray,List.getElem?_cons_zero,List.getElem?_cons_succ] at d0 d1 d2 d3 d4 d5 da de;clear hcb;refine ⟨.tuple #[zeroV,.int .i64 a0,.int .i64 e0],by simp [results,results80,go_sem,d0,d1,d2,d3,d4,d5,da,de,Result.andThen]; try rfl,?_⟩
  refine ⟨lL (N:=0) HB4.out (Nat.le_refl _) (by omega) (by omega),Or.inl ⟨?_,?_⟩⟩
  ·rw [← Hf.out.2]; exact X6
  ·rw [← Hf.out.1,← Hf.out.2]
theorem nS.form {s:ByteArray} {w:World} {o:Src→Out Pb} {e:Ending} {w':World} (h:nS s w o e w'):∃ (k m f t:Int) (np:Option Addr) (nn nc:Nat) (kp:Option Addr) (kn kc:Nat) (a c:Int),e=.returned (.tuple #[.agg #[.int .i64 k,.int .i64 m,.int .i64 f,.int .i64 t,.slice np nn nc,.slice kp kn kc],.int .i64 a,.int .i64 c]):=by
 obtain ⟨_,⟨_,he⟩ | ⟨_,S,_,_,_,⟨x,n,v,_,he,y,hv,_⟩ | ⟨n,_,he⟩ | ⟨n,_,he⟩⟩⟩:=h
 ·exact ⟨_,_,_,_,_,_,_,_,_,_,_,_,he⟩
 ·subst hv; exact ⟨_,_,_,_,_,_,_,_,_,_,_,_,he⟩
 ·exact ⟨_,_,_,_,_,_,_,_,_,_,_,_,he⟩
 ·exact ⟨_,_,_,_,_,_,_,_,_,_,_,_,he⟩
theorem nS.moved {s:ByteArray} {w:World} {o:Src→Out Pb} {e:Ending} {w' w2:World} (h:nS s (w.alloc aH) o e w') (hg:w'.grownBy w2 (some w.heap.size)):nS s w o e w2:=by
 obtain ⟨hb,hc⟩:=h;have hb1:Below w.heap.size w (w.alloc aH):=(Below.refl w.heap.size w).alloc (Nat.le_refl _) _;refine ⟨dE (hb1.trans (hb.mono (by simp))) hg (Nat.le_refl _),?_⟩
 rcases hc with h | ⟨h0,S,h1,h2,h3,⟨x,n,v,h4,h5,y,h6,h7,h8,h9⟩ | h | h⟩
 ·exact Or.inl h
 ·refine Or.inr ⟨h0,S,h1,h2,h3,Or.inl ⟨x,n,v,h4,h5,y,h6,?_,h8.mono (fun q hq=>by simp only [World.size_alloc] at hq; omega) _,h9⟩⟩
  exact Br.Lies.kept (P:=fun q=>(w.alloc aH).heap.size≤q) y hg.size (fun q hq hl=>hg.block q hl (fun e=>by have:=Option.some.inj e; simp only [World.size_alloc] at hq; omega)) h8 h7
 ·exact Or.inr ⟨h0,S,h1,h2,h3,Or.inr (Or.inl h)⟩
 ·exact Or.inr ⟨h0,S,h1,h2,h3,Or.inr (Or.inr h)⟩
theorem FK (W:World) (p0:Nat) (k m f t:Int) (np:Option Addr) (nn nc:Nat) (kp:Option Addr) (kn kc:Nat):W.grownBy (JC W p0 k m f t np nn nc kp kn kc) (some p0):=ae (ae (ae (ae (ae (aN _ _ _) (aN _ _ _)) (aN _ _ _)) (aN _ _ _)) (aN _ _ _)) (aN _ _ _)
def fuel (S:Src):Nat:=S.ts.length+257
theorem Qg {S:Src} (h:S.Good):fuel S≤1000000000:=by have:=h.len; unfold fuel; omega
def nG (S:Src):Out Pb:=jq S (fuel S) 0
def aa1 (nt:Nt) (S:Src):Out Pb:=parts S (fuel S) nt 0 0
theorem NS (S:Src) (h:S.ts=bC S.s):0 < S.ts.length:=by rw [h,lW]; simp
theorem Na (S:Src) (ht:S.ts=bC S.s) (h:S.Good):nG S≠.dry:=(xy h (F:=fuel S) (Nat.le_refl _) (NS S ht)).nd
theorem Wx (args:Array Value) (w:World):Sem.run prog (callFunc 81 args) w=.ok (.enter 81 args) w:=aV func81 (by kernel_rfl) (by kernel_rfl) args w
theorem FZ (s:ByteArray) (hs:s.size≤1000000) (w:World) (hk:Kw w):Calls prog 80 #[.string s,.func (.func 81) #[] #[]] w fun e w'=>nS s w nG e w' :=
 Ii 81 Wx nG s hs w hk (fun S w' h1 h2 hr hnd=>JE S (fuel S) (Qg hr.good) 0 w' hr hnd) (fun S h1 h2 hg=>Na S (by rw [h2,h1]) hg)
set_option maxHeartbeats 1000000 in
theorem Fa (s:ByteArray) (hs:s.size≤1000000) (w:World) (hk:Kw w):Calls prog 52 #[.string s] w fun e w'=>nS s w nG e w':=by
 have HW:=hid (FZ s hs (w.alloc aH) (hk.alloc _));have HB:=hid (heap_alloc_new w aH);clear hk
 go_enter func52,ntmps52
 go_wp2_with fail
 refine HW.out.mono ?_
 intro e w2 hsd;obtain ⟨k,m,f,t,np,nn,nc,kp,kn,kc,a,c,rfl⟩:=hsd.form;have HX:=hid ((hsd.1.block w.heap.size (by simp)).trans HB.out);have HS:=hid hsd;clear hsd HW HB;have hcb:=cell_of_heap HX.out;have c0:=hcb 0;have c1:=hcb 1;have c2:=hcb 2;have c3:=hcb 3;have c4:=hcb 4;have c5:=hcb 5;simp only [List.getElem?_toArray,List.getElem?_cons_zero,List.getElem?_cons_succ] at c0 c1 c2 c3 c4 c5;have f0:=ay HX.out 0;have f1:=ay HX.out 1;have f2:=ay HX.out 2;have f3:=ay HX.out 3;have f4:=ay HX.out 4;have f5:=ay HX.out 5;clear hcb
 go_wp2_with fail
 have HP:=(iq HX.out (.int .i64 k) (.int .i64 m) (.int .i64 f) (.int .i64 t) (.slice np nn nc) (.slice kp kn kc)).1;have hcb:=cell_of_heap HP;have d0:=hcb 0;have d1:=hcb 1;have d2:=hcb 2;have d3:=hcb 3;have d4:=hcb 4;have d5:=hcb 5;simp only [List.getElem?_toArray,List.getElem?_cons_zero,List.getElem?_cons_succ] at d0 d1 d2 d3 d4 d5;clear hcb;refine bodyPost_ret (by simp [results,results52,go_sem,d0,d1,d2,d3,d4,d5,Result.andThen]; try rfl) rfl ?_
 exact HS.out.moved (FK _ _ _ _ _ _ _ _ _ _ _ _)
theorem fZ (l:List ByteArray) (s:ByteArray):inB l s=l.any fun t=>t.data.toList == s.data.toList:=by
 unfold inB; congr 1; funext t; rw [toList_data,toList_data]
theorem kz {c:UInt8} {r:List UInt8} {q:Int} (hd:jv c=false) (hk:eH (bsOf (c :: r))=q) (hq:(q == 0)=false):dA (c :: r)=q:=by
 unfold dA;simp only [hd,hk,hq,cond_false]
theorem Zw:eH (bsOf [77])=7:=by
 unfold eH kwB mkB; rw [fZ,fZ,kM _ (by decide)]; decide
theorem Zk:eH (bsOf [46])=11:=by
 unfold eH kwB mkB; rw [fZ,fZ,kM _ (by decide)]; decide
theorem Wy:eH (bsOf [120])=6:=by
 unfold eH kwB mkB; rw [fZ,fZ,kM _ (by decide)]; decide
theorem ZF:eH (bsOf [43])=9:=by
 unfold eH kwB mkB; rw [fZ,fZ,kM _ (by decide)]; decide
theorem WO:eH (bsOf [121])=6:=by
 unfold eH kwB mkB; rw [fZ,fZ,kM _ (by decide)]; decide
theorem zi:eH (bsOf [118,97,108])=10:=by
 unfold eH kwB mkB; rw [fZ,fZ,kM _ (by decide)]; decide
theorem Zg:eH (bsOf [61])=11:=by
 unfold eH kwB mkB; rw [fZ,fZ,kM _ (by decide)]; decide
def Pb.k:Pb→Int | .mk k _ _ _ _ _=>k
end Go.Proofs.YtmpmfamiegpmgaaGreatDoor
