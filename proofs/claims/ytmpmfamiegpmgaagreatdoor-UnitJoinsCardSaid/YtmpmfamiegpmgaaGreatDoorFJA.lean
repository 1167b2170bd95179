/-
  slices.Clone of numbers and of nodes, walked.; A node's copy in memory of its own (looks.go's own): what is kept while it is made.; A node's copy in memory of its own: one node more is copied.; A node's copy in memory of its own: the function that is handed each node.; A node's copy in memory of its own (looks.go's own), walked.
-/
import Derived.Test.YtmpmfamiegpmgaaGreatDoorFF
import Derived.OwnWalk
import Derived.Laws.AppendOwn
import Derived.Test.YtmpmfamiegpmgaaGreatDoorFU
import Derived.BigRegion
import Derived.Deep.RegionWith
namespace Go.Proofs.YtmpmfamiegpmgaaGreatDoor
open Tryz
open Go.Lib (cell_of_heap hid)
open Go.RowKit
set_option maxRecDepth 20000
set_option linter.unusedVariables false
set_option linter.unusedSimpArgs false
def jU (h:Hd):List Value:=[.int .i64 h.k,.int .i64 h.m,.int .i64 h.f,.int .i64 h.t,.slice h.np h.nn h.nc,.slice h.kp h.kn h.kc]
def bJ (ks:List Br):List Value:=ks.flatMap fun b=>jU b.h
theorem ik (ks:List Br):(bJ ks).length=ks.length * 6:=by
 induction ks with
 | nil=>rfl
 | cons v r ih=>simp only [bJ,List.flatMap_cons,List.length_append] at *; rw [ih]; simp [jU]; omega
theorem sU (ks:List Br) (j:Nat) (v:Br) (h:ks[j]?=some v) (r:Nat) (hr:r < 6):(bJ ks)[j * 6+r]?=(jU v.h)[r]?:=by
 induction ks generalizing j with
 | nil=>simp at h
 | cons x t ih =>
  have hx:(jU x.h).length=6:=rfl;simp only [bJ,List.flatMap_cons] at *
  cases j with
  | zero =>
   simp only [List.getElem?_cons_zero,Option.some.injEq] at h;subst h;rw [Nat.zero_mul,Nat.zero_add,List.getElem?_append_left (by omega)]
  | succ j =>
   simp only [List.getElem?_cons_succ] at h;rw [List.getElem?_append_right (by omega),show (j+1) * 6+r - (jU x.h).length=j * 6+r by omega];exact ih j h
theorem Af (ks:List Br):∀ u ∈ bJ ks,u.oneCell'=true:=fun u hu=>by
 obtain ⟨b,_,h⟩:=List.mem_flatMap.1 hu;simp only [jU,List.mem_cons,List.not_mem_nil,or_false] at h
 rcases h with rfl | rfl | rfl | rfl | rfl | rfl <;> rfl
theorem IP {w:World} {b off:Nat} {ks:List Br} (hat:OV w b off ks):∀ j u,(bJ ks)[j]?=some u→w.cell? ((⟨b,off,none⟩:Addr).add j)=some u:=fun j u hu=>by
 have hj:j < ks.length * 6:=by rw [← ik]; exact (List.getElem?_eq_some_iff.1 hu).1
 have hi:j / 6 < ks.length:=by omega
 have hg:=sU ks (j / 6) ks[j / 6] (List.getElem?_eq_getElem hi) (j % 6) (Nat.mod_lt _ (by omega));rw [show j / 6 * 6+j % 6=j by omega,hu] at hg;have ha:((⟨b,off,none⟩:Addr).add j)=⟨b,off+j,none⟩:=by unfold Addr.add; split <;> simp_all
 rw [ha];obtain ⟨c0,c1,c2,c3,c4,c5⟩:=hat (j / 6) hi;have h6:j % 6 < 6:=Nat.mod_lt _ (by omega);have hjj:off+j=off+j / 6 * 6+j % 6:=by omega
 rw [hjj];generalize j % 6=r at *
 match r,h6,hg with
 | 0,_,hg=>exact c0.trans hg.symm
 | 1,_,hg=>exact c1.trans hg.symm
 | 2,_,hg=>exact c2.trans hg.symm
 | 3,_,hg=>exact c3.trans hg.symm
 | 4,_,hg=>exact c4.trans hg.symm
 | 5,_,hg=>exact c5.trans hg.symm
theorem Ku {w:World} {b off:Nat} {l:List Int} (hat:AtV mkI w b off l):∀ j u,(l.map mkI)[j]?=some u→w.cell? ((⟨b,off,none⟩:Addr).add j)=some u:=fun j u hu=>by
 have ha:((⟨b,off,none⟩:Addr).add j)=⟨b,off+j,none⟩:=by unfold Addr.add; split <;> simp_all
 rw [ha];have hj:j < l.length:=by have:=(List.getElem?_eq_some_iff.1 hu).1; simpa using this
 rw [hat j hj];rw [List.getElem?_map,List.getElem?_eq_getElem hj] at hu;exact hu
theorem OU (l:List Int):∀ u ∈ l.map mkI,u.oneCell'=true:=fun u hu=>by
 obtain ⟨x,_,rfl⟩:=List.mem_map.1 hu; rfl
set_option maxHeartbeats 4000000 in
theorem Fj (w:World) (p:Option Addr) (n c:Nat) (ks:List Br) (h:l7 w p n c ks) (hn:n≤10000000) :
  Calls prog 102 #[.slice p n c] w fun e w'=>∃ q d,e=.returned (.slice q n d)∧Below w.heap.size w w'∧w'.ownsRow w.heap.size 26 6 (.slice q n d) n (bJ ks):=by
 obtain ⟨i26,E8,hz0,hz1,hz2⟩:∃ i26,prog.info? 26=some i26∧i26.zero=some (.agg #[.int .i64 0,.int .i64 0,.int .i64 0,.int .i64 0,.slice none 0 0,.slice none 0 0])∧i26.size=6∧i26.bytes=80:=by
  refine ⟨_,rfl,?_,?_,?_⟩ <;> kernel_rfl
 have HK:=hid h;clear h
 cases p with
 | none =>
  have hn0:n=0∧ks=[]:=by
   obtain ⟨h1,h0 | ⟨b,off,hp,_⟩⟩:=HK.out
   ·exact ⟨h0,List.length_eq_zero_iff.1 (by omega)⟩
   ·cases hp
  obtain ⟨rfl,rfl⟩:=hn0;have he:∀ w:World,(binOp .eql 24 (.slice none 0 c) (.slice none 0 0)).run prog w=.ok (.bool true) w:=fun _=>rfl
  clear HK
  go_enter func102,ntmps102
  go_wp2_with fail
  go_ret
  exact ⟨none,0,rfl,Below.refl _ _,World.ownsRow_nil _ _ _ _⟩
 | some ad =>
  have HN:Hid (∀ j u,(bJ ks)[j]?=some u→w.cell? (ad.add j)=some u):=hid (by
   obtain ⟨h1,h0 | ⟨b,off,hp,_,_,hat⟩⟩:=HK.out
   ·obtain rfl:ks=[]:=List.length_eq_zero_iff.1 (by omega)
    intro j u hu; simp [bJ] at hu
   ·cases hp; exact IP hat)
  have yD:Hid (ks.length=n):=hid HK.out.1.symm;have Bh:Hid (∀ (j:Nat) (u:Value),(bJ ks)[j]?=some u→ad.block < w.heap.size):=hid (by
   obtain ⟨h1,h0 | ⟨b,off,hp,_,hb,hat⟩⟩:=HK.out
   ·obtain rfl:ks=[]:=List.length_eq_zero_iff.1 (by omega)
    intro j u hu; simp [bJ] at hu
   ·cases hp; intro j u _; exact hb)
  have Xt:Hid ((w.alloc (.cells #[] 26)).ownsRow w.heap.size 26 6 (.slice (some ⟨w.heap.size,0,none⟩) 0 0) 0 []):=hid (World.ownsRow_lit w #[] 0 (Nat.le_refl _) (by unfold maxLen; omega) rfl);have HB0:=hid ((Below.refl w.heap.size w).alloc (Nat.le_refl _) (.cells #[] 26));have Uk:Hid (∀ j u,(bJ ks)[j]?=some u→(w.alloc (.cells #[] 26)).cell? (ad.add j)=some u):=hid fun j u hu=>by
   have h1:=Bh.out j u hu;have h2:=HN.out j u hu;have h3:(ad.add j).block < w.heap.size:=by unfold Addr.add; split <;> exact h1
   exact (HB0.out.cell h3).trans h2
  have hL:(bJ ks).length=n * 6:=by rw [ik,yD.out]
  have HLL:=hid hL;clear HK HN Bh hL;have he:∀ w:World,(binOp .eql 24 (.slice (some ad) n c) (.slice none 0 0)).run prog w=.ok (.bool false) w:=fun _=>rfl
  go_enter func102,ntmps102
  go_wp2_with (at_builtin; refine wpList_append_own _ rfl _ _ 24 rfl w.heap.size 26 i26 _ 6 80 underlying24 E8 hz0 hz1 hz2 rfl (by decide) _ _ _ rfl Xt.out ad n c (bJ ks) rfl HLL.out Uk.out (Af ks) (by unfold maxLen; omega) (by omega) HB0.out.size ?_; intro v' w2 hown hgrow _; have HO:=hid hown; have HB:=hid (HB0.out.grown hgrow HB0.out.size (fun a ha=>(World.ownsRow.lt Xt.out a ha).1)); clear hown hgrow)
  go_ret
  have ho:=HO.out;rw [Nat.zero_add,List.nil_append] at ho;obtain ⟨q,d,rfl⟩:∃ q d,v'=.slice q n d:=by
   rcases ho.2 with ⟨rfl,h1⟩ | ⟨g,c,cur,rfl,_⟩
   ·exact ⟨none,0,by rw [h1]⟩
   ·exact ⟨_,_,rfl⟩
  exact ⟨q,d,rfl,HB.out,ho⟩
set_option maxHeartbeats 4000000 in
theorem Gw (w:World) (p:Option Addr) (n c:Nat) (l:List Int) (h:InV mkI w p n c l) (hn:n≤10000000) :
  Calls prog 101 #[.slice p n c] w fun e w'=>∃ q d,e=.returned (.slice q n d)∧Below w.heap.size w w'∧w'.ownsRow w.heap.size 3 1 (.slice q n d) n (l.map mkI):=by
 obtain ⟨i3,hi3,hz0,hz1,hz2⟩:∃ i3,prog.info? 3=some i3∧i3.zero=some (.int .i64 0)∧i3.size=1∧i3.bytes=8:=by
  refine ⟨_,rfl,?_,?_,?_⟩ <;> kernel_rfl
 have HK:=hid h;clear h
 cases p with
 | none =>
  have hn0:n=0∧l=[]:=by
   obtain ⟨h1,h0 | ⟨b,off,hp,_⟩⟩:=HK.out
   ·exact ⟨h0,List.length_eq_zero_iff.1 (by omega)⟩
   ·cases hp
  obtain ⟨rfl,rfl⟩:=hn0;have he:∀ w:World,(binOp .eql 23 (.slice none 0 c) (.slice none 0 0)).run prog w=.ok (.bool true) w:=fun _=>rfl
  clear HK
  go_enter func101,ntmps101
  go_wp2_with fail
  go_ret
  exact ⟨none,0,rfl,Below.refl _ _,World.ownsRow_nil _ _ _ _⟩
 | some ad =>
  have HN:Hid (∀ j u,(l.map mkI)[j]?=some u→w.cell? (ad.add j)=some u):=hid (by
   obtain ⟨h1,h0 | ⟨b,off,hp,_,_,hat⟩⟩:=HK.out
   ·obtain rfl:l=[]:=List.length_eq_zero_iff.1 (by omega)
    intro j u hu; simp at hu
   ·cases hp; exact Ku hat)
  have yD:Hid (l.length=n):=hid HK.out.1.symm;have Bh:Hid (∀ (j:Nat) (u:Value),(l.map mkI)[j]?=some u→ad.block < w.heap.size):=hid (by
   obtain ⟨h1,h0 | ⟨b,off,hp,_,hb,hat⟩⟩:=HK.out
   ·obtain rfl:l=[]:=List.length_eq_zero_iff.1 (by omega)
    intro j u hu; simp at hu
   ·cases hp; intro j u _; exact hb)
  have Xt:Hid ((w.alloc (.cells #[] 3)).ownsRow w.heap.size 3 1 (.slice (some ⟨w.heap.size,0,none⟩) 0 0) 0 []):=hid (World.ownsRow_lit w #[] 0 (Nat.le_refl _) (by unfold maxLen; omega) rfl);have HB0:=hid ((Below.refl w.heap.size w).alloc (Nat.le_refl _) (.cells #[] 3));have Uk:Hid (∀ j u,(l.map mkI)[j]?=some u→(w.alloc (.cells #[] 3)).cell? (ad.add j)=some u):=hid fun j u hu=>by
   have h1:=Bh.out j u hu;have h2:=HN.out j u hu;have h3:(ad.add j).block < w.heap.size:=by unfold Addr.add; split <;> exact h1
   exact (HB0.out.cell h3).trans h2
  have HLL:Hid ((l.map mkI).length=n * 1):=hid (by rw [List.length_map,yD.out]; omega);clear HK HN Bh;have he:∀ w:World,(binOp .eql 23 (.slice (some ad) n c) (.slice none 0 0)).run prog w=.ok (.bool false) w:=fun _=>rfl
  go_enter func101,ntmps101
  go_wp2_with (at_builtin; refine wpList_append_own _ rfl _ _ 23 rfl w.heap.size 3 i3 (.int .i64 0) 1 8 underlying23 hi3 hz0 hz1 hz2 rfl (by omega) _ _ _ rfl Xt.out ad n c (l.map mkI) rfl HLL.out Uk.out (OU l) (by unfold maxLen; omega) (by omega) HB0.out.size ?_; intro v' w2 hown hgrow _; have HO:=hid hown; have HB:=hid (HB0.out.grown hgrow HB0.out.size (fun a ha=>(World.ownsRow.lt Xt.out a ha).1)); clear hown hgrow)
  go_ret
  have ho:=HO.out;rw [Nat.zero_add,List.nil_append] at ho;obtain ⟨q,d,rfl⟩:∃ q d,v'=.slice q n d:=by
   rcases ho.2 with ⟨rfl,h1⟩ | ⟨g,c,cur,rfl,_⟩
   ·exact ⟨none,0,by rw [h1]⟩
   ·exact ⟨_,_,rfl⟩
  exact ⟨q,d,rfl,HB.out,ho⟩
theorem oL (b:Nat) (l:List Br):∀ o e,e ∈ bM b o l→∃ i k,l[i]?=some k∧e=⟨k,b,o+i * 6⟩:=by
 intro o e he;obtain ⟨i,hi⟩:=List.getElem?_of_mem he;rw [jA] at hi
 cases hk:l[i]? with
 | none=>rw [hk] at hi; cases hi
 | some k=>rw [hk] at hi; exact ⟨i,k,hk,by simpa using hi.symm⟩
theorem xn (b:Nat) (l:List Br):∀ o,((bM b o l).map fun e=>(e.b,e.o)).Nodup:=by
 induction l with
 | nil=>intro o; simp [bM]
 | cons x r ih =>
  intro o;simp only [bM,List.map_cons,List.nodup_cons];refine ⟨fun hm=>?_,ih (o+6)⟩
  obtain ⟨e,he,h2⟩:=List.mem_map.1 hm;obtain ⟨i,k,_,rfl⟩:=oL b r (o+6) e he;simp at h2
  omega
def U9 (w0:World) (P:Nat→Prop) (w:World) (h:Hd):Prop :=
 h.nn=h.ns.length∧(h.nn=0∨∃ nb cs,h.np=some ⟨nb,0,none⟩∧h.nn≤h.nc∧w0.heap.size≤nb∧¬ P nb∧w.heap[nb]?=some (.cells cs 3 (0,0))∧AtV mkI w nb 0 h.ns)
def Ya (A:List BA) (h:Hd) (ks:List Br):Prop:=h.kn=ks.length∧(h.kn=0∨∃ kb,h.kp=some ⟨kb,0,none⟩∧h.kn≤h.kc∧∀ e ∈ bM kb 0 ks,e ∈ A)
def Cop (A:List BA) (w0:World) (P:Nat→Prop) (w:World) (e:BA):Prop :=
 ∃ h:Hd,fA w e.b e.o h∧(h.k=e.y.h.k∧h.m=e.y.h.m∧h.f=e.y.h.f∧h.t=e.y.h.t∧h.ns=e.y.h.ns)∧U9 w0 P w h∧Ya A h e.y.ks
structure Ow (w0:World) (D st:List BA) (P:Nat→Prop) (w:World):Prop where
 bel:Below w0.heap.size w0 w
 pl:∀ b,P b→w0.heap.size≤b
 blk:∀ e ∈ D++st,w0.heap.size≤e.b∧¬ P e.b∧(∃ i,e.o=i * 6)∧(∃ cs,w.heap[e.b]?=some (.cells cs 26 (0,0)))∧e.y.Lies w0
 nodup:((D++st).map fun e=>(e.b,e.o)).Nodup
 pend:∀ e ∈ st,fA w e.b e.o e.y.h
 done:∀ e ∈ D,Cop (D++st) w0 P w e
theorem hlt {w:World} {b:Nat} {o:Obj} (h:w.heap[b]?=some o):b < w.heap.size:=(Array.getElem?_eq_some_iff.1 h).1
theorem iq {w w':World} {b:Nat} (h:w'.heap[b]?=w.heap[b]?) (j:Nat):w'.cell? ⟨b,j,none⟩=w.cell? ⟨b,j,none⟩:=World.cell?_of_block (a:=⟨b,j,none⟩) h
theorem fA.same {w w':World} {b o:Nat} {h:Hd} (hh:fA w b o h) (he:w'.heap[b]?=w.heap[b]?):fA w' b o h:=by
 obtain ⟨c0,c1,c2,c3,c4,c5⟩:=hh;exact ⟨(iq he _).trans c0,(iq he _).trans c1,(iq he _).trans c2,(iq he _).trans c3,(iq he _).trans c4,(iq he _).trans c5⟩
theorem Ow.move {w0 w w':World} {D st:List BA} {P P':Nat→Prop} (h:Ow w0 D st P w) (hb:Below w0.heap.size w0 w') (hm:∀ b o,w.heap[b]?=some o→¬ P b→w'.heap[b]?=some o) (hp:∀ b,P' b→P b∨w.heap.size≤b):Ow w0 D st P' w':=by
 have Xe:∀ b o,w.heap[b]?=some o→¬ P b→¬ P' b:=fun b o h1 h2 h3=>by
  rcases hp b h3 with h4 | h4
  ·exact h2 h4
  ·have:=hlt h1; omega
 have hsame:∀ b o,w.heap[b]?=some o→¬ P b→w'.heap[b]?=w.heap[b]?:=fun b o h1 h2=>(hm b o h1 h2).trans h1.symm
 refine ⟨hb,fun b hb'=>?_,fun e he=>?_,h.nodup,fun e he=>?_,fun e he=>?_⟩
 ·rcases hp b hb' with h4 | h4
  ·exact h.pl b h4
  ·have:=h.bel.size; omega
 ·obtain ⟨h1,h2,h3,⟨cs,h4⟩,h5⟩:=h.blk e he
  exact ⟨h1,Xe _ _ h4 h2,h3,⟨cs,hm _ _ h4 h2⟩,h5⟩
 ·obtain ⟨h1,h2,h3,⟨cs,h4⟩,h5⟩:=h.blk e (List.mem_append_right _ he)
  exact (h.pend e he).same (hsame _ _ h4 h2)
 ·obtain ⟨h1,h2,h3,⟨cs,h4⟩,h5⟩:=h.blk e (List.mem_append_left _ he)
  obtain ⟨hd,a1,a2,⟨a3,a4⟩,a5⟩:=h.done e he;refine ⟨hd,a1.same (hsame _ _ h4 h2),a2,⟨a3,?_⟩,a5⟩
  rcases a4 with a4 | ⟨nb,cs',b1,b2,b3,b4,b5,b6⟩
  ·exact .inl a4
  ·exact .inr ⟨nb,cs',b1,b2,b3,Xe _ _ b5 b4,hm _ _ b5 b4,fun i hi=>(iq (hsame _ _ b5 b4) _).trans (b6 i hi)⟩
theorem yY {w:World} {b:Nat} {cs:Array Value} (h:w.heap[b]?=some (.cells cs 26 (0,0))) (j:Nat) (v:Value):∃ cs',(w.setCell ⟨b,j,none⟩ v).heap[b]?=some (.cells cs' 26 (0,0)):=by
 have hl:=hlt h;have h2:w.heap[b]=Obj.cells cs 26 (0,0):=(Array.getElem?_eq_some_iff.1 h).2;refine ⟨cs.setIfInBounds j v,?_⟩
 simp [World.setCell,hl,Array.getElem_modify,h2]
theorem tV {w:World} {b b' j j':Nat} {v u:Value} (hne:b≠b'∨j≠j') (h:w.cell? ⟨b',j',none⟩=some u):(w.setCell ⟨b,j,none⟩ v).cell? ⟨b',j',none⟩=some u:=by
 rw [World.cell?_setCell_other (a:=⟨b,j,none⟩) (b:=⟨b',j',none⟩) (h:=fun e=>by simp only [Addr.mk.injEq,and_true] at e; omega)]; exact h
def put2 (w:World) (e:BA) (v1 v2:Value):World:=(w.setCell ⟨e.b,e.o+4,none⟩ v1).setCell ⟨e.b,e.o+5,none⟩ v2
theorem jh {w:World} {e:BA} {v1 v2:Value} {k:Nat} (h:k≠e.b):(put2 w e v1 v2).heap[k]?=w.heap[k]?:=by
 unfold put2;rw [Below.heap_setCell _ ⟨e.b,e.o+5,none⟩ v2 k h,Below.heap_setCell _ ⟨e.b,e.o+4,none⟩ v1 k h]
theorem FK {w:World} {e:BA} {v1 v2:Value} {cs:Array Value} (h:w.heap[e.b]?=some (.cells cs 26 (0,0))):∃ cs',(put2 w e v1 v2).heap[e.b]?=some (.cells cs' 26 (0,0)):=by
 obtain ⟨c1,h1⟩:=yY h (e.o+4) v1;exact yY h1 (e.o+5) v2
theorem iw {w:World} {e:BA} {v1 v2 u:Value} {b j:Nat} (hne:e.b≠b∨(e.o+4≠j∧e.o+5≠j)) (h:w.cell? ⟨b,j,none⟩=some u):(put2 w e v1 v2).cell? ⟨b,j,none⟩=some u :=
 tV (hne.imp id (·.2)) (tV (hne.imp id (·.1)) h)
theorem Qw {w:World} {e:BA} {v1 v2 u1 u2:Value} (h1:w.cell? ⟨e.b,e.o+4,none⟩=some u1) (h2:w.cell? ⟨e.b,e.o+5,none⟩=some u2) :
  (put2 w e v1 v2).cell? ⟨e.b,e.o+4,none⟩=some v1∧(put2 w e v1 v2).cell? ⟨e.b,e.o+5,none⟩=some v2 :=
 ⟨tV (b:=e.b) (j:=e.o+5) (.inr (by omega)) (World.cell?_setCell_same _ _ _ h1),World.cell?_setCell_same _ _ _ (tV (b:=e.b) (j:=e.o+4) (.inr (by omega)) h2)⟩
theorem fA.put2 {w:World} {e:BA} {v1 v2:Value} {b o:Nat} {h:Hd} (hh:fA w b o h) (hne:e.b≠b∨e.o≠o) (h6:(∃ i,e.o=i * 6)∧∃ i,o=i * 6):fA (put2 w e v1 v2) b o h:=by
 obtain ⟨⟨i,hi⟩,⟨i',hi'⟩⟩:=h6;obtain ⟨c0,c1,c2,c3,c4,c5⟩:=hh;have key:∀ r,r < 6→(e.b≠b∨(e.o+4≠o+r∧e.o+5≠o+r)):=fun r hr=>by
  rcases hne with h | h
  ·exact .inl h
  ·exact .inr (by omega)
 exact ⟨iw (key 0 (by omega)) c0,iw (key 1 (by omega)) c1,iw (key 2 (by omega)) c2,iw (key 3 (by omega)) c3,iw (key 4 (by omega)) c4,iw (key 5 (by omega)) c5⟩
theorem Cop.mono {A A':List BA} {w0 w:World} {P:Nat→Prop} {e:BA} (h:Cop A w0 P w e) (hA:∀ x ∈ A,x ∈ A'):Cop A' w0 P w e:=by
 obtain ⟨hd,a1,a2,a3,a4,a5⟩:=h;refine ⟨hd,a1,a2,a3,a4,?_⟩
 rcases a5 with a5 | ⟨kb,b1,b2,b3⟩
 ·exact .inl a5
 ·exact .inr ⟨kb,b1,b2,fun x hx=>hA x (b3 x hx)⟩
theorem xU {w:World} {B E size n g d:Nat} {xs:List Value} (h:w.ownsRow B E size (.slice (some ⟨g,0,none⟩) n d) n xs) (j:Nat) (u:Value) (hj:xs[j]?=some u):w.cell? ⟨g,j,none⟩=some u:=by
 have hl:j < xs.length:=(List.getElem?_eq_some_iff.1 hj).1
 have:=World.ownsRow.cells h (g:=g) rfl j u hj
 have ha:((⟨g,0,none⟩:Addr).add j)=⟨g,j,none⟩:=by unfold Addr.add; split <;> simp_all
 rwa [ha] at this
theorem BN {w:World} {B n g d:Nat} {ks:List Br} (h:w.ownsRow B 26 6 (.slice (some ⟨g,0,none⟩) n d) n (bJ ks)) (i:Nat) (k:Br) (hi:ks[i]?=some k):fA w g (0+i * 6) k.h:=by
 have key:∀ r u,r < 6→(jU k.h)[r]?=some u→w.cell? ⟨g,0+i * 6+r,none⟩=some u:=fun r u hr hu=>by
  rw [Nat.zero_add];exact xU h (i * 6+r) u ((sU ks i k hi r hr).trans hu)
 exact ⟨key 0 _ (by omega) rfl,key 1 _ (by omega) rfl,key 2 _ (by omega) rfl,key 3 _ (by omega) rfl,key 4 _ (by omega) rfl,key 5 _ (by omega) rfl⟩
theorem Ow.hand {w0 w:World} {D st:List BA} {P:Nat→Prop} {e:BA} {q1 q2:Option Addr} {n1 d1 n2 d2 B:Nat} (h:Ow w0 D (e :: st) P w) (hold:∀ x ∈ D++(e :: st),x.b < B) (hPB:∀ b,P b→b < B) (hB0:w0.heap.size≤B)
  (ho1:w.ownsRow B 3 1 (.slice q1 n1 d1) n1 (e.y.h.ns.map mkI)) (hn1:n1=e.y.h.ns.length) (ho2:w.ownsRow B 26 6 (.slice q2 n2 d2) n2 (bJ e.y.ks)) (hn2:n2=e.y.ks.length) :
  ∃ kb,Ow w0 (e :: D) (bM kb 0 e.y.ks++st) P (put2 w e (.slice q1 n1 d1) (.slice q2 n2 d2)) ∧
   fA (put2 w e (.slice q1 n1 d1) (.slice q2 n2 d2)) e.b e.o ⟨e.y.h.k,e.y.h.m,e.y.h.f,e.y.h.t,q1,n1,d1,e.y.h.ns,q2,n2,d2⟩∧(n2=0∨q2=some ⟨kb,0,none⟩∧n2≤d2):=by
 have hee:=h.blk e (by simp);obtain ⟨e1,e2,e3,⟨ecs,e4⟩,e5⟩:=hee;obtain ⟨p0,p1,p2,p3,p4,p5⟩:=h.pend e (by simp);have Ux:∀ k ∈ e.y.ks,k.Lies w0:=((dE _ _).1 e5).2.2
 -- the kids' row
 obtain ⟨kb,hkb⟩:∃ kb,n2=0∨(q2=some ⟨kb,0,none⟩∧n2≤d2∧B≤kb∧(∃ cs,w.heap[kb]?=some (.cells cs 26 (0,0)))∧∀ i k,e.y.ks[i]?=some k→fA w kb (0+i * 6) k.h):=by
  rcases ho2.2 with ⟨_,h0⟩ | ⟨g,cap,cur,hv,hg,hh,hle,_⟩
  ·exact ⟨0,.inl h0⟩
  ·simp only [Value.slice.injEq] at hv
   obtain ⟨rfl,_,rfl⟩:=hv;exact ⟨g,.inr ⟨rfl,hle,hg,⟨cur,hh⟩,fun i k hi=>BN ho2 i k hi⟩⟩
 have hkl:n2=0→bM kb 0 e.y.ks=[]:=fun h0=>by
  have:e.y.ks=[]:=List.length_eq_zero_iff.1 (by omega)
  rw [this]; rfl
 have lK:∀ x ∈ bM kb 0 e.y.ks,∃ i k,e.y.ks[i]?=some k∧x=⟨k,kb,0+i * 6⟩∧B≤kb∧(∃ cs,w.heap[kb]?=some (.cells cs 26 (0,0)))∧fA w kb (0+i * 6) k.h:=fun x hx=>by
  obtain ⟨i,k,h1,h2⟩:=oL _ _ _ _ hx
  rcases hkb with h0 | ⟨_,_,h3,h4,h5⟩
  ·rw [hkl h0] at hx; cases hx
  ·exact ⟨i,k,h1,h2,h3,h4,h5 i k h1⟩
 have heB:e.b < B:=hold e (by simp);have Tm:∀ x ∈ D++st,e.b≠x.b∨e.o≠x.o:=fun x hx=>by
  have hp:(D++e :: st).Perm (e :: (D++st)):=List.perm_middle;have hn:=(hp.map fun e=>(e.b,e.o)).nodup_iff.1 h.nodup;simp only [List.map_cons,List.nodup_cons] at hn
  by_cases hb:e.b=x.b
  ·right; intro ho
   exact hn.1 (List.mem_map.2 ⟨x,hx,by rw [hb,ho]⟩)
  ·exact .inl hb
 have hmem:∀ x ∈ D++(e :: st),x ∈ (e :: D)++(bM kb 0 e.y.ks++st):=fun x hx=>by
  simp only [List.mem_append,List.mem_cons] at hx ⊢
  rcases hx with h1 | h1 | h1
  ·exact .inl (.inr h1)
  ·exact .inl (.inl h1)
  ·exact .inr (.inr h1)
 have hblk:∀ x ∈ D++(e :: st),w0.heap.size≤x.b∧¬ P x.b∧(∃ i,x.o=i * 6)∧(∃ cs,(put2 w e (.slice q1 n1 d1) (.slice q2 n2 d2)).heap[x.b]?=some (.cells cs 26 (0,0)))∧x.y.Lies w0:=fun x hx=>by
  obtain ⟨h1,h2,h3,⟨cs,h4⟩,h5⟩:=h.blk x hx;refine ⟨h1,h2,h3,?_,h5⟩
  by_cases hxe:x.b=e.b
  ·rw [hxe] at h4 ⊢
   exact FK h4
  ·exact ⟨cs,(jh hxe).trans h4⟩
 have hbe:fA (put2 w e (.slice q1 n1 d1) (.slice q2 n2 d2)) e.b e.o ⟨e.y.h.k,e.y.h.m,e.y.h.f,e.y.h.t,q1,n1,d1,e.y.h.ns,q2,n2,d2⟩:=by
  obtain ⟨a1,a2⟩:=Qw (v1:=.slice q1 n1 d1) (v2:=.slice q2 n2 d2) p4 p5;exact ⟨iw (.inr (by omega)) p0,iw (.inr (by omega)) p1,iw (.inr (by omega)) p2,iw (.inr (by omega)) p3,a1,a2⟩
 refine ⟨kb,⟨?_,h.pl,fun x hx=>?_,?_,fun x hx=>?_,fun x hx=>?_⟩,hbe,?_⟩
 ·exact (h.bel.setCell (p:=⟨e.b,e.o+4,none⟩) e1 _).setCell (p:=⟨e.b,e.o+5,none⟩) e1 _
 ·simp only [List.cons_append,List.mem_cons,List.mem_append] at hx
  rcases hx with rfl | hx | hx | hx
  ·exact hblk x (by simp)
  ·exact hblk x (by simp [hx])
  ·obtain ⟨i,k,g1,rfl,g2,⟨cs,g3⟩,g4⟩:=lK x hx
   refine ⟨by simp only; omega,fun hp=>by have:=hPB _ hp; simp only at this; omega,⟨i,by simp⟩,⟨cs,(jh (by simp only; omega)).trans g3⟩,Ux k (List.mem_of_getElem? g1)⟩
  ·exact hblk x (by simp [hx])
 ·have hp:((e :: D)++(bM kb 0 e.y.ks++st)).Perm (bM kb 0 e.y.ks++(D++e :: st)):=by
   have h1:((e :: D)++(bM kb 0 e.y.ks++st)).Perm (e :: (bM kb 0 e.y.ks++(D++st))):=by
    rw [List.cons_append];refine List.Perm.cons _ ?_
    rw [← List.append_assoc,← List.append_assoc];exact List.Perm.append_right _ List.perm_append_comm
   refine h1.trans ?_
   refine (List.perm_middle (a:=e) (l₁:=bM kb 0 e.y.ks) (l₂:=D++st)).symm.trans ?_
   exact List.Perm.append_left _ List.perm_middle.symm
  refine (hp.map fun e=>(e.b,e.o)).nodup_iff.2 ?_
  rw [List.map_append];refine List.nodup_append.2 ⟨xn _ _ _,h.nodup,fun a ha c hc hac=>?_⟩
  obtain ⟨x,hx,rfl⟩:=List.mem_map.1 ha;obtain ⟨y,hy,rfl⟩:=List.mem_map.1 hc;obtain ⟨i,k,g1,rfl,g2,_⟩:=lK x hx
  have:=hold y hy
  simp only [Prod.mk.injEq] at hac
  omega
 ·rcases List.mem_append.1 hx with hx | hx
  ·obtain ⟨i,k,g1,rfl,g2,⟨cs,g3⟩,g4⟩:=lK x hx
   exact g4.put2 (.inl (by omega)) ⟨e3,⟨i,by omega⟩⟩
  ·exact (h.pend x (by simp [hx])).put2 (Tm x (by simp [hx])) ⟨e3,(h.blk x (by simp [hx])).2.2.1⟩
 ·rcases List.mem_cons.1 hx with rfl | hx
  ·refine ⟨_,hbe,⟨rfl,rfl,rfl,rfl,rfl⟩,⟨hn1,?_⟩,⟨hn2,?_⟩⟩
   ·rcases ho1.2 with ⟨_,h0⟩ | ⟨g,cap,cur,hv,hg,hh,hle,_⟩
    ·exact .inl h0
    ·simp only [Value.slice.injEq] at hv
     obtain ⟨rfl,_,rfl⟩:=hv;have hge:g≠x.b:=by omega
     refine .inr ⟨g,cur,rfl,hle,by omega,fun hp=>by have:=hPB _ hp; omega,(jh hge).trans hh,fun i hi=>?_⟩
     refine (iq (jh hge) _).trans ?_
     rw [Nat.zero_add];exact xU ho1 i _ (by rw [List.getElem?_map,List.getElem?_eq_getElem hi]; rfl)
   ·rcases hkb with h0 | ⟨g1,g2,_⟩
    ·exact .inl h0
    ·exact .inr ⟨kb,g1,g2,fun y hy=>by simp [hy]⟩
  ·obtain ⟨hd,a1,a2,⟨a3,a4⟩,a5⟩:=(h.done x hx).mono hmem
   obtain ⟨b1,b2,b3,b4,b5⟩:=h.blk x (by simp [hx]);refine ⟨hd,a1.put2 (Tm x (by simp [hx])) ⟨e3,b3⟩,a2,⟨a3,?_⟩,a5⟩
   rcases a4 with a4 | ⟨nb,cs',c1,c2,c3,c4,c5,c6⟩
   ·exact .inl a4
   ·have hne:nb≠e.b:=by
     rintro rfl;rw [e4] at c5; injection c5 with c5; injection c5 with _ c5 _; exact absurd c5 (by decide)
    exact .inr ⟨nb,cs',c1,c2,c3,c4,(jh hne).trans c5,fun i hi=>(iq (jh hne) _).trans (c6 i hi)⟩
 ·rcases hkb with h0 | ⟨g1,g2,_⟩
  ·exact .inl h0
  ·exact .inr ⟨g1,g2⟩
theorem pK {w:World} {b b' E size n:Nat} {v:Value} {xs:List Value} (h:w.ownsRow b E size v n xs) (hb:b'≤b):w.ownsRow b' E size v n xs:=by
 obtain ⟨hl,h0 | ⟨g,c,cur,hv,hg,hh,hr⟩⟩:=h
 ·exact ⟨hl,.inl h0⟩
 ·exact ⟨hl,.inr ⟨g,c,cur,hv,Nat.le_trans hb hg,hh,hr⟩⟩
theorem row_step {w w':World} {b E size n:Nat} {v:Value} {xs:List Value} (h:w.ownsRow b E size v n xs) (hw:Below w.heap.size w w'):w'.ownsRow b E size v n xs:=by
 obtain ⟨hl,h0 | ⟨g,c,cur,hv,hg,hh,hr⟩⟩:=h
 ·exact ⟨hl,.inl h0⟩
 ·exact ⟨hl,.inr ⟨g,c,cur,hv,hg,(hw.block g (hlt hh)).trans hh,hr⟩⟩
def OwI (w0:World) (root:BA) (st:List BA) (P:Nat→Prop) (w:World):Prop:=∃ D,root ∈ D++st∧Ow w0 D st P w
def OwJ (w0:World) (root e:BA) (st:List BA) (P:Nat→Prop) (w:World):Prop :=
 ∃ (h:Hd) (kl:List BA),fA w e.b e.o h∧h.kn=kl.length∧szs szB kl+1≤szB e∧(kl.length=0∨∃ b off,h.kp=some ⟨b,off,none⟩∧kl.length≤h.kc∧∀ i e',kl[i]?=some e'→BA.ad e'=⟨b,off+i * 6,none⟩)∧(∀ x ∈ kl,x.y ∈ e.y.ks)∧OwI w0 root (kl++st) P w
theorem UO (e:BA) (kb:Nat):szs szB (bM kb 0 e.y.ks)+1≤szB e:=by
 rw [uP,lm,szB,fG,List.length_cons]
 omega
theorem OwI.hand {w0 w wz:World} {root e:BA} {st:List BA} {P:Nat→Prop} {q1 q2:Option Addr} {d1 d2:Nat} (hI:OwI w0 root (e :: st) P w) (hP:∀ b,P b→b < w.heap.size) (hb:Below w.heap.size w wz)
  (ho1:wz.ownsRow w.heap.size 3 1 (.slice q1 e.y.h.nn d1) e.y.h.nn (e.y.h.ns.map mkI)) (ho2:wz.ownsRow w.heap.size 26 6 (.slice q2 e.y.h.kn d2) e.y.h.kn (bJ e.y.ks)) :
  OwJ w0 root e st P (put2 wz e (.slice q1 e.y.h.nn d1) (.slice q2 e.y.h.kn d2))∧jO P w (put2 wz e (.slice q1 e.y.h.nn d1) (.slice q2 e.y.h.kn d2)):=by
 obtain ⟨D,hr,hO⟩:=hI;have hz:Ow w0 D (e :: st) P wz:=hO.move (hO.bel.trans (hb.mono hO.bel.size)) (fun b o h1 _=>(hb.block b (hlt h1)).trans h1) (fun b h=>.inl h);obtain ⟨e1,e2,e3,⟨cs,e4⟩,e5⟩:=hO.blk e (by simp);obtain ⟨hn,hk,_⟩:=(dE _ _).1 e5;obtain ⟨kb,h1,h2,h3⟩:=hz.hand (B:=w.heap.size) (fun x hx=>by obtain ⟨_,_,_,⟨cs,h⟩,_⟩:=hO.blk x hx; exact hlt h) hP hO.bel.size ho1 hn.1 ho2 hk.1;have hkl:(bM kb 0 e.y.ks).length=e.y.ks.length:=by rw [← List.length_map (f:=BA.y),lm]
 refine ⟨⟨_,bM kb 0 e.y.ks,h2,by rw [hkl]; exact hk.1,UO e kb,?_,(fun x hx=>by obtain ⟨i,k,h1,rfl⟩:=oL _ _ _ _ hx; exact List.mem_of_getElem? h1),⟨e :: D,?_,h1⟩⟩,?_⟩
 ·rcases h3 with h3 | ⟨h3,h4⟩
  ·left; rw [hkl,← hk.1]; exact h3
  ·refine .inr ⟨kb,0,h3,by rw [hkl,← hk.1]; exact h4,fun i e' he=>?_⟩
   rw [jA] at he
   cases hq:e.y.ks[i]? with
   | none=>rw [hq] at he; cases he
   | some k=>rw [hq] at he; simp only [Option.map_some,Option.some.injEq] at he; subst he; rfl
 ·simp only [List.mem_append,List.mem_cons] at hr ⊢
  rcases hr with h | h | h
  ·exact .inl (.inr h)
  ·exact .inl (.inl h)
  ·exact .inr (.inr h)
 ·refine ⟨Nat.le_trans hb.size (by simp [put2]),fun b hPb hbl=>?_⟩
  have hne:b≠e.b:=fun h=>e2 (h ▸ hPb)
  exact (jh hne).trans (hb.block b hbl)
set_option maxHeartbeats 8000000 in
theorem Dy (w0:World) (root e:BA) (st:List BA) (P:Nat→Prop) (w:World) (hI:OwI w0 root (e :: st) P w) (hP:∀ b,P b→b < w.heap.size) (hsz:e.y.h.nn≤10000000∧e.y.h.kn≤10000000) :
  Calls prog 100 #[.pointer (some e.ad)] w fun x w'=>x=.returned (.tuple #[])∧OwJ w0 root e st P w'∧jO P w w':=by
 have HI:=hid hI;have HP:=hid hP;obtain ⟨D,hr,hO⟩:=hI;obtain ⟨p0,p1,p2,p3,p4,p5⟩:=hO.pend e (by simp);obtain ⟨e1,e2,e3,⟨cs,e4⟩,e5⟩:=hO.blk e (by simp);have hlies:=(dE _ _).1 e5;have hel:=hlt e4;have HC1:Hid (∀ W,Below w.heap.size w W→Calls prog 101 #[.slice e.y.h.np e.y.h.nn e.y.h.nc] W fun x w'=>∃ q d,x=.returned (.slice q e.y.h.nn d)∧Below W.heap.size W w'∧w'.ownsRow W.heap.size 3 1 (.slice q e.y.h.nn d) e.y.h.nn (e.y.h.ns.map mkI)):=hid fun W hW =>
  Gw W _ _ _ _ ((hlies.1.step hO.bel).step hW) hsz.1
 have HC2:Hid (∀ W,Below w.heap.size w W→Calls prog 102 #[.slice e.y.h.kp e.y.h.kn e.y.h.kc] W fun x w'=>∃ q d,x=.returned (.slice q e.y.h.kn d)∧Below W.heap.size W w'∧w'.ownsRow W.heap.size 26 6 (.slice q e.y.h.kn d) e.y.h.kn (bJ e.y.ks)):=hid fun W hW =>
  Fj W _ _ _ _ ((hlies.2.1.step hO.bel).step hW) hsz.2
 have HW0:Hid (Below w.heap.size w w.drew):=hid (Below.refl _ _).drew;have hfz:w.frozen? ⟨e.b,e.o+4,none⟩=false:=by simp [World.frozen?,e4]
 have Xu:w.frozen? ⟨e.b,e.o+5,none⟩=false:=by simp [World.frozen?,e4]
 have SY:Hid (∀ W,Below w.heap.size w W→W.cell? ⟨e.b,e.o+4,none⟩=some (.slice e.y.h.np e.y.h.nn e.y.h.nc)∧W.cell? ⟨e.b,e.o+5,none⟩=some (.slice e.y.h.kp e.y.h.kn e.y.h.kc)∧W.frozen? ⟨e.b,e.o+4,none⟩=false∧W.frozen? ⟨e.b,e.o+5,none⟩=false):=hid fun W hW =>
  ⟨(hW.cell (p:=⟨e.b,_,none⟩) hel).trans p4,(hW.cell (p:=⟨e.b,_,none⟩) hel).trans p5,(World.frozen?_of_block (a:=⟨e.b,_,none⟩) (hW.block e.b hel)).trans hfz,(World.frozen?_of_block (a:=⟨e.b,_,none⟩) (hW.block e.b hel)).trans Xu⟩
 have zT:Hid (∀ wz q1 d1 q2 d2,Below w.heap.size w wz→wz.ownsRow w.heap.size 3 1 (.slice q1 e.y.h.nn d1) e.y.h.nn (e.y.h.ns.map mkI)→wz.ownsRow w.heap.size 26 6 (.slice q2 e.y.h.kn d2) e.y.h.kn (bJ e.y.ks) →
   OwJ w0 root e st P (put2 wz e (.slice q1 e.y.h.nn d1) (.slice q2 e.y.h.kn d2))∧jO P w (put2 wz e (.slice q1 e.y.h.nn d1) (.slice q2 e.y.h.kn d2))):=hid fun wz q1 d1 q2 d2 h1 h2 h3=>HI.out.hand HP.out h1 h2 h3
 clear hr hO p0 p1 p2 p3 e1 e2 e3 e4 e5 hlies hP hfz Xu hsz;unfold put2 at zT;obtain ⟨y,eb,eo⟩:=e;dsimp only [BA.ad] at *
 generalize y.h.np=np at *;generalize hnn:y.h.nn=nn at *;generalize y.h.nc=nc at *;generalize y.h.kp=kp at *;generalize hkn:y.h.kn=kn at *;generalize y.h.kc=kc at *;clear hnn hkn HI
 go_enter func100,ntmps100
 go_region_with (first
  | (go_at_call 101; have hx:=vG.out; clear hx; (with_reducible refine Calls.mono (HC1.out _ vG.out) ?_); rintro x wz ⟨q1,d1,rfl,hb1,ho1⟩; have YK:=hid (vG.out.trans (hb1.mono vG.out.size)); have KR:=hid (pK ho1 vG.out.size); have qG:=hid (row_step HOB.out hb1); obtain ⟨z4,z5,g4,g5⟩:=SY.out wz YK.out; clear hb1 ho1)
  | (go_at_call 101; (with_reducible refine Calls.mono (HC1.out _ HW0.out) ?_); rintro x wa ⟨q1,d1,rfl,hb1,ho1⟩; have yR:=hid (HW0.out.trans (hb1.mono HW0.out.size)); have HOA:=hid (pK ho1 HW0.out.size); obtain ⟨a4,a5,ag4,ag5⟩:=SY.out wa yR.out; clear hb1 ho1)
  | (go_at_call 102; have hx:=yR.out; clear hx; (with_reducible refine Calls.mono (HC2.out _ yR.out) ?_); rintro x wz ⟨q2,d2,rfl,hb2,ho2⟩; have YK:=hid (yR.out.trans (hb2.mono yR.out.size)); have qG:=hid (pK ho2 yR.out.size); have KR:=hid (row_step HOA.out hb2); obtain ⟨z4,z5,g4,g5⟩:=SY.out wz YK.out; clear hb2 ho2)
  | (go_at_call 102; (with_reducible refine Calls.mono (HC2.out _ HW0.out) ?_); rintro x wb ⟨q2,d2,rfl,hb2,ho2⟩; have vG:=hid (HW0.out.trans (hb2.mono HW0.out.size)); have HOB:=hid (pK ho2 HW0.out.size); obtain ⟨b4,b5,bg4,bg5⟩:=SY.out wb vG.out; clear hb2 ho2))
 all_goals (go_wp2_with fail; go_end0; exact ⟨rfl,zT.out wz q1 d1 q2 d2 YK.out KR.out qG.out⟩)
inductive Ntr where
 | mk (k m f t:Int) (ns:List Int) (ks:List Ntr)
mutual
def Br.ntr:Br→Ntr
 | .mk h ks=>.mk h.k h.m h.f h.t h.ns (ntL ks)
def ntL:List Br→List Ntr
 | []=>[]
 | b :: r=>b.ntr :: ntL r
end
def Agr (N:Nat) (w w2:World):Prop:=w.heap.size≤w2.heap.size∧∀ k,N≤k→k < w.heap.size→w2.heap[k]?=w.heap[k]?
theorem Ow.copy {w0 w:World} {D:List BA} {P:Nat→Prop} (h:Ow w0 D [] P w):∀ (y:Br) (b o:Nat),(⟨y,b,o⟩:BA) ∈ D→∃ y':Br,y'.ntr=y.ntr∧∀ w2,Agr w0.heap.size w w2→fA w2 b o y'.h∧y'.Lies w2:=by
 refine Br.ind (P:=fun y=>∀ b o,(⟨y,b,o⟩:BA) ∈ D→∃ y':Br,y'.ntr=y.ntr∧∀ w2,Agr w0.heap.size w w2→fA w2 b o y'.h∧y'.Lies w2) ?_
 intro hd ks ih b o hm;obtain ⟨h1,h2,h3,⟨cs,h4⟩,h5⟩:=h.blk _ (List.mem_append_left _ hm);obtain ⟨h',a1,⟨b1,b2,b3,b4,b5⟩,⟨c1,c2⟩,⟨d1,d2⟩⟩:=h.done _ hm;dsimp only at h1 h4 a1
 simp only [Br.h,Br.ks] at b1 b2 b3 b4 b5 d1 d2;have row:∀ (kb:Nat) (l:List Br) (of:Nat),(∀ k ∈ l,k ∈ ks)→(∀ e ∈ bM kb of l,e ∈ D)→∃ l':List Br,l'.length=l.length∧ntL l'=ntL l∧∀ w2,Agr w0.heap.size w w2→(∀ i k',l'[i]?=some k'→fA w2 kb (of+i * 6) k'.h)∧pJ w2 l':=by
  intro kb l
  induction l with
  | nil=>intro of _ _; exact ⟨[],rfl,rfl,fun w2 _=>⟨fun i k' hi=>by simp at hi,trivial⟩⟩
  | cons x r ihr =>
   intro of hs he;obtain ⟨x',g1,g2⟩:=ih x (hs x (by simp)) kb of (he ⟨x,kb,of⟩ (by simp [bM]));obtain ⟨r',f1,f2,f3⟩:=ihr (of+6) (fun k hk=>hs k (by simp [hk])) (fun e hm=>he e (by simp [bM,hm]));refine ⟨x' :: r',by simp [f1],by simp only [ntL,g1,f2],fun w2 hw=>⟨fun i k' hi=>?_,?_⟩⟩
   ·cases i with
    | zero=>simp only [List.getElem?_cons_zero,Option.some.injEq] at hi; subst hi; simpa using (g2 w2 hw).1
    | succ i =>
     simp only [List.getElem?_cons_succ] at hi
     have:=(f3 w2 hw).1 i k' hi
     rwa [show of+6+i * 6=of+(i+1) * 6 by omega] at this
   ·simp only [pJ]; exact ⟨(g2 w2 hw).2,(f3 w2 hw).2⟩
 have names:∀ w2,Agr w0.heap.size w w2→InV mkI w2 h'.np h'.nn h'.nc h'.ns:=fun w2 hw=>by
  refine ⟨c1,?_⟩
  rcases c2 with c2 | ⟨nb,cs',e1,e2,e3,e4,e5,e6⟩
  ·exact .inl c2
  ·have hl:=hlt e5
   exact .inr ⟨nb,0,e1,e2,Nat.lt_of_lt_of_le hl hw.1,fun i hi=>(iq (hw.2 nb e3 hl) _).trans (e6 i hi)⟩
 have hself:∀ w2,Agr w0.heap.size w w2→fA w2 b o h':=fun w2 hw=>a1.same (hw.2 b h1 (hlt h4))
 rcases d2 with d2 | ⟨kb,f1,f2,f3⟩
 ·have hk0:ks=[]:=List.length_eq_zero_iff.1 (by omega)
  subst hk0;refine ⟨.mk h' [],by simp only [Br.ntr,b1,b2,b3,b4,b5],fun w2 hw=>⟨hself w2 hw,?_⟩⟩
  simp only [Br.Lies,pJ,and_true];exact ⟨names w2 hw,d1,.inl d2⟩
 ·obtain ⟨l',g1,g2,g3⟩:=row kb ks 0 (fun k hk=>hk) (fun e he=>by simpa using f3 e he)
  refine ⟨.mk h' l',by simp only [Br.ntr,b1,b2,b3,b4,b5,g2],fun w2 hw=>⟨hself w2 hw,?_⟩⟩
  simp only [Br.Lies];refine ⟨names w2 hw,⟨by rw [d1,g1],?_⟩,(g3 w2 hw).2⟩
  by_cases hk0:h'.kn=0
  ·exact .inl hk0
  ·have hne:∃ x,ks[0]?=some x:=⟨_,List.getElem?_eq_getElem (by omega)⟩
   obtain ⟨x,hx⟩:=hne;have hxm:(⟨x,kb,0⟩:BA) ∈ bM kb 0 ks:=by
    refine List.mem_of_getElem? (i:=0) ?_
    rw [jA,hx]; simp
   have hxD:=f3 _ hxm;obtain ⟨_,_,_,⟨cs',hb'⟩,_⟩:=h.blk _ (List.mem_append_left [] (by simpa using hxD));refine .inr ⟨kb,0,f1,f2,Nat.lt_of_lt_of_le (hlt hb') hw.1,fun i hi=>?_⟩
   exact (g3 w2 hw).1 i l'[i] (List.getElem?_eq_getElem hi)
theorem X7 (args:Array Value) (w:World):Sem.run prog (callFunc 100 args) w=.ok (.enter 100 args) w:=bu func100 (by kernel_rfl) (by kernel_rfl) args w
def H6 (w:World) (y:Br) (x:Ending) (w':World):Prop:=∃ y':Br,x=.returned y'.h.val∧(∀ w2,Agr w.heap.size w' w2→y'.Lies w2)∧y'.ntr=y.ntr∧Below w.heap.size w w'
def AX (w:World) (g:Nat) (h:Hd):World:=(((((w.setCell ⟨g,0,none⟩ (.int .i64 h.k)).setCell ⟨g,1,none⟩ (.int .i64 h.m)).setCell ⟨g,2,none⟩ (.int .i64 h.f)).setCell ⟨g,3,none⟩ (.int .i64 h.t)).setCell ⟨g,4,none⟩ (.slice h.np h.nn h.nc)).setCell ⟨g,5,none⟩ (.slice h.kp h.kn h.kc)
theorem Gn {w:World} {g k:Nat} {h:Hd} (hk:k≠g):(AX w g h).heap[k]?=w.heap[k]?:=by
 unfold AX;rw [Below.heap_setCell _ ⟨g,_,none⟩ _ k hk,Below.heap_setCell _ ⟨g,_,none⟩ _ k hk,Below.heap_setCell _ ⟨g,_,none⟩ _ k hk,Below.heap_setCell _ ⟨g,_,none⟩ _ k hk,Below.heap_setCell _ ⟨g,_,none⟩ _ k hk,Below.heap_setCell _ ⟨g,_,none⟩ _ k hk]
theorem kE {w:World} {g:Nat} {cs:Array Value} {T:TypeId} (h:w.heap[g]?=some (.cells cs T (0,0))) (j:Nat) (v:Value):(w.setCell ⟨g,j,none⟩ v).heap[g]?=some (.cells (cs.setIfInBounds j v) T (0,0)):=by
 have hl:=hlt h;have h2:w.heap[g]=Obj.cells cs T (0,0):=(Array.getElem?_eq_some_iff.1 h).2
 simp [World.setCell,hl,Array.getElem_modify,h2]
theorem JF {w:World} {g:Nat} {x0 x1 x2 x3 x4 x5:Value} {T:TypeId} (h:w.heap[g]?=some (.cells #[x0,x1,x2,x3,x4,x5] T (0,0))) (b:Hd) :
  (AX w g b).heap[g]?=some (.cells #[.int .i64 b.k,.int .i64 b.m,.int .i64 b.f,.int .i64 b.t,.slice b.np b.nn b.nc,.slice b.kp b.kn b.kc] T (0,0)):=by
 unfold AX;have h1:=kE h 0 (.int .i64 b.k);have h2:=kE h1 1 (.int .i64 b.m);have h3:=kE h2 2 (.int .i64 b.f);have h4:=kE h3 3 (.int .i64 b.t);have h5:=kE h4 4 (.slice b.np b.nn b.nc);have h6:=kE h5 5 (.slice b.kp b.kn b.kc)
 simpa using h6
set_option maxHeartbeats 8000000 in
theorem Ri (y:Br) (b o:Nat) (w:World) (hat:fA w b o y.h) (hb:b < w.heap.size) (hl:y.Lies w) (hf:y.Few) (hn:y.flatB.length≤10000000) :
  Calls prog 60 #[.pointer (some ⟨b,o,none⟩)] w (H6 w y):=by
 have HE:Hid (∀ w0 wS:World,w0=w.alloc (.cells #[.int .i64 0,.int .i64 0,.int .i64 0,.int .i64 0,.slice none 0 0,.slice none 0 0] 26)→wS=w0.alloc (.cells #[.int .i64 y.h.k,.int .i64 y.h.m,.int .i64 y.h.f,.int .i64 y.h.t,.slice y.h.np y.h.nn y.h.nc,.slice y.h.kp y.h.kn y.h.kc] 26) →
   Calls prog 57 #[.pointer (some ⟨w.heap.size+1,0,none⟩),.func (.func 100) #[] #[]] wS fun x w'=>x=.returned (.tuple #[])∧Below (w.heap.size+1) w0 w'∧∃ y':Br,y'.ntr=y.ntr∧∀ w2,Agr (w.heap.size+1) w' w2→fA w2 (w.heap.size+1) 0 y'.h∧y'.Lies w2):=hid fun w0 wS h0 hS=>by
  have hz0:w0.heap.size=w.heap.size+1:=by rw [h0]; simp
  have hb0:Below w.heap.size w w0:=by rw [h0]; exact (Below.refl _ _).alloc (Nat.le_refl _) _
  have hbS:Below w0.heap.size w0 wS:=by rw [hS]; exact (Below.refl _ _).alloc (Nat.le_refl _) _
  have hSz:wS.heap.size=w0.heap.size+1:=by rw [hS]; simp
  have hSb:wS.heap[w.heap.size+1]?=some (.cells #[.int .i64 y.h.k,.int .i64 y.h.m,.int .i64 y.h.f,.int .i64 y.h.t,.slice y.h.np y.h.nn y.h.nc,.slice y.h.kp y.h.kn y.h.kc] 26 (0,0)):=by
   rw [hS,← hz0]; exact heap_alloc_new _ _
  have hl0:=hl.step _ hb0;have hin:∀ w' P,Below wS.heap.size wS w'→(∀ b,P b→wS.heap.size≤b)→OwI w0 ⟨y,w.heap.size+1,0⟩ [⟨y,w.heap.size+1,0⟩] P w'∧∀ e ∈ [(⟨y,w.heap.size+1,0⟩:BA)],e.y.Few:=by
   intro w' P hw hp;have hblk:w'.heap[w.heap.size+1]?=some (.cells #[.int .i64 y.h.k,.int .i64 y.h.m,.int .i64 y.h.f,.int .i64 y.h.t,.slice y.h.np y.h.nn y.h.nc,.slice y.h.kp y.h.kn y.h.kc] 26 (0,0)):=(hw.block _ (by omega)).trans hSb;have hc:=cell_of_heap hblk;refine ⟨⟨[],by simp,⟨hbS.trans (hw.mono (by omega)),fun b hb=>by have:=hp b hb; omega,fun e he=>?_,by simp,fun e he=>?_,fun e he=>by simp at he⟩⟩,fun e he=>by rw [List.mem_singleton.1 he]; exact hf⟩
   ·simp only [List.nil_append,List.mem_singleton] at he
    subst he;exact ⟨by simp only; omega,fun h=>by have:=hp _ h; simp only at this; omega,⟨0,by simp⟩,⟨_,hblk⟩,hl0⟩
   ·rw [List.mem_singleton.1 he]
    exact ⟨(hc 0).trans rfl,(hc 1).trans rfl,(hc 2).trans rfl,(hc 3).trans rfl,(hc 4).trans rfl,(hc 5).trans rfl⟩
  refine (yU BA.ad szB (fun e=>mM e.y)
   (fun st P w1=>OwI w0 ⟨y,w.heap.size+1,0⟩ st P w1∧∀ e ∈ st,e.y.Few)
   (fun e st P w1=>OwJ w0 ⟨y,w.heap.size+1,0⟩ e st P w1∧e.y.Few∧∀ e ∈ st,e.y.Few)
   ?_ 100 #[] X7 ?_ ?_ ⟨y,w.heap.size+1,0⟩ wS hn hin).mono ?_
  ·rintro st P w1 w2 P' ⟨⟨D,h1,h2⟩,h3⟩ hg hp
   refine ⟨⟨D,h1,h2.move (hg.below (Nat.le_refl _) h2.bel h2.pl) (fun b o hb hP=>(hg.blk b (hlt hb) hP).trans hb) hp⟩,h3⟩
  ·rintro e st P w1 ⟨h1,h2⟩ hp
   have hfe:=h2 e (by simp);have hsm:e.y.h.nn≤10000000∧e.y.h.kn≤10000000:=by
    obtain ⟨D,hr,hO⟩:=h1;have hl:=(dE _ _).1 (hO.blk e (by simp)).2.2.2.2;have h3:=hl.1.1;have h4:=hl.2.1.1
    cases hy:e.y with
    | mk h ks =>
     rw [hy] at hfe h3 h4;simp only [Br.Few,Br.h,Br.ks] at hfe h3 h4;simp only [Br.h]
     omega
   refine (Dy w0 _ e st P w1 h1 hp hsm).mono ?_
   rintro x w2 ⟨rfl,h3,h4⟩;exact ⟨rfl,⟨h3,hfe,fun z hz=>h2 z (by simp [hz])⟩,h4⟩
  ·rintro e st P w1 ⟨⟨h,kl,g1,g2,g3,g4,g5,g6⟩,g7,g8⟩
   refine ⟨e.b,e.o,h,kl,rfl,g1,g2,g3,g4,g6,fun z hz=>?_⟩
   rcases List.mem_append.1 hz with hz | hz
   ·have hk:=g5 z hz
    cases hy:e.y with
    | mk hh ks =>
     rw [hy] at g7 hk;simp only [Br.Few,nP,Br.ks] at g7 hk;exact g7.2.2 _ hk
   ·exact g8 z hz
  ·rintro x w' ⟨rfl,P,⟨D,h1,h2⟩,_⟩
   refine ⟨rfl,by rw [← hz0]; exact h2.bel,?_⟩
   obtain ⟨y',g1,g2⟩:=h2.copy y (w.heap.size+1) 0 (by simpa using h1);exact ⟨y',g1,fun w2 hw=>g2 w2 (by rw [hz0]; exact hw)⟩
 obtain ⟨p0,p1,p2,p3,p4,p5⟩:=hat
 have hb0:Below w.heap.size w (w.alloc (.cells #[.int .i64 0,.int .i64 0,.int .i64 0,.int .i64 0,.slice none 0 0,.slice none 0 0] 26)):=(Below.refl _ _).alloc (Nat.le_refl _) _;have HB0:=hid hb0;have hz1:(w.alloc (.cells #[.int .i64 0,.int .i64 0,.int .i64 0,.int .i64 0,.slice none 0 0,.slice none 0 0] 26)).heap.size=w.heap.size+1:=by simp
 have HB1:=hid (show (w.alloc (.cells #[.int .i64 0,.int .i64 0,.int .i64 0,.int .i64 0,.slice none 0 0,.slice none 0 0] 26)).heap[w.heap.size]?=some (.cells #[.int .i64 0,.int .i64 0,.int .i64 0,.int .i64 0,.slice none 0 0,.slice none 0 0] 26 (0,0)) from heap_alloc_new _ _);clear hl hf hn hb0
 go_enter func60,ntmps60
 go_wp2_with fail
 refine (HE.out _ _ rfl rfl).mono ?_
 rintro x w3 ⟨rfl,hb3,y',hy1,hy2⟩;have hs3:w.heap.size+1≤w3.heap.size:=by have:=hb3.size; omega
 have hblk:w3.heap[w.heap.size]?=some (.cells #[.int .i64 0,.int .i64 0,.int .i64 0,.int .i64 0,.slice none 0 0,.slice none 0 0] 26 (0,0)):=(hb3.block w.heap.size (by omega)).trans HB1.out;have hc:=cell_of_heap hblk;have x0:w3.cell? ⟨w.heap.size,0,none⟩=some (.int .i64 0):=(hc 0).trans rfl;have x1:w3.cell? ⟨w.heap.size,1,none⟩=some (.int .i64 0):=(hc 1).trans rfl;have x2:w3.cell? ⟨w.heap.size,2,none⟩=some (.int .i64 0):=(hc 2).trans rfl;have x3:w3.cell? ⟨w.heap.size,3,none⟩=some (.int .i64 0):=(hc 3).trans rfl;have x4:w3.cell? ⟨w.heap.size,4,none⟩=some (.slice none 0 0):=(hc 4).trans rfl;have x5:w3.cell? ⟨w.heap.size,5,none⟩=some (.slice none 0 0):=(hc 5).trans rfl;have fz:∀ j,w3.frozen? ⟨w.heap.size,j,none⟩=false:=fun j=>by simp [World.frozen?,hblk]
 have fz0:=fz 0;have fz1:=fz 1;have fz2:=fz 2;have fz3:=fz 3;have fz4:=fz 4;have fz5:=fz 5;obtain ⟨c0,c1,c2,c3,c4,c5⟩:=(hy2 w3 ⟨Nat.le_refl _,fun k _ _=>rfl⟩).1;simp only [Nat.zero_add] at c0 c1 c2 c3 c4 c5;have zT:Hid (∀ wf,wf=AX w3 w.heap.size y'.h→(∃ hh:w.heap.size < wf.heap.size,True)∧(∀ w2,Agr w.heap.size wf w2→y'.Lies w2)∧Below w.heap.size w wf∧wf.heap[w.heap.size]?=some (.cells #[.int .i64 y'.h.k,.int .i64 y'.h.m,.int .i64 y'.h.f,.int .i64 y'.h.t,.slice y'.h.np y'.h.nn y'.h.nc,.slice y'.h.kp y'.h.kn y'.h.kc] 26 (0,0))):=hid fun wf hwf=>by
  have hsz:wf.heap.size=w3.heap.size:=by rw [hwf]; simp [AX]
  refine ⟨⟨by omega,trivial⟩,fun w2 h2=>(hy2 w2 ⟨by have:=h2.1; omega,fun k hk hk3=>(h2.2 k (by omega) (by omega)).trans (by rw [hwf]; exact Gn (by omega))⟩).2,?_,by rw [hwf]; exact JF hblk _⟩
  rw [hwf];have hb:=HB0.out.trans (hb3.mono (by omega));unfold AX;exact (((((hb.setCell (p:=⟨w.heap.size,0,none⟩) (Nat.le_refl _) _).setCell (p:=⟨w.heap.size,1,none⟩) (Nat.le_refl _) _).setCell (p:=⟨w.heap.size,2,none⟩) (Nat.le_refl _) _).setCell (p:=⟨w.heap.size,3,none⟩) (Nat.le_refl _) _).setCell (p:=⟨w.heap.size,4,none⟩) (Nat.le_refl _) _).setCell (p:=⟨w.heap.size,5,none⟩) (Nat.le_refl _) _
 have HY1:=hid hy1;have HU:Hid (AX w3 w.heap.size y'.h=(((((w3.setCell ⟨w.heap.size,0,none⟩ (.int .i64 y'.h.k)).setCell ⟨w.heap.size,1,none⟩ (.int .i64 y'.h.m)).setCell ⟨w.heap.size,2,none⟩ (.int .i64 y'.h.f)).setCell ⟨w.heap.size,3,none⟩ (.int .i64 y'.h.t)).setCell ⟨w.heap.size,4,none⟩ (.slice y'.h.np y'.h.nn y'.h.nc)).setCell ⟨w.heap.size,5,none⟩ (.slice y'.h.kp y'.h.kn y'.h.kc)):=hid rfl;clear hb3 hy1 hy2 hblk hc fz HE HB0 HB1 p0 p1 p2 p3 p4 p5 hb hz1
 go_wp2_with fail
 rw [← HU.out];clear x0 x1 x2 x3 x4 x5 fz0 fz1 fz2 fz3 fz4 fz5 HU c0 c1 c2 c3 c4 c5;obtain ⟨wf,hwf⟩:∃ wf,wf=AX w3 w.heap.size y'.h:=⟨_,rfl⟩
 obtain ⟨_,g2,g3,g4⟩:=zT.out wf hwf;rw [← hwf];have hc:=cell_of_heap g4;have y0:wf.cell? ⟨w.heap.size,0,none⟩=some (.int .i64 y'.h.k):=(hc 0).trans rfl;have y1:wf.cell? ⟨w.heap.size,1,none⟩=some (.int .i64 y'.h.m):=(hc 1).trans rfl;have y2:wf.cell? ⟨w.heap.size,2,none⟩=some (.int .i64 y'.h.f):=(hc 2).trans rfl;have y3:wf.cell? ⟨w.heap.size,3,none⟩=some (.int .i64 y'.h.t):=(hc 3).trans rfl;have y4:wf.cell? ⟨w.heap.size,4,none⟩=some (.slice y'.h.np y'.h.nn y'.h.nc):=(hc 4).trans rfl;have y5:wf.cell? ⟨w.heap.size,5,none⟩=some (.slice y'.h.kp y'.h.kn y'.h.kc):=(hc 5).trans rfl;clear hc hwf zT;refine bodyPost_ret (by simp [results,results60,go_sem,y0,y1,y2,y3,y4,y5,Result.andThen]; try rfl) rfl ?_
 exact ⟨y',rfl,g2,HY1.out,g3⟩
end Go.Proofs.YtmpmfamiegpmgaaGreatDoor
